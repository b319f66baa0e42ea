package spans

import (
	"slices"
	"strings"

	"scriptorium/api"
)

// maxList is how many spans a list that is handed in may have.
const maxList = 1000

// end is where a span begins, or where it ends.
type end struct {
	at   string
	list int // which list the span is of
	more int // how many more spans of that list have what is behind it
}

// Join is the list in order that has what a list has.
func Join(l []api.Span) ([]api.Span, api.Errno) {
	return reckon(l, nil, func(inA, _ bool) bool { return inA })
}

// Both is the list in order that has what both of two lists have.
func Both(a, b []api.Span) ([]api.Span, api.Errno) {
	return reckon(a, b, func(inA, inB bool) bool { return inA && inB })
}

// Less is the list in order that has what the first list has, and the second one has
// not.
func Less(a, b []api.Span) ([]api.Span, api.Errno) {
	return reckon(a, b, func(inA, inB bool) bool { return inA && !inB })
}

// reckon is the list in order that has what is wanted: a function tells that of a key
// by whether the first list has it, and whether the second one does.
func reckon(a, b []api.Span, wanted func(inA, inB bool) bool) ([]api.Span, api.Errno) {
	if e := checkLists(a, b); e != api.OK {
		return nil, e
	}
	var l []api.Span
	var having [2]int // of each list how many spans have what is behind the ends so far
	from, isOpen := "", false
	for ends := endsOf(a, b); len(ends) > 0; {
		at := ends[0].at
		// All ends of one text are gone through ahead of the question: so where one
		// span begins just where another one ends, what is wanted goes on.
		for len(ends) > 0 && ends[0].at == at {
			having[ends[0].list] += ends[0].more
			ends = ends[1:]
		}
		isWanted := wanted(having[0] > 0, having[1] > 0)
		if isWanted && !isOpen {
			from = at
		}
		if !isWanted && isOpen {
			l = append(l, api.Span{From: strings.Clone(from), To: strings.Clone(at)})
		}
		isOpen = isWanted
	}
	return l, api.OK
}

// checkLists is the first error of two lists.
func checkLists(a, b []api.Span) api.Errno {
	if len(a) > maxList || len(b) > maxList {
		return api.ErrLimit
	}
	for _, l := range [][]api.Span{a, b} {
		for _, s := range l {
			if e := Check(s); e != api.OK {
				return e
			}
		}
	}
	return api.OK
}

// endsOf are the ends of all spans of two lists, in the order of their texts.
func endsOf(a, b []api.Span) []end {
	var ends []end
	for i, l := range [][]api.Span{a, b} {
		for _, s := range l {
			ends = append(ends, end{s.From, i, 1}, end{s.To, i, -1})
		}
	}
	slices.SortFunc(ends, func(x, y end) int { return strings.Compare(x.at, y.at) })
	return ends
}

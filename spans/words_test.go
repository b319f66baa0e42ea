package spans_test

import (
	"fmt"
	"slices"
	"strings"
	"testing"

	"scriptorium/api"
	"scriptorium/spans"
)

func span(from, to string) api.Span { return api.Span{From: from, To: to} }

// list is of spans whose ends are handed in one behind the other.
func list(ends ...string) []api.Span {
	var l []api.Span
	for i := 0; i < len(ends); i += 2 {
		l = append(l, span(ends[i], ends[i+1]))
	}
	return l
}

func fill(n int) string { return strings.Repeat("x", n) }

// behind is the least text that is above another one.
func behind(text string) string { return text + "\x00" }

// below is the greatest text that is below another one, of those that do not go on for longer than any end may; there is none below the text without bytes.
func below(text string) string {
	if text == "" {
		return ""
	}
	last := len(text) - 1
	if text[last] == 0 {
		return text[:last]
	}
	return text[:last] + string([]byte{text[last] - 1}) + strings.Repeat("\xff", 40)
}

// What follows says with plain loops what the chapter's words say.

func fault(s api.Span) api.Errno {
	switch {
	case len(s.From) > 33, len(s.To) > 33:
		return api.ErrLimit
	case s.From < s.To:
		return api.OK
	}
	return api.ErrArg
}

func has(s api.Span, key string) bool {
	return fault(s) == api.OK && !(key < s.From) && key < s.To
}

func in(l []api.Span, key string) bool {
	for _, s := range l {
		if has(s, key) {
			return true
		}
	}
	return false
}

// asked are keys that tell of lists what they have: at, just below and just behind each end, and some far from them.
func asked(lists ...[]api.Span) []string {
	keys := []string{"", "\x00", "a", "m", fill(32), fill(33), fill(100), "\xff", strings.Repeat("\xff", 100)}
	for _, l := range lists {
		for _, s := range l {
			for _, at := range []string{s.From, s.To} {
				keys = append(keys, at, below(at), behind(at))
			}
		}
	}
	slices.Sort(keys)
	return slices.Compact(keys)
}

// meets looks for a key that both have.
func meets(a, b api.Span) bool {
	for _, key := range asked([]api.Span{a, b}) {
		if has(a, key) && has(b, key) {
			return true
		}
	}
	return false
}

// faultOf is the error of lists.
func faultOf(lists ...[]api.Span) api.Errno {
	for _, l := range lists {
		if len(l) > 1000 {
			return api.ErrLimit
		}
	}
	for _, l := range lists {
		for _, s := range l {
			if e := fault(s); e != api.OK {
				return e
			}
		}
	}
	return api.OK
}

// inOrder is the list in order of the keys of which a function tells so, where nothing changes but at the ends of lists that are handed in: all pieces between two ends are asked for, and those that are beside each other put together.
func inOrder(wanted func(key string) bool, lists ...[]api.Span) []api.Span {
	var ends []string
	for _, l := range lists {
		for _, s := range l {
			ends = append(ends, s.From, s.To)
		}
	}
	slices.Sort(ends)
	ends = slices.Compact(ends)
	var l []api.Span
	for i := 0; i+1 < len(ends); i++ {
		if !wanted(ends[i]) {
			continue
		}
		if n := len(l); n > 0 && l[n-1].To == ends[i] {
			l[n-1].To = ends[i+1]
		} else {
			l = append(l, span(ends[i], ends[i+1]))
		}
	}
	return l
}

// reckoning is one of the three calls of two lists (of Join's the second one does not count), and what the words say of it.
type reckoning struct {
	name   string
	isJoin bool
	call   func(a, b []api.Span) ([]api.Span, api.Errno)
	wanted func(inA, inB bool) bool
}

var (
	join = reckoning{"Join", true, func(a, _ []api.Span) ([]api.Span, api.Errno) { return spans.Join(a) }, func(inA, _ bool) bool { return inA }}
	both = reckoning{"Both", false, spans.Both, func(inA, inB bool) bool { return inA && inB }}
	less = reckoning{"Less", false, spans.Less, func(inA, inB bool) bool { return inA && !inB }}
)

var all = []reckoning{join, both, less}

// lists are those that count.
func (c reckoning) lists(a, b []api.Span) [][]api.Span {
	if c.isJoin {
		return [][]api.Span{a}
	}
	return [][]api.Span{a, b}
}

// said is what the words say that the call answers.
func (c reckoning) said(a, b []api.Span) ([]api.Span, api.Errno) {
	if e := faultOf(c.lists(a, b)...); e != api.OK {
		return nil, e
	}
	return inOrder(func(key string) bool { return c.wanted(in(a, key), in(b, key)) }, a, b), api.OK
}

// does calls, and holds the answer against the words; what was handed in is the same behind it.
func (c reckoning) does(t testing.TB, a, b []api.Span) []api.Span {
	t.Helper()
	wasA, wasB := slices.Clone(a), slices.Clone(b)
	got, e := c.call(a, b)
	want, wantE := c.said(a, b)
	if e != wantE || !slices.Equal(got, want) {
		t.Fatalf("%s(%s; %s): %s, %d; want %s, %d", c.name, listed(a), listed(b), listed(got), e, listed(want), wantE)
	}
	if !slices.Equal(a, wasA) || !slices.Equal(b, wasB) {
		t.Fatalf("%s(%s; %s) changed what was handed in", c.name, listed(wasA), listed(wasB))
	}
	return got
}

// hasJust makes sure that a list that was answered is in order, and has just the keys that it should, key by key.
func (c reckoning) hasJust(t testing.TB, got, a, b []api.Span) {
	t.Helper()
	isInOrder(t, got)
	for _, key := range asked(a, b, got) {
		want := c.wanted(in(a, key), in(b, key))
		if in(got, key) != want || spans.In(got, key) != want {
			t.Fatalf("%s(%s; %s): %s has %q: %v; want %v", c.name, listed(a), listed(b), listed(got), key, !want, want)
		}
	}
}

// isInOrder makes sure that each span may be, and that each To is below the next one's From.
func isInOrder(t testing.TB, l []api.Span) {
	t.Helper()
	for i, s := range l {
		if fault(s) != api.OK || i > 0 && l[i-1].To >= s.From {
			t.Fatalf("%s is not in order", listed(l))
		}
	}
}

func answers(t testing.TB, what string, got, want api.Errno) {
	t.Helper()
	if got != want {
		t.Fatalf("%s: error %d; want %d", what, got, want)
	}
}

func tells(t testing.TB, what string, got, want bool) {
	t.Helper()
	if got != want {
		t.Fatalf("%s: %v; want %v", what, got, want)
	}
}

func areSpans(t testing.TB, what string, got, want []api.Span) {
	t.Helper()
	if !slices.Equal(got, want) {
		t.Fatalf("%s: %s; want %s", what, listed(got), listed(want))
	}
}

// listed is a list in words, of a long one the beginning.
func listed(l []api.Span) string {
	var b strings.Builder
	for i, s := range l {
		if i == 12 {
			fmt.Fprintf(&b, " .. %d", len(l))
			break
		}
		fmt.Fprintf(&b, " %.40q %.40q", s.From, s.To)
	}
	return "(" + b.String() + " )"
}

package spans_test

import (
	"fmt"
	"math/rand"
	"slices"
	"strings"
	"testing"

	"scriptorium/api"
	"scriptorium/spans"
)

// P16.2: nil and empty lists on either side, and both.
func TestListsWithoutSpans(t *testing.T) {
	some := list("c", "d", "a", "b")
	sorted := list("a", "b", "c", "d")
	for i, none := range [][]api.Span{nil, {}, make([]api.Span, 0, 5)} {
		for j, other := range [][]api.Span{nil, {}, make([]api.Span, 0, 5)} {
			for _, c := range all {
				areSpans(t, fmt.Sprint(c.name, i, j), c.does(t, none, other), nil)
			}
		}
		areSpans(t, "Both of none and some", both.does(t, none, some), nil)
		areSpans(t, "Both of some and none", both.does(t, some, none), nil)
		areSpans(t, "Less of none and some", less.does(t, none, some), nil)
		areSpans(t, "Less of some and none", less.does(t, some, none), sorted)
	}
	areSpans(t, "Join", join.does(t, some, nil), sorted)
	// What may not be on the other side is told, though one side has nothing.
	for _, c := range mayNotBe {
		for _, call := range []reckoning{both, less} {
			for _, none := range [][]api.Span{nil, {}} {
				refuses(t, call, none, []api.Span{c.s}, c.want)
				refuses(t, call, []api.Span{c.s}, none, c.want)
			}
		}
	}
}

// refuses makes sure that a call answers just that error, and nothing beside it.
func refuses(t *testing.T, c reckoning, a, b []api.Span, want api.Errno) {
	t.Helper()
	if e := faultOf(c.lists(a, b)...); e != want {
		t.Fatalf("%s: the words tell %d; want %d", c.name, e, want)
	}
	l, e := c.call(a, b)
	if e != want || len(l) != 0 {
		t.Fatalf("%s of %d and %d: %s, %d; want none, %d", c.name, len(a), len(b), listed(l), e, want)
	}
	c.does(t, a, b)
}

// times is a list of the same span.
func times(n int, s api.Span) []api.Span { return slices.Repeat([]api.Span{s}, n) }

// P16.2: 1000 spans are taken, 1001 are not, in either list and in both.
func TestHowManySpans(t *testing.T) {
	for _, n := range []int{0, 1, 999, 1000, 1001, 1002, 2000, 70000} {
		for _, o := range []int{0, 1, 999, 1000, 1001, 1002, 2000, 70000} {
			a, b := times(n, span("a", "c")), times(o, span("b", "d"))
			for _, c := range []struct {
				r    reckoning
				want []api.Span
			}{{join, list("a", "c")}, {both, list("b", "c")}, {less, list("a", "b")}} {
				l, e := c.r.call(a, b)
				want, wantE := c.want, api.OK
				if n == 0 || o == 0 && c.r.name == "Both" {
					want = nil
				} else if o == 0 {
					want = list("a", "c")
				}
				if c.r.isJoin && n > 0 {
					want = list("a", "c")
				}
				if n > 1000 || o > 1000 && !c.r.isJoin {
					want, wantE = nil, api.ErrLimit
				}
				answers(t, fmt.Sprint(c.r.name, n, o), e, wantE)
				areSpans(t, fmt.Sprint(c.r.name, n, o), l, want)
			}
		}
	}
}

// with puts a span in a place of a list.
func with(l []api.Span, i int, s api.Span) []api.Span {
	c := slices.Clone(l)
	c[i] = s
	return c
}

// P16.2: too many are told ahead of spans that may not be, in either list.
func TestTooManyComesFirst(t *testing.T) {
	for _, bad := range []api.Span{span("b", "a"), span("a", "a"), {}, span("a", fill(34))} {
		for _, place := range []int{0, 500, 999, 1000} {
			many := with(numbered(1001), place, bad)
			refuses(t, join, many, nil, api.ErrLimit)
			for _, c := range []reckoning{both, less} {
				refuses(t, c, many, nil, api.ErrLimit)
				refuses(t, c, many, many, api.ErrLimit)
				refuses(t, c, nil, many, api.ErrLimit)
				refuses(t, c, []api.Span{bad}, many, api.ErrLimit)
				refuses(t, c, many, []api.Span{bad}, api.ErrLimit)
				refuses(t, c, []api.Span{bad}, numbered(1001), api.ErrLimit)
				refuses(t, c, numbered(1001), []api.Span{bad}, api.ErrLimit)
			}
		}
	}
}

// P16.2: spans that may not be, in either list at the first place, in the middle and at the last.
func TestSpansThatMayNotBeInLists(t *testing.T) {
	good := numbered(9)
	for _, n := range []int{1, 2, 3, 9} {
		l := good[:n]
		for _, c := range mayNotBe {
			for i := range l {
				bad := with(l, i, c.s)
				refuses(t, join, bad, nil, c.want)
				for _, call := range []reckoning{both, less} {
					refuses(t, call, bad, good, c.want)
					refuses(t, call, good, bad, c.want)
					refuses(t, call, bad, bad, c.want)
				}
			}
		}
	}
	for _, place := range []int{0, 1, 499, 500, 998, 999} {
		bad := with(numbered(1000), place, span("b", "a"))
		refuses(t, join, bad, nil, api.ErrArg)
		for _, call := range []reckoning{both, less} {
			refuses(t, call, bad, numbered(1000), api.ErrArg)
			refuses(t, call, numbered(1000), bad, api.ErrArg)
		}
	}
}

// P16.2: of several that may not be the first one's error is told, the first list's ahead of the second one's.
func TestTheFirstErrorIsTold(t *testing.T) {
	no, long := span("b", "a"), span("a", fill(34))
	due := map[string][]api.Span{"none": numbered(5), "no span": with(numbered(5), 4, no), "too long": with(numbered(5), 4, long), "both": with(with(numbered(5), 1, no), 3, long), "both, too long ahead": with(with(numbered(5), 1, long), 3, no)}
	first := map[string]api.Errno{"none": api.OK, "no span": api.ErrArg, "too long": api.ErrLimit, "both": api.ErrArg, "both, too long ahead": api.ErrLimit}
	for a, l := range due {
		if a != "none" {
			refuses(t, join, l, nil, first[a])
		}
		for b, o := range due {
			want := first[a]
			if want == api.OK {
				want = first[b]
			}
			for _, c := range []reckoning{both, less} {
				if want == api.OK {
					c.does(t, l, o)
					continue
				}
				refuses(t, c, l, o, want)
			}
		}
	}
	// Of one span that is both, too long is told.
	each := span(fill(34), "a")
	for _, c := range []reckoning{both, less} {
		refuses(t, c, []api.Span{each, no}, []api.Span{no}, api.ErrLimit)
		refuses(t, c, []api.Span{no, each}, []api.Span{each}, api.ErrArg)
		refuses(t, c, numbered(2), []api.Span{each, no}, api.ErrLimit)
	}
}

// shapes are two lists each, and what Join of the first one, Both and Less answer.
var shapes = []struct {
	name             string
	a, b             []api.Span
	join, both, less []api.Span
}{
	{"apart", list("a", "b"), list("c", "d"), list("a", "b"), nil, list("a", "b")},
	{"touching", list("a", "b"), list("b", "c"), list("a", "b"), nil, list("a", "b")},
	{"touching, the other one ahead", list("b", "c"), list("a", "b"), list("b", "c"), nil, list("b", "c")},
	{"touching within a list", list("a", "b", "b", "c"), list("b", "b\x00"), list("a", "c"), list("b", "b\x00"), list("a", "b", "b\x00", "c")},
	{"one text between", list("a", "b", "b\x00", "c"), list("a", "c"), list("a", "b", "b\x00", "c"), list("a", "b", "b\x00", "c"), nil},
	{"one text over", list("a", "b\x00", "b", "c"), list("b", "b\x00"), list("a", "c"), list("b", "b\x00"), list("a", "b", "b\x00", "c")},
	{"overlapping", list("a", "c", "b", "d"), list("c", "e"), list("a", "d"), list("c", "d"), list("a", "c")},
	{"overlapping, the later one first", list("b", "d", "a", "c"), list("0", "b"), list("a", "d"), list("a", "b"), list("b", "d")},
	{"within one another", list("b", "c", "a", "e", "d", "d\x00"), list("b", "d"), list("a", "e"), list("b", "d"), list("a", "b", "d", "e")},
	{"the other one within", list("a", "e"), list("b", "c", "d", "d\x00"), list("a", "e"), list("b", "c", "d", "d\x00"), list("a", "b", "c", "d", "d\x00", "e")},
	{"twice the same", list("a", "b", "a", "b"), list("a", "b"), list("a", "b"), list("a", "b"), nil},
	{"the other one twice the same", list("a", "c"), list("a", "b", "a", "b"), list("a", "c"), list("a", "b"), list("b", "c")},
	{"the same beginning", list("a", "b", "a", "c"), list("a", "a\x00"), list("a", "c"), list("a", "a\x00"), list("a\x00", "c")},
	{"the same end", list("a", "c", "b", "c"), list("b\xff", "c"), list("a", "c"), list("b\xff", "c"), list("a", "b\xff")},
	{"all in touching parts", list("a", "d"), list("c", "d", "a", "b", "b", "c"), list("a", "d"), list("a", "d"), nil},
	{"all, and more around", list("b", "c", "d", "e"), list("a", "f"), list("b", "c", "d", "e"), list("b", "c", "d", "e"), nil},
	{"more at the end", list("b", "c"), list("b", "d"), list("b", "c"), list("b", "c"), nil},
	{"more at the beginning", list("b", "c"), list("a", "c"), list("b", "c"), list("b", "c"), nil},
	{"holes that touch", list("a", "z"), list("b", "c", "c", "d"), list("a", "z"), list("b", "d"), list("a", "b", "d", "z")},
	{"over a hole", list("a", "c", "d", "f"), list("b", "e"), list("a", "c", "d", "f"), list("b", "c", "d", "e"), list("a", "b", "e", "f")},
	{"just over a hole", list("a", "c", "d", "f"), list("c", "d"), list("a", "c", "d", "f"), nil, list("a", "c", "d", "f")},
	{"comb", list("a", "b", "c", "d", "e", "f"), list("b", "c", "d", "e"), list("a", "b", "c", "d", "e", "f"), nil, list("a", "b", "c", "d", "e", "f")},
	{"no bytes", list("", "\x00", "\x00", "\x00\x00"), list("", "\x00"), list("", "\x00\x00"), list("", "\x00"), list("\x00", "\x00\x00")},
	{"no bytes taken", list("", "a"), list("\x00", "\x00\x00"), list("", "a"), list("\x00", "\x00\x00"), list("", "\x00", "\x00\x00", "a")},
	{"bytes 0 and 255", list("\x00", "\xff", "\xff", "\xff\xff"), list("\x7f", "\x80", "\xff\x00", "\xff\x01"), list("\x00", "\xff\xff"), list("\x7f", "\x80", "\xff\x00", "\xff\x01"), list("\x00", "\x7f", "\x80", "\xff\x00", "\xff\x01", "\xff\xff")},
	{"33 bytes", list(fill(32), fill(33), fill(33), "y"), list(fill(32), fill(32)+"\x00"), list(fill(32), "y"), list(fill(32), fill(32)+"\x00"), list(fill(32)+"\x00", "y")},
	{"33 bytes 255", list("", strings.Repeat("\xff", 33)), list(strings.Repeat("\xff", 32), strings.Repeat("\xff", 33)), list("", strings.Repeat("\xff", 33)), list(strings.Repeat("\xff", 32), strings.Repeat("\xff", 33)), list("", strings.Repeat("\xff", 32))},
	{"33 bytes, the last one 255", list(fill(32), fill(32)+"\xff"), list(fill(33), fill(32)+"\xff"), list(fill(32), fill(32)+"\xff"), list(fill(33), fill(32)+"\xff"), list(fill(32), fill(33))},
}

// P16.2: spans that touch, that overlap, that lie within one another, twice the same; in any order of the list.
func TestShapes(t *testing.T) {
	for _, c := range shapes {
		for a := range orders(c.a) {
			for b := range orders(c.b) {
				for _, call := range all {
					got := call.does(t, a, b)
					call.hasJust(t, got, a, b)
					want := map[string][]api.Span{"Join": c.join, "Both": c.both, "Less": c.less}[call.name]
					areSpans(t, c.name+": "+call.name, got, want)
				}
			}
		}
		// The same spans many times over are the same keys.
		a, b := slices.Repeat(c.a, 100), slices.Repeat(c.b, 200)
		areSpans(t, c.name+": Join", join.does(t, a, b), c.join)
		areSpans(t, c.name+": Both", both.does(t, a, b), c.both)
		areSpans(t, c.name+": Less", less.does(t, a, b), c.less)
	}
}

// orders ranges over a list in all its orders; it is to be short.
func orders(l []api.Span) func(yield func([]api.Span) bool) {
	return func(yield func([]api.Span) bool) {
		// All orders of what stands from a place on, behind what stands ahead of it.
		var from func(i int, l []api.Span) bool
		from = func(i int, l []api.Span) bool {
			if i >= len(l) {
				return yield(slices.Clone(l))
			}
			for j := i; j < len(l); j++ {
				c := slices.Clone(l)
				c[i], c[j] = c[j], c[i]
				if !from(i+1, c) {
					return false
				}
			}
			return true
		}
		from(0, l)
	}
}

// between are the spans between those that are numbered.
func between(n int) []api.Span {
	var l []api.Span
	for i := range n {
		l = append(l, span(number(4*i+3), number(4*i+4)))
	}
	return l
}

// over are spans that go from within a numbered one into the next one, in order.
func over(n int) []api.Span {
	var l []api.Span
	for i := range n {
		l = append(l, span(number(4*i+2), number(4*i+5)))
	}
	return l
}

// middles are one key each, within a numbered one.
func middles(n int) []api.Span {
	var l []api.Span
	for i := range n {
		l = append(l, span(number(4*i+1), behind(number(4*i+1))))
	}
	return l
}

// nested lie each within the one ahead.
func nested(n int) []api.Span {
	var l []api.Span
	for i := range n {
		l = append(l, span(number(i), number(4*n-i)))
	}
	return l
}

// P16.2: lists of 1000 spans of many kinds, as they are and shuffled: no span is answered, one, and as many as there can be.
func TestLongLists(t *testing.T) {
	kinds := [][]api.Span{numbered(1000), between(1000), over(1000), middles(1000), nested(1000), list("", "z"), nil}
	r := rand.New(rand.NewSource(16))
	most := map[string]int{}
	for _, a := range kinds {
		for _, b := range kinds {
			for _, c := range all {
				want, _ := c.said(a, b)
				for range 3 {
					got, e := c.call(a, b)
					answers(t, c.name, e, api.OK)
					areSpans(t, c.name, got, want)
					isInOrder(t, got)
					most[c.name] = max(most[c.name], len(got))
					a, b = shuffled(r, a), shuffled(r, b)
				}
			}
		}
	}
	// Of Both each span has a piece of two of the other ones, but for the last one; of Less each one has a hole.
	if most["Join"] != 1000 || most["Both"] != 1999 || most["Less"] != 2000 {
		t.Errorf("at most %v spans are answered", most)
	}
	areSpans(t, "Join of parts", join.does(t, slices.Concat(numbered(500), between(500)), nil), list(number(0), number(2000)))
	areSpans(t, "Join of nested ones", join.does(t, nested(1000), nil), list(number(0), number(4000)))
	areSpans(t, "Both of a comb", both.does(t, numbered(1000), between(1000)), nil)
	areSpans(t, "Less of all", less.does(t, middles(1000), list("", "z")), nil)
}

func shuffled(r *rand.Rand, l []api.Span) []api.Span {
	l = slices.Clone(l)
	r.Shuffle(len(l), func(i, j int) { l[i], l[j] = l[j], l[i] })
	return l
}

// P16.2: long lists key by key.
func TestLongListsKeyByKey(t *testing.T) {
	n := 150
	for _, a := range [][]api.Span{numbered(n), over(n), nested(n)} {
		for _, b := range [][]api.Span{between(n), over(n), middles(n), nested(n / 2)} {
			for _, c := range all {
				c.hasJust(t, c.does(t, a, b), a, b)
			}
		}
	}
}

// P16.4: lists in order are their own Join, of up to 1000 spans.
func TestListsInOrderAreTheirOwnJoin(t *testing.T) {
	for _, n := range []int{0, 1, 2, 3, 999, 1000} {
		for _, l := range [][]api.Span{numbered(n), between(n), over(n), middles(n)} {
			areSpans(t, fmt.Sprint("Join of ", n), join.does(t, l, nil), l)
		}
	}
	for _, l := range [][]api.Span{mayBe[:1], list("", "\x00", "\x00\x00", "\x01"), list("a", "b", "b\x00", "c"), list("", fill(33)), list(fill(32), fill(32)+"\x00", fill(32)+"\x01", strings.Repeat("\xff", 33))} {
		isInOrder(t, l)
		got, e := spans.Join(l)
		answers(t, "Join", e, api.OK)
		areSpans(t, "Join", got, l)
	}
}

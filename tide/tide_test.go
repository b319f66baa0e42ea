package tide_test

import (
	"slices"
	"testing"

	"scriptorium/api"
	"scriptorium/tide"
)

// maxIs asks for one Max.
func maxIs(t *testing.T, h *tide.Tide, s api.Span, not int, want api.Stamp) {
	t.Helper()
	if got, e := h.Max(s, not); got != want || e != api.OK {
		t.Errorf("Max((%q, %q), %d): %v, %d; want %v", s.From, s.To, not, got, e, want)
	}
}

func lowIs(t *testing.T, h *tide.Tide, want api.Stamp, length int) {
	t.Helper()
	if h.Low() != want || h.Len() != length {
		t.Errorf("the low water is %v, and %d reads are remembered; want %v, %d", h.Low(), h.Len(), want, length)
	}
}

func isOK(t *testing.T, e api.Errno) {
	t.Helper()
	if e != api.OK {
		t.Fatalf("error %d", e)
	}
}

// P17.1 to P17.4: the limits and the errors are the words' own.
func TestLimits(t *testing.T) {
	if api.MaxTide != 64 || api.MaxNumber != most || api.MaxKey != 32 {
		t.Errorf("%d, %d, %d", api.MaxTide, api.MaxNumber, api.MaxKey)
	}
	if !slices.Equal([]api.Errno{api.OK, api.ErrNil, api.ErrArg, api.ErrLimit}, []api.Errno{0, 1, 2, 5}) {
		t.Error("other errors")
	}
}

// P17.1 to P17.4: the chapter's examples.
func TestExamples(t *testing.T) {
	h, e := tide.New(wall(5))
	isOK(t, e)
	maxIs(t, h, span("a", "z"), 0, wall(5))

	isOK(t, h.Add(span("a", "c"), wall(9), 7))
	maxIs(t, h, span("b", "d"), 0, wall(9))
	maxIs(t, h, span("c", "d"), 0, wall(5))
	maxIs(t, h, span("b", "d"), 7, wall(5))
	maxIs(t, h, span("b", "d"), 8, wall(9))

	isOK(t, h.Add(span("a", "c"), wall(8), 7))
	isOK(t, h.Add(span("a", "c"), wall(4), 8))
	if h.Len() != 1 {
		t.Errorf("%d reads are remembered", h.Len())
	}

	isOK(t, h.Raise(wall(9)))
	maxIs(t, h, span("b", "d"), 7, wall(9))
	if h.Len() != 0 {
		t.Errorf("%d reads are remembered", h.Len())
	}

	for i := 1; i <= 65; i++ {
		isOK(t, h.Add(apart(i), stampOf(10, i), i%3))
	}
	lowIs(t, h, stampOf(10, 1), 64)
}

// P17.1: New at both ends of what a low water may be, and at some between.
func TestNew(t *testing.T) {
	for _, low := range []api.Stamp{least, stampOf(0, 1), wall(1), wall(5), stampOf(5, 9), stampOf(0, 1<<20-1), wall(1 << 40), justBelow(greatest), greatest} {
		h, e := tide.New(low)
		isOK(t, e)
		lowIs(t, h, low, 0)
		for _, c := range shapes {
			if c.want != api.OK {
				continue
			}
			for _, not := range owners {
				maxIs(t, h, c.s, not, low)
			}
		}
	}
}

// P17.1: New of a low water that may not be; there is no tide then.
func TestNewRefuses(t *testing.T) {
	for _, low := range mayNotBe {
		if h, e := tide.New(low); h != nil || e != api.ErrArg {
			t.Errorf("New(%v): %v, %d", low, h, e)
		}
	}
}

// P17.1: of none each call answers ErrNil, 0, or zero, whatever it is handed, and one that New did not make does not become one.
func TestNone(t *testing.T) {
	for _, h := range []*tide.Tide{nil, {}} {
		for range 2 {
			lowIs(t, h, api.Stamp{}, 0)
			for _, at := range slices.Concat([]api.Stamp{least, wall(9), greatest}, mayNotBe) {
				if e := h.Raise(at); e != api.ErrNil {
					t.Errorf("Raise(%v): %d", at, e)
				}
				for _, c := range shapes {
					for _, owner := range slices.Concat(owners, noOwners) {
						if e := h.Add(c.s, at, owner); e != api.ErrNil {
							t.Errorf("Add(%v, %v, %d): %d", c.s, at, owner, e)
						}
					}
				}
			}
			for _, c := range shapes {
				for _, owner := range slices.Concat(owners, noOwners) {
					if s, e := h.Max(c.s, owner); s != (api.Stamp{}) || e != api.ErrNil {
						t.Errorf("Max(%v, %d): %v, %d", c.s, owner, s, e)
					}
				}
			}
		}
	}
}

// P17.1: a tide whose low water is the least stamp is one, though it may look like none.
func TestLeastLowWater(t *testing.T) {
	b := begin(t, least).does(t, raises(least), adds(span("a", "c"), least, 1), adds(span("a", "c"), stampOf(0, 1), 0), adds(span("b", "d"), stampOf(0, 2), 1))
	lowIs(t, b.h, least, 2)
	b.isWithin(t)
}

// some is a tide in which several reads are remembered.
func some(t testing.TB) *both {
	t.Helper()
	return begin(t, wall(5)).does(t, adds(span("a", "c"), wall(9), 7), adds(span("b", "d"), wall(7), 0), adds(span("a", "c"), wall(8), 8), adds(span("", "b"), stampOf(6, 3), most), adds(span("x", fill(33)), wall(10), 1))
}

// full is a tide in which as many reads are remembered as may be.
func full(t testing.TB) *both {
	t.Helper()
	b := begin(t, wall(5))
	for i := range 64 {
		b.does(t, adds(apart(i), wall(10+i), i))
	}
	return b
}

// P17.2, P17.3, P17.5: the error of the span comes first; an error changes nothing, and nothing is answered beside it.
func TestSpansOfAddAndMax(t *testing.T) {
	for _, made := range []func(testing.TB) *both{some, full} {
		b := made(t)
		for _, c := range shapes {
			for _, at := range slices.Concat([]api.Stamp{wall(4), wall(5), wall(6), greatest}, mayNotBe) {
				for _, owner := range slices.Concat(owners, noOwners) {
					want := c.want
					if want == api.OK && (!mayBe(at) || !owns(owner)) {
						want = api.ErrArg
					}
					if want == api.OK {
						continue
					}
					if e := b.h.Add(c.s, at, owner); e != want {
						t.Errorf("Add((%q, %q), %v, %d): %d; want %d", c.s.From, c.s.To, at, owner, e, want)
					}
				}
			}
			for _, not := range slices.Concat(owners, noOwners) {
				want := c.want
				if want == api.OK && !owns(not) {
					want = api.ErrArg
				}
				got, e := b.h.Max(c.s, not)
				if e != want || e != api.OK && got != (api.Stamp{}) {
					t.Errorf("Max((%q, %q), %d): %v, %d; want %d", c.s.From, c.s.To, not, got, e, want)
				}
			}
		}
		b.is(t)
	}
}

// P17.2, P17.3: each span that may be is remembered, by whom owns it, up to the greatest stamp, and told.
func TestEachSpanAndOwner(t *testing.T) {
	for _, c := range shapes {
		if c.want != api.OK {
			continue
		}
		for _, owner := range owners {
			for _, at := range []api.Stamp{stampOf(0, 1), wall(1), stampOf(7, 1<<20-1), justBelow(greatest), greatest} {
				b := begin(t, least).does(t, adds(c.s, at, owner))
				lowIs(t, b.h, least, 1)
				for _, not := range owners {
					want := at
					if owner == not && not != 0 {
						want = least
					}
					maxIs(t, b.h, c.s, not, want)
				}
			}
		}
	}
}

// P17.2: a read below the low water, and one at it, is nothing; one just above it is remembered.
func TestAddAboutTheLowWater(t *testing.T) {
	s := span("a", "c")
	for _, low := range []api.Stamp{stampOf(0, 1), wall(1), stampOf(5, 9), stampOf(5, 1<<20-1), wall(1 << 40), justBelow(greatest)} {
		for _, owner := range owners {
			b := begin(t, low)
			for _, at := range []api.Stamp{least, wall(low.Wall - min(1, low.Wall)), justBelow(low), low} {
				b.does(t, adds(s, at, owner)).is(t)
				lowIs(t, b.h, low, 0)
			}
			b.does(t, adds(s, justAbove(low), owner)).is(t)
			lowIs(t, b.h, low, 1)
			maxIs(t, b.h, s, 99, justAbove(low))
		}
	}
	b := begin(t, greatest).does(t, adds(s, greatest, 0), adds(s, justBelow(greatest), 1)).is(t)
	lowIs(t, b.h, greatest, 0)
}

// P17.2: of the same span and owner there is one read, at the greatest stamp of all.
func TestTheSameRead(t *testing.T) {
	s := span("a", "c")
	for _, owner := range owners {
		for _, c := range []struct{ at, want int }{{4, 20}, {5, 20}, {6, 20}, {19, 20}, {20, 20}, {21, 21}, {1000, 1000}} {
			b := begin(t, wall(5)).does(t, adds(span("b", "c"), wall(6), owner), adds(s, wall(20), owner), adds(s, wall(7), 98), adds(s, wall(c.at), owner)).isWithin(t)
			lowIs(t, b.h, wall(5), 3)
			maxIs(t, b.h, s, 98, wall(c.want))
			b.does(t, raises(wall(c.want-1)))
			lowIs(t, b.h, wall(c.want-1), 1)
			b.does(t, raises(wall(c.want)))
			lowIs(t, b.h, wall(c.want), 0)
		}
	}
}

// P17.2: the least difference counts, of the Wall and of the Logic.
func TestTheSameReadByLittle(t *testing.T) {
	s := span("a", "c")
	l := []api.Stamp{stampOf(9, 0), stampOf(9, 1), stampOf(9, 1<<20-1), stampOf(10, 0), stampOf(10, 5)}
	for i, first := range l {
		for j, second := range l {
			b := begin(t, wall(5)).does(t, adds(s, first, 7), adds(s, second, 7)).isWithin(t)
			lowIs(t, b.h, wall(5), 1)
			maxIs(t, b.h, s, 0, l[max(i, j)])
		}
	}
}

// P17.2: reads of another owner, or of another span, also one that overlaps, has the same beginning, or the same end, stand each for themselves.
func TestAnotherRead(t *testing.T) {
	s := span("b", "d")
	for _, o := range []api.Span{s, span("b", "c"), span("c", "d"), span("a", "d"), span("b", "e"), span("a", "e"), span("b\x00", "d"), span("b", "d\x00"), span("x", "z"), span("d", "e"), span("a", "b")} {
		for _, owner := range []int{0, 1, 7, most} {
			for _, l := range [][]step{
				{adds(s, wall(9), 7), adds(o, wall(8), owner)},
				{adds(s, wall(8), 7), adds(o, wall(9), owner)},
				{adds(s, wall(9), 7), adds(o, wall(9), owner)},
			} {
				b := begin(t, wall(5)).does(t, l...)
				want := 2
				if o == s && owner == 7 {
					want = 1
				}
				lowIs(t, b.h, wall(5), want)
				b.isWithin(t).does(t, raises(wall(8))).isWithin(t)
			}
		}
	}
}

// P17.3: which spans meet a read's.
func TestMaxOfSpans(t *testing.T) {
	b := begin(t, wall(5)).does(t, adds(span("d", "h"), wall(9), 7))
	for _, c := range []struct {
		s    api.Span
		want int
	}{
		{span("d", "h"), 9},                      // its own
		{span("a", "e"), 9}, {span("g", "k"), 9}, // over an end
		{span("a", "d\x00"), 9}, {span("g\xff", "k"), 9}, // just so
		{span("e", "f"), 9}, {span("d", "e"), 9}, {span("g", "h"), 9}, // within
		{span("d", "d\x00"), 9}, {span("e", "e\x00"), 9}, // one key
		{span("a", "k"), 9}, {span("d", "k"), 9}, {span("a", "h"), 9}, {span("", fill(33)), 9}, // it is within
		{span("a", "d"), 5}, {span("h", "k"), 5}, {span("h", "h\x00"), 5}, {span("c\xff", "d"), 5}, // they touch
		{span("a", "c"), 5}, {span("i", "k"), 5}, {span("", "a"), 5}, {span("h\x00", "i"), 5}, // they lie apart
	} {
		for _, not := range []int{0, 1, 8, most} {
			maxIs(t, b.h, c.s, not, wall(c.want))
		}
		maxIs(t, b.h, c.s, 7, wall(5))
	}
}

// P17.3: of several reads that meet the span the greatest counts, wherever it came, and not the others.
func TestMaxOfSeveral(t *testing.T) {
	walls := []int{6, 7, 8, 9}
	for _, order := range orders(len(walls)) {
		b := begin(t, wall(5))
		for _, i := range order {
			b.does(t, adds(span("a", string([]byte{'b' + byte(i)})), wall(walls[i]), 1+i))
		}
		for i, n := range walls {
			maxIs(t, b.h, span(string([]byte{'a' + byte(i)}), "z"), 0, wall(9))
			next := 9
			if n == 9 {
				next = 8
			}
			maxIs(t, b.h, span("a", "b"), 1+i, wall(next))
		}
		b.isWithin(t)
	}
}

// orders are all orders of the numbers below n.
func orders(n int) [][]int {
	if n == 0 {
		return [][]int{nil}
	}
	var l [][]int
	for _, o := range orders(n - 1) {
		for i := range n {
			l = append(l, slices.Insert(slices.Clone(o), i, n-1))
		}
	}
	return l
}

// P17.3: the reads of one owner are left out, if that is not nobody: then the next one's count.
func TestMaxButFor(t *testing.T) {
	s := span("a", "c")
	b := begin(t, wall(5)).does(t, adds(s, wall(9), 7), adds(span("b", "d"), wall(8), 8), adds(span("a", "b"), wall(12), 7))
	for _, c := range []struct{ not, want int }{{0, 12}, {7, 8}, {8, 12}, {9, 12}, {most, 12}} {
		maxIs(t, b.h, s, c.not, wall(c.want))
	}
	b.does(t, adds(s, wall(10), 0))
	for _, c := range []struct{ not, want int }{{0, 12}, {7, 10}, {8, 12}, {9, 12}} {
		maxIs(t, b.h, s, c.not, wall(c.want))
	}
	b.does(t, adds(s, wall(20), 0))
	for _, not := range owners {
		maxIs(t, b.h, s, not, wall(20))
		maxIs(t, b.h, span("c", "d"), not, wall(8))
	}
	b.does(t, raises(wall(30)))
	for _, not := range owners {
		maxIs(t, b.h, s, not, wall(30))
	}
	b.isWithin(t)
}

// P17.4: Raise below the low water, at it, at, just below and just above each read's stamp, and above all.
func TestRaise(t *testing.T) {
	l := []step{adds(span("a", "c"), stampOf(9, 0), 7), adds(span("b", "d"), stampOf(9, 1), 8), adds(span("a", "c"), stampOf(9, 1), 0), adds(span("x", "z"), stampOf(7, 1<<20-1), 7), adds(span("c", "y"), stampOf(12, 3), 1)}
	for _, c := range []struct {
		to, low api.Stamp
		length  int
	}{
		{least, wall(5), 5}, {wall(4), wall(5), 5}, {justBelow(wall(5)), wall(5), 5}, {wall(5), wall(5), 5}, {stampOf(5, 1), stampOf(5, 1), 5},
		{stampOf(7, 1<<20-2), stampOf(7, 1<<20-2), 5}, {stampOf(7, 1<<20-1), stampOf(7, 1<<20-1), 4}, {wall(8), wall(8), 4},
		{stampOf(8, 1<<20-1), stampOf(8, 1<<20-1), 4}, {wall(9), wall(9), 3}, {stampOf(9, 1), stampOf(9, 1), 1}, {stampOf(9, 2), stampOf(9, 2), 1},
		{stampOf(12, 2), stampOf(12, 2), 1}, {stampOf(12, 3), stampOf(12, 3), 0}, {stampOf(12, 4), stampOf(12, 4), 0}, {greatest, greatest, 0},
	} {
		b := begin(t, wall(5)).does(t, l...).does(t, raises(c.to))
		lowIs(t, b.h, c.low, c.length)
		b.isWithin(t)
		for _, back := range []api.Stamp{least, wall(5), c.low, justBelow(c.low)} {
			b.does(t, raises(back))
			lowIs(t, b.h, c.low, c.length)
		}
		for _, not := range owners {
			maxIs(t, b.h, span("A", "B"), not, c.low)
		}
	}
}

// P17.4, P17.5: Raise to a stamp that may not be changes nothing.
func TestRaiseRefuses(t *testing.T) {
	for _, made := range []func(testing.TB) *both{some, full} {
		b := made(t)
		for _, low := range mayNotBe {
			if e := b.h.Raise(low); e != api.ErrArg {
				t.Errorf("Raise(%v): %d", low, e)
			}
			b.stands(t)
		}
		b.is(t)
	}
}

// P17.5: behind each call that is refused all is told as it was, also what the calls behind it tell.
func TestAnErrorChangesNothing(t *testing.T) {
	refused := []step{raises(wall(-1)), raises(stampOf(9, 1<<20))}
	for _, c := range shapes {
		for _, at := range []api.Stamp{wall(6), wall(1000), stampOf(1000, -1), wall(1<<40 + 1)} {
			for _, owner := range []int{0, 7, -1, most + 1} {
				if c.want != api.OK || !mayBe(at) || !owns(owner) {
					refused = append(refused, adds(c.s, at, owner))
				}
			}
		}
	}
	for _, x := range refused {
		b := some(t)
		if e := x.done(b.h); e == api.OK {
			t.Fatalf("%v is not refused", x)
		}
		b.is(t).does(t, adds(span("a", "c"), wall(6), 7), raises(wall(7)), adds(span("a", "d"), wall(11), 7)).is(t)
	}
}

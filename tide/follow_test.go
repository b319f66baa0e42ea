package tide_test

import (
	"fmt"
	"math/rand"
	"testing"

	"scriptorium/api"
	"scriptorium/tide"
)

// P17.2 to P17.4: each way of three calls of few, held against the words, and what is within.
func TestEveryShortWay(t *testing.T) {
	var kinds []step
	for _, at := range []int{5, 6, 7} {
		kinds = append(kinds, raises(wall(at)))
		for _, s := range []api.Span{span("a", "c"), span("b", "d")} {
			for _, owner := range []int{0, 1, 2} {
				kinds = append(kinds, adds(s, wall(at), owner))
			}
		}
	}
	for _, x := range kinds {
		for _, y := range kinds {
			for _, z := range kinds {
				b := begin(t, wall(5)).does(t, x, y, z).is(t)
				b.again(t).does(t, raises(wall(6))).is(t)
			}
		}
	}
}

// drawer draws of few spans, owners and stamps, so that many come again.
type drawer struct {
	r      *rand.Rand
	ends   int // how many texts a span may begin and end with
	owners int
	walls  int // about how far stamps lie from one another
	least  int // below which stamps hardly lie; it may rise
	raise  int // of a hundred calls so many
}

func (d *drawer) span() api.Span {
	from := d.r.Intn(d.ends)
	to := from + 1 + d.r.Intn(d.ends-from)
	if d.r.Intn(2) == 0 {
		to = from + 1
	}
	return span(fmt.Sprintf("%03d", from), fmt.Sprintf("%03d", to))
}

func (d *drawer) stamp() api.Stamp {
	return stampOf(d.least+d.r.Intn(d.walls), d.r.Intn(3))
}

func (d *drawer) step() step {
	if d.r.Intn(100) < d.raise {
		return raises(stampOf(d.least+d.r.Intn(1+d.walls/3), d.r.Intn(3)))
	}
	return adds(d.span(), d.stamp(), d.r.Intn(d.owners))
}

// mayNot is a call that is refused.
func (d *drawer) mayNot() step {
	switch x := d.step(); d.r.Intn(4) {
	case 0:
		return adds(span(x.s.To, x.s.From), x.at, x.owner)
	case 1:
		return adds(x.s, mayNotBe[d.r.Intn(len(mayNotBe))], x.owner)
	case 2:
		return adds(x.s, x.at, noOwners[d.r.Intn(len(noOwners))])
	}
	return raises(mayNotBe[d.r.Intn(len(mayNotBe))])
}

// asked are all spans that may be drawn of one piece, and some others.
func (d *drawer) asked() []api.Span {
	l := []api.Span{span("", "z"), span("000", "000\x00"), span("z", "zz")}
	for i := range d.ends {
		l = append(l, span(fmt.Sprintf("%03d", i), fmt.Sprintf("%03d", i+1)))
	}
	for range 10 {
		l = append(l, d.span())
	}
	return l
}

func (d *drawer) all() []int {
	l := []int{most}
	for i := range d.owners {
		l = append(l, i)
	}
	return l
}

func drawers() []*drawer {
	var l []*drawer
	for i, c := range []drawer{
		{ends: 4, owners: 3, walls: 20, raise: 10},
		{ends: 12, owners: 4, walls: 5},
		{ends: 12, owners: 4, walls: 1000},
		{ends: 40, owners: 3, walls: 200, raise: 2},
		{ends: 40, owners: 2, walls: 30, raise: 1},
		{ends: 20, owners: 8, walls: 100, raise: 1},
	} {
		c.r, c.least = rand.New(rand.NewSource(int64(1700+i))), 10
		l = append(l, &c)
	}
	return l
}

// P17.2 to P17.5: drawn calls, some of them refused, each held against the words.
func TestDrawnCalls(t *testing.T) {
	for _, d := range drawers() {
		for range 2 {
			d.least = 10
			b := begin(t, wall(d.r.Intn(20)))
			for range 400 {
				x := d.step()
				if d.r.Intn(8) == 0 {
					x = d.mayNot()
				}
				b.does(t, x)
				d.least += d.r.Intn(2) * d.r.Intn(2)
				b.tells(t, d.asked(), d.all())
			}
		}
	}
}

// floors are what each Max must come up to from a time on: of each span that is asked for, but for each owner.
type floors struct {
	spans  []api.Span
	owners []int
	places [][]int
	low    int
	top    int
}

func floorsOf(d *drawer, first api.Stamp) *floors {
	f := &floors{spans: d.asked(), owners: d.all(), low: place(first), top: place(first)}
	for range f.spans {
		row := make([]int, len(f.owners))
		for i := range row {
			row[i] = place(first)
		}
		f.places = append(f.places, row)
	}
	return f
}

// rise takes a step.
func (f *floors) rise(x step) {
	f.top = max(f.top, place(x.at))
	for i, s := range f.spans {
		for j, not := range f.owners {
			if x.raises || meets(s, x.s) && (not != x.owner || x.owner == 0) || meets(s, x.s) && not == 0 {
				f.places[i][j] = max(f.places[i][j], place(x.at))
			}
		}
	}
}

// holds asks whether a tide comes up to all, no further than the greatest of all stamps, and never fell; or just up to them.
func (f *floors) holds(t *testing.T, h *tide.Tide, just bool) {
	t.Helper()
	low := place(h.Low())
	if low < f.low || low > f.top {
		t.Fatalf("the low water is %v; it was %v, the greatest stamp is %v", h.Low(), atPlace(f.low), atPlace(f.top))
	}
	f.low = low
	for i, s := range f.spans {
		for j, not := range f.owners {
			got, e := h.Max(s, not)
			n, floor := place(got), f.places[i][j]
			if e != api.OK || n < floor || n < low || n > f.top || just && n != floor {
				t.Fatalf("Max((%q, %q), %d): %v, %d; it must come to %v, and not past %v", s.From, s.To, not, got, e, atPlace(floor), atPlace(f.top))
			}
			f.places[i][j] = n
		}
	}
}

// P17.6, P17.7: over drawn calls each Max that a read makes greater stays so, neither a Max nor the low water falls, and no Max is above all stamps that were handed in.
func TestWhatFollows(t *testing.T) {
	for _, d := range drawers() {
		for range 3 {
			d.least = 10
			first := wall(d.r.Intn(20))
			b := begin(t, first)
			f := floorsOf(d, first)
			for range 400 {
				x := d.step()
				if d.r.Intn(8) == 0 {
					// What is refused makes nothing greater.
					d.mayNot().done(b.h)
				} else {
					isOK(t, x.done(b.h))
					f.rise(x)
				}
				d.least += d.r.Intn(2) * d.r.Intn(2)
				f.holds(t, b.h, false)
			}
		}
	}
}

// P17.3: as long as at most 64 reads were added, and nothing was raised, each Max is just the greatest stamp of those that meet, or the low water.
func TestMaxIsJustThat(t *testing.T) {
	for _, d := range drawers() {
		for range 10 {
			d.raise = 0
			first := wall(d.r.Intn(20))
			b := begin(t, first)
			f := floorsOf(d, first)
			for range 64 {
				x := d.step()
				b.does(t, x)
				f.rise(x)
				if b.h.Low() != first {
					t.Fatalf("the low water became %v", b.h.Low())
				}
				f.holds(t, b.h, true)
			}
		}
	}
}

// P17.6: whatever comes behind a read, by whom ever, its span stays where it came to.
func TestAReadStays(t *testing.T) {
	s, at := span("h", "m"), wall(50)
	for _, owner := range []int{0, 7} {
		for _, then := range [][]step{
			nil,
			{raises(wall(20))}, {raises(wall(50))}, {raises(wall(60))}, {raises(justBelow(at))},
			{adds(s, wall(20), owner)}, {adds(s, wall(20), 8)}, {adds(span("a", "z"), wall(20), owner)}, {adds(span("i", "j"), wall(20), owner)},
		} {
			for _, n := range []int{0, 63, 64, 65, 200} {
				for _, first := range []int{10, 50, 100} {
					b := begin(t, wall(5)).does(t, adds(s, at, owner)).does(t, then...)
					for i := range n {
						b.does(t, adds(apart(i), wall(first+i%90), i%9))
					}
					for _, o := range []api.Span{s, span("a", "z"), span("i", "j"), span("a", "h\x00"), span("l", "z")} {
						for _, not := range []int{0, 8, 9} {
							if got, e := b.h.Max(o, not); e != api.OK || place(got) < place(at) {
								t.Fatalf("behind %v: Max((%q, %q), %d): %v, %d", b.steps, o.From, o.To, not, got, e)
							}
						}
					}
				}
			}
		}
	}
}

package clock

import (
	"math"
	"slices"
	"testing"

	"scriptorium/api"
)

const (
	topWall  = 1 << 40
	topLogic = 1<<20 - 1
)

func at(wall, logic int) api.Stamp {
	return api.Stamp{Wall: wall, Logic: logic}
}

var (
	wallsWithin = []int{0, 1, 2, 3, 10, 100, 1 << 20, 1<<32 - 1, 1 << 32, topWall - 2, topWall - 1, topWall}
	wallsBeyond = []int{math.MinInt, math.MinInt + 1, -topWall, -2, -1, topWall + 1, topWall + 2, 1 << 41, math.MaxInt - 1, math.MaxInt}
	mayNot      = []api.Stamp{
		at(-1, 0), at(math.MinInt, 0), at(topWall+1, 0), at(math.MaxInt, 0),
		at(0, -1), at(0, math.MinInt), at(0, topLogic+1), at(0, math.MaxInt),
		at(topWall, topLogic+1), at(topWall, -1), at(-1, -1), at(topWall+1, topLogic+1),
	}
)

// shown is all that a clock shows.
type shown struct {
	reading int
	last    api.Stamp
	bound   int
	ready   bool
}

func show(c *Clock) shown {
	return shown{c.Reading(), c.Last(), c.Bound(), c.Ready()}
}

func shows(t *testing.T, c *Clock, want shown) {
	t.Helper()
	if got := show(c); got != want {
		t.Errorf("the clock shows %v; want %v", got, want)
	}
}

func newClock(t *testing.T, offset, bound int) *Clock {
	t.Helper()
	c, e := New(offset, bound)
	if c == nil || e != api.OK {
		t.Fatalf("New(%d, %d): %d", offset, bound, e)
	}
	return c
}

// running is a clock that began with the bound 0, and has come to a reading, a bound, and a last stamp that is not too far ahead of the reading.
func running(t *testing.T, offset, reading, bound int, last api.Stamp) *Clock {
	t.Helper()
	c := newClock(t, offset, 0)
	raise(t, c, bound)
	set(t, c, reading)
	see(t, c, last)
	shows(t, c, shown{reading, last, bound, true})
	return c
}

func set(t *testing.T, c *Clock, reading int) {
	t.Helper()
	if e := c.Set(reading); e != api.OK {
		t.Fatalf("Set(%d): %d", reading, e)
	}
}

func raise(t *testing.T, c *Clock, bound int) {
	t.Helper()
	if e := c.Raise(bound); e != api.OK {
		t.Fatalf("Raise(%d): %d", bound, e)
	}
}

func see(t *testing.T, c *Clock, s api.Stamp) {
	t.Helper()
	if e := c.See(s); e != api.OK {
		t.Fatalf("See(%v): %d", s, e)
	}
}

func now(t *testing.T, c *Clock) api.Stamp {
	t.Helper()
	s, e := c.Now()
	if e != api.OK {
		t.Fatalf("Now: %d", e)
	}
	if c.Last() != s {
		t.Errorf("behind Now, which was %v, Last is %v", s, c.Last())
	}
	return s
}

func nowIs(t *testing.T, c *Clock, want api.Stamp) {
	t.Helper()
	if s := now(t, c); s != want {
		t.Errorf("Now: %v; want %v", s, want)
	}
}

// refuses asks for a call that must answer an error, and asks whether it changed anything.
func refuses(t *testing.T, c *Clock, want api.Errno, call func() api.Errno) {
	t.Helper()
	before := show(c)
	if e := call(); e != want {
		t.Errorf("error %d; want %d", e, want)
	}
	shows(t, c, before)
}

func nowRefuses(t *testing.T, c *Clock, want api.Errno) {
	t.Helper()
	refuses(t, c, want, func() api.Errno {
		s, e := c.Now()
		if s != (api.Stamp{}) {
			t.Errorf("beside the error %d Now tells %v", e, s)
		}
		return e
	})
}

func seeRefuses(t *testing.T, c *Clock, s api.Stamp, want api.Errno) {
	t.Helper()
	refuses(t, c, want, func() api.Errno { return c.See(s) })
}

// P6.1 to P6.5: the limits and the errors are the words' own.
func TestLimits(t *testing.T) {
	if api.MaxWall != topWall || api.MaxLogic != topLogic {
		t.Errorf("%d, %d", api.MaxWall, api.MaxLogic)
	}
	l := []api.Errno{api.OK, api.ErrNil, api.ErrLimit, api.ErrRange, api.ErrAhead, api.ErrBound}
	if !slices.Equal(l, []api.Errno{0, 1, 5, 9, 60, 61}) {
		t.Errorf("%d", l)
	}
}

// P6.1 to P6.4: the chapter's examples.
func TestExamples(t *testing.T) {
	shows(t, newClock(t, 10, 100), shown{0, at(99, 1048575), 100, false})

	c := newClock(t, 10, 0)
	raise(t, c, 50)
	set(t, c, 7)
	nowIs(t, c, at(7, 0))
	nowIs(t, c, at(7, 1))

	see(t, c, at(17, 3))
	nowIs(t, c, at(17, 4))
	seeRefuses(t, c, at(18, 0), api.ErrAhead)

	set(t, c, 50)
	nowRefuses(t, c, api.ErrBound)
	raise(t, c, 60)
	nowIs(t, c, at(50, 0))
}

// P6.1: New at both ends of both numbers; the first stamp is the greatest one below the bound, or the least of all.
func TestNew(t *testing.T) {
	for _, offset := range wallsWithin {
		for _, bound := range wallsWithin {
			c := newClock(t, offset, bound)
			first := at(0, 0)
			if bound > 0 {
				first = at(bound-1, topLogic)
			}
			shows(t, c, shown{0, first, bound, bound == 0})
		}
	}
}

// P6.1: New just beyond both ends of both numbers, and far beyond; there is no clock then.
func TestNewRefuses(t *testing.T) {
	for _, beyond := range wallsBeyond {
		for _, other := range slices.Concat(wallsWithin, wallsBeyond) {
			if c, e := New(beyond, other); c != nil || e != api.ErrRange {
				t.Errorf("New(%d, %d): %v, %d", beyond, other, c, e)
			}
			if c, e := New(other, beyond); c != nil || e != api.ErrRange {
				t.Errorf("New(%d, %d): %v, %d", other, beyond, c, e)
			}
		}
	}
}

// P6.1: the first stamps that the words tell.
func TestFirstStamp(t *testing.T) {
	for _, c := range []struct {
		bound int
		first api.Stamp
	}{
		{0, at(0, 0)},
		{1, at(0, 1048575)},
		{2, at(1, 1048575)},
		{100, at(99, 1048575)},
		{topWall, at(topWall-1, 1048575)},
	} {
		clock := newClock(t, 10, c.bound)
		if clock.Last() != c.first {
			t.Errorf("of the bound %d: %v; want %v", c.bound, clock.Last(), c.first)
		}
	}
}

// P6.1: of a clock that is none: ErrNil ahead of all other errors, zero, false; and it stays none.
func TestOfNone(t *testing.T) {
	var zero Clock
	for i, c := range []*Clock{nil, {}, new(Clock), &zero} {
		for range 2 {
			for _, n := range slices.Concat(wallsWithin, wallsBeyond) {
				if e := c.Set(n); e != api.ErrNil {
					t.Errorf("%d: Set(%d): %d", i, n, e)
				}
				if e := c.Raise(n); e != api.ErrNil {
					t.Errorf("%d: Raise(%d): %d", i, n, e)
				}
				if e := c.See(at(n, 0)); e != api.ErrNil {
					t.Errorf("%d: See of the wall %d: %d", i, n, e)
				}
			}
			for _, s := range mayNot {
				if e := c.See(s); e != api.ErrNil {
					t.Errorf("%d: See(%v): %d", i, s, e)
				}
			}
			if s, e := c.Now(); s != (api.Stamp{}) || e != api.ErrNil {
				t.Errorf("%d: Now: %v, %d", i, s, e)
			}
			shows(t, c, shown{})
		}
	}
	if zero != (Clock{}) {
		t.Errorf("the zero clock has become %v", zero)
	}
}

// P6.1: what New made of noughts alone is a clock, too.
func TestOfNoughts(t *testing.T) {
	c := newClock(t, 0, 0)
	shows(t, c, shown{0, at(0, 0), 0, true})
	nowRefuses(t, c, api.ErrBound)
	seeRefuses(t, c, at(0, 0), api.ErrBound)
	set(t, c, 0)
	raise(t, c, 1)
	nowIs(t, c, at(0, 1))
}

// refusesToRise asks for numbers below the one that there is, and for such that may not be.
func refusesToRise(t *testing.T, c *Clock, number int, call func(int) api.Errno) {
	t.Helper()
	for _, less := range []int{number - 1, number - 2, number / 2, 0} {
		if less < number {
			refuses(t, c, api.ErrRange, func() api.Errno { return call(less) })
		}
	}
	for _, beyond := range wallsBeyond {
		refuses(t, c, api.ErrRange, func() api.Errno { return call(beyond) })
	}
}

// P6.2: Set by the same number, by more, up to MaxWall; by less, and above MaxWall; whatever the offset and the bound are.
func TestSet(t *testing.T) {
	for _, offset := range []int{0, 10, topWall} {
		for _, bound := range []int{0, 1, 50, topWall} {
			c := newClock(t, offset, bound)
			first := c.Last()
			for _, reading := range wallsWithin {
				for range 2 {
					set(t, c, reading)
					shows(t, c, shown{reading, first, bound, reading >= bound})
				}
				refusesToRise(t, c, reading, c.Set)
			}
		}
	}
}

// P6.2: Raise likewise; the last stamp stays, and the clock is as ready as it was.
func TestRaise(t *testing.T) {
	for _, reading := range []int{0, 1, 7, topWall} {
		for _, first := range wallsWithin {
			c := newClock(t, 10, first)
			set(t, c, reading)
			last := c.Last()
			refusesToRise(t, c, first, c.Raise)
			for _, bound := range wallsWithin {
				if bound < first {
					continue
				}
				for range 2 {
					raise(t, c, bound)
					shows(t, c, shown{reading, last, bound, reading >= first})
				}
				refusesToRise(t, c, bound, c.Raise)
			}
		}
	}
}

// P6.2: Ready ahead of the first bound, at it and behind it; a bound that is raised, and stamps that are made or taken, leave it as it is.
func TestReady(t *testing.T) {
	for _, first := range []int{1, 2, 50, 1 << 32, topWall} {
		c := newClock(t, 10, first)
		ready := func(want bool) {
			t.Helper()
			if c.Ready() != want {
				t.Errorf("bound %d at first, reading %d: ready is %v", first, c.Reading(), c.Ready())
			}
		}
		ready(false)
		raise(t, c, min(first+5, topWall))
		ready(false)
		set(t, c, first-1)
		ready(false)
		if first < topWall {
			nowIs(t, c, at(first, 0))
			see(t, c, at(first+1, 0))
		}
		ready(false)
		set(t, c, first)
		ready(true)
		raise(t, c, topWall)
		ready(true)
		set(t, c, min(first+1, topWall))
		ready(true)
		set(t, c, topWall)
		ready(true)
	}
}

// P6.3: Now where the last stamp's next is greater, where the reading is, and where both are the same one.
func TestNow(t *testing.T) {
	for _, c := range []struct {
		reading int
		last    api.Stamp
		want    api.Stamp
	}{
		{7, at(0, 0), at(7, 0)},
		{7, at(6, 9), at(7, 0)},
		{7, at(6, topLogic), at(7, 0)},
		{7, at(7, 0), at(7, 1)},
		{7, at(7, 5), at(7, 6)},
		{7, at(7, topLogic-1), at(7, topLogic)},
		{7, at(7, topLogic), at(8, 0)},
		{7, at(8, 0), at(8, 1)},
		{7, at(17, 3), at(17, 4)},
		{7, at(17, topLogic), at(18, 0)},
		{0, at(0, 0), at(0, 1)},
		{0, at(0, topLogic), at(1, 0)},
		{1, at(0, 0), at(1, 0)},
		{topWall - 1, at(0, 0), at(topWall-1, 0)},
		{topWall - 1, at(topWall-2, topLogic), at(topWall-1, 0)},
		{topWall - 1, at(topWall-1, topLogic-1), at(topWall-1, topLogic)},
	} {
		clock := running(t, 10, c.reading, topWall, c.last)
		nowIs(t, clock, c.want)
		shows(t, clock, shown{c.reading, c.want, topWall, true})
	}
}

// P6.3: stamps made one behind the other, over the end of Logic, and a reading that rises between.
func TestNowAgain(t *testing.T) {
	c := running(t, 10, 7, 100, at(7, topLogic-2))
	for _, want := range []api.Stamp{at(7, topLogic-1), at(7, topLogic), at(8, 0), at(8, 1)} {
		nowIs(t, c, want)
	}
	set(t, c, 8)
	nowIs(t, c, at(8, 2))
	set(t, c, 9)
	nowIs(t, c, at(9, 0))
	nowIs(t, c, at(9, 1))
}

// P6.3: Now just below the bound, at it and above it: by the reading, and by the last stamp's next.
func TestNowAtTheBound(t *testing.T) {
	for _, bound := range []int{1, 2, 50, 1 << 32, topWall} {
		below := running(t, 10, bound-1, bound, at(0, 0))
		want := at(bound-1, 0)
		if bound == 1 {
			want = at(0, 1)
		}
		nowIs(t, below, want)

		nowRefuses(t, running(t, 10, bound, bound, at(0, 0)), api.ErrBound)
		nowRefuses(t, running(t, 10, min(bound+1, topWall), bound, at(0, 0)), api.ErrBound)
		nowRefuses(t, running(t, 10, topWall, bound, at(0, 0)), api.ErrBound)

		byNext := running(t, 10, bound-1, bound, at(bound-1, topLogic-1))
		nowIs(t, byNext, at(bound-1, topLogic))
		nowRefuses(t, byNext, api.ErrBound)
		nowRefuses(t, byNext, api.ErrBound)
		if bound < topWall {
			raise(t, byNext, bound+1)
			nowIs(t, byNext, at(bound, 0))
		}
	}
}

// P6.3: a new clock makes nothing ahead of its first bound's raising, but goes on behind its first stamp then, if the reading is not there yet.
func TestNowBehindTheFirstStamp(t *testing.T) {
	for _, first := range []int{0, 1, 2, 50, topWall - 1} {
		c := newClock(t, 10, first)
		nowRefuses(t, c, api.ErrBound)
		set(t, c, first)
		nowRefuses(t, c, api.ErrBound)
		raise(t, c, first+1)
		want := at(first, 0)
		if first == 0 {
			want = at(0, 1)
		}
		nowIs(t, c, want)
		nowIs(t, c, at(first, want.Logic+1))
	}
	c := newClock(t, 0, 100)
	raise(t, c, 200)
	set(t, c, 40)
	nowIs(t, c, at(100, 0))
	set(t, c, 100)
	nowIs(t, c, at(100, 1))
	set(t, c, 101)
	nowIs(t, c, at(101, 0))

	greatest := newClock(t, 10, topWall)
	nowRefuses(t, greatest, api.ErrBound)
	set(t, greatest, topWall)
	nowRefuses(t, greatest, api.ErrBound)
}

// P6.3: Next's error comes ahead of ErrBound. No calls bring a clock there, as all its last stamps are below a bound.
func TestNowWithoutNext(t *testing.T) {
	for _, reading := range []int{0, 7, topWall} {
		for _, bound := range []int{1, topWall} {
			c := newClock(t, 10, bound)
			set(t, c, reading)
			c.last = at(topWall, topLogic)
			nowRefuses(t, c, api.ErrLimit)
			c.last = at(topWall, topLogic-1)
			nowRefuses(t, c, api.ErrBound)
			c.last = at(-1, 0)
			nowRefuses(t, c, api.ErrRange)
		}
	}
}

// P6.4: See of what is behind the last stamp, ahead of it, and the same.
func TestSee(t *testing.T) {
	for _, c := range []struct{ last, s, want api.Stamp }{
		{at(7, 5), at(7, 6), at(7, 6)},
		{at(7, 5), at(8, 0), at(8, 0)},
		{at(7, 5), at(8, 5), at(8, 5)},
		{at(7, 5), at(17, 3), at(17, 3)},
		{at(7, 5), at(17, topLogic), at(17, topLogic)},
		{at(7, 5), at(7, 5), at(7, 5)},
		{at(7, 5), at(7, 4), at(7, 5)},
		{at(7, 5), at(6, 9), at(7, 5)},
		{at(7, 5), at(0, 0), at(7, 5)},
		{at(7, 5), at(0, topLogic), at(7, 5)},
		{at(7, topLogic), at(8, 0), at(8, 0)},
		{at(8, 0), at(7, topLogic), at(8, 0)},
		{at(0, 0), at(0, 0), at(0, 0)},
		{at(0, 0), at(0, 1), at(0, 1)},
		{at(0, 0), at(1, 0), at(1, 0)},
	} {
		clock := running(t, 10, 7, 100, c.last)
		see(t, clock, c.s)
		shows(t, clock, shown{7, c.want, 100, true})
		see(t, clock, c.s)
		shows(t, clock, shown{7, c.want, 100, true})
	}
}

// P6.4: See of what is just the offset above the reading, and one more; a reading that rises makes it be taken.
func TestSeeAhead(t *testing.T) {
	for _, offset := range []int{0, 1, 10, 1 << 32, topWall / 2, topWall - 2} {
		for _, reading := range []int{0, 1, 7, topWall - 2 - offset} {
			if reading < 0 || reading+offset+1 >= topWall {
				continue
			}
			c := newClock(t, offset, 0)
			raise(t, c, topWall)
			set(t, c, reading)
			for _, logic := range []int{0, 1, topLogic} {
				seeRefuses(t, c, at(reading+offset+1, logic), api.ErrAhead)
			}
			seeRefuses(t, c, at(topWall-1, 0), api.ErrAhead)
			seeRefuses(t, c, at(topWall, topLogic), api.ErrAhead)
			for _, logic := range []int{0, 1, topLogic} {
				see(t, c, at(reading+offset, logic))
				shows(t, c, shown{reading, at(reading+offset, logic), topWall, true})
			}
			set(t, c, reading+1)
			see(t, c, at(reading+offset+1, 5))
			shows(t, c, shown{reading + 1, at(reading+offset+1, 5), topWall, true})
		}
	}
}

// P6.4: it is the reading that a stamp may not be far ahead of, not the last stamp; and nothing is too far ahead of the greatest offset.
func TestSeeAheadOfTheReadingAlone(t *testing.T) {
	c := newClock(t, 10, 40)
	raise(t, c, 100)
	seeRefuses(t, c, at(11, 0), api.ErrAhead)
	seeRefuses(t, c, at(39, 0), api.ErrAhead)
	see(t, c, at(10, 0))
	shows(t, c, shown{0, at(39, topLogic), 100, false})
	nowIs(t, c, at(40, 0))
	seeRefuses(t, c, at(40, 0), api.ErrAhead)

	wide := newClock(t, topWall, 0)
	raise(t, wide, topWall)
	see(t, wide, at(topWall-1, topLogic))
	shows(t, wide, shown{0, at(topWall-1, topLogic), topWall, true})
	seeRefuses(t, wide, at(topWall, 0), api.ErrBound)
}

// P6.4: See just below the bound, at it and above it; what is taken at the end of all leaves nothing to make.
func TestSeeAtTheBound(t *testing.T) {
	for _, bound := range []int{1, 2, 50, 1 << 32, topWall} {
		c := running(t, 10, bound, bound, at(0, 0))
		for _, logic := range []int{0, 1, topLogic} {
			seeRefuses(t, c, at(bound, logic), api.ErrBound)
			if bound < topWall {
				seeRefuses(t, c, at(bound+1, logic), api.ErrBound)
			}
		}
		see(t, c, at(bound-1, 0))
		see(t, c, at(bound-1, topLogic))
		shows(t, c, shown{bound, at(bound-1, topLogic), bound, true})
		nowRefuses(t, c, api.ErrBound)
		if bound < topWall {
			raise(t, c, bound+1)
			see(t, c, at(bound, 3))
			nowIs(t, c, at(bound, 4))
		}
	}
	none := newClock(t, 10, 0)
	seeRefuses(t, none, at(0, 0), api.ErrBound)
	seeRefuses(t, none, at(0, 1), api.ErrBound)
}

// P6.4: See of stamps that may not be.
func TestSeeRefuses(t *testing.T) {
	for _, c := range []*Clock{
		newClock(t, 0, 0),
		newClock(t, topWall, topWall),
		running(t, 10, 7, 100, at(9, 9)),
		running(t, topWall, topWall, topWall, at(9, 9)),
	} {
		for _, s := range mayNot {
			seeRefuses(t, c, s, api.ErrRange)
		}
	}
}

// P6.4: where two errors would do: Check's ahead of ErrAhead, and that ahead of ErrBound.
func TestOrderOfErrors(t *testing.T) {
	c := running(t, 10, 7, 12, at(9, 9))
	for _, x := range []struct {
		s    api.Stamp
		want api.Errno
	}{
		{at(topWall+1, 0), api.ErrRange},
		{at(18, topLogic+1), api.ErrRange},
		{at(18, -1), api.ErrRange},
		{at(12, -1), api.ErrRange},
		{at(12, topLogic+1), api.ErrRange},
		{at(math.MaxInt, 0), api.ErrRange},
		{at(math.MinInt, 0), api.ErrRange},
		{at(18, 0), api.ErrAhead},
		{at(topWall, topLogic), api.ErrAhead},
		{at(17, topLogic), api.ErrBound},
		{at(12, 0), api.ErrBound},
	} {
		seeRefuses(t, c, x.s, x.want)
	}
}

// model is a clock of the chapter's words, its stamps as places in their row.
type model struct {
	offset, first, reading, last, bound int
}

func place(s api.Stamp) int {
	return s.Wall<<20 + s.Logic
}

func placed(n int) api.Stamp {
	return at(n>>20, n&topLogic)
}

func newModel(offset, bound int) *model {
	return &model{offset: offset, first: bound, bound: bound, last: max(bound<<20-1, 0)}
}

func (m *model) now() (api.Stamp, api.Errno) {
	s := max(m.last+1, m.reading<<20)
	if s >= m.bound<<20 {
		return api.Stamp{}, api.ErrBound
	}
	m.last = s
	return placed(s), api.OK
}

func (m *model) see(s api.Stamp) api.Errno {
	switch {
	case s.Wall < 0 || s.Wall > topWall || s.Logic < 0 || s.Logic > topLogic:
		return api.ErrRange
	case place(s) >= (m.reading+m.offset+1)<<20:
		return api.ErrAhead
	case place(s) >= m.bound<<20:
		return api.ErrBound
	}
	m.last = max(m.last, place(s))
	return api.OK
}

func (m *model) rise(number *int, to int) api.Errno {
	if to < *number || to > topWall {
		return api.ErrRange
	}
	*number = to
	return api.OK
}

func (m *model) show() shown {
	return shown{m.reading, placed(m.last), m.bound, m.reading >= m.first}
}

// numbers is a row of numbers that always is the same one.
type numbers uint64

func (n *numbers) below(count int) int {
	*n = *n*6364136223846793005 + 1442695040888963407
	return int(uint64(*n)>>33) % count
}

// P6.1 to P6.6: clocks on long ways, held against the model; stamps rise, are behind all that was seen, and below the bound.
func TestLongWays(t *testing.T) {
	for way := range 200 {
		n := numbers(way)
		base := []int{0, 0, 5, 1 << 30, topWall - 60}[n.below(5)]
		offset, bound := n.below(20), base+n.below(3)
		c, m := newClock(t, offset, bound), newModel(offset, bound)
		greatest := -1 // of all that was made or seen
		for range 300 {
			around := c.Last().Wall + n.below(8) - 4
			switch n.below(8) {
			case 0:
				reading := c.Reading() + n.below(6) - 1
				if n.below(10) == 0 {
					reading = around
				}
				if e := c.Set(reading); e != m.rise(&m.reading, reading) {
					t.Fatalf("Set(%d): %d", reading, e)
				}
			case 1:
				bound := c.Bound() + n.below(8) - 1
				if e := c.Raise(bound); e != m.rise(&m.bound, bound) {
					t.Fatalf("Raise(%d): %d", bound, e)
				}
			case 2, 3, 4:
				wall := []int{around, c.Reading() + offset + n.below(3) - 1, c.Bound() + n.below(3) - 2}[n.below(3)]
				logic := []int{0, c.Last().Logic + n.below(3) - 1, topLogic - n.below(3), topLogic + 1, n.below(topLogic)}[n.below(5)]
				s := at(wall, logic)
				e := c.See(s)
				if e != m.see(s) {
					t.Fatalf("See(%v): %d", s, e)
				}
				if e == api.OK {
					greatest = max(greatest, place(s))
				}
			default:
				s, e := c.Now()
				if want, wanted := m.now(); s != want || e != wanted {
					t.Fatalf("Now: %v, %d; want %v, %d", s, e, want, wanted)
				}
				if e == api.OK {
					if place(s) <= greatest || s.Wall >= c.Bound() {
						t.Fatalf("Now: %v, behind %v, at the bound %d", s, placed(greatest), c.Bound())
					}
					greatest = place(s)
				}
			}
			if show(c) != m.show() {
				t.Fatalf("the clock shows %v; want %v", show(c), m.show())
			}
		}
	}
}

// P6.7: a clock that begins with another one's bound makes only what is behind all that the other one made or took.
func TestClockBehindAnother(t *testing.T) {
	for _, bound := range []int{0, 1, 2, 50, 1 << 32, topWall - 1} {
		elder := newClock(t, 10, 0)
		raise(t, elder, bound)
		var all []api.Stamp
		if bound > 0 {
			for _, reading := range []int{0, bound / 2, bound - 1} {
				set(t, elder, reading)
				all = append(all, now(t, elder), now(t, elder))
			}
			see(t, elder, at(bound-1, topLogic-1))
			all = append(all, elder.Last(), now(t, elder))
		}
		nowRefuses(t, elder, api.ErrBound)

		newer := newClock(t, 10, elder.Bound())
		nowRefuses(t, newer, api.ErrBound)
		raise(t, newer, elder.Bound()+1)
		first := now(t, newer)
		for _, s := range all {
			if place(first) <= place(s) {
				t.Errorf("bound %d: %v is not behind %v", bound, first, s)
			}
		}
		// No stamp of the elder one can still come between.
		want := max(bound<<20, 1)
		if place(first) != want {
			t.Errorf("bound %d: %v; want %v", bound, first, placed(want))
		}
		if again := now(t, newer); place(again) <= place(first) {
			t.Errorf("bound %d: %v, and then %v", bound, first, again)
		}
	}
}

// P6.7: a row of clocks, each with the bound that the one ahead of it came to, on ways of their own.
func TestRowOfClocks(t *testing.T) {
	for way := range 50 {
		n := numbers(1000 + way)
		bound, greatest := 0, -1
		for range 10 {
			c := newClock(t, n.below(15), bound)
			made := greatest
			for range 60 {
				switch n.below(4) {
				case 0:
					set(t, c, c.Reading()+n.below(bound/8+4))
				case 1:
					raise(t, c, c.Bound()+n.below(5))
				case 2:
					if s := at(n.below(c.Bound()+2), n.below(topLogic+1)); c.See(s) == api.OK {
						made = max(made, place(s))
					}
				case 3:
					if s, e := c.Now(); e == api.OK {
						if place(s) <= greatest {
							t.Fatalf("%v is not behind %v, of a clock ahead", s, placed(greatest))
						}
						made = max(made, place(s))
					}
				}
			}
			bound, greatest = c.Bound(), made
		}
	}
}

// sent is a stamp that goes from one clock to the others.
type sent struct {
	from int
	s    api.Stamp
}

// P6.8: clocks whose readings are at most the offset apart take what any of them makes, at once or late; no wall is above the greatest reading.
func TestClocksNearEachOther(t *testing.T) {
	for _, offset := range []int{0, 1, 3, 10} {
		n := numbers(offset)
		var clocks []*Clock
		for range 4 {
			c := newClock(t, offset, 0)
			raise(t, c, topWall)
			clocks = append(clocks, c)
		}
		readings := func() (least, greatest int) {
			least = topWall
			for _, c := range clocks {
				least, greatest = min(least, c.Reading()), max(greatest, c.Reading())
			}
			return least, greatest
		}
		var way []sent
		for range 3000 {
			least, greatest := readings()
			i := n.below(len(clocks))
			if on := clocks[i].Reading() + n.below(offset+2); on <= least+offset {
				set(t, clocks[i], on)
			} else if least == greatest {
				// Without an offset they go on together.
				for _, c := range clocks {
					set(t, c, greatest+1)
				}
			}
			_, greatest = readings()
			i = n.below(len(clocks))
			s := now(t, clocks[i])
			if s.Wall > greatest {
				t.Fatalf("%v is above the greatest reading, %d", s, greatest)
			}
			way = append(way, sent{i, s})
			for len(way) > 0 && n.below(5) > 1 {
				k := n.below(len(way))
				to := (way[k].from + 1 + n.below(len(clocks)-1)) % len(clocks)
				see(t, clocks[to], way[k].s)
				if s := now(t, clocks[to]); place(s) <= place(way[k].s) {
					t.Fatalf("%v is not behind %v, which was seen", s, way[k].s)
				}
				if n.below(2) == 0 {
					way = slices.Delete(way, k, k+1)
				}
			}
		}
	}
}

// P6.8: but by Next at the end of Logic, or by a first stamp, a wall is above all readings.
func TestAboveAllReadings(t *testing.T) {
	a, b := running(t, 0, 7, 100, at(7, topLogic-1)), running(t, 0, 7, 100, at(0, 0))
	nowIs(t, a, at(7, topLogic))
	see(t, b, at(7, topLogic))
	nowIs(t, a, at(8, 0))
	seeRefuses(t, b, at(8, 0), api.ErrAhead)
	set(t, b, 8)
	see(t, b, at(8, 0))

	c := newClock(t, 0, 20)
	raise(t, c, 100)
	set(t, c, 7)
	nowIs(t, c, at(20, 0))
}

// R2: clocks do not hang on each other, and the same done anew is answered the same.
func TestClocksApart(t *testing.T) {
	a, b := newClock(t, 10, 0), newClock(t, 3, 20)
	raise(t, a, 50)
	shows(t, b, shown{0, at(19, topLogic), 20, false})
	set(t, b, 30)
	raise(t, b, 90)
	shows(t, a, shown{0, at(0, 0), 50, true})
	nowIs(t, b, at(30, 0))
	nowIs(t, a, at(0, 1))
	see(t, b, at(33, 5))
	shows(t, a, shown{0, at(0, 1), 50, true})
	seeRefuses(t, a, at(33, 5), api.ErrAhead)
	seeRefuses(t, b, at(34, 0), api.ErrAhead)

	again := newClock(t, 10, 0)
	raise(t, again, 50)
	nowIs(t, again, at(0, 1))
	if show(again) != show(a) {
		t.Errorf("%v, and then %v", show(a), show(again))
	}
}

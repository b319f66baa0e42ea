package stamp

import (
	"math"
	"math/big"
	"slices"
	"testing"

	"scriptorium/api"
)

const (
	topWall  = 1 << 40
	topLogic = 1<<20 - 1
)

func at(wall, logic int) api.Stamp {
	return api.Stamp{Wall: wall, Logic: logic}
}

// Numbers at both ends of what may be, within, and just beyond; and the least and the greatest int.
var (
	wallsWithin  = []int{0, 1, 2, 3, 4, 1000, 1 << 20, 1<<32 - 1, 1 << 32, topWall - 2, topWall - 1, topWall}
	wallsBeyond  = []int{math.MinInt, math.MinInt + 1, -topWall, -2, -1, topWall + 1, topWall + 2, 1 << 41, math.MaxInt - 1, math.MaxInt}
	logicsWithin = []int{0, 1, 2, 9, 1 << 10, 1 << 19, topLogic - 2, topLogic - 1, topLogic}
	logicsBeyond = []int{math.MinInt, math.MinInt + 1, -topLogic, -2, -1, topLogic + 1, topLogic + 2, 1 << 40, math.MaxInt - 1, math.MaxInt}
)

func cross(walls, logics []int) []api.Stamp {
	var l []api.Stamp
	for _, wall := range walls {
		for _, logic := range logics {
			l = append(l, at(wall, logic))
		}
	}
	return l
}

// may is stamps that may be, at their edges and within.
func may() []api.Stamp {
	return cross(wallsWithin, logicsWithin)
}

// mayNot is stamps that may not be: for their Wall, for their Logic, for both.
func mayNot() []api.Stamp {
	return slices.Concat(cross(wallsBeyond, logicsWithin), cross(wallsWithin, logicsBeyond), cross(wallsBeyond, logicsBeyond))
}

func all() []api.Stamp {
	return slices.Concat(may(), mayNot())
}

// place is how many stamps that may be are ahead of one that may be.
func place(s api.Stamp) int {
	return s.Wall<<20 + s.Logic
}

// placed is the stamp that has so many ahead of it.
func placed(n int) api.Stamp {
	return at(n>>20, n&topLogic)
}

// wide is a number that is less for the lesser of any two stamps, whatever ints they hold.
func wide(s api.Stamp) *big.Int {
	n := new(big.Int).Lsh(big.NewInt(int64(s.Wall)), 70)
	return n.Add(n, big.NewInt(int64(s.Logic)))
}

// P5.1: the limits are the words' own.
func TestLimits(t *testing.T) {
	if api.MaxWall != topWall || api.MaxLogic != topLogic {
		t.Errorf("%d, %d", api.MaxWall, api.MaxLogic)
	}
}

// P5.1: Check of stamps that may be, and of such that may not.
func TestCheck(t *testing.T) {
	for _, s := range may() {
		if e := Check(s); e != api.OK {
			t.Errorf("%v: %d", s, e)
		}
	}
	for _, s := range mayNot() {
		if e := Check(s); e != api.ErrRange {
			t.Errorf("%v: %d", s, e)
		}
	}
}

// P5.1: Less by Wall, and of the same Wall by Logic.
func TestLess(t *testing.T) {
	for _, c := range []struct {
		a, b api.Stamp
		want bool
	}{
		{at(3, 9), at(4, 0), true},
		{at(4, 0), at(4, 0), false},
		{at(4, 0), at(3, 9), false},
		{at(4, 0), at(4, 1), true},
		{at(4, 1), at(4, 0), false},
		{at(0, 0), at(0, 0), false},
		{at(0, 0), at(topWall, topLogic), true},
		{at(topWall, topLogic), at(0, 0), false},
		{at(3, topLogic), at(4, 0), true},
		{at(-1, 0), at(0, -1), true},
		{at(0, -1), at(0, 0), true},
		{at(3, math.MaxInt), at(4, math.MinInt), true},
		{at(math.MinInt, 0), at(math.MaxInt, 0), true},
		{at(math.MaxInt, 0), at(math.MinInt, 0), false},
		{at(5, math.MinInt), at(5, math.MaxInt), true},
		{at(5, math.MaxInt), at(5, math.MinInt), false},
		{at(5, math.MinInt), at(5, 1), true},
		{at(math.MinInt, 5), at(1, 5), true},
	} {
		if Less(c.a, c.b) != c.want {
			t.Errorf("Less(%v, %v): want %v", c.a, c.b, c.want)
		}
	}
}

// P5.1 and P5.5: Less of each two, held against numbers that stand as the stamps do.
func TestLessOfAll(t *testing.T) {
	l := all()
	var numbers []*big.Int
	for _, s := range l {
		numbers = append(numbers, wide(s))
	}
	for i, a := range l {
		for k, b := range l {
			if want := numbers[i].Cmp(numbers[k]) < 0; Less(a, b) != want {
				t.Errorf("Less(%v, %v): want %v", a, b, want)
			}
		}
	}
}

// P5.5: Less is an order: none is less than itself; of two one is less, or they are the same; and what is less than a lesser one is less.
func TestLessIsAnOrder(t *testing.T) {
	l := cross([]int{math.MinInt, -1, 0, 1, topWall, topWall + 1, math.MaxInt}, []int{math.MinInt, -1, 0, 1, topLogic, topLogic + 1, math.MaxInt})
	for _, a := range l {
		if Less(a, a) {
			t.Errorf("%v is less than itself", a)
		}
		for _, b := range l {
			if a != b && Less(a, b) == Less(b, a) {
				t.Errorf("%v and %v: %v both ways", a, b, Less(a, b))
			}
			for _, c := range l {
				if Less(a, b) && Less(b, c) && !Less(a, c) {
					t.Errorf("%v, %v, %v", a, b, c)
				}
			}
		}
	}
}

// P5.1: Max of none, and of one, whatever it is.
func TestMaxOfFew(t *testing.T) {
	if s := Max(); s != (api.Stamp{}) {
		t.Errorf("of none: %v", s)
	}
	if s := Max(nil...); s != (api.Stamp{}) {
		t.Errorf("of nil: %v", s)
	}
	if s := Max([]api.Stamp{}...); s != (api.Stamp{}) {
		t.Errorf("of an empty list: %v", s)
	}
	if s := Max([]api.Stamp{at(7, 7), at(8, 8)}[:0]...); s != (api.Stamp{}) {
		t.Errorf("of an empty piece: %v", s)
	}
	for _, s := range all() {
		if m := Max(s); m != s {
			t.Errorf("of %v: %v", s, m)
		}
		if m := Max(s, s, s); m != s {
			t.Errorf("of %v three times: %v", s, m)
		}
	}
}

// P5.1: Max with the greatest one in each place.
func TestMaxInEachPlace(t *testing.T) {
	for i, rising := range [][]api.Stamp{
		{at(0, 0), at(0, 1), at(1, 0)},
		{at(3, 9), at(4, 0), at(4, 1), at(4, 2)},
		{at(3, topLogic), at(4, 0)},
		{at(2, 8), at(3, 7), at(4, 6), at(5, 5), at(6, 4)},
		{at(-9, 9), at(-8, -9), at(-8, -8), at(-1, -1)}, // all are less than the zero stamp
		{at(math.MinInt, math.MinInt), at(math.MinInt, math.MaxInt), at(0, 0), at(math.MaxInt, math.MinInt), at(math.MaxInt, math.MaxInt)},
		{at(topWall, topLogic), at(topWall, topLogic+1), at(topWall+1, -1)},
	} {
		greatest := rising[len(rising)-1]
		for turn := range rising {
			turned := slices.Concat(rising[turn:], rising[:turn])
			if m := Max(turned...); m != greatest {
				t.Errorf("%d: of %v: %v", i, turned, m)
			}
			slices.Reverse(turned)
			if m := Max(turned...); m != greatest {
				t.Errorf("%d: of %v: %v", i, turned, m)
			}
			twice := slices.Concat(turned, turned)
			if m := Max(twice...); m != greatest {
				t.Errorf("%d: of %v: %v", i, twice, m)
			}
		}
	}
}

// P5.1: Max of each two, and of all, is one of them, and none of them is greater.
func TestMaxOfAll(t *testing.T) {
	l := all()
	for _, a := range l {
		for _, b := range l {
			want := a
			if wide(a).Cmp(wide(b)) < 0 {
				want = b
			}
			if m := Max(a, b); m != want {
				t.Errorf("of %v and %v: %v", a, b, m)
			}
		}
	}
	if m := Max(l...); m != at(math.MaxInt, math.MaxInt) {
		t.Errorf("of all: %v", m)
	}
	if m := Max(may()...); m != at(topWall, topLogic) {
		t.Errorf("of all that may be: %v", m)
	}
}

// P5.2: the chapter's examples, and Next and Prev at both ends of both numbers.
func TestNextAndPrev(t *testing.T) {
	for _, c := range []struct{ s, next api.Stamp }{
		{at(3, 9), at(3, 10)},
		{at(3, 1048575), at(4, 0)},
		{at(0, 0), at(0, 1)},
		{at(0, topLogic-1), at(0, topLogic)},
		{at(0, topLogic), at(1, 0)},
		{at(topWall-1, topLogic), at(topWall, 0)},
		{at(topWall, 0), at(topWall, 1)},
		{at(topWall, topLogic-1), at(topWall, topLogic)},
	} {
		if n, e := Next(c.s); n != c.next || e != api.OK {
			t.Errorf("Next of %v: %v, %d", c.s, n, e)
		}
		if p, e := Prev(c.next); p != c.s || e != api.OK {
			t.Errorf("Prev of %v: %v, %d", c.next, p, e)
		}
	}
	if n, e := Next(at(topWall, topLogic)); n != (api.Stamp{}) || e != api.ErrLimit {
		t.Errorf("Next of the greatest one: %v, %d", n, e)
	}
	if p, e := Prev(at(0, 0)); p != (api.Stamp{}) || e != api.ErrLimit {
		t.Errorf("Prev of the least one: %v, %d", p, e)
	}
}

// P5.2: Check's error comes ahead of ErrLimit, and nothing else with it.
func TestNextAndPrevRefuse(t *testing.T) {
	for _, s := range mayNot() {
		if n, e := Next(s); n != (api.Stamp{}) || e != api.ErrRange {
			t.Errorf("Next of %v: %v, %d", s, n, e)
		}
		if p, e := Prev(s); p != (api.Stamp{}) || e != api.ErrRange {
			t.Errorf("Prev of %v: %v, %d", s, p, e)
		}
	}
}

// P5.2 and P5.5: nothing is between one and its Next, nor between it and its Prev: their places are beside each other.
func TestNextAndPrevPlaces(t *testing.T) {
	for _, s := range may() {
		n, e := Next(s)
		if s != at(topWall, topLogic) && (e != api.OK || n != placed(place(s)+1)) {
			t.Errorf("Next of %v: %v, %d", s, n, e)
		}
		p, e := Prev(s)
		if s != at(0, 0) && (e != api.OK || p != placed(place(s)-1)) {
			t.Errorf("Prev of %v: %v, %d", s, p, e)
		}
	}
}

// P5.5: what is behind a stamp is at or behind its Next, what is ahead of it at or ahead of its Prev.
func TestNothingBetween(t *testing.T) {
	l := may()
	for _, s := range l {
		n, ofNext := Next(s)
		p, ofPrev := Prev(s)
		if ofNext == api.OK && !Less(s, n) || ofPrev == api.OK && !Less(p, s) {
			t.Errorf("%v: Next %v, Prev %v", s, n, p)
		}
		for _, other := range l {
			if ofNext == api.OK && Less(s, other) && Less(other, n) {
				t.Errorf("%v is between %v and %v", other, s, n)
			}
			if ofPrev == api.OK && Less(other, s) && Less(p, other) {
				t.Errorf("%v is between %v and %v", other, p, s)
			}
		}
	}
}

// P5.5: Next and Prev take each other back, along many stamps one behind the other.
func TestNextAndPrevTakeBack(t *testing.T) {
	for _, begin := range []int{0, 1<<20 - 300, 5<<20 - 300, (topWall-1)<<20 + topLogic - 300} {
		s := placed(begin)
		for i := range 600 {
			n, e := Next(s)
			back, g := Prev(n)
			if e != api.OK || g != api.OK || back != s || n != placed(begin+i+1) || Check(n) != api.OK {
				t.Fatalf("%v: Next %v, %d; its Prev %v, %d", s, n, e, back, g)
			}
			s = n
		}
	}
	for _, s := range may() {
		if n, e := Next(s); e == api.OK {
			if back, g := Prev(n); back != s || g != api.OK {
				t.Errorf("%v: Prev of its Next is %v, %d", s, back, g)
			}
		}
		if p, e := Prev(s); e == api.OK {
			if back, g := Next(p); back != s || g != api.OK {
				t.Errorf("%v: Next of its Prev is %v, %d", s, back, g)
			}
		}
	}
}

// P5.3: the chapter's examples, and Later by what fits and by what does not.
func TestLater(t *testing.T) {
	for _, c := range []struct {
		s    api.Stamp
		wall int
		want api.Stamp
		e    api.Errno
	}{
		{at(3, 9), 5, at(8, 9), api.OK},
		{at(3, 9), -1, at(0, 0), api.ErrRange},
		{at(3, 9), 0, at(3, 9), api.OK},
		{at(3, 9), 1, at(4, 9), api.OK},
		{at(0, 0), 0, at(0, 0), api.OK},
		{at(0, 0), topWall, at(topWall, 0), api.OK},
		{at(0, topLogic), topWall, at(topWall, topLogic), api.OK},
		{at(0, 0), topWall + 1, at(0, 0), api.ErrLimit},
		{at(1, 0), topWall - 1, at(topWall, 0), api.OK},
		{at(1, 0), topWall, at(0, 0), api.ErrLimit},
		{at(topWall, topLogic), 0, at(topWall, topLogic), api.OK},
		{at(topWall, topLogic), 1, at(0, 0), api.ErrLimit},
		{at(topWall, 0), 1, at(0, 0), api.ErrLimit},
		{at(0, 0), math.MaxInt, at(0, 0), api.ErrLimit},
		{at(1, 1), math.MaxInt, at(0, 0), api.ErrLimit}, // the sum of the Walls wraps round
		{at(topWall, 9), math.MaxInt, at(0, 0), api.ErrLimit},
		{at(topWall, 9), math.MaxInt - topWall, at(0, 0), api.ErrLimit},
		{at(topWall, 9), math.MaxInt - topWall + 1, at(0, 0), api.ErrLimit},
		{at(0, 0), math.MinInt, at(0, 0), api.ErrRange},
		{at(topWall, 9), -topWall, at(0, 0), api.ErrRange}, // it would be one that may be
		{at(topWall, topLogic), math.MinInt, at(0, 0), api.ErrRange},
		{at(3, 9), -4, at(0, 0), api.ErrRange},
		{at(3, 9), -2, at(0, 0), api.ErrRange},
	} {
		if s, e := Later(c.s, c.wall); s != c.want || e != c.e {
			t.Errorf("Later(%v, %d): %v, %d; want %v, %d", c.s, c.wall, s, e, c.want, c.e)
		}
	}
}

// P5.3: Later of all stamps by all numbers: Check's error first, then ErrRange, then ErrLimit.
func TestLaterOfAll(t *testing.T) {
	numbers := slices.Concat(wallsWithin, wallsBeyond)
	for _, s := range may() {
		for _, wall := range numbers {
			want, wanted := api.Stamp{}, api.ErrLimit
			switch {
			case wall < 0:
				wanted = api.ErrRange
			case wall <= topWall && s.Wall+wall <= topWall:
				want, wanted = at(s.Wall+wall, s.Logic), api.OK
			}
			if l, e := Later(s, wall); l != want || e != wanted {
				t.Errorf("Later(%v, %d): %v, %d", s, wall, l, e)
			}
		}
		missing := topWall - s.Wall
		if l, e := Later(s, missing); l != at(topWall, s.Logic) || e != api.OK {
			t.Errorf("Later(%v, %d): %v, %d", s, missing, l, e)
		}
		if l, e := Later(s, missing+1); l != (api.Stamp{}) || e != api.ErrLimit {
			t.Errorf("Later(%v, %d): %v, %d", s, missing+1, l, e)
		}
	}
	for _, s := range mayNot() {
		for _, wall := range numbers {
			if l, e := Later(s, wall); l != (api.Stamp{}) || e != api.ErrRange {
				t.Errorf("Later(%v, %d): %v, %d", s, wall, l, e)
			}
		}
	}
}

// P5.5: Later keeps the order: of stamps by the same number, and of numbers on the same stamp.
func TestLaterKeepsTheOrder(t *testing.T) {
	l := may()
	for _, wall := range wallsWithin {
		for _, a := range l {
			laterA, e := Later(a, wall)
			if e != api.OK {
				continue
			}
			if Less(laterA, a) || wall > 0 && !Less(a, laterA) {
				t.Errorf("Later(%v, %d): %v", a, wall, laterA)
			}
			if more, e := Later(a, wall+1); e == api.OK && !Less(laterA, more) {
				t.Errorf("Later of %v by %d: %v; by one more: %v", a, wall, laterA, more)
			}
			for _, b := range l {
				laterB, e := Later(b, wall)
				if e == api.OK && Less(laterA, laterB) != Less(a, b) {
					t.Errorf("%v and %v, later by %d: %v and %v", a, b, wall, laterA, laterB)
				}
			}
		}
	}
}

// P5.4: what is handed in stays as it was, the room behind it, too.
func TestOnlyRead(t *testing.T) {
	for _, list := range [][]api.Stamp{
		{},
		{at(4, 1)},
		{at(4, 1), at(3, 9), at(5, 0), at(3, 9), at(-1, -1)},
		{at(5, 0), at(4, 1), at(3, 9)},
		{at(3, 9), at(4, 1), at(5, 0)},
		{at(7, 7), at(7, 7), at(7, 7)},
	} {
		whole := append(slices.Clone(list), at(99, 99), at(-99, -99), at(98, 98))
		before := slices.Clone(whole)
		m := Max(whole[:len(list)]...)
		if !slices.Equal(whole, before) {
			t.Errorf("Max of %v: the list is now %v", list, whole)
		}
		for i := range whole {
			whole[i] = at(55, 55)
		}
		if again := Max(list...); m != again {
			t.Errorf("Max of %v: %v, and then %v", list, m, again)
		}
	}
}

// R2: the same is answered each time that the same is asked.
func TestAskedAgain(t *testing.T) {
	type told struct {
		check, next, prev, later api.Errno
		n, p, l, m               api.Stamp
	}
	ask := func(s api.Stamp) (a told) {
		a.check = Check(s)
		a.n, a.next = Next(s)
		a.p, a.prev = Prev(s)
		a.l, a.later = Later(s, 7)
		a.m = Max(s, at(3, 9))
		return a
	}
	first := map[api.Stamp]told{}
	for _, s := range all() {
		first[s] = ask(s)
	}
	l := all()
	slices.Reverse(l)
	for _, s := range l {
		if a := ask(s); a != first[s] {
			t.Errorf("%v: %v, and then %v", s, first[s], a)
		}
	}
}

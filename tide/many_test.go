package tide_test

import (
	"testing"

	"scriptorium/api"
)

// row has n reads of spans apart, whose stamps a function tells, above the low water 5.
func row(t testing.TB, n int, at func(i int) api.Stamp, owner func(i int) int) *both {
	t.Helper()
	b := begin(t, wall(5))
	for i := range n {
		b.does(t, adds(apart(i), at(i), owner(i)))
	}
	return b
}

func one(int) int { return 7 }

func none(int) int { return 0 }

func each(i int) int { return i }

// rows are stamps of reads, told by their numbers.
var rows = map[string]func(i int) api.Stamp{
	"rising":              func(i int) api.Stamp { return wall(10 + i) },
	"rising by the Logic": func(i int) api.Stamp { return stampOf(10, i) },
	"falling":             func(i int) api.Stamp { return wall(1000 - i) },
	"falling by Logic":    func(i int) api.Stamp { return stampOf(10, 1000-i) },
	"all the same":        func(i int) api.Stamp { return wall(10) },
	"several least":       func(i int) api.Stamp { return wall(10 + i%5) },
	"least in the middle": func(i int) api.Stamp { return wall(10 + (i-32)*(i-32)) },
	"two least":           func(i int) api.Stamp { return wall(10 + i*(64-i)) },
	"just above the low":  func(i int) api.Stamp { return stampOf(5, 1+i%3) },
	"greatest at first":   func(i int) api.Stamp { return atPlace(place(greatest) - i) },
}

// P17.2: 63 and 64 reads are all remembered, whatever their stamps are, and the low water stays.
func TestUpToTheLimit(t *testing.T) {
	for name, at := range rows {
		for _, owner := range []func(int) int{one, none, each} {
			for _, n := range []int{63, 64} {
				b := row(t, n, at, owner)
				lowIs(t, b.h, wall(5), n)
				for i := range n {
					maxIs(t, b.h, apart(i), 999, at(i))
				}
				if t.Failed() {
					t.Fatal(name, n)
				}
			}
		}
	}
}

// P17.2: the 65-th read makes the low water the least stamp of all, its own too, and all that are not above that are forgotten.
func TestPastTheLimit(t *testing.T) {
	for name, at := range rows {
		for _, owner := range []func(int) int{one, none, each} {
			b := row(t, 65, at, owner)
			low := at(0)
			for i := range 65 {
				if place(at(i)) < place(low) {
					low = at(i)
				}
			}
			left := 0
			for i := range 65 {
				if at(i) != low {
					left++
				}
				maxIs(t, b.h, apart(i), 999, at(i))
				maxIs(t, b.h, apart(i), owner(i), map[bool]api.Stamp{true: at(i), false: low}[owner(i) == 0])
			}
			maxIs(t, b.h, apart(65), 0, low)
			lowIs(t, b.h, low, left)
			b.is(t)
			if t.Failed() {
				t.Fatal(name)
			}
		}
	}
}

// P17.2: what becomes of 64 reads, of which one or several are the least, by a 65-th one below them, at the least one, between, and above all.
func TestThe65th(t *testing.T) {
	for _, least := range [][]int{{0}, {63}, {30}, {0, 63}, {0, 1, 2}, {5, 6, 40, 63}, {61, 62, 63}} {
		for _, c := range []struct{ at, low, also int }{{6, 6, 0}, {19, 19, 0}, {20, 20, 1}, {21, 20, 0}, {30, 20, 0}, {1000, 20, 0}} {
			at := func(i int) api.Stamp {
				for _, n := range least {
					if n == i {
						return wall(20)
					}
				}
				return wall(30 + i)
			}
			b := row(t, 64, at, each).does(t, adds(apart(64), wall(c.at), 3))
			left := 64
			if c.low == 20 {
				left = 65 - len(least) - c.also
			}
			lowIs(t, b.h, wall(c.low), left)
			for i := range 64 {
				maxIs(t, b.h, apart(i), 999, wall(max(at(i).Wall, c.low)))
			}
			maxIs(t, b.h, apart(64), 0, wall(c.at))
			maxIs(t, b.h, apart(65), 0, wall(c.low))
			b.is(t)
		}
	}
}

// P17.2: a 65-th Add that is no new read, or is not above the low water, forgets nothing.
func TestFullWithoutANewRead(t *testing.T) {
	for _, x := range []step{adds(apart(0), wall(6), 0), adds(apart(0), wall(10), 0), adds(apart(0), wall(9999), 0), adds(apart(63), wall(9999), 63), adds(apart(30), wall(11), 30), adds(apart(99), wall(5), 1), adds(apart(99), wall(4), 1), adds(apart(3), least, 4)} {
		b := full(t).does(t, x).is(t)
		lowIs(t, b.h, wall(5), 64)
	}
	// The same span of another owner is a new one, and so is another span of the same owner.
	for _, x := range []step{adds(apart(1), wall(500), 0), adds(apart(1), wall(500), 99), adds(apart(64), wall(500), 1)} {
		b := full(t).does(t, x).is(t)
		lowIs(t, b.h, wall(10), 64)
	}
}

// P17.2: a read that came again at a greater stamp is no more the least one.
func TestFullBehindAGreaterStamp(t *testing.T) {
	b := full(t).does(t, adds(apart(0), wall(400), 0), adds(apart(1), wall(6), 1), adds(apart(64), wall(500), 64)).is(t)
	lowIs(t, b.h, wall(11), 64)
	maxIs(t, b.h, apart(0), 999, wall(400))
	maxIs(t, b.h, apart(1), 999, wall(11))
}

// P17.2: all that have the same stamp are forgotten together, and then there is room for 64 more.
func TestAllAreForgotten(t *testing.T) {
	b := row(t, 65, rows["all the same"], each)
	lowIs(t, b.h, wall(10), 0)
	for i := range 64 {
		b.does(t, adds(apart(i), wall(11+i), 1))
		lowIs(t, b.h, wall(10), 1+i)
	}
	b.does(t, adds(apart(64), wall(2000), 1)).is(t)
	lowIs(t, b.h, wall(11), 64)
}

// P17.2, P17.4: what was forgotten by a Raise leaves room.
func TestRaiseLeavesRoom(t *testing.T) {
	b := full(t).does(t, raises(wall(40)))
	lowIs(t, b.h, wall(40), 33)
	for i := range 31 {
		b.does(t, adds(apart(100+i), wall(41), 0))
	}
	lowIs(t, b.h, wall(40), 64)
	b.does(t, adds(apart(200), wall(50), 0)).is(t)
	lowIs(t, b.h, wall(41), 33)
}

// P17.2: many more reads than 64 behind one another: rising ones push the least out one by one; falling ones are forgotten at once.
func TestManyReads(t *testing.T) {
	rising := begin(t, wall(5))
	for i := range 1000 {
		rising.does(t, adds(apart(i), wall(10+i), i%7))
		low, length := 5, i+1
		if i >= 64 {
			low, length = 10+i-64, 64
		}
		lowIs(t, rising.h, wall(low), length)
		for _, n := range []int{0, i - 65, i - 64, i - 63, i - 1, i} {
			if n >= 0 {
				maxIs(t, rising.h, apart(n), 99, wall(max(low, 10+n)))
			}
		}
	}
	falling := begin(t, wall(5))
	for i := range 1000 {
		falling.does(t, adds(apart(i), wall(5000-i), i%7))
		low, length := 5, i+1
		if i >= 64 {
			low, length = 5000-64, 64
		}
		lowIs(t, falling.h, wall(low), length)
	}
	same := begin(t, wall(5))
	for i := range 1000 {
		same.does(t, adds(apart(i%64), wall(10+i), 3))
		lowIs(t, same.h, wall(5), min(i+1, 64))
	}
	rising.is(t)
	falling.is(t)
	same.is(t)
}

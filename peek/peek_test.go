package peek_test

import (
	"fmt"
	"math"
	"strings"
	"testing"

	"scriptorium/api"
	"scriptorium/peek"
	"scriptorium/table"
)

// P12.1, P12.2: the chapter's examples.
func TestExamples(t *testing.T) {
	base := with("a", kept(10, "x"), kept(20, "y"))
	for _, c := range []struct {
		what string
		m    *shelf
		x    api.Txn
		want peek.Found
		e    api.Errno
	}{
		{"nothing more", base, me(wall(15), wall(15)), peek.Found{Key: "a", Value: "x", Is: true, Stamp: wall(10)}, api.OK},
		{"Limit is 25", base, me(wall(15), wall(25)), peek.Found{Key: "a", Stamp: wall(20)}, api.ErrUnsure},
		{"another one's intent at 15", base.copied().way("a", others(wall(15))), me(wall(15), wall(15)), peek.Found{Key: "a", Way: others(wall(15))}, api.ErrWait},
		{"another one's intent at 16", base.copied().way("a", others(wall(16))), me(wall(15), wall(15)), peek.Found{Key: "a", Value: "x", Is: true, Stamp: wall(10)}, api.OK},
		{"its own intent, a Del", base.copied().way("a", own(3, wall(30), del(1))), me(wall(15), wall(15)), peek.Found{Key: "a", Own: true, Stamp: wall(30)}, api.OK},
		{"Read is 10, Limit 10", base, me(wall(10), wall(10)), peek.Found{Key: "a", Stamp: wall(10)}, api.ErrUnsure},
	} {
		x := c.m.table(t)
		f, e := peek.Get(x, "a", c.x, wall(5))
		answers(t, c.what, e, c.e)
		found(t, c.what, f, c.want)
		holds(t, x, c.m, c.x, wall(5), "b")
	}
}

// P12.1: Limit below, at and above Read, and all pairs of many stamps, also of such as may not be.
func TestTop(t *testing.T) {
	for _, c := range []struct{ read, limit, want api.Stamp }{
		{stampOf(5, 3), stampOf(5, 2), stampOf(5, 3)},
		{stampOf(5, 3), stampOf(5, 3), stampOf(5, 3)},
		{stampOf(5, 3), stampOf(5, 4), stampOf(5, 4)},
		{stampOf(5, 3), stampOf(4, 9), stampOf(5, 3)},
		{stampOf(5, 3), stampOf(6, 0), stampOf(6, 0)},
		{stampOf(-1, 3), stampOf(-2, 9), stampOf(-1, 3)},
		{api.Stamp{}, stampOf(0, -1), api.Stamp{}},
		{api.Stamp{}, api.Stamp{}, api.Stamp{}},
		{greatest, stampOf(1<<40, 1<<20), stampOf(1<<40, 1<<20)},
	} {
		if got := peek.Top(me(c.read, c.limit)); got != c.want {
			t.Errorf("Read %v, Limit %v: %v; want %v", c.read, c.limit, got, c.want)
		}
	}
	numbers := []int{math.MinInt, -1 << 40, -1, 0, 1, 2, 1<<20 - 1, 1 << 20, 1 << 40, 1<<40 + 1, math.MaxInt}
	var l []api.Stamp
	for _, w := range numbers {
		for _, n := range numbers {
			l = append(l, stampOf(w, n)) // they rise
		}
	}
	for i, read := range l {
		for j, limit := range l {
			for _, x := range []api.Txn{me(read, limit), {Read: read, Limit: limit}, {Id: -1, Epoch: -1, Read: read, Limit: limit, Write: greatest, Beat: greatest}} {
				if got := peek.Top(x); got != l[max(i, j)] {
					t.Fatalf("Read %v, Limit %v: %v", read, limit, got)
				}
			}
		}
	}
}

// P12.2, P12.3: a table that is nil, or a zero one, is looked for ahead of all else.
func TestOfNoTable(t *testing.T) {
	for i, x := range []*table.Table{nil, {}} {
		for _, txn := range []api.Txn{me(wall(9), wall(9)), me(wall(1), wall(1)), {}} {
			for _, low := range []api.Stamp{wall(5), stampOf(-1, 0)} {
				for _, key := range []string{"a", "", fill(33)} {
					f, e := peek.Get(x, key, txn, low)
					answers(t, fmt.Sprint("Get of none ", i), e, api.ErrNil)
					found(t, "Get of none", f, peek.Found{})
				}
				for _, s := range []api.Span{{From: "a", To: "b"}, {From: "b", To: "a"}, {}} {
					rows, f, e := peek.Scan(x, s, txn, low)
					answers(t, fmt.Sprint("Scan of none ", i), e, api.ErrNil)
					found(t, "Scan of none", f, peek.Found{})
					told(t, "Scan of none", rows, nil)
				}
			}
		}
	}
}

// P12.2, P12.3: a table without keys is one.
func TestOfAnEmptyTable(t *testing.T) {
	x := table.New(0)
	f, e := peek.Get(x, "a", me(wall(9), wall(9)), wall(5))
	answers(t, "Get", e, api.OK)
	found(t, "Get", f, peek.Found{Key: "a"})
	rows, f, e := peek.Scan(x, all, me(wall(9), wall(9)), wall(5))
	answers(t, "Scan", e, api.OK)
	found(t, "Scan", f, peek.Found{})
	told(t, "Scan", rows, nil)
}

// P12.2: keys without bytes, of one and of the greatest length, and longer ones.
func TestKeysOfGet(t *testing.T) {
	m := newShelf()
	for _, key := range []string{"\x00", "k", "\xff", fill(31), fill(32), strings.Repeat("\x00", 32), strings.Repeat("\xff", 32), strings.Repeat("é", 16)} {
		m.add(key, kept(10, "of "+key[:1]))
	}
	x := m.table(t)
	for _, key := range []string{"\x00", "k", "\xff", fill(31), fill(32), strings.Repeat("\x00", 32), strings.Repeat("\xff", 32), strings.Repeat("é", 16), "unknown", fill(30)} {
		answers(t, key, gets(t, x, m, key, me(wall(15), wall(15)), wall(5)), api.OK)
	}
	for _, key := range []string{"", fill(33), fill(34), fill(64), fill(65), fill(300), fill(1000), fill(1001), fill(1 << 16), strings.Repeat("\x00", 33), strings.Repeat("\xff", 33), strings.Repeat("é", 17)} {
		answers(t, fmt.Sprintf("%.10q", key), gets(t, x, m, key, me(wall(15), wall(15)), wall(5)), api.ErrArg)
	}
}

// numbered is a transaction with one number that may be or not.
type numbered struct {
	what string
	n    int
	may  bool
	x    api.Txn
}

// numbersOf are at both ends of what may be, and beyond.
func numbersOf(what string, least, most int, set func(x *api.Txn, n int)) []numbered {
	var l []numbered
	for _, n := range []int{math.MinInt, -1 << 53, -1, least - 1, least, least + 1, most - 1, most, most + 1, 1 << 55, math.MaxInt} {
		x := me(wall(15), wall(15))
		set(&x, n)
		l = append(l, numbered{fmt.Sprint(what, " is ", n), n, n >= least && n <= most, x})
	}
	return l
}

// P12.2, P12.3: who may read: each field at its least and greatest, one below and one above.
func TestTransactionsThatMayRead(t *testing.T) {
	m := with("a", kept(10, "x")).add("b", gone(10))
	x := m.table(t)
	low := stampOf(0, 0)
	for _, l := range [][]numbered{
		numbersOf("Id", 1, 1<<53-1, func(x *api.Txn, n int) { x.Id = n }),
		numbersOf("Epoch", 0, 1<<53-1, func(x *api.Txn, n int) { x.Epoch = n }),
		numbersOf("Read.Wall", 0, 1<<40, func(x *api.Txn, n int) { x.Read = stampOf(n, 1) }),
		numbersOf("Read.Logic", 0, 1<<20-1, func(x *api.Txn, n int) { x.Read.Logic = n }),
		numbersOf("Read.Logic at the greatest Wall", 0, 1<<20-1, func(x *api.Txn, n int) { x.Read = stampOf(1<<40, n) }),
		numbersOf("Limit.Wall", 0, 1<<40, func(x *api.Txn, n int) { x.Limit.Wall = n }),
		numbersOf("Limit.Logic", 0, 1<<20-1, func(x *api.Txn, n int) { x.Limit.Logic = n }),
		numbersOf("Limit.Logic at the greatest Wall", 0, 1<<20-1, func(x *api.Txn, n int) { x.Limit = stampOf(1<<40, n) }),
		numbersOf("Limit.Logic at the least Wall", 0, 1<<20-1, func(x *api.Txn, n int) { x.Limit = stampOf(0, n) }),
	} {
		for _, c := range l {
			if mayRead(c.x) != c.may {
				t.Fatalf("%s: the words' own say %t", c.what, !c.may)
			}
			_, e := peek.Get(x, "a", c.x, low)
			_, _, f := peek.Scan(x, all, c.x, low)
			if (e != api.ErrArg) != c.may || (f != api.ErrArg) != c.may {
				t.Errorf("%s: Get %d, Scan %d", c.what, e, f)
			}
			holds(t, x, m, c.x, low, "c")
		}
	}
}

// P12.2, P12.3: Priority, Anchor, Write and Beat don't matter, whatever they are.
func TestOtherFieldsOfTheTransaction(t *testing.T) {
	m := with("a", kept(10, "x"), kept(20, "y")).add("b", kept(14, "z")).way("c", others(wall(16))).way("d", own(3, wall(40), change(1, "mine")))
	x := m.table(t)
	for _, n := range []int{math.MinInt, -1, 0, 1, 12, 15, 17, 25, 1001, math.MaxInt} {
		for _, set := range []func(x *api.Txn){
			func(x *api.Txn) { x.Priority = n },
			func(x *api.Txn) { x.Write = stampOf(n, 0) },
			func(x *api.Txn) { x.Write = stampOf(15, n) },
			func(x *api.Txn) { x.Beat = stampOf(n, 0) },
			func(x *api.Txn) { x.Beat = stampOf(15, n) },
			func(x *api.Txn) { x.Anchor = fill(max(n, 0) % 2000) },
		} {
			txn := me(wall(15), wall(15))
			set(&txn)
			answers(t, "Scan", holds(t, x, m, txn, wall(5)), api.OK)
		}
	}
}

// P12.2, P12.3: a low that may not be, at its ends and beyond.
func TestLowThatMayNotBe(t *testing.T) {
	m := with("a", kept(10, "x"))
	x := m.table(t)
	txn := me(greatest, api.Stamp{})
	for _, c := range []struct {
		low api.Stamp
		may bool
	}{
		{stampOf(0, 0), true}, {stampOf(-1, 0), false}, {stampOf(0, -1), false}, {stampOf(-1, -1), false}, {stampOf(0, 1<<20-1), true}, {stampOf(0, 1<<20), false}, {stampOf(5, math.MaxInt), false}, {stampOf(5, math.MinInt), false},
		{stampOf(1<<40, 0), true}, {stampOf(1<<40, 1<<20-2), true}, {stampOf(1<<40+1, 0), false}, {stampOf(1<<40, 1<<20), false}, {stampOf(1<<40, -1), false}, {stampOf(math.MaxInt, 0), false}, {stampOf(math.MinInt, 0), false},
	} {
		want := api.ErrArg
		if c.may {
			want = api.OK
		}
		answers(t, fmt.Sprint("Get, low ", c.low), gets(t, x, m, "a", txn, c.low), want)
		answers(t, fmt.Sprint("Scan, low ", c.low), scans(t, x, m, all, txn, c.low), want)
	}
}

// P12.2, P12.3: Read below, at and just above low.
func TestReadAtTheThreshold(t *testing.T) {
	m := with("a", kept(10, "x")).way("b", others(wall(3)))
	x := m.table(t)
	for _, low := range []api.Stamp{stampOf(0, 0), stampOf(0, 1), stampOf(1, 0), stampOf(9, 7), stampOf(9, 1<<20-1), stampOf(10, 0), stampOf(10, 1), stampOf(1<<40, 0), greatest} {
		for d := -3; d <= 3; d++ {
			n := place(low) + d
			if n < 0 || n > place(greatest) {
				continue
			}
			for _, limit := range []api.Stamp{{}, low, atPlace(n), greatest} {
				want := api.OK
				if d <= 0 {
					want = api.ErrOld
				}
				txn := me(atPlace(n), limit)
				answers(t, fmt.Sprintf("Read %v, low %v", txn.Read, low), gets(t, x, m, "none", txn, low), want)
				if e := holds(t, x, m, txn, low); (e == api.ErrOld) != (d <= 0) {
					t.Fatalf("Scan: Read %v, low %v: %d", txn.Read, low, e)
				}
			}
		}
	}
	for _, c := range []struct {
		read api.Stamp
		want api.Errno
	}{{stampOf(8, 9), api.ErrOld}, {stampOf(9, 6), api.ErrOld}, {stampOf(9, 7), api.ErrOld}, {stampOf(9, 8), api.OK}, {stampOf(10, 0), api.OK}} {
		answers(t, fmt.Sprint("Read ", c.read), gets(t, x, m, "none", me(c.read, wall(30)), stampOf(9, 7)), c.want)
	}
}

// P12.2, P12.3: of several errors that are due the first one is told: ErrArg, ErrOld, and then what stands under the keys, as the words' table puts it.
func TestWhichErrorComesFirst(t *testing.T) {
	for _, y := range []api.Intent{own(4, wall(12), change(1, "late")), others(wall(12)), own(2, wall(12), change(1, "past")), own(3, wall(12), change(1, "own")), others(wall(99))} {
		m := with("a", kept(10, "x"), kept(16, "y")).way("a", y)
		x := m.table(t)
		wrong := me(wall(15), wall(20))
		wrong.Id = 0
		old := me(wall(5), wall(20))
		odd := old
		odd.Epoch = -1
		for _, c := range []struct {
			what string
			key  string
			s    api.Span
			x    api.Txn
			low  api.Stamp
			want api.Errno
		}{
			{"no key, and old", "", api.Span{From: "b", To: "a"}, old, wall(5), api.ErrArg},
			{"may not read, and old", "a", all, odd, wall(5), api.ErrArg},
			{"may not read", "a", all, wrong, wall(5), api.ErrArg},
			{"no low", "a", all, old, stampOf(9, -1), api.ErrArg},
			{"no low, that is above Read", "a", all, old, stampOf(1<<40+1, 0), api.ErrArg},
			{"all that may not be", fill(33), api.Span{}, odd, stampOf(-1, 0), api.ErrArg},
			{"old", "a", all, old, wall(5), api.ErrOld},
			{"older", "a", all, old, wall(50), api.ErrOld},
		} {
			answers(t, c.what, gets(t, x, m, c.key, c.x, c.low), c.want)
			answers(t, c.what, scans(t, x, m, c.s, c.x, c.low), c.want)
		}
		holds(t, x, m, me(wall(15), wall(20)), wall(5))
	}
	// A later epoch's intent, another one's, and then what is unsure.
	m := with("a", kept(10, "x"), kept(16, "y"))
	for _, c := range []struct {
		y    api.Intent
		want api.Errno
	}{
		{own(4, wall(12), change(1, "late")), api.ErrStale}, {own(4, wall(99), change(1, "late")), api.ErrStale}, {others(wall(12)), api.ErrWait}, {others(wall(20)), api.ErrWait}, {others(wall(21)), api.ErrUnsure},
		{own(2, wall(12), change(1, "past")), api.ErrUnsure}, {own(3, wall(12), change(1, "own")), api.OK},
	} {
		n := m.copied().way("a", c.y)
		answers(t, fmt.Sprintf("%+v", c.y), gets(t, n.table(t), n, "a", me(wall(15), wall(20)), wall(5)), c.want)
	}
}

package poke_test

import (
	"fmt"
	"math"
	"strings"
	"testing"

	"scriptorium/api"
	"scriptorium/poke"
	"scriptorium/table"
)

// P13.1: the chapter's examples.
func TestExamples(t *testing.T) {
	base := with("a", kept(10))
	c := change(4, "z")
	x := me(wall(15))
	for _, r := range []struct {
		what string
		m    *shelf
		c    api.Change
		most api.Stamp
		at   api.Stamp // of the intent that is written
		want poke.Done // if none is
		e    api.Errno
	}{
		{"nothing more", base, c, wall(5), wall(15), poke.Done{}, api.OK},
		{"most is 15", base, c, wall(15), stampOf(15, 1), poke.Done{}, api.OK},
		{"a version at 20, too", base.copied().add("a", kept(20)), c, wall(5), stampOf(20, 1), poke.Done{}, api.OK},
		{"another one's intent", base.copied().way("a", others(wall(14))), c, wall(5), api.Stamp{}, poke.Done{Way: others(wall(14))}, api.ErrWait},
		{"another one's intent, at 0", base.copied().way("a", others(wall(0))), c, wall(5), api.Stamp{}, poke.Done{Way: others(wall(0))}, api.ErrWait},
		{"another one's intent, far above", base.copied().way("a", others(greatest)), c, wall(5), api.Stamp{}, poke.Done{Way: others(greatest)}, api.ErrWait},
		{"the same write once more, most 99", base.copied().way("a", made(x, wall(15), c)), c, wall(99), api.Stamp{}, poke.Done{Stamp: wall(15)}, api.OK},
		{"another Seq, that is less", base.copied().way("a", made(x, wall(15), c)), change(3, "z"), wall(5), api.Stamp{}, poke.Done{}, api.ErrStale},
	} {
		tab := r.m.table(t)
		d, e := poke.Put(tab, "a", r.c, x, r.most)
		answers(t, r.what, e, r.e)
		if r.at != (api.Stamp{}) {
			reads(t, r.what, "a", d.L, made(x, r.at, r.c))
			r.want = poke.Done{L: d.L, Stamp: r.at}
		}
		done(t, r.what, d, r.want)
		puts(t, tab, r.m, "a", r.c, x, r.most)
	}
}

// P13.1: a table that is nil, or a zero one, is looked for ahead of all else.
func TestOfNoTable(t *testing.T) {
	for i, x := range []*table.Table{nil, {}} {
		for _, txn := range []api.Txn{me(wall(15)), {}} {
			for _, c := range []api.Change{change(4, "z"), {}} {
				for _, most := range []api.Stamp{wall(5), stampOf(-1, 0), greatest} {
					for _, key := range []string{"a", "", fill(33)} {
						d, e := poke.Put(x, key, c, txn, most)
						answers(t, fmt.Sprint("Put of none ", i), e, api.ErrNil)
						done(t, "Put of none", d, poke.Done{})
					}
				}
			}
		}
	}
}

// P13.1: a table without keys is one.
func TestOfAnEmptyTable(t *testing.T) {
	x := table.New(0)
	d, e := poke.Put(x, "a", change(4, "z"), me(wall(15)), wall(5))
	answers(t, "Put", e, api.OK)
	reads(t, "Put", "a", d.L, made(me(wall(15)), wall(15), change(4, "z")))
	done(t, "Put", d, poke.Done{L: d.L, Stamp: wall(15)})
	if x.Len() != 0 {
		t.Errorf("the table has %d rows", x.Len())
	}
}

// P13.1: keys without bytes, of one and of the greatest length, and longer ones.
func TestKeys(t *testing.T) {
	m := newShelf()
	for _, key := range []string{"k", fill(32)} {
		m.add(key, kept(20))
	}
	x := m.table(t)
	for _, key := range []string{"\x00", "k", "\xff", fill(31), fill(32), strings.Repeat("\x00", 32), strings.Repeat("\xff", 32), strings.Repeat("é", 16), "unknown", fill(30)} {
		_, e := puts(t, x, m, key, change(4, "z"), me(wall(15)), wall(5))
		answers(t, key, e, api.OK)
	}
	for _, key := range []string{"", fill(33), fill(34), fill(64), fill(65), fill(300), fill(1000), fill(1001), fill(1 << 16), strings.Repeat("\x00", 33), strings.Repeat("\xff", 33), strings.Repeat("é", 17)} {
		_, e := puts(t, x, m, key, change(4, "z"), me(wall(15)), wall(5))
		answers(t, fmt.Sprintf("%.10q", key), e, api.ErrArg)
	}
}

// P13.1: changes that may be, and that may not: Seq and Value at both ends and beyond, a Del with bytes and without.
func TestChanges(t *testing.T) {
	for _, m := range []*shelf{newShelf(), with("a", kept(20)), with("a", kept(10)).way("a", own(2, wall(30), change(1, "past")))} {
		x := m.table(t)
		for _, r := range []struct {
			c    api.Change
			want api.Errno
		}{
			{change(math.MinInt, "z"), api.ErrArg}, {change(-1, "z"), api.ErrArg}, {change(0, "z"), api.ErrArg}, {change(1, "z"), api.OK}, {change(2, "z"), api.OK},
			{change(1<<53-2, "z"), api.OK}, {change(1<<53-1, "z"), api.OK}, {change(1<<53, "z"), api.ErrArg}, {change(1<<53+1, "z"), api.ErrArg}, {change(1<<55, "z"), api.ErrArg}, {change(math.MaxInt, "z"), api.ErrArg},
			{change(1, ""), api.OK}, {change(1, "\x00"), api.OK}, {change(1, fill(63)), api.OK}, {change(1, fill(64)), api.OK}, {change(1, strings.Repeat("\xff", 64)), api.OK}, {change(1, strings.Repeat("é", 32)), api.OK},
			{change(1, fill(65)), api.ErrArg}, {change(1, fill(66)), api.ErrArg}, {change(1, strings.Repeat("é", 33)), api.ErrArg}, {change(1, fill(300)), api.ErrArg}, {change(1, fill(1<<16)), api.ErrArg},
			{del(1), api.OK}, {del(1<<53 - 1), api.OK}, {del(0), api.ErrArg}, {del(-1), api.ErrArg}, {del(1 << 53), api.ErrArg},
			{api.Change{Seq: 1, Value: "z", Del: true}, api.ErrArg}, {api.Change{Seq: 1, Value: "\x00", Del: true}, api.ErrArg}, {api.Change{Seq: 1, Value: fill(64), Del: true}, api.ErrArg}, {api.Change{Seq: 1, Value: fill(65), Del: true}, api.ErrArg},
			{api.Change{}, api.ErrArg},
		} {
			d, e := puts(t, x, m, "a", r.c, me(wall(15)), wall(5))
			what := fmt.Sprintf("Seq %d, %d bytes, Del %t", r.c.Seq, len(r.c.Value), r.c.Del)
			answers(t, what, e, r.want)
			if e == api.OK {
				reads(t, what, "a", d.L, made(me(wall(15)), d.Stamp, r.c))
			}
		}
	}
}

// numbered is a transaction with one number that may be or not.
type numbered struct {
	what string
	may  bool
	x    api.Txn
}

// numbersOf are at both ends of what may be, and beyond.
func numbersOf(what string, least, most int, set func(x *api.Txn, n int)) []numbered {
	var l []numbered
	for _, n := range []int{math.MinInt, -1 << 53, -1, least - 1, least, least + 1, most - 1, most, most + 1, 1 << 55, math.MaxInt} {
		x := me(wall(15))
		set(&x, n)
		l = append(l, numbered{fmt.Sprint(what, " is ", n), n >= least && n <= most, x})
	}
	return l
}

// stampsOf are numbersOf both parts of a stamp, also where the other part is at an end.
func stampsOf(what string, of func(x *api.Txn) *api.Stamp) []numbered {
	l := numbersOf(what+".Wall", 0, 1<<40, func(x *api.Txn, n int) { *of(x) = stampOf(n, 1) })
	l = append(l, numbersOf(what+".Wall with the greatest Logic", 0, 1<<40, func(x *api.Txn, n int) { *of(x) = stampOf(n, 1<<20-1) })...)
	l = append(l, numbersOf(what+".Logic", 0, 1<<20-1, func(x *api.Txn, n int) { *of(x) = stampOf(14, n) })...)
	l = append(l, numbersOf(what+".Logic at the greatest Wall", 0, 1<<20-1, func(x *api.Txn, n int) { *of(x) = stampOf(1<<40, n) })...)
	return append(l, numbersOf(what+".Logic at the least Wall", 0, 1<<20-1, func(x *api.Txn, n int) { *of(x) = stampOf(0, n) })...)
}

// P13.1: who may write: each field at its least and greatest, one below and one above.
func TestTransactionsThatMayWrite(t *testing.T) {
	m := with("a", kept(10)).add("b", kept(20)).way("b", own(0, wall(30), change(1, "past")))
	x := m.table(t)
	for _, l := range [][]numbered{
		numbersOf("Id", 1, 1<<53-1, func(x *api.Txn, n int) { x.Id = n }),
		numbersOf("Epoch", 0, 1<<53-1, func(x *api.Txn, n int) { x.Epoch = n }),
		numbersOf("Priority", 1, 1000, func(x *api.Txn, n int) { x.Priority = n }),
		stampsOf("Read", func(x *api.Txn) *api.Stamp { return &x.Read }),
		stampsOf("Limit", func(x *api.Txn) *api.Stamp { return &x.Limit }),
		stampsOf("Write", func(x *api.Txn) *api.Stamp { return &x.Write }),
		stampsOf("Beat", func(x *api.Txn) *api.Stamp { return &x.Beat }),
	} {
		for _, c := range l {
			if mayWrite(c.x) != c.may {
				t.Fatalf("%s: the words' own say %t", c.what, !c.may)
			}
			d, e := puts(t, x, m, "a", change(4, "z"), c.x, wall(5))
			if (e == api.OK) != c.may || (e == api.ErrArg) == c.may {
				t.Errorf("%s: %d", c.what, e)
			}
			if e == api.OK {
				reads(t, c.what, "a", d.L, made(c.x, d.Stamp, change(4, "z")))
			}
			puts(t, x, m, "b", change(4, "z"), c.x, wall(5))
		}
	}
}

// P13.1: an Anchor that may be, and one that may not; it need not be the key.
func TestAnchors(t *testing.T) {
	m := with("a", kept(10))
	x := m.table(t)
	for _, c := range []struct {
		anchor string
		want   api.Errno
	}{
		{"", api.ErrArg}, {"\x00", api.OK}, {"a", api.OK}, {"\xff", api.OK}, {"anchor", api.OK}, {fill(31), api.OK}, {fill(32), api.OK}, {strings.Repeat("\x00", 32), api.OK}, {strings.Repeat("\xff", 32), api.OK}, {strings.Repeat("é", 16), api.OK},
		{fill(33), api.ErrArg}, {strings.Repeat("\x00", 33), api.ErrArg}, {strings.Repeat("é", 17), api.ErrArg}, {fill(64), api.ErrArg}, {fill(1001), api.ErrArg}, {fill(1 << 16), api.ErrArg},
	} {
		txn := me(wall(15))
		txn.Anchor = c.anchor
		d, e := puts(t, x, m, "a", change(4, "z"), txn, wall(5))
		answers(t, fmt.Sprintf("%.20q", c.anchor), e, c.want)
		if e == api.OK {
			reads(t, c.anchor, "a", d.L, made(txn, wall(15), change(4, "z")))
		}
	}
}

// P13.1: a most that may not be, at its ends and beyond.
func TestMostThatMayNotBe(t *testing.T) {
	for _, m := range []*shelf{with("a", kept(10)), with("a").way("a", made(me(wall(15)), wall(15), change(4, "z"))), with("a").way("a", others(wall(9)))} {
		x := m.table(t)
		for _, c := range []struct {
			most api.Stamp
			may  bool
		}{
			{stampOf(0, 0), true}, {stampOf(-1, 0), false}, {stampOf(0, -1), false}, {stampOf(-1, -1), false}, {stampOf(0, 1<<20-1), true}, {stampOf(0, 1<<20), false}, {stampOf(5, math.MaxInt), false}, {stampOf(5, math.MinInt), false},
			{stampOf(1<<40, 0), true}, {stampOf(1<<40, 1<<20-2), true}, {greatest, true}, {stampOf(1<<40+1, 0), false}, {stampOf(1<<40, 1<<20), false}, {stampOf(1<<40, -1), false}, {stampOf(math.MaxInt, 0), false}, {stampOf(math.MinInt, 0), false},
		} {
			if mayStamp(c.most) != c.may {
				t.Fatalf("most %v: the words' own say %t", c.most, !c.may)
			}
			_, e := puts(t, x, m, "a", change(4, "z"), me(wall(15)), c.most)
			if (e == api.ErrArg) == c.may {
				t.Errorf("most %v: %d", c.most, e)
			}
		}
	}
}

// wrong are ways to hand in what may not be.
func wrong() []func(key *string, c *api.Change, x *api.Txn, most *api.Stamp) {
	type in = func(key *string, c *api.Change, x *api.Txn, most *api.Stamp)
	return []in{
		func(key *string, _ *api.Change, _ *api.Txn, _ *api.Stamp) { *key = "" },
		func(key *string, _ *api.Change, _ *api.Txn, _ *api.Stamp) { *key = fill(33) },
		func(_ *string, c *api.Change, _ *api.Txn, _ *api.Stamp) { c.Seq = 0 },
		func(_ *string, c *api.Change, _ *api.Txn, _ *api.Stamp) { c.Value = fill(65) },
		func(_ *string, c *api.Change, _ *api.Txn, _ *api.Stamp) { c.Del, c.Value = true, "z" },
		func(_ *string, _ *api.Change, x *api.Txn, _ *api.Stamp) { x.Id = 0 },
		func(_ *string, _ *api.Change, x *api.Txn, _ *api.Stamp) { x.Epoch = -1 },
		func(_ *string, _ *api.Change, x *api.Txn, _ *api.Stamp) { x.Priority = 1001 },
		func(_ *string, _ *api.Change, x *api.Txn, _ *api.Stamp) { x.Anchor = "" },
		func(_ *string, _ *api.Change, x *api.Txn, _ *api.Stamp) { x.Read.Logic = -1 },
		func(_ *string, _ *api.Change, x *api.Txn, _ *api.Stamp) { x.Limit.Logic = 1 << 20 },
		func(_ *string, _ *api.Change, x *api.Txn, _ *api.Stamp) { x.Write.Wall = -1 },
		func(_ *string, _ *api.Change, x *api.Txn, _ *api.Stamp) { x.Beat.Wall = 1<<40 + 1 },
		func(_ *string, _ *api.Change, _ *api.Txn, most *api.Stamp) { most.Wall = 1<<40 + 1 },
		func(_ *string, _ *api.Change, _ *api.Txn, most *api.Stamp) { most.Logic = -1 },
	}
}

// P13.1: what is handed in is looked at ahead of all that stands in the table: one thing that may not be, or two, is ErrArg, whatever is due behind it.
func TestWhatMayNotBeComesFirst(t *testing.T) {
	for _, m := range []*shelf{
		newShelf(),
		with("a", kept(10)).way("a", others(wall(9))),
		with("a", kept(10)).way("a", own(4, wall(9), change(1, "late"))),
		with("a", kept(10)).way("a", own(3, wall(9), change(4, "z"))),
		with("a", kept(10)).way("a", own(3, wall(9), change(9, "newer"))),
		with("a", kept(10)).way("a", own(3, wall(9), changes(16)...)),
		with("a", keptAt(greatest)),
	} {
		x := m.table(t)
		for i, one := range wrong() {
			for _, two := range wrong()[i:] {
				for _, seq := range []int{4, 99} {
					key, c, txn, most := "a", change(seq, "z"), me(wall(15)), greatest
					one(&key, &c, &txn, &most)
					two(&key, &c, &txn, &most)
					_, e := puts(t, x, m, key, c, txn, most)
					answers(t, fmt.Sprintf("%.40q, %+.90v, %+.90v, %v", key, c, txn, most), e, api.ErrArg)
				}
			}
		}
	}
}

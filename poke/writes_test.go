package poke_test

import (
	"fmt"
	"slices"
	"strings"
	"testing"

	"scriptorium/api"
	"scriptorium/cell"
	"scriptorium/poke"
)

// P13.1: each row of the words' table, in plain words.
func TestRows(t *testing.T) {
	x := me(wall(15))
	c := change(6, "z")
	wait := func(y api.Intent) poke.Done { return poke.Done{Way: y} }
	for _, r := range []struct {
		what string
		y    api.Intent // without an Id: none
		c    api.Change
		want poke.Done
		e    api.Errno
		l    []api.Change // of the intent that is written, at 15
	}{
		{"no intent", api.Intent{}, c, poke.Done{}, api.OK, []api.Change{c}},
		{"no intent, a Del", api.Intent{}, del(6), poke.Done{}, api.OK, []api.Change{del(6)}},
		{"another one's", others(wall(14)), c, wait(others(wall(14))), api.ErrWait, nil},
		{"another one's, of one with the same changes", api.Intent{Id: 6, Epoch: 3, Priority: 5, Anchor: "anchor", Stamp: wall(15), Beat: wall(80), L: []api.Change{c}}, c, wait(api.Intent{Id: 6, Epoch: 3, Priority: 5, Anchor: "anchor", Stamp: wall(15), Beat: wall(80), L: []api.Change{c}}), api.ErrWait, nil},
		{"its own, of the next epoch", own(4, wall(14), change(1, "late")), c, poke.Done{}, api.ErrStale, nil},
		{"its own, of the last epoch", own(1<<53-1, wall(14), change(1, "late")), c, poke.Done{}, api.ErrStale, nil},
		{"the same change", own(3, wall(14), change(6, "z")), c, poke.Done{Stamp: wall(14)}, api.OK, nil},
		{"the same Del", own(3, wall(14), del(6)), del(6), poke.Done{Stamp: wall(14)}, api.OK, nil},
		{"the same value without bytes", own(3, wall(14), change(6, "")), change(6, ""), poke.Done{Stamp: wall(14)}, api.OK, nil},
		{"the same change, far above", own(3, wall(1000), change(6, "z")), c, poke.Done{Stamp: wall(1000)}, api.OK, nil},
		{"the same change, at 0", own(3, wall(0), change(6, "z")), c, poke.Done{}, api.OK, nil},
		{"the same change, ahead of others", own(3, wall(14), change(6, "z"), change(7, "newer"), del(9)), c, poke.Done{Stamp: wall(14)}, api.OK, nil},
		{"the same change, among others", own(3, wall(14), change(2, "elder"), change(6, "z"), del(9)), c, poke.Done{Stamp: wall(14)}, api.OK, nil},
		{"the same change, behind others", own(3, wall(14), change(2, "elder"), del(3), change(6, "z")), c, poke.Done{Stamp: wall(14)}, api.OK, nil},
		{"another value", own(3, wall(14), change(6, "y")), c, poke.Done{}, api.ErrArg, nil},
		{"a longer value", own(3, wall(14), change(6, "zz")), c, poke.Done{}, api.ErrArg, nil},
		{"a value without bytes", own(3, wall(14), change(6, "")), c, poke.Done{}, api.ErrArg, nil},
		{"a Del", own(3, wall(14), del(6)), c, poke.Done{}, api.ErrArg, nil},
		{"a Del, and a value without bytes", own(3, wall(14), del(6)), change(6, ""), poke.Done{}, api.ErrArg, nil},
		{"a value without bytes, and a Del", own(3, wall(14), change(6, "")), del(6), poke.Done{}, api.ErrArg, nil},
		{"a value, and a Del", own(3, wall(14), change(6, "z")), del(6), poke.Done{}, api.ErrArg, nil},
		{"another value, ahead of others", own(3, wall(14), change(6, "y"), change(7, "z")), c, poke.Done{}, api.ErrArg, nil},
		{"another value, among others", own(3, wall(14), change(5, "z"), change(6, "y"), change(7, "z")), c, poke.Done{}, api.ErrArg, nil},
		{"another value, behind others", own(3, wall(14), change(5, "z"), change(6, "y")), c, poke.Done{}, api.ErrArg, nil},
		{"below the only one", own(3, wall(14), change(7, "z")), c, poke.Done{}, api.ErrStale, nil},
		{"far below the only one", own(3, wall(14), change(1<<53-1, "z")), c, poke.Done{}, api.ErrStale, nil},
		{"below all", own(3, wall(14), change(7, "z"), change(8, "z")), c, poke.Done{}, api.ErrStale, nil},
		{"between two", own(3, wall(14), change(5, "z"), change(7, "z")), c, poke.Done{}, api.ErrStale, nil},
		{"behind the only one", own(3, wall(14), change(5, "z")), c, poke.Done{}, api.OK, []api.Change{change(5, "z"), c}},
		{"far behind the only one", own(3, wall(14), change(1, "z")), del(1<<53 - 1), poke.Done{}, api.OK, []api.Change{change(1, "z"), del(1<<53 - 1)}},
		{"behind two", own(3, wall(14), del(1), change(5, "")), c, poke.Done{}, api.OK, []api.Change{del(1), change(5, ""), c}},
		{"behind 15", own(3, wall(14), changes(15)...), change(46, "z"), poke.Done{}, api.OK, append(changes(15), change(46, "z"))},
		{"behind 16", own(3, wall(14), changes(16)...), change(49, "z"), poke.Done{}, api.ErrFull, nil},
		{"the last one of 16", own(3, wall(14), changes(16)...), changes(16)[15], poke.Done{Stamp: wall(14)}, api.OK, nil},
		{"the first one of 16", own(3, wall(14), changes(16)...), changes(16)[0], poke.Done{Stamp: wall(14)}, api.OK, nil},
		{"one of the 16", own(3, wall(14), changes(16)...), changes(16)[8], poke.Done{Stamp: wall(14)}, api.OK, nil},
		{"another one than one of the 16", own(3, wall(14), changes(16)...), change(27, "z"), poke.Done{}, api.ErrArg, nil},
		{"another one than the last of the 16", own(3, wall(14), changes(16)...), del(48), poke.Done{}, api.ErrArg, nil},
		{"between the last two of 16", own(3, wall(14), changes(16)...), change(47, "z"), poke.Done{}, api.ErrStale, nil},
		{"below all 16", own(3, wall(14), changes(16)...), change(2, "z"), poke.Done{}, api.ErrStale, nil},
		{"its own, of the epoch ahead", own(2, wall(14), change(5, "past")), c, poke.Done{}, api.OK, []api.Change{c}},
		{"its own, of the first epoch", own(0, wall(14), change(5, "past")), c, poke.Done{}, api.OK, []api.Change{c}},
		{"its own, of an earlier epoch, far above", own(2, wall(1000), change(5, "past")), c, poke.Done{}, api.OK, []api.Change{c}},
		{"its own, of an earlier epoch, the same change", own(2, wall(14), change(6, "z")), c, poke.Done{}, api.OK, []api.Change{c}},
		{"its own, of an earlier epoch, the same Seq", own(2, wall(14), change(6, "y")), c, poke.Done{}, api.OK, []api.Change{c}},
		{"its own, of an earlier epoch, behind", own(2, wall(14), change(7, "past")), c, poke.Done{}, api.OK, []api.Change{c}},
		{"its own, of an earlier epoch, with 16", own(2, wall(14), changes(16)...), c, poke.Done{}, api.OK, []api.Change{c}},
	} {
		m := with("a", kept(10))
		if r.y.Id != 0 {
			m.way("a", r.y)
		}
		tab := m.table(t)
		d, e := poke.Put(tab, "a", r.c, x, wall(5))
		answers(t, r.what, e, r.e)
		if r.l != nil {
			reads(t, r.what, "a", d.L, made(x, wall(15), r.l...))
			r.want = poke.Done{L: d.L, Stamp: wall(15)}
		}
		done(t, r.what, d, r.want)
		puts(t, tab, m, "a", r.c, x, wall(5))
	}
}

// P13.1: each two rows at once, and more of them: the first one is told.
func TestTwoRowsAtOnce(t *testing.T) {
	mine := func(epoch int, l ...api.Change) api.Intent { return own(epoch, wall(14), l...) }
	foreign := func(epoch int, l ...api.Change) api.Intent {
		y := mine(epoch, l...)
		y.Id = 8
		return y
	}
	same, other, full := change(6, "z"), change(6, "y"), append(changes(15), change(100, "last"))
	for _, r := range []struct {
		what  string
		y     api.Intent
		c     api.Change
		fails bool // a Next
		e     api.Errno
	}{
		{"another one's, of a later epoch", foreign(4, change(1, "y")), same, false, api.ErrWait},
		{"another one's, with that change", foreign(3, same), same, false, api.ErrWait},
		{"another one's, with that Seq", foreign(3, other), same, false, api.ErrWait},
		{"another one's, with a greater Seq", foreign(3, change(9, "y")), same, false, api.ErrWait},
		{"another one's, that is full", foreign(3, changes(16)...), change(99, "z"), false, api.ErrWait},
		{"another one's, a Next fails", foreign(3, change(1, "y")), same, true, api.ErrWait},
		{"another one's, which has a place", foreign(3, change(1, "y")), same, false, api.ErrWait},
		{"another one's, of an earlier epoch", foreign(2, change(1, "y")), same, false, api.ErrWait},
		{"another one's, and all else", foreign(4, full...), changes(15)[3], true, api.ErrWait},
		{"a later epoch, with that change", mine(4, same), same, false, api.ErrStale},
		{"a later epoch, with that Seq", mine(4, other), same, false, api.ErrStale},
		{"a later epoch, with a greater Seq", mine(4, change(9, "y")), same, false, api.ErrStale},
		{"a later epoch, that is full", mine(4, changes(16)...), change(99, "z"), false, api.ErrStale},
		{"a later epoch, a Next fails", mine(4, change(1, "y")), same, true, api.ErrStale},
		{"a later epoch, and all else", mine(4, full...), changes(15)[3], true, api.ErrStale},
		{"that change, with a greater Seq", mine(3, same, change(9, "y")), same, false, api.OK},
		{"that change, that is full", mine(3, full...), full[15], false, api.OK},
		{"that change, full, with a greater Seq", mine(3, full...), full[3], false, api.OK},
		{"that change, a Next fails", mine(3, same), same, true, api.OK},
		{"that change, and all else", mine(3, full...), full[3], true, api.OK},
		{"that Seq, with a greater Seq", mine(3, other, change(9, "y")), same, false, api.ErrArg},
		{"that Seq, that is full", mine(3, full...), change(100, "z"), false, api.ErrArg},
		{"that Seq, full, with a greater Seq", mine(3, full...), change(9, "z"), false, api.ErrArg},
		{"that Seq, a Next fails", mine(3, other), same, true, api.ErrArg},
		{"that Seq, and all else", mine(3, full...), change(9, "z"), true, api.ErrArg},
		{"a greater Seq, that is full", mine(3, full...), change(99, "z"), false, api.ErrStale},
		{"a greater Seq, a Next fails", mine(3, change(9, "y")), same, true, api.ErrStale},
		{"a greater Seq, full, a Next fails", mine(3, full...), change(99, "z"), true, api.ErrStale},
		{"full, a Next fails", mine(3, full...), change(101, "z"), true, api.ErrFull},
		{"a Next fails, its own", mine(3, change(1, "y")), same, true, api.ErrLimit},
		{"a Next fails, of an earlier epoch", mine(2, change(1, "y")), same, true, api.ErrLimit},
	} {
		m := with("a", kept(10)).way("a", r.y)
		if !r.fails {
			_, e := puts(t, m.table(t), m, "a", r.c, me(wall(15)), wall(5))
			answers(t, r.what, e, r.e)
			continue
		}
		_, e := puts(t, m.table(t), m, "a", r.c, me(wall(15)), greatest)
		answers(t, r.what+", of most", e, r.e)
		m.add("a", keptAt(greatest))
		_, e = puts(t, m.table(t), m, "a", r.c, me(wall(15)), wall(5))
		answers(t, r.what+", of a version", e, r.e)
		_, e = puts(t, m.table(t), m, "a", r.c, me(wall(15)), greatest)
		answers(t, r.what+", of both", e, r.e)
	}
	for _, m := range []*shelf{newShelf(), with("a", kept(10))} {
		_, e := puts(t, m.table(t), m, "a", same, me(wall(15)), greatest)
		answers(t, "a Next fails, no intent", e, api.ErrLimit)
	}
}

// P13.1: all kinds of intents, with all kinds of changes, versions and mosts, as the words put it.
func TestRowsOfAllKinds(t *testing.T) {
	counts := map[api.Errno]int{}
	lists := [][]api.Change{{change(6, "z")}, {del(6)}, {change(6, "")}, {change(5, "y"), change(6, "z"), del(7)}, {del(2), change(4, "y")}, changes(15), changes(16)}
	tried := []api.Change{change(6, "z"), del(6), change(6, ""), change(1, "z"), change(7, "z"), change(45, "the change 14"), change(48, "the change 15"), change(50, "z"), del(50)}
	for _, id := range []int{1, 6, 7, 8, 1<<53 - 1} {
		for _, epoch := range []int{0, 2, 3, 4, 1<<53 - 1} {
			for _, l := range lists {
				for _, at := range []api.Stamp{wall(0), wall(14), wall(15), stampOf(15, 1), wall(30), greatest} {
					y := own(epoch, at, l...)
					y.Id = id
					for _, v := range [][]version{nil, {kept(10)}, {kept(10), gone(wall(20))}, {keptAt(greatest)}} {
						m := with("a", v...).way("a", y)
						x := m.table(t)
						for _, c := range tried {
							for _, most := range []api.Stamp{wall(5), stampOf(15, 7), greatest} {
								_, e := puts(t, x, m, "a", c, me(wall(15)), most)
								counts[e]++
							}
						}
					}
				}
			}
		}
	}
	for _, e := range []api.Errno{api.OK, api.ErrWait, api.ErrStale, api.ErrArg, api.ErrFull, api.ErrLimit} {
		if counts[e] < 100 {
			t.Errorf("%d only %d times", e, counts[e])
		}
	}
}

// P13.1: epochs beside each other at both ends of all that may be.
func TestEpochs(t *testing.T) {
	counts := map[api.Errno]int{}
	for _, epoch := range []int{0, 1, 2, 1<<53 - 2, 1<<53 - 1} {
		for _, of := range []int{0, 1, 2, 1<<53 - 2, 1<<53 - 1} {
			for _, at := range []api.Stamp{wall(0), wall(30)} {
				m := with("a", kept(10)).way("a", own(of, at, change(5, "y")))
				x := m.table(t)
				txn := me(wall(15))
				txn.Epoch = epoch
				for _, c := range []api.Change{change(5, "y"), change(5, "z"), change(4, "z"), change(6, "z")} {
					_, e := puts(t, x, m, "a", c, txn, wall(5))
					counts[e]++
				}
			}
		}
	}
	for _, e := range []api.Errno{api.OK, api.ErrStale, api.ErrArg} {
		if counts[e] < 10 {
			t.Errorf("%d only %d times", e, counts[e])
		}
	}
}

// P13.1: another one's intent is in the way below, at and above all stamps of the transaction, whatever is in it.
func TestIntentsInTheWay(t *testing.T) {
	txn := api.Txn{Id: 7, Epoch: 3, Priority: 5, Anchor: "anchor", Read: wall(12), Write: wall(15), Limit: wall(20), Beat: wall(30)}
	var l []api.Stamp
	for _, at := range []api.Stamp{txn.Read, txn.Write, txn.Limit, txn.Beat, wall(10), wall(5)} { // a version's and most, too
		l = append(l, atPlace(place(at)-1), at, atPlace(place(at)+1))
	}
	for _, at := range append(l, wall(0), stampOf(0, 1), atPlace(place(greatest)-1), greatest) {
		for _, y := range []api.Intent{others(at), {Id: 1, Priority: 1, Anchor: "\x00", Stamp: at, L: []api.Change{del(1)}}, {Id: 1<<53 - 1, Epoch: 1<<53 - 1, Priority: 1000, Anchor: fill(32), Stamp: at, Beat: greatest, L: changes(16)}} {
			for _, m := range []*shelf{newShelf(), with("a", kept(10)), with("a", keptAt(greatest))} {
				m.way("a", y)
				d, e := puts(t, m.table(t), m, "a", change(4, "z"), txn, wall(5))
				answers(t, fmt.Sprint("an intent at ", at), e, api.ErrWait)
				done(t, "it waits", d, poke.Done{Way: y})
			}
		}
	}
}

// P13.1: the new stamp: each of its four parts in turn is the greatest, alone and with another one.
func TestTheNewStamp(t *testing.T) {
	none := api.Stamp{}
	for _, r := range []struct {
		what                       string
		write, version, most, mine api.Stamp // the zero stamp: no version, no own intent
		want                       api.Stamp
	}{
		{"Write alone", wall(15), none, none, none, wall(15)},
		{"Write above all", wall(15), wall(14), wall(13), wall(12), wall(15)},
		{"Write, next above a version", stampOf(15, 4), stampOf(15, 2), none, none, stampOf(15, 4)},
		{"Write and a version's next", stampOf(15, 4), stampOf(15, 3), none, none, stampOf(15, 4)},
		{"Write at a version", stampOf(15, 4), stampOf(15, 4), none, none, stampOf(15, 5)},
		{"Write below a version", stampOf(15, 4), stampOf(15, 5), none, none, stampOf(15, 6)},
		{"Write above most", stampOf(15, 4), none, stampOf(15, 2), none, stampOf(15, 4)},
		{"Write and most's next", stampOf(15, 4), none, stampOf(15, 3), none, stampOf(15, 4)},
		{"Write at most", stampOf(15, 4), none, stampOf(15, 4), none, stampOf(15, 5)},
		{"Write below most", stampOf(15, 4), none, stampOf(15, 5), none, stampOf(15, 6)},
		{"Write above its own", stampOf(15, 4), none, none, stampOf(15, 3), stampOf(15, 4)},
		{"Write and its own", stampOf(15, 4), none, none, stampOf(15, 4), stampOf(15, 4)},
		{"Write below its own", stampOf(15, 4), none, none, stampOf(15, 5), stampOf(15, 5)},
		{"a version alone above all", wall(15), wall(20), wall(19), wall(18), stampOf(20, 1)},
		{"a version above most", wall(15), stampOf(20, 3), stampOf(20, 2), none, stampOf(20, 4)},
		{"a version and most", wall(15), stampOf(20, 3), stampOf(20, 3), none, stampOf(20, 4)},
		{"a version below most", wall(15), stampOf(20, 3), stampOf(20, 4), none, stampOf(20, 5)},
		{"a version's next above its own", wall(15), stampOf(20, 3), none, stampOf(20, 3), stampOf(20, 4)},
		{"a version's next and its own", wall(15), stampOf(20, 3), none, stampOf(20, 4), stampOf(20, 4)},
		{"a version's next below its own", wall(15), stampOf(20, 3), none, stampOf(20, 5), stampOf(20, 5)},
		{"most alone above all", wall(15), wall(18), wall(20), wall(19), stampOf(20, 1)},
		{"most's next above its own", wall(15), none, stampOf(20, 3), stampOf(20, 3), stampOf(20, 4)},
		{"most's next and its own", wall(15), none, stampOf(20, 3), stampOf(20, 4), stampOf(20, 4)},
		{"most's next below its own", wall(15), none, stampOf(20, 3), stampOf(20, 5), stampOf(20, 5)},
		{"its own alone above all", wall(15), wall(18), wall(19), wall(20), wall(20)},
		{"its own, the greatest that may be", wall(15), wall(18), wall(19), greatest, greatest},
		{"Write, the greatest that may be", greatest, wall(18), wall(19), wall(20), greatest},
		{"all four", stampOf(20, 4), stampOf(20, 3), stampOf(20, 3), stampOf(20, 4), stampOf(20, 4)},
		{"most is the zero stamp, Write is, too", none, none, none, none, stampOf(0, 1)},
		{"Write is the zero stamp", none, none, wall(9), none, stampOf(9, 1)},
		{"a version's Logic at its end", wall(15), stampOf(20, 1<<20-1), wall(5), none, wall(21)},
		{"most's Logic at its end", wall(15), wall(5), stampOf(20, 1<<20-1), none, wall(21)},
		{"a version's Logic ahead of its end", wall(15), stampOf(20, 1<<20-2), wall(5), none, stampOf(20, 1<<20-1)},
		{"most's Logic ahead of its end", wall(15), wall(5), stampOf(20, 1<<20-2), none, stampOf(20, 1<<20-1)},
		{"a version's Logic at its end, its own behind that", wall(15), stampOf(20, 1<<20-1), wall(5), stampOf(21, 1), stampOf(21, 1)},
		{"a version's Logic at its end, below Write", wall(15), stampOf(14, 1<<20-1), wall(5), none, wall(15)},
		{"most's Logic at its end, below Write", wall(15), none, stampOf(14, 1<<20-1), none, wall(15)},
		{"a version just below the greatest", wall(15), atPlace(place(greatest) - 1), wall(5), none, greatest},
		{"most just below the greatest", wall(15), wall(5), atPlace(place(greatest) - 1), none, greatest},
		{"both just below the greatest", greatest, atPlace(place(greatest) - 1), atPlace(place(greatest) - 1), greatest, greatest},
		{"the last Logic of the last Wall but one", wall(15), stampOf(1<<40-1, 1<<20-1), wall(5), none, wall(1 << 40)},
	} {
		m := newShelf()
		l := []api.Change{change(6, "z")}
		if r.version != none {
			m.add("a", keptAt(r.version))
		}
		if r.mine != none {
			l = []api.Change{change(5, "y"), change(6, "z")}
			m.way("a", own(3, r.mine, change(5, "y")))
		}
		d, e := puts(t, m.table(t), m, "a", change(6, "z"), me(r.write), r.most)
		answers(t, r.what, e, api.OK)
		reads(t, r.what, "a", d.L, made(me(r.write), r.want, l...))
		done(t, r.what, d, poke.Done{L: d.L, Stamp: r.want})
	}
}

// P13.1: the new stamp of all choices of its four parts among few that stand beside each other, at the end of a Logic, and at the end of all.
func TestNewStampsOfAllParts(t *testing.T) {
	counts := map[api.Errno]int{}
	for _, from := range []int{0, place(stampOf(15, 4)), place(stampOf(15, 1<<20-3)), place(greatest) - 4} {
		for n := range 6 * 6 * 6 * 5 {
			version, mine, write, most := n%6, n/6%6, n/36%5, n/180%5
			m := newShelf()
			if version < 5 {
				m.add("a", keptAt(atPlace(from+version)))
			}
			if mine < 5 {
				m.way("a", own(3, atPlace(from+mine), change(5, "y")))
			}
			_, e := puts(t, m.table(t), m, "a", change(6, "z"), me(atPlace(from+write)), atPlace(from+most))
			counts[e]++
			isLast := from+5 > place(greatest) && (version == 4 || most == 4)
			if (e == api.ErrLimit) != isLast {
				t.Fatalf("a version at %d of %d, most at %d: %d", version, from, most, e)
			}
		}
	}
	if counts[api.OK] < 1000 || counts[api.ErrLimit] < 100 {
		t.Errorf("OK and ErrLimit: %v", counts)
	}
}

// P13.1: a Next that fails: of a version, of most, of both; nothing is told beside the error.
func TestNextsThatFail(t *testing.T) {
	for _, r := range []struct {
		what          string
		version, most api.Stamp
		want          api.Errno
	}{
		{"a version's", greatest, wall(5), api.ErrLimit},
		{"most's", wall(10), greatest, api.ErrLimit},
		{"both", greatest, greatest, api.ErrLimit},
		{"a version's, most just below", greatest, atPlace(place(greatest) - 1), api.ErrLimit},
		{"most's, a version just below", atPlace(place(greatest) - 1), greatest, api.ErrLimit},
		{"none", atPlace(place(greatest) - 1), atPlace(place(greatest) - 1), api.OK},
	} {
		for _, write := range []api.Stamp{wall(0), wall(15), greatest} {
			for _, gone := range []bool{false, true} {
				m := with("a", kept(3), version{at: r.version, gone: gone})
				for _, y := range []api.Intent{{}, own(3, wall(14), change(1, "y")), own(3, greatest, change(1, "y")), own(2, greatest, change(9, "past"))} {
					n := m.copied()
					if y.Id != 0 {
						n.way("a", y)
					}
					d, e := puts(t, n.table(t), n, "a", change(6, "z"), me(write), r.most)
					answers(t, r.what, e, r.want)
					if e != api.OK {
						done(t, r.what, d, poke.Done{})
					}
				}
			}
		}
	}
}

// P13.1: no version, one, and several: the greatest one counts, also one that is gone, and those of other keys do not.
func TestVersions(t *testing.T) {
	ladder := []api.Stamp{stampOf(13, 1<<20-1), wall(14), stampOf(14, 1<<20-1), wall(15), stampOf(15, 1), wall(40)}
	for n := range 3 * 3 * 3 * 3 * 3 * 3 {
		m := with("\x00", kept(90)).add("a\x00", keptAt(greatest)).add("Z", keptAt(greatest)).add("b", keptAt(greatest))
		left := n
		for _, at := range ladder {
			switch left % 3 {
			case 1:
				m.add("a", keptAt(at))
			case 2:
				m.add("a", gone(at))
			}
			left /= 3
		}
		x := m.table(t)
		for _, write := range []api.Stamp{wall(0), wall(14), wall(15), stampOf(15, 1), wall(40), wall(41)} {
			for _, most := range []api.Stamp{wall(0), stampOf(14, 1<<20-1), wall(15), stampOf(15, 2)} {
				puts(t, x, m, "a", change(6, "z"), me(write), most)
			}
		}
	}
}

// P13.1: a version at the least stamp has a next one, too; a key without versions has none.
func TestAVersionAtTheLeastStamp(t *testing.T) {
	for _, l := range [][]version{nil, {keptAt(wall(0))}, {gone(wall(0))}} {
		m := with("a", l...).add("b", kept(20))
		for _, most := range []api.Stamp{wall(0), stampOf(0, 1)} {
			d, _ := puts(t, m.table(t), m, "a", change(1, "z"), me(wall(0)), most)
			if want := atPlace(place(most) + 1); d.Stamp != want {
				t.Errorf("%v, most %v: %v", l, most, d.Stamp)
			}
		}
	}
}

// P13.1: the intent that is written has Priority, Anchor and Beat of the transaction of this call, of the elder one nothing but its changes.
func TestWhatIsWritten(t *testing.T) {
	for _, y := range []api.Intent{{}, own(3, wall(14), change(1, "y"), del(2)), own(2, wall(14), change(1, "y"))} {
		for _, priority := range []int{1, 2, 1000} {
			for _, anchor := range []string{"a", "elder", strings.Repeat("\xff", 32)} {
				for _, beat := range []api.Stamp{wall(0), wall(69), wall(70), greatest} {
					m := with("a", kept(10))
					if y.Id != 0 {
						m.way("a", y)
					}
					x := me(wall(15))
					x.Priority, x.Anchor, x.Beat = priority, anchor, beat
					d, e := puts(t, m.table(t), m, "a", change(6, "z"), x, wall(5))
					answers(t, "Put", e, api.OK)
					z := readBack(t, "Put", "a", d.L)
					if z.Id != 7 || z.Epoch != 3 || z.Priority != priority || z.Anchor != anchor || z.Beat != beat || z.Stamp != wall(15) || z.L[len(z.L)-1] != change(6, "z") {
						t.Fatalf("%+v is written by %+v", z, x)
					}
				}
			}
		}
	}
}

// P13.1: a write that changes nothing leaves all of the intent as it is, whatever the transaction of this call has.
func TestWhatIsNotWrittenAgain(t *testing.T) {
	y := own(3, wall(14), changes(16)...)
	m := with("a", kept(10), kept(30)).way("a", y)
	x := m.table(t)
	for _, c := range y.L {
		for _, write := range []api.Stamp{wall(0), wall(14), wall(15), greatest} {
			for _, most := range []api.Stamp{wall(0), wall(14), wall(99), greatest} {
				txn := me(write)
				txn.Priority, txn.Anchor, txn.Beat, txn.Read, txn.Limit = 1000, "another", greatest, greatest, wall(0)
				d, e := puts(t, x, m, "a", c, txn, most)
				answers(t, "Put", e, api.OK)
				done(t, "Put", d, poke.Done{Stamp: wall(14)})
			}
		}
	}
}

// P13.1: Read and Limit don't matter, as long as they may be, nor does what would be unsure, or old.
func TestReadAndLimitDontMatter(t *testing.T) {
	for _, m := range []*shelf{with("a", kept(10), kept(14)), with("a", kept(10)).way("a", own(3, wall(14), change(1, "y"))), with("a", kept(10)).way("a", own(2, wall(30), change(1, "y")))} {
		x := m.table(t)
		for _, read := range []api.Stamp{wall(0), wall(5), wall(10), wall(14), wall(15), wall(99), greatest} {
			for _, limit := range []api.Stamp{wall(0), wall(10), wall(15), greatest} {
				txn := me(wall(15))
				txn.Read, txn.Limit = read, limit
				d, e := puts(t, x, m, "a", change(6, "z"), txn, wall(5))
				answers(t, "Put", e, api.OK)
				done(t, "Put", d, poke.Done{L: d.L, Stamp: wall(15)})
			}
		}
	}
}

// unreadable are texts that stand neither for an intent nor for a version.
func unreadable() []string {
	intent := must(cell.Intent(others(wall(1))))
	record := must(cell.Record(api.Record{Id: 8, Status: 2, Priority: 5, Anchor: "a", Stamp: wall(1), Beat: wall(1), Writes: []api.Write{{Key: "a", Seq: 1}}}))
	longest := others(wall(1))
	longest.L = nil
	for i := range 16 {
		longest.L = append(longest.L, change(i+1, fill(64)))
	}
	return []string{"", "\x01", "\x02\x00\x00", "junk", "\x08", "\xff", intent[1:], intent[:len(intent)-1], intent + "\x00", record, versionText(kept(1)) + "\x00", "\x00\x00", versionText(kept(123))[:4], "\x01\x02" + "\x01\x01x", "\x01\x01\x01\x41" + fill(65), must(cell.Stamp(stampOf(5, 7))), must(cell.Number(77)), must(cell.Intent(longest)) + "\x00", fill(5000)}
}

// P13.1: intents that can't be read do not count: a new one comes in their place.
func TestIntentsThatCantBeRead(t *testing.T) {
	for _, text := range append(unreadable(), versionText(kept(1)), versionText(gone(wall(1)))) {
		if _, e := cell.TakeIntent(text); e != api.ErrSyntax {
			t.Fatalf("%q is an intent", text)
		}
		for _, m := range []*shelf{newShelf(), with("a", kept(10)), with("a", kept(20))} {
			m.and(put(intentKey("a"), text)).way("b", others(wall(9)))
			x := m.table(t)
			d, e := applied(t, x, m, "a", change(6, "z"), me(wall(15)), wall(5))
			answers(t, "Put", e, api.OK)
			if got, _ := x.Get(intentKey("a")); got != d.L[0].Value {
				t.Fatalf("%q stays: %q", text, got)
			}
		}
	}
}

// P13.1: versions that can't be read do not count: the greatest of those that can does.
func TestVersionsThatCantBeRead(t *testing.T) {
	texts := append(unreadable(), must(cell.Intent(others(wall(1)))))
	for _, text := range texts {
		if _, _, e := cell.TakeVersion(text); e != api.ErrSyntax {
			t.Fatalf("%q is a version", text)
		}
		for _, at := range []api.Stamp{wall(0), wall(9), wall(10), wall(12), wall(16), wall(19), stampOf(20, 1), wall(30), greatest} {
			for _, m := range []*shelf{newShelf(), with("a", kept(9)), with("a", kept(9), gone(wall(17))), with("a", kept(9), kept(17), kept(20))} {
				m = m.copied().and(put(versionKey("a", at), text)).add("b", kept(40))
				m.versions["a"] = slices.DeleteFunc(m.versions["a"], func(v version) bool { return v.at == at })
				puts(t, m.table(t), m, "a", change(6, "z"), me(wall(15)), wall(5))
			}
		}
	}
}

// P13.1: many versions can't be read, and then one can, or none; that of the next key is another one's.
func TestManyThatCantBeRead(t *testing.T) {
	m := with("a", kept(9)).add("b", kept(50))
	for i := range 300 {
		m.and(put(versionKey("a", wall(10+i)), "junk"))
	}
	d, _ := puts(t, m.table(t), m, "a", change(6, "z"), me(wall(2)), wall(5))
	if d.Stamp != stampOf(9, 1) {
		t.Errorf("at %v", d.Stamp)
	}
	delete(m.versions, "a")
	d, _ = puts(t, m.table(t), m, "a", change(6, "z"), me(wall(2)), wall(5))
	if d.Stamp != stampOf(5, 1) {
		t.Errorf("at %v", d.Stamp)
	}
}

// beside are rows of a table that are not poke's, near those of that key.
func beside(key string) []api.Op {
	intent, value := must(cell.Intent(others(wall(1)))), versionText(kept(1))
	i, v := intentKey(key), versionKey(key, wall(99))
	ordered := i[1:]
	l := []api.Op{
		put("i", intent), put("v", value), put("b", must(cell.Number(5))), put("h", intent), put("j", intent), put("u", value), put("w", value), put("\x00", value), put("\xff", value), put("vv", value), put("ii", intent),
		put(i+"\x00", intent), put(i[:len(i)-1], intent), put(i[:len(i)-2], intent), put("I"+ordered, intent), put("j"+ordered, intent), put(ordered, intent), put("i"+key+"\x00\x02", intent), put("i\x00\x00", intent),
		put(v+"\x00", value), put(v[:len(v)-1], value), put("v"+ordered, value), put("v"+ordered+strings.Repeat("\xff", 9), value), put("v"+ordered+"\x01\x00\x00\x00\x00\x01\x00\x00\x00", value), put("v"+ordered+"\x00\x00\x00\x00\x00\x00\x10\x00\x00", value),
		put("V"+v[1:], value), put("w"+v[1:], value), put("u"+v[1:], value), put(v[1:], value), put("v"+key+"\x00\x02"+v[len(v)-9:], value), put("v\x00\x00"+v[len(v)-9:], value),
		put(versionKey(key, wall(0))+"\x00", value), put(versionKey(key, greatest)+"\x00", value), put(versionKey(key, wall(0))+"\xff", value),
		put(must(cell.RecordKey(key, 7)), intent), put(must(cell.RecordKey(key, 8)), must(cell.Record(api.Record{Id: 8, Status: 1, Priority: 5, Anchor: key, Stamp: wall(1), Beat: wall(1)}))),
	}
	for n := range 6 {
		l = append(l, put(must(cell.Threshold(n+1)), must(cell.Stamp(wall(99)))))
	}
	for _, long := range []string{fill(33), strings.Repeat("\xff", 33), "a" + fill(33)} {
		l = append(l, put("i"+long+"\x00\x00", intent), put("v"+long+v[len(v)-11:], value))
	}
	return l
}

// P13.1: keys of the table that are none of poke's do not count, wherever they stand.
func TestKeysThatAreNotPokes(t *testing.T) {
	for _, key := range []string{"a", "\x00", "\xff", "b\x00c", fill(31), fill(32), strings.Repeat("\xff", 32)} {
		for _, o := range beside(key) {
			if _, e := cell.ReadIntent(o.Key); e != api.ErrSyntax {
				t.Fatalf("%q is an intent's key", o.Key)
			}
			if _, _, e := cell.ReadVersion(o.Key); e != api.ErrSyntax {
				t.Fatalf("%q is a version's key", o.Key)
			}
		}
		for _, m := range []*shelf{
			newShelf(),
			with(key, kept(10), kept(20)),
			with(key, kept(10)).way(key, others(wall(17))),
			with(key, gone(wall(10))).way(key, own(3, wall(17), change(1, "mine"))),
			with(key, kept(10)).way(key, own(2, wall(17), change(1, "past"))),
		} {
			n := m.copied().and(beside(key)...)
			for _, write := range []api.Stamp{wall(2), wall(15), wall(30)} {
				d, e := puts(t, m.table(t), m, key, change(6, "z"), me(write), wall(5))
				f, g := puts(t, n.table(t), n, key, change(6, "z"), me(write), wall(5))
				answers(t, "with more beside it", g, e)
				done(t, "with more beside it", f, d)
			}
		}
		// Each of them alone, too.
		for _, o := range beside(key) {
			n := newShelf().and(o)
			d, e := puts(t, n.table(t), n, key, change(6, "z"), me(wall(2)), wall(5))
			answers(t, fmt.Sprintf("beside %q", o.Key), e, api.OK)
			if d.Stamp != stampOf(5, 1) {
				t.Fatalf("beside %q: at %v", o.Key, d.Stamp)
			}
		}
	}
}

// oddKeys are keys of which some one is the beginning of the next one, and that hold the bytes 0, 1 and 255.
var oddKeys = []string{
	"\x00", "\x00\x00", "\x00\x00\x00", "\x00\x01", "\x00\x01\x00", "\x00\xff", "\x01", "\x01\x00", "\x01\x01", "\x01\xff", "a", "a\x00", "a\x00\x00", "a\x00\x01", "a\x00b", "a\x00\xff", "a\x01", "a\x01\x00", "aa", "ab", "a\xff", "a\xff\x00", "a\xff\xff", "b",
	strings.Repeat("x", 31), strings.Repeat("x", 32), strings.Repeat("x", 31) + "y", "\xff", "\xff\x00", "\xff\x01", "\xff\xff", strings.Repeat("\xff", 31), strings.Repeat("\xff", 31) + "\x00", strings.Repeat("\xff", 32),
}

// P13.1: a write hangs on what stands under its key, not on what stands under one of which that is the beginning, or the other way round.
func TestOddKeys(t *testing.T) {
	all := newShelf()
	for i, key := range oddKeys {
		all.add(key, kept(10), kept(20+i))
	}
	x := all.table(t)
	for i, key := range oddKeys {
		d, e := puts(t, x, all, key, change(6, "z"), me(wall(15)), wall(5))
		answers(t, key, e, api.OK)
		if d.Stamp != stampOf(20+i, 1) {
			t.Errorf("%q: at %v", key, d.Stamp)
		}
		// Each key is left out in turn, or has alone what the others have not.
		n := all.copied()
		delete(n.versions, key)
		puts(t, n.table(t), n, key, change(6, "z"), me(wall(15)), wall(5))
		for _, y := range []api.Intent{others(wall(15)), own(3, wall(15), change(1, "mine")), own(4, wall(15), del(1))} {
			n = all.copied().way(key, y)
			tab := n.table(t)
			for _, k := range oddKeys {
				_, e := puts(t, tab, n, k, change(6, "z"), me(wall(15)), wall(5))
				if k != key {
					answers(t, fmt.Sprintf("%q beside %q", k, key), e, api.OK)
				}
			}
		}
	}
}

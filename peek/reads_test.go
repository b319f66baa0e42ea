package peek_test

import (
	"fmt"
	"slices"
	"strings"
	"testing"

	"scriptorium/api"
	"scriptorium/cell"
	"scriptorium/peek"
)

// ladder are stamps of which each two that stand beside each other have none, or only few, between.
var ladder = []api.Stamp{stampOf(3, 1<<20-1), stampOf(4, 0), stampOf(4, 1), stampOf(5, 0), stampOf(5, 1)}

// bounds are the ladder's, and such as are below and above all of it, but for the last one.
var bounds = append([]api.Stamp{stampOf(3, 1<<20-2)}, append(slices.Clone(ladder), stampOf(5, 2), greatest)...)

// someVersions calls do with each choice of versions on the ladder: at each stamp none, a value, one without bytes, or that the key is gone.
func someVersions(do func(l []version)) {
	for n := range 4 * 4 * 4 * 4 * 4 {
		var l []version
		for i, at := range ladder {
			switch n >> (2 * i) & 3 {
			case 1:
				l = append(l, version{at: at, value: fmt.Sprint("value ", i)})
			case 2:
				l = append(l, version{at: at})
			case 3:
				l = append(l, version{at: at, gone: true})
			}
		}
		do(l)
	}
}

// P12.2: no version, one, and several, below, at and above Read and the top, some of them gone; Limit below, at and above Read.
func TestVersions(t *testing.T) {
	counts := map[api.Errno]int{}
	someVersions(func(l []version) {
		m := with("a", l...)
		x := m.table(t)
		for _, read := range bounds {
			for _, limit := range append([]api.Stamp{{}}, bounds...) {
				counts[gets(t, x, m, "a", me(read, limit), wall(3))]++
			}
		}
	})
	for _, e := range []api.Errno{api.OK, api.ErrUnsure} {
		if counts[e] < 1000 {
			t.Errorf("%d only %d times", e, counts[e])
		}
	}
}

// P12.2: which version is read, and which one is unsure, in plain words.
func TestWhichVersion(t *testing.T) {
	m := with("a", kept(10, "x"), kept(20, "y"), gone(30), kept(40, ""), kept(50, "z"))
	x := m.table(t)
	value := func(s string, at int) peek.Found {
		return peek.Found{Key: "a", Value: s, Is: true, Stamp: wall(at)}
	}
	beside := func(at int) peek.Found { return peek.Found{Key: "a", Stamp: wall(at)} }
	for _, c := range []struct {
		read, limit api.Stamp
		want        peek.Found
		e           api.Errno
	}{
		{wall(9), wall(9), peek.Found{Key: "a"}, api.OK},
		{wall(9), wall(10), beside(10), api.ErrUnsure},
		{wall(10), wall(0), beside(10), api.ErrUnsure},
		{wall(10), wall(19), beside(10), api.ErrUnsure},
		{wall(10), wall(20), beside(20), api.ErrUnsure},
		{stampOf(10, 1), wall(10), value("x", 10), api.OK},
		{stampOf(10, 1), stampOf(19, 9), value("x", 10), api.OK},
		{stampOf(10, 1), wall(20), beside(20), api.ErrUnsure},
		{stampOf(10, 1), wall(45), beside(40), api.ErrUnsure},
		{stampOf(10, 1), greatest, beside(50), api.ErrUnsure},
		{wall(20), wall(5), beside(20), api.ErrUnsure},
		{stampOf(20, 1), wall(20), value("y", 20), api.OK},
		{wall(25), wall(29), value("y", 20), api.OK},
		{wall(25), wall(30), beside(30), api.ErrUnsure},
		{wall(30), wall(5), beside(30), api.ErrUnsure},
		{stampOf(30, 1), wall(5), beside(30), api.OK},
		{wall(35), wall(35), beside(30), api.OK},
		{wall(40), wall(40), beside(40), api.ErrUnsure},
		{wall(41), wall(41), value("", 40), api.OK},
		{wall(50), wall(99), beside(50), api.ErrUnsure},
		{wall(51), wall(99), value("z", 50), api.OK},
		{greatest, greatest, value("z", 50), api.OK},
	} {
		what := fmt.Sprintf("Read %v, Limit %v", c.read, c.limit)
		f, e := peek.Get(x, "a", me(c.read, c.limit), wall(1))
		answers(t, what, e, c.e)
		found(t, what, f, c.want)
		holds(t, x, m, me(c.read, c.limit), wall(1))
	}
}

// P12.2: versions at both ends of all stamps.
func TestVersionsAtTheEnds(t *testing.T) {
	least := api.Stamp{}
	m := with("a", version{at: least, value: "first"}).add("b", version{at: greatest, value: "last"}).add("c", version{at: least, gone: true}).add("d", version{at: least, value: "first"}, version{at: greatest, gone: true})
	x := m.table(t)
	for _, read := range []api.Stamp{stampOf(0, 1), stampOf(0, 2), stampOf(1, 0), stampOf(1<<40, 1<<20-2), greatest} {
		for _, limit := range []api.Stamp{least, stampOf(0, 1), wall(7), stampOf(1<<40, 1<<20-2), greatest} {
			holds(t, x, m, me(read, limit), least, "e")
		}
	}
	f, e := peek.Get(x, "a", me(stampOf(0, 1), least), least)
	answers(t, "at the least stamp", e, api.OK)
	found(t, "at the least stamp", f, peek.Found{Key: "a", Value: "first", Is: true})
	f, e = peek.Get(x, "b", me(greatest, least), least)
	answers(t, "at the greatest stamp", e, api.ErrUnsure)
	found(t, "at the greatest stamp", f, peek.Found{Key: "b", Stamp: greatest})
}

// intentsOfAll are intents of the same and of another transaction, of all kinds of epochs, stamps and changes.
func intentsOfAll() []api.Intent {
	var l []api.Intent
	for _, at := range append([]api.Stamp{{}}, bounds...) {
		l = append(l, others(at))
		for _, epoch := range []int{0, 2, 3, 4, 1<<53 - 1} {
			l = append(l, own(epoch, at, change(1, "mine")), own(epoch, at, del(6)), own(epoch, at, change(1, "elder"), change(2, "")), own(epoch, at, change(1, "elder"), change(2, "newer"), del(9)), own(epoch, at, del(1), change(5, "last")))
		}
	}
	for _, id := range []int{1, 6, 8, 1<<53 - 1} {
		for _, epoch := range []int{0, 2, 3, 4} {
			y := others(ladder[2])
			y.Id, y.Epoch = id, epoch
			l = append(l, y)
		}
	}
	return l
}

// P12.2: intents of all kinds, with versions of all kinds behind them.
func TestIntents(t *testing.T) {
	behind := [][]version{nil, {{at: ladder[0], value: "x"}}, {{at: ladder[2], value: "y"}}, {{at: ladder[1], value: "x"}, {at: ladder[3], value: "y"}}, {{at: ladder[1], gone: true}}, {{at: ladder[0], value: "x"}, {at: ladder[2], gone: true}, {at: ladder[4], value: "z"}}}
	counts := map[api.Errno]int{}
	for _, y := range intentsOfAll() {
		for _, l := range behind {
			m := with("a", l...).way("a", y)
			x := m.table(t)
			for _, read := range bounds {
				for _, limit := range append([]api.Stamp{{}}, bounds...) {
					counts[gets(t, x, m, "a", me(read, limit), wall(3))]++
				}
			}
		}
	}
	for _, e := range []api.Errno{api.OK, api.ErrUnsure, api.ErrWait, api.ErrStale} {
		if counts[e] < 1000 {
			t.Errorf("%d only %d times", e, counts[e])
		}
	}
}

// P12.2: its own intent, in plain words: of an earlier, of the same and of a later epoch.
func TestOwnIntent(t *testing.T) {
	base := with("a", kept(10, "x"), kept(20, "y"))
	mine := func(s string, at int) peek.Found {
		return peek.Found{Key: "a", Value: s, Is: true, Own: true, Stamp: wall(at)}
	}
	sixteen := []api.Change{}
	for i := range 16 {
		sixteen = append(sixteen, change(i+1, fmt.Sprint("the change ", i)))
	}
	for _, c := range []struct {
		what string
		y    api.Intent
		x    api.Txn
		want peek.Found
		e    api.Errno
	}{
		{"one change", own(3, wall(17), change(4, "mine")), me(wall(15), wall(15)), mine("mine", 17), api.OK},
		{"a value without bytes", own(3, wall(17), change(4, "")), me(wall(15), wall(15)), mine("", 17), api.OK},
		{"the longest value", own(3, wall(17), change(4, fill(64))), me(wall(15), wall(15)), mine(fill(64), 17), api.OK},
		{"a Del", own(3, wall(17), del(4)), me(wall(15), wall(15)), peek.Found{Key: "a", Own: true, Stamp: wall(17)}, api.OK},
		{"several changes", own(3, wall(17), change(1, "elder"), del(2), change(7, "newest")), me(wall(15), wall(15)), mine("newest", 17), api.OK},
		{"several, the last one a Del", own(3, wall(17), change(1, "elder"), change(2, "newer"), del(3)), me(wall(15), wall(15)), peek.Found{Key: "a", Own: true, Stamp: wall(17)}, api.OK},
		{"sixteen changes", own(3, wall(17), sixteen...), me(wall(15), wall(15)), mine("the change 15", 17), api.OK},
		{"at the zero stamp", own(3, api.Stamp{}, change(4, "mine")), me(wall(15), wall(15)), mine("mine", 0), api.OK},
		{"below Read", own(3, wall(2), change(4, "mine")), me(wall(15), wall(15)), mine("mine", 2), api.OK},
		{"far above the top", own(3, wall(1000), change(4, "mine")), me(wall(15), wall(15)), mine("mine", 1000), api.OK},
		{"what is unsure does not count", own(3, wall(17), change(4, "mine")), me(wall(15), wall(25)), mine("mine", 17), api.OK},
		{"a Del, what is unsure does not count", own(3, wall(17), del(4)), me(wall(15), wall(25)), peek.Found{Key: "a", Own: true, Stamp: wall(17)}, api.OK},
		{"an earlier epoch", own(2, wall(12), change(4, "past")), me(wall(15), wall(15)), peek.Found{Key: "a", Value: "x", Is: true, Stamp: wall(10)}, api.OK},
		{"the first epoch", own(0, wall(12), change(4, "past")), me(wall(15), wall(15)), peek.Found{Key: "a", Value: "x", Is: true, Stamp: wall(10)}, api.OK},
		{"an earlier epoch, unsure", own(2, wall(12), change(4, "past")), me(wall(15), wall(20)), peek.Found{Key: "a", Stamp: wall(20)}, api.ErrUnsure},
		{"an earlier epoch, no version", own(2, wall(12), change(4, "past")), me(wall(9), wall(9)), peek.Found{Key: "a"}, api.OK},
		{"a later epoch", own(4, wall(17), change(4, "late")), me(wall(15), wall(15)), peek.Found{}, api.ErrStale},
		{"a later epoch, far above", own(4, wall(1000), change(4, "late")), me(wall(15), wall(15)), peek.Found{}, api.ErrStale},
		{"a later epoch, far below", own(1<<53-1, wall(1), del(4)), me(wall(15), wall(25)), peek.Found{}, api.ErrStale},
	} {
		m := base.copied().way("a", c.y)
		x := m.table(t)
		f, e := peek.Get(x, "a", c.x, wall(5))
		answers(t, c.what, e, c.e)
		found(t, c.what, f, c.want)
		rows, g, e := peek.Scan(x, all, c.x, wall(5))
		answers(t, c.what, e, c.e)
		if e == api.OK {
			found(t, c.what, g, peek.Found{})
		} else {
			found(t, c.what, g, c.want)
		}
		if f.Is {
			told(t, c.what, rows, []api.Row{{Key: "a", Value: f.Value}})
		} else {
			told(t, c.what, rows, nil)
		}
		holds(t, x, m, c.x, wall(5), "b")
	}
}

// P12.2: another one's intent below, at and just above the top, whatever its epoch and changes; behind it versions that are unsure.
func TestIntentsInTheWay(t *testing.T) {
	for _, c := range []struct {
		read, limit, at api.Stamp
		waits           bool
	}{
		{wall(15), wall(15), wall(1), true}, {wall(15), wall(15), stampOf(14, 1<<20-1), true}, {wall(15), wall(15), wall(15), true}, {wall(15), wall(15), stampOf(15, 1), false}, {wall(15), wall(15), wall(99), false},
		{wall(15), wall(0), api.Stamp{}, true}, {wall(15), wall(0), wall(14), true}, {wall(15), wall(0), wall(15), true}, {wall(15), wall(0), stampOf(15, 1), false},
		{wall(15), wall(25), wall(15), true}, {wall(15), wall(25), wall(16), true}, {wall(15), wall(25), wall(25), true}, {wall(15), wall(25), stampOf(25, 1), false}, {wall(15), wall(25), wall(26), false},
		{stampOf(15, 4), stampOf(15, 7), stampOf(15, 7), true}, {stampOf(15, 4), stampOf(15, 7), stampOf(15, 8), false}, {stampOf(15, 7), stampOf(15, 4), stampOf(15, 7), true}, {stampOf(15, 7), stampOf(15, 4), stampOf(15, 8), false},
		{greatest, wall(1), greatest, true}, {wall(15), greatest, greatest, true}, {stampOf(1<<40, 1<<20-2), wall(1), greatest, false},
	} {
		for _, y := range []api.Intent{others(c.at), {Id: 1, Priority: 1, Anchor: "\x00", Stamp: c.at, L: []api.Change{del(1)}}, {Id: 1<<53 - 1, Epoch: 9, Priority: 1000, Anchor: fill(32), Stamp: c.at, Beat: greatest, L: []api.Change{change(1, fill(64)), change(2, "")}}} {
			for _, m := range []*shelf{newShelf(), with("a", kept(10, "x")), with("a", kept(10, "x"), kept(15, "y"), kept(25, "z")), with("a", gone(20))} {
				m.way("a", y)
				x := m.table(t)
				txn := me(c.read, c.limit)
				what := fmt.Sprintf("Read %v, Limit %v, an intent at %v", c.read, c.limit, c.at)
				f, e := peek.Get(x, "a", txn, api.Stamp{})
				if (e == api.ErrWait) != c.waits {
					t.Fatalf("%s: %d", what, e)
				}
				if c.waits {
					found(t, what, f, peek.Found{Key: "a", Way: y})
				}
				holds(t, x, m, txn, api.Stamp{}, "b")
			}
		}
	}
}

// P12.2: all fields of what is found, also those that must be zero.
func TestFoundOfEachAnswer(t *testing.T) {
	m := with("a", kept(10, "x"), kept(20, "y")).add("b", kept(10, "x"), gone(12)).add("d", kept(15, "now")).
		way("e", others(wall(14))).add("e", kept(10, "x"), kept(15, "y")).
		way("f", own(3, wall(16), change(1, "mine"))).add("f", kept(10, "x")).
		way("g", own(3, wall(16), del(1))).add("g", kept(10, "x")).
		way("h", own(9, wall(16), change(1, "late"))).add("h", kept(10, "x")).
		way("i", own(1, wall(16), change(1, "past"))).add("i", kept(10, "x")).
		way("j", others(wall(16)))
	x := m.table(t)
	for _, c := range []struct {
		key  string
		want peek.Found
		e    api.Errno
	}{
		{"a", peek.Found{Key: "a", Value: "x", Is: true, Stamp: wall(10)}, api.OK},
		{"b", peek.Found{Key: "b", Stamp: wall(12)}, api.OK},
		{"c", peek.Found{Key: "c"}, api.OK},
		{"d", peek.Found{Key: "d", Stamp: wall(15)}, api.ErrUnsure},
		{"e", peek.Found{Key: "e", Way: others(wall(14))}, api.ErrWait},
		{"f", peek.Found{Key: "f", Value: "mine", Is: true, Own: true, Stamp: wall(16)}, api.OK},
		{"g", peek.Found{Key: "g", Own: true, Stamp: wall(16)}, api.OK},
		{"h", peek.Found{}, api.ErrStale},
		{"i", peek.Found{Key: "i", Value: "x", Is: true, Stamp: wall(10)}, api.OK},
		{"j", peek.Found{Key: "j"}, api.OK},
		{"", peek.Found{}, api.ErrArg},
	} {
		f, e := peek.Get(x, c.key, me(wall(15), wall(15)), wall(5))
		answers(t, c.key, e, c.e)
		found(t, c.key, f, c.want)
		rows, g, e := peek.Scan(x, api.Span{From: c.key, To: c.key + "\x00"}, me(wall(15), wall(15)), wall(5))
		switch {
		case c.key == "":
			answers(t, "a span without keys", e, api.OK)
			found(t, "a span without keys", g, peek.Found{})
		case e != api.OK:
			answers(t, c.key, e, c.e)
			found(t, c.key, g, c.want)
		default:
			answers(t, c.key, e, c.e)
			found(t, c.key, g, peek.Found{})
		}
		if c.want.Is {
			told(t, c.key, rows, []api.Row{{Key: c.key, Value: c.want.Value}})
		} else {
			told(t, c.key, rows, nil)
		}
	}
	for _, c := range []struct {
		low  api.Stamp
		want api.Errno
	}{{wall(15), api.ErrOld}, {stampOf(-1, 0), api.ErrArg}} {
		f, e := peek.Get(x, "a", me(wall(15), wall(15)), c.low)
		answers(t, "Get", e, c.want)
		found(t, "Get", f, peek.Found{})
		rows, f, e := peek.Scan(x, all, me(wall(15), wall(15)), c.low)
		answers(t, "Scan", e, c.want)
		found(t, "Scan", f, peek.Found{})
		told(t, "Scan", rows, nil)
	}
}

// unreadable are texts that stand neither for an intent nor for a version.
func unreadable() []string {
	intent := must(cell.Intent(others(wall(1))))
	record := must(cell.Record(api.Record{Id: 8, Status: 2, Priority: 5, Anchor: "a", Stamp: wall(1), Beat: wall(1), Writes: []api.Write{{Key: "a", Seq: 1}}}))
	longest := others(wall(1))
	longest.L = nil
	for i := range 16 {
		longest.L = append(longest.L, change(i+1, fill(64)))
	}
	return []string{"", "\x01", "\x02\x00\x00", "junk", "\x08", "\xff", intent[1:], intent[:len(intent)-1], intent + "\x00", record, versionText(kept(1, "x")) + "\x00", "\x00\x00", versionText(kept(1, "xyz"))[:4], "\x01\x02" + "\x01\x01x", "\x01\x01\x01\x41" + fill(65), must(cell.Stamp(stampOf(5, 7))), must(cell.Number(77)), must(cell.Intent(longest)) + "\x00", fill(5000)}
}

// beside are rows of a table that are not peek's, near those of that key.
func beside(key string) []api.Op {
	intent, value := must(cell.Intent(others(wall(1)))), versionText(kept(1, "never read"))
	i, v := intentKey(key), versionKey(key, wall(12))
	ordered := i[1:]
	l := []api.Op{
		put("i", intent), put("v", value), put("b", must(cell.Number(5))), put("h", intent), put("j", intent), put("u", value), put("w", value), put("\x00", value), put("\xff", value), put("vv", value), put("ii", intent),
		put(i+"\x00", intent), put(i[:len(i)-1], intent), put(i[:len(i)-2], intent), put("I"+ordered, intent), put("j"+ordered, intent), put(ordered, intent), put("i"+key+"\x00\x02", intent), put("i\x00\x00", intent),
		put(v+"\x00", value), put(v[:len(v)-1], value), put("v"+ordered, value), put("v"+ordered+strings.Repeat("\xff", 9), value), put("v"+ordered+"\x01\x00\x00\x00\x00\x01\x00\x00\x00", value), put("v"+ordered+"\x00\x00\x00\x00\x00\x00\x10\x00\x00", value),
		put("V"+v[1:], value), put("w"+v[1:], value), put("u"+v[1:], value), put(v[1:], value), put("v"+key+"\x00\x02"+v[len(v)-9:], value), put("v\x00\x00"+v[len(v)-9:], value),
		put(must(cell.RecordKey(key, 7)), intent), put(must(cell.RecordKey(key, 8)), must(cell.Record(api.Record{Id: 8, Status: 1, Priority: 5, Anchor: key, Stamp: wall(1), Beat: wall(1)}))),
	}
	for n := range 6 {
		l = append(l, put(must(cell.Threshold(n+1)), must(cell.Stamp(wall(99)))))
	}
	for _, long := range []string{fill(33), strings.Repeat("\xff", 33), "a" + fill(33)} {
		l = append(l, put("i"+long+"\x00\x00", intent), put("v"+long+v[len(v)-11:], value))
	}
	return l
}

// P12.2, P12.3: what can't be read does not count: keys of the table that are not peek's.
func TestKeysThatAreNotPeeks(t *testing.T) {
	for _, key := range []string{"a", "\x00", "\xff", "b\x00c", fill(31), fill(32), strings.Repeat("\xff", 32)} {
		for _, o := range beside(key) {
			if _, e := cell.ReadIntent(o.Key); e != api.ErrSyntax {
				t.Fatalf("%q is an intent's key", o.Key)
			}
			if _, _, e := cell.ReadVersion(o.Key); e != api.ErrSyntax {
				t.Fatalf("%q is a version's key", o.Key)
			}
		}
		for _, m := range []*shelf{
			newShelf().and(beside(key)...),
			with(key, kept(10, "x"), kept(20, "y")).and(beside(key)...),
			with(key, kept(10, "x")).way(key, others(wall(17))).and(beside(key)...),
			with(key, gone(10)).way(key, own(3, wall(17), change(1, "mine"))).and(beside(key)...),
		} {
			x := m.table(t)
			for _, limit := range []api.Stamp{wall(15), wall(17), wall(20), greatest} {
				txn := me(wall(15), limit)
				holds(t, x, m, txn, wall(5), key, "i", "v", "t", fill(33), "none")
				scans(t, x, m, api.Span{From: "", To: "\xff"}, txn, wall(5))
				scans(t, x, m, api.Span{From: key, To: fill(40)}, txn, wall(5))
				scans(t, x, m, api.Span{From: fill(33), To: strings.Repeat("\xff", 60)}, txn, wall(5))
			}
		}
	}
}

// P12.2, P12.3: what can't be read does not count: texts under an intent's and under a version's key.
func TestTextsThatCantBeRead(t *testing.T) {
	for _, text := range unreadable() {
		if _, e := cell.TakeIntent(text); e != api.ErrSyntax {
			t.Fatalf("%q is an intent", text)
		}
		if _, _, e := cell.TakeVersion(text); e != api.ErrSyntax {
			t.Fatalf("%q is a version", text)
		}
	}
	texts := append(unreadable(), must(cell.Intent(others(wall(1)))))
	for _, text := range texts {
		for _, at := range []int{5, 10, 12, 15, 17, 20, 25} {
			bad := put(versionKey("a", wall(at)), text)
			for _, m := range []*shelf{newShelf(), with("a", kept(9, "w")), with("a", kept(9, "w"), kept(11, "x"), kept(16, "y"), kept(19, "z")), with("a", kept(9, "w"), gone(11)).way("a", others(wall(21)))} {
				m.and(bad).add("b", kept(10, "v"))
				x := m.table(t)
				for _, limit := range []api.Stamp{wall(15), wall(18), wall(20), wall(21)} {
					holds(t, x, m, me(wall(15), limit), wall(5), "a")
				}
			}
		}
	}
	texts = append(unreadable(), versionText(kept(1, "x")), versionText(gone(1)))
	for _, text := range texts {
		for _, m := range []*shelf{newShelf(), with("a", kept(9, "w")), with("a", kept(9, "w"), kept(16, "y")), with("a", gone(11))} {
			m.and(put(intentKey("a"), text)).add("b", kept(10, "v"))
			x := m.table(t)
			for _, limit := range []api.Stamp{wall(15), wall(18)} {
				holds(t, x, m, me(wall(15), limit), wall(5), "a")
			}
		}
	}
}

// P12.2: all versions of a key can't be read, many of them, and those of the next key can.
func TestManyThatCantBeRead(t *testing.T) {
	m := with("b", kept(10, "x"))
	for i := range 300 {
		m.and(put(versionKey("a", wall(i)), "junk"))
	}
	x := m.table(t)
	holds(t, x, m, me(wall(200), wall(250)), wall(5), "a")
	m.add("a", kept(199, "here"))
	m.beside = slices.DeleteFunc(m.beside, func(o api.Op) bool { return o.Key == versionKey("a", wall(199)) })
	x = m.table(t)
	answers(t, "one that can be read", holds(t, x, m, me(wall(200), wall(250)), wall(5), "a"), api.OK)
}

// oddKeys rise; of some one is the beginning of the next one, and they hold the bytes 0, 1 and 255.
var oddKeys = []string{
	"\x00", "\x00\x00", "\x00\x00\x00", "\x00\x01", "\x00\x01\x00", "\x00\xff", "\x01", "\x01\x00", "\x01\x01", "\x01\xff", "a", "a\x00", "a\x00\x00", "a\x00\x01", "a\x00b", "a\x00\xff", "a\x01", "a\x01\x00", "aa", "ab", "a\xff", "a\xff\x00", "a\xff\xff", "b",
	strings.Repeat("x", 31), strings.Repeat("x", 32), strings.Repeat("x", 31) + "y", "\xff", "\xff\x00", "\xff\x01", "\xff\xff", strings.Repeat("\xff", 31), strings.Repeat("\xff", 31) + "\x00", strings.Repeat("\xff", 32),
}

// P12.2, P12.3: of each key is read what is its own, not what is another one's of which it is the beginning.
func TestOddKeys(t *testing.T) {
	if !slices.IsSorted(oddKeys) {
		t.Fatal("they don't rise")
	}
	m := newShelf()
	for i, key := range oddKeys {
		m.add(key, kept(10, fmt.Sprint("of ", i)), kept(20, fmt.Sprint("later of ", i)))
	}
	x := m.table(t)
	for _, c := range []struct {
		read, limit int
		e           api.Errno
	}{{9, 9, api.OK}, {11, 11, api.OK}, {19, 19, api.OK}, {21, 21, api.OK}, {10, 10, api.ErrUnsure}, {11, 20, api.ErrUnsure}} {
		answers(t, "Scan", holds(t, x, m, me(wall(c.read), wall(c.limit)), wall(5)), c.e)
	}
	// Each key is left out in turn, or has alone what the others have not.
	for i, key := range oddKeys {
		n := m.copied()
		delete(n.versions, key)
		holds(t, n.table(t), n, me(wall(15), wall(15)), wall(5), key)
		for _, y := range []api.Intent{others(wall(15)), own(3, wall(15), change(1, "mine")), own(3, wall(15), del(1)), own(4, wall(15), del(1))} {
			n = m.copied().way(key, y)
			holds(t, n.table(t), n, me(wall(15), wall(15)), wall(5))
			one := newShelf().way(key, y).add(oddKeys[(i+1)%len(oddKeys)], kept(10, "x"))
			holds(t, one.table(t), one, me(wall(15), wall(15)), wall(5), oddKeys...)
		}
		one := with(key, gone(10), kept(13, "alone"))
		holds(t, one.table(t), one, me(wall(15), wall(15)), wall(5), oddKeys...)
	}
}

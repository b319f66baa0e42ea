package settle_test

import (
	"fmt"
	"strings"
	"testing"

	"scriptorium/api"
	"scriptorium/cell"
	"scriptorium/settle"
)

// P14.1: each row of the words' table, in plain words; the intent is at 15, in the epoch 3, its last change z.
func TestRows(t *testing.T) {
	l := []api.Change{change(2, "elder"), change(5, "z")}
	y := own(3, wall(15), l...)
	at := func(s api.Stamp) settled {
		z := y
		z.Stamp = s
		return settled{intent: &z}
	}
	becomes := func(s api.Stamp) settled { return settled{version: &version{at: s, value: "z"}, goes: true} }
	goes, stays := settled{goes: true}, settled{}
	for _, c := range []struct {
		what   string
		status int
		epoch  int
		at     api.Stamp
		want   settled
	}{
		{"committed, behind it", api.StatusCommitted, 3, wall(20), becomes(wall(20))},
		{"committed, just behind it", api.StatusCommitted, 3, stampOf(15, 1), becomes(stampOf(15, 1))},
		{"committed at it", api.StatusCommitted, 3, wall(15), becomes(wall(15))},
		{"committed just ahead of it", api.StatusCommitted, 3, stampOf(14, 1<<20-1), goes},
		{"committed at 0", api.StatusCommitted, 3, wall(0), goes},
		{"committed at the greatest", api.StatusCommitted, 3, greatest, becomes(greatest)},
		{"committed in the next epoch", api.StatusCommitted, 4, wall(20), goes},
		{"committed in the next epoch, ahead of it", api.StatusCommitted, 4, wall(14), goes},
		{"committed in the epoch ahead", api.StatusCommitted, 2, wall(20), goes},
		{"committed in the epoch ahead, ahead of it", api.StatusCommitted, 2, wall(14), goes},
		{"committed in the epoch 0", api.StatusCommitted, 0, wall(20), goes},
		{"committed in the last epoch", api.StatusCommitted, 1<<53 - 1, wall(20), goes},
		{"aborted, behind it", api.StatusAborted, 3, wall(20), goes},
		{"aborted at it", api.StatusAborted, 3, wall(15), goes},
		{"aborted ahead of it", api.StatusAborted, 3, wall(14), goes},
		{"aborted at 0", api.StatusAborted, 0, wall(0), goes},
		{"aborted in the next epoch", api.StatusAborted, 4, wall(20), goes},
		{"aborted in the epoch ahead", api.StatusAborted, 2, wall(20), goes},
		{"pending, behind it", api.StatusPending, 3, wall(18), at(wall(18))},
		{"pending, just behind it", api.StatusPending, 3, stampOf(15, 1), at(stampOf(15, 1))},
		{"pending at the greatest", api.StatusPending, 3, greatest, at(greatest)},
		{"pending at it", api.StatusPending, 3, wall(15), stays},
		{"pending just ahead of it", api.StatusPending, 3, stampOf(14, 1<<20-1), stays},
		{"pending at 0", api.StatusPending, 3, wall(0), stays},
		{"pending in the next epoch", api.StatusPending, 4, wall(20), goes},
		{"pending in the next epoch, at it", api.StatusPending, 4, wall(15), goes},
		{"pending in the next epoch, ahead of it", api.StatusPending, 4, wall(14), goes},
		{"pending in the last epoch", api.StatusPending, 1<<53 - 1, wall(0), goes},
		{"pending in the epoch ahead", api.StatusPending, 2, wall(20), stays},
		{"pending in the epoch ahead, ahead of it", api.StatusPending, 2, wall(14), stays},
		{"pending in the epoch 0", api.StatusPending, 0, greatest, stays},
		{"staged, behind it", api.StatusStaging, 3, wall(20), stays},
		{"staged at it", api.StatusStaging, 3, wall(15), stays},
		{"staged ahead of it", api.StatusStaging, 3, wall(14), stays},
		{"staged in the next epoch", api.StatusStaging, 4, wall(20), stays},
		{"staged in the epoch ahead", api.StatusStaging, 2, wall(20), stays},
	} {
		for _, m := range []*shelf{with("a", kept(10)).way("a", y), newShelf().way("a", y), with("a", kept(15), kept(18), keptAt(greatest)).way("a", y)} {
			x := m.table(t)
			r := record(c.status, c.at)
			r.Epoch = c.epoch
			got, e := settle.Resolve(x, "a", r)
			answers(t, c.what, e, api.OK)
			areOps(t, c.what, got, c.want.ops("a"))
			resolves(t, x, m, "a", r)
			r.Id = 8
			got, e = resolves(t, x, m, "a", r)
			answers(t, c.what+", another one", e, api.OK)
			areOps(t, c.what+", another one", got, nil)
			r.Id = 6
			got, _ = resolves(t, x, m, "a", r)
			areOps(t, c.what+", one with a lesser Id", got, nil)
		}
	}
}

// P14.1, P14.3: all statuses, epochs and stamps beside each other, of the intent and of the record, with the record's Id and with another one, at the ends, too.
func TestAllRows(t *testing.T) {
	var changed, not int
	for _, from := range []int{0, place(stampOf(14, 1<<20-2)), place(wall(15)), place(greatest) - 3} {
		for _, epochs := range [][]int{{0, 1}, {2, 3, 4}, {1<<53 - 2, 1<<53 - 1}} {
			for n := range 4 {
				for _, epoch := range epochs {
					m := with("a", keptAt(atPlace(from+1))).way("a", own(epoch, atPlace(from+n), change(1, "elder"), change(4, "z")))
					x := m.table(t)
					for d := range 4 {
						for _, other := range epochs {
							for _, status := range statuses {
								for _, id := range []int{6, 7, 8} {
									r := record(status, atPlace(from+d))
									r.Id, r.Epoch = id, other
									l, _ := resolves(t, x, m, "a", r)
									for _, seq := range []int{1, 2, 4} {
										queries(t, x, m, "a", seq, r)
									}
									if len(l) > 0 {
										changed++
									} else {
										not++
									}
								}
							}
						}
					}
				}
			}
		}
	}
	if changed < 500 || not < 500 {
		t.Errorf("changed %d times, not %d times", changed, not)
	}
}

// P14.1: the version comes first, then the intent, which goes; the keys and texts are those of cell, and no others.
func TestOrderOfChanges(t *testing.T) {
	for _, c := range []struct {
		last  api.Change
		value string
	}{{change(5, "z"), "z"}, {change(5, ""), ""}, {del(5), ""}, {change(5, fill(64)), fill(64)}, {change(5, "\x00\x01\xff"), "\x00\x01\xff"}} {
		for _, key := range append(oddKeys, goodKeys...) {
			m := newShelf().way(key, own(3, wall(15), change(4, "elder"), c.last))
			l, e := settle.Resolve(m.table(t), key, record(api.StatusCommitted, stampOf(20, 7)))
			answers(t, "Resolve", e, api.OK)
			if len(l) != 2 {
				t.Fatalf("%+v", l)
			}
			of, at, e := cell.ReadVersion(l[0].Key)
			value, is, f := cell.TakeVersion(l[0].Value)
			if of != key || at != stampOf(20, 7) || value != c.value || is == c.last.Del || e != api.OK || f != api.OK || l[0].Del {
				t.Fatalf("%q: the version %q at %v is %q, %t", key, of, at, value, is)
			}
			if of, e := cell.ReadIntent(l[1].Key); of != key || e != api.OK || !l[1].Del || l[1].Value != "" {
				t.Fatalf("%q: the intent %q: %+v", key, of, l[1])
			}
			l, e = settle.Resolve(m.table(t), key, record(api.StatusAborted, wall(20)))
			answers(t, "Resolve", e, api.OK)
			areOps(t, "aborted", l, []api.Op{{Key: intentKey(key), Del: true}})
		}
	}
}

// lists are the changes of intents: one, some and 16, whose last one is a value, no bytes, or Del.
func lists() [][]api.Change {
	var l [][]api.Change
	for _, n := range []int{0, 1, 2, 7, 14, 15} {
		for _, last := range []api.Change{change(1<<53-1, "the last"), change(90, ""), del(91), change(92, fill(64)), change(93, "\x00"), change(94, "\xff\x00\x01")} {
			l = append(l, append(changes(n), last))
		}
	}
	return append(l, []api.Change{change(1, "a value"), change(2, "another"), del(3)}, []api.Change{del(1), del(2), change(3, "")}, []api.Change{del(1), change(2, ""), change(3, "v")})
}

// P14.1: of one change and of 16 the last one becomes the version, a value, no bytes, or that it is gone.
func TestTheLastChangeCounts(t *testing.T) {
	for _, l := range lists() {
		m := with("a", kept(10)).way("a", own(3, wall(15), l...))
		x := m.table(t)
		last := l[len(l)-1]
		got, e := resolves(t, x, m, "a", record(api.StatusCommitted, wall(20)))
		answers(t, "Resolve", e, api.OK)
		want := settled{version: &version{at: wall(20), value: last.Value, gone: last.Del}, goes: true}
		areOps(t, fmt.Sprint(len(l), " changes"), got, want.ops("a"))
		for _, status := range statuses {
			resolves(t, x, m, "a", record(status, wall(20)))
		}
	}
}

// P14.1: a pending record moves the intent's Stamp; Id, Epoch, Priority, Anchor, Beat and all changes stay as they were, whatever the record's are.
func TestAMovedIntent(t *testing.T) {
	for _, l := range lists() {
		for _, epoch := range []int{0, 3, 1<<53 - 1} {
			y := api.Intent{Id: 7, Epoch: epoch, Priority: 1000, Anchor: strings.Repeat("\xff", 32), Stamp: wall(15), Beat: wall(3), L: l}
			m := with("a", kept(10)).way("a", y)
			x := m.table(t)
			for _, at := range []api.Stamp{stampOf(15, 1), wall(18), greatest} {
				r := record(api.StatusPending, at)
				r.Epoch = epoch
				got, e := resolves(t, x, m, "a", r)
				answers(t, "Resolve", e, api.OK)
				z := readBack(t, "Resolve", "a", got)
				want := y
				want.Stamp = at
				if len(got) != 1 || z.intent == nil || z.goes {
					t.Fatalf("it is not moved: %+v", got)
				}
				isWay(t, "the moved one", *z.intent, want)
				// Behind that it stands there, and the same record moves it no more.
				moved := x.Copy()
				apply(t, moved, got)
				again, _ := settle.Resolve(moved, "a", r)
				areOps(t, "once more", again, nil)
			}
		}
	}
}

// P14.1: a staged record changes nothing, whatever its writes are.
func TestAStagedRecord(t *testing.T) {
	for _, y := range []api.Intent{own(2, wall(15), change(4, "z")), own(3, wall(15), change(4, "z")), own(4, wall(15), change(4, "z")), others(wall(15))} {
		m := with("a", kept(10)).way("a", y)
		x := m.table(t)
		for _, l := range [][]api.Write{nil, {}, {{Key: "a", Seq: 4}}, {{Key: "a", Seq: 5}}, {{Key: "b", Seq: 4}}, writesTo(32)} {
			for _, at := range []api.Stamp{wall(0), wall(14), wall(15), wall(20), greatest} {
				r := record(api.StatusStaging, at)
				r.Writes = l
				got, e := resolves(t, x, m, "a", r)
				answers(t, "Resolve", e, api.OK)
				areOps(t, "Resolve", got, nil)
			}
		}
	}
}

// P14.1: Priority, Anchor, Beat and the writes of the record don't matter; nor do the intent's.
func TestOtherFieldsOfTheRecord(t *testing.T) {
	for _, y := range []api.Intent{own(3, wall(15), change(4, "z")), own(2, wall(15), change(4, "z")), others(wall(15))} {
		m := with("a", kept(10)).way("a", y)
		x := m.table(t)
		for _, status := range statuses {
			want, _ := settle.Resolve(x, "a", record(status, wall(20)))
			isThere, _ := settle.Query(x, "a", 4, record(status, wall(20)))
			for _, set := range []func(r *api.Record){
				func(r *api.Record) { r.Priority = 1 },
				func(r *api.Record) { r.Priority = 1000 },
				func(r *api.Record) { r.Anchor = "a" },
				func(r *api.Record) { r.Anchor = y.Anchor },
				func(r *api.Record) { r.Beat = wall(0) },
				func(r *api.Record) { r.Beat = greatest },
				func(r *api.Record) { r.Beat = y.Stamp },
			} {
				r := record(status, wall(20))
				set(&r)
				got, _ := resolves(t, x, m, "a", r)
				areOps(t, "Resolve", got, want)
				if is, _ := queries(t, x, m, "a", 4, r); is != isThere {
					t.Errorf("Query: %t", is)
				}
			}
		}
	}
}

// P14.3: the intent's Id, Epoch and Stamp beside the record's; the Seq is the first one's, a middle one's, the last one's, or none's.
func TestQueries(t *testing.T) {
	l := []api.Change{change(2, "first"), del(4), change(5, ""), change(9, "last")}
	for _, c := range []struct {
		what string
		y    api.Intent
		want bool
	}{
		{"just below", own(3, stampOf(19, 1<<20-1), l...), true},
		{"at it", own(3, wall(20), l...), true},
		{"just above", own(3, stampOf(20, 1), l...), false},
		{"at 0", own(3, wall(0), l...), true},
		{"at the greatest", own(3, greatest, l...), false},
		{"of the epoch ahead", own(2, wall(15), l...), false},
		{"of the next epoch", own(4, wall(15), l...), false},
		{"of the epoch 0", own(0, wall(15), l...), false},
		{"of the last epoch", own(1<<53-1, wall(15), l...), false},
		{"another one's", api.Intent{Id: 8, Epoch: 3, Priority: 2, Anchor: "elder", Stamp: wall(15), Beat: wall(70), L: l}, false},
		{"of a lesser Id", api.Intent{Id: 6, Epoch: 3, Priority: 2, Anchor: "elder", Stamp: wall(15), Beat: wall(70), L: l}, false},
	} {
		m := with("a", kept(10)).way("a", c.y)
		x := m.table(t)
		for seq := 1; seq <= 11; seq++ {
			for _, status := range statuses {
				is, e := queries(t, x, m, "a", seq, record(status, wall(20)))
				answers(t, c.what, e, api.OK)
				if has := seq == 2 || seq == 4 || seq == 5 || seq == 9; is != (c.want && has) {
					t.Errorf("%s, %d: %t", c.what, seq, is)
				}
			}
		}
	}
}

// P14.3: of 16 changes each one is found, and none between them; a record's writes don't matter.
func TestQueriesOfManyChanges(t *testing.T) {
	m := with("a").way("a", own(3, wall(15), changes(16)...))
	x := m.table(t)
	for seq := 1; seq <= 60; seq++ {
		for _, w := range [][]api.Write{nil, {{Key: "a", Seq: 4}}, {{Key: "b", Seq: seq}}} {
			r := record(api.StatusStaging, wall(20))
			r.Writes = w
			is, e := queries(t, x, m, "a", seq, r)
			answers(t, "Query", e, api.OK)
			if is != (seq%3 == 0 && seq <= 48) {
				t.Errorf("%d: %t", seq, is)
			}
		}
	}
}

// P14.1, P14.3: versions of the key, and intents of other keys, don't matter.
func TestOtherThingsThatStand(t *testing.T) {
	for _, y := range []api.Intent{{}, own(3, wall(15), change(4, "z")), own(2, wall(15), change(4, "z")), others(wall(15))} {
		m := newShelf()
		if y.Id != 0 {
			m.way("b", y)
		}
		n := m.copied().add("b", kept(3), gone(wall(15)), kept(20), kept(30)).way("a", own(3, wall(12), change(4, "y"))).way("b\x00", own(3, wall(12), change(4, "x"))).way("c", others(wall(12)))
		for _, status := range statuses {
			for _, at := range []api.Stamp{wall(14), wall(15), wall(20)} {
				r := record(status, at)
				one, _ := resolves(t, m.table(t), m, "b", r)
				two, _ := resolves(t, n.table(t), n, "b", r)
				areOps(t, "with more beside it", two, one)
				is, _ := queries(t, m.table(t), m, "b", 4, r)
				isToo, _ := queries(t, n.table(t), n, "b", 4, r)
				if is != isToo {
					t.Errorf("Query: %t, and with more beside it %t", is, isToo)
				}
			}
		}
	}
}

// unreadable are texts that stand neither for an intent nor for a version.
func unreadable() []string {
	intent := must(cell.Intent(own(3, wall(1), change(4, "z"))))
	staged := must(cell.Record(staged()))
	longest := others(wall(1))
	longest.L = nil
	for i := range 16 {
		longest.L = append(longest.L, change(i+1, fill(64)))
	}
	return []string{"", "\x01", "\x02\x00\x00", "junk", "\x08", "\xff", intent[1:], intent[:len(intent)-1], intent + "\x00", staged, versionText(kept(1)) + "\x00", "\x00\x00", versionText(kept(123))[:4], "\x01\x02" + "\x01\x01x", "\x01\x01\x01\x41" + fill(65), must(cell.Stamp(stampOf(5, 7))), must(cell.Number(77)), must(cell.Intent(longest)) + "\x00", fill(5000)}
}

// P14.1, P14.3: an intent that can't be read is none.
func TestIntentsThatCantBeRead(t *testing.T) {
	for _, text := range append(unreadable(), versionText(kept(1)), versionText(gone(wall(1)))) {
		if _, e := cell.TakeIntent(text); e != api.ErrSyntax {
			t.Fatalf("%q is an intent", text)
		}
		m := with("a", kept(10)).and(put(intentKey("a"), text)).way("b", own(3, wall(15), change(4, "z")))
		x := m.table(t)
		for _, status := range statuses {
			l, e := resolves(t, x, m, "a", record(status, wall(20)))
			answers(t, "Resolve", e, api.OK)
			areOps(t, "Resolve", l, nil)
			is, e := queries(t, x, m, "a", 4, record(status, wall(20)))
			answers(t, "Query", e, api.OK)
			if is {
				t.Errorf("%q has a change", text)
			}
		}
	}
}

// beside are rows of a table that are no intents' and no versions' of keys, near those of that key.
func beside(key string) []api.Op {
	intent, value := must(cell.Intent(others(wall(1)))), versionText(kept(1))
	i, v := intentKey(key), versionKey(key, wall(16))
	ordered := i[1:]
	l := []api.Op{
		put("i", intent), put("v", value), put("b", must(cell.Number(5))), put("h", intent), put("j", intent), put("u", value), put("w", value), put("\x00", value), put("\xff", value), put("vv", value), put("ii", intent),
		put(i+"\x00", intent), put(i[:len(i)-1], intent), put(i[:len(i)-2], intent), put("I"+ordered, intent), put("j"+ordered, intent), put(ordered, intent), put("i"+key+"\x00\x02", intent), put("i\x00\x00", intent),
		put(v+"\x00", value), put(v[:len(v)-1], value), put("v"+ordered, value), put("v"+ordered+strings.Repeat("\xff", 9), value), put("v"+ordered+"\x01\x00\x00\x00\x00\x01\x00\x00\x00", value), put("v"+ordered+"\x00\x00\x00\x00\x00\x00\x10\x00\x00", value),
		put("V"+v[1:], value), put("w"+v[1:], value), put("u"+v[1:], value), put(v[1:], value), put("v"+key+"\x00\x02"+v[len(v)-9:], value), put("v\x00\x00"+v[len(v)-9:], value),
		put(versionKey(key, wall(0))+"\x00", value), put(versionKey(key, greatest)+"\x00", value), put(versionKey(key, wall(0))+"\xff", value),
		put(must(cell.RecordKey(key, 7)), intent), put(must(cell.RecordKey(key, 8)), must(cell.Record(record(api.StatusPending, wall(16))))),
	}
	for n := range 6 {
		l = append(l, put(must(cell.Threshold(n+1)), must(cell.Stamp(wall(16)))))
	}
	for _, long := range []string{fill(33), strings.Repeat("\xff", 33), "a" + fill(33)} {
		l = append(l, put("i"+long+"\x00\x00", intent), put("v"+long+v[len(v)-11:], value))
	}
	return l
}

// isBeside makes sure that no row of a list is an intent's or a version's.
func isBeside(t *testing.T, l []api.Op) {
	t.Helper()
	for _, o := range l {
		if _, e := cell.ReadIntent(o.Key); e != api.ErrSyntax {
			t.Fatalf("%q is an intent's key", o.Key)
		}
		if _, _, e := cell.ReadVersion(o.Key); e != api.ErrSyntax {
			t.Fatalf("%q is a version's key", o.Key)
		}
	}
}

// P14.1, P14.3: keys of the table that are of other kinds don't matter, wherever they stand.
func TestKeysThatAreNoIntents(t *testing.T) {
	for _, key := range []string{"a", "\x00", "\xff", "b\x00c", fill(31), fill(32), strings.Repeat("\xff", 32)} {
		isBeside(t, beside(key))
		for _, y := range []api.Intent{{}, own(3, wall(15), change(4, "z")), others(wall(15))} {
			m := with(key, kept(10))
			if y.Id != 0 {
				m.way(key, y)
			}
			n := m.copied().and(beside(key)...)
			for _, id := range []int{7, 8} {
				for _, status := range statuses {
					r := record(status, wall(20))
					r.Id = id
					one, _ := resolves(t, m.table(t), m, key, r)
					two, _ := resolves(t, n.table(t), n, key, r)
					areOps(t, "with more beside it", two, one)
					is, _ := queries(t, n.table(t), n, key, 4, r)
					if want, _ := m.query(key, 4, r); is != want {
						t.Errorf("Query: %t", is)
					}
				}
			}
		}
	}
}

// oddKeys are keys of which some one is the beginning of the next one, and that hold the bytes 0, 1 and 255.
var oddKeys = []string{
	"\x00", "\x00\x00", "\x00\x00\x00", "\x00\x01", "\x00\x01\x00", "\x00\xff", "\x01", "\x01\x00", "\x01\x01", "\x01\xff", "a", "a\x00", "a\x00\x00", "a\x00\x01", "a\x00b", "a\x00\xff", "a\x01", "a\x01\x00", "aa", "ab", "a\xff", "a\xff\x00", "a\xff\xff", "b",
	strings.Repeat("x", 31), strings.Repeat("x", 32), strings.Repeat("x", 31) + "y", "\xff", "\xff\x00", "\xff\x01", "\xff\xff", strings.Repeat("\xff", 31), strings.Repeat("\xff", 31) + "\x00", strings.Repeat("\xff", 32),
}

// P14.1, P14.3: what is told of a key hangs on its own intent alone, not on that of one of which it is the beginning.
func TestOddKeys(t *testing.T) {
	every := newShelf()
	for i, key := range oddKeys {
		every.way(key, own(3, wall(15), change(i+1, fmt.Sprint("of ", i))))
	}
	x := every.table(t)
	for i, key := range oddKeys {
		l, _ := resolves(t, x, every, key, record(api.StatusCommitted, wall(20)))
		want := settled{version: &version{at: wall(20), value: fmt.Sprint("of ", i)}, goes: true}
		areOps(t, key, l, want.ops(key))
		for _, k := range oddKeys {
			is, e := queries(t, x, every, k, i+1, record(api.StatusStaging, wall(20)))
			answers(t, k, e, api.OK)
			if is != (k == key) {
				t.Errorf("%q has that of %q: %t", k, key, is)
			}
		}
		// Each key has none, and all others have one; or it alone has one.
		none := every.copied()
		delete(none.intents, key)
		alone := newShelf().way(key, every.intents[key])
		for _, m := range []*shelf{none, alone} {
			y := m.table(t)
			for _, k := range oddKeys {
				l, _ := resolves(t, y, m, k, record(api.StatusAborted, wall(20)))
				if _, is := m.intents[k]; (len(l) == 1) != is {
					t.Errorf("%q: %+v", k, l)
				}
			}
		}
	}
}

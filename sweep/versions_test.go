package sweep_test

import (
	"fmt"
	"slices"
	"strings"
	"testing"

	"scriptorium/api"
	"scriptorium/cell"
	"scriptorium/sweep"
	"scriptorium/table"
)

// P15.1: versions of one key in plain words; to is 20.
func TestVersionsOfOneKey(t *testing.T) {
	for _, c := range []struct {
		what string
		l    []version
		want []api.Op
	}{
		{"none", nil, nil},
		{"one, below", []version{kept(10)}, nil},
		{"one, at it", []version{kept(20)}, nil},
		{"one, above", []version{kept(30)}, nil},
		{"no bytes, below", []version{blank(10)}, nil},
		{"no bytes, at it", []version{blank(20)}, nil},
		{"gone, below", []version{gone(10)}, going("a", 10)},
		{"gone, at it", []version{gone(20)}, going("a", 20)},
		{"gone, just below", []version{goneAt(stampOf(19, 1<<20-1))}, []api.Op{goes("a", stampOf(19, 1<<20-1))}},
		{"gone, just above", []version{goneAt(stampOf(20, 1))}, nil},
		{"gone, above", []version{gone(30)}, nil},
		{"two, below", []version{kept(10), kept(11)}, going("a", 10)},
		{"below and at it", []version{kept(10), kept(20)}, going("a", 10)},
		{"below and above", []version{kept(10), kept(30)}, nil},
		{"at it and above", []version{kept(20), kept(30)}, nil},
		{"below, at it and above", []version{kept(10), kept(20), kept(30)}, going("a", 10)},
		{"below, and no bytes at it", []version{kept(10), blank(20)}, going("a", 10)},
		{"gone below, no bytes at it", []version{gone(10), blank(20)}, going("a", 10)},
		{"below, gone at it", []version{kept(10), gone(20)}, going("a", 20, 10)},
		{"no bytes below, gone at it", []version{blank(10), gone(20)}, going("a", 20, 10)},
		{"gone below, gone at it", []version{gone(10), gone(20)}, going("a", 20, 10)},
		{"below, gone above", []version{kept(10), gone(30)}, nil},
		{"gone below, and above", []version{gone(10), kept(30)}, going("a", 10)},
		{"gone below, gone above", []version{gone(10), gone(30)}, going("a", 10)},
		{"gone among the elder", []version{kept(8), gone(10), kept(12), kept(20), kept(30)}, going("a", 12, 10, 8)},
		{"gone, the eldest", []version{gone(8), kept(10), kept(12)}, going("a", 10, 8)},
		{"all gone", []version{gone(8), gone(10), gone(12), gone(30)}, going("a", 12, 10, 8)},
		{"gone, with elder ones and later ones", []version{kept(8), kept(10), gone(12), kept(30), gone(40)}, going("a", 12, 10, 8)},
		{"at the least stamp", []version{kept(0)}, nil},
		{"gone at the least stamp", []version{gone(0)}, going("a", 0)},
		{"at the least stamp and above it", []version{kept(0), kept(1)}, going("a", 0)},
		{"at the greatest stamp", []version{kept(10), goneAt(greatest)}, nil},
	} {
		for _, key := range []string{"a", "\x00", fill(32)} {
			m := with(key, c.l...)
			x := m.table(t)
			l, e := sweep.Sweep(x, all, wall(20))
			answers(t, c.what, e, api.OK)
			want := make([]api.Op, len(c.want))
			for i, o := range c.want {
				_, at, _ := cell.ReadVersion(o.Key)
				want[i] = goes(key, at)
			}
			areOps(t, c.what, l, want)
			sweeps(t, x, m, all, wall(20))
			sweeps(t, x, m, point(key), wall(20))
		}
	}
}

// P15.1: all that may stand at five stamps beside each other (nothing, a value, one of no bytes, that the key is gone), and a to at each of them, and beside them; stamps that differ in Logic alone, and such as are at the ends of all, too.
func TestAllVersions(t *testing.T) {
	counts := map[int]int{}
	for _, from := range []int{0, place(stampOf(14, 7)), place(stampOf(14, 1<<20-3)), place(greatest) - 4} {
		for n := range 1 << 10 {
			m := newShelf()
			for i := range 5 {
				at := atPlace(from + i)
				switch n >> (2 * i) & 3 {
				case 1:
					m.add("a", keptAt(at))
				case 2:
					m.add("a", version{at: at})
				case 3:
					m.add("a", goneAt(at))
				}
			}
			x := m.table(t)
			for d := -1; d <= 5; d++ {
				if to := from + d; to >= 0 && to <= place(greatest) {
					l, _ := sweeps(t, x, m, point("a"), atPlace(to))
					counts[len(l)]++
				}
			}
		}
	}
	for n := range 6 {
		if counts[n] < 200 {
			t.Errorf("%d changes only %d times", n, counts[n])
		}
	}
}

// P15.1: several keys in one sweep, of each of them another case: the changes rise by the keys, and of each key fall by the stamps.
func TestSeveralKeys(t *testing.T) {
	m := with("a", kept(10), kept(20), kept(30)).add("a\x00", gone(20)).add("aa", kept(30)).add("ab", gone(10), kept(15), gone(18)).
		add("b", kept(10)).add("b\x00", kept(10), kept(11), kept(12), gone(20), kept(21)).add("b\x01", blank(20), gone(19)).add("\xff", kept(20), gone(1)).add("\x00", gone(3), kept(2))
	want := slices.Concat(going("\x00", 3, 2), going("a", 10), going("a\x00", 20), going("ab", 18, 15, 10), going("b\x00", 20, 12, 11, 10), going("b\x01", 19), going("\xff", 1))
	l, e := sweep.Sweep(m.table(t), all, wall(20))
	answers(t, "Sweep", e, api.OK)
	areOps(t, "Sweep", l, want)
	for n := range 35 {
		sweeps(t, m.table(t), m, all, wall(n))
		sweeps(t, m.table(t), m, all, stampOf(n, 1<<20-1))
	}
}

// P15.1: the first version of each key is that key's own, also where the next key begins as it does, or has one version alone.
func TestFirstVersionsOfKeys(t *testing.T) {
	ones, twos, lost := newShelf(), newShelf(), newShelf()
	var elder, all3 []api.Op
	for _, key := range slices.Sorted(slices.Values(oddKeys)) {
		ones.add(key, kept(10))
		twos.add(key, kept(10), kept(20))
		lost.add(key, kept(10), gone(20))
		elder = append(elder, goes(key, wall(10)))
		all3 = append(all3, goes(key, wall(20)), goes(key, wall(10)))
	}
	for i, c := range []struct {
		m    *shelf
		want []api.Op
	}{{ones, nil}, {twos, elder}, {lost, all3}} {
		l, e := sweeps(t, c.m.table(t), c.m, all, wall(20))
		answers(t, "Sweep", e, api.OK)
		areOps(t, fmt.Sprint("shelf ", i), l, c.want)
	}
}

// P15.1: keys at the span's From, just below its To, at its To, and outside of it; a span in which no key stands, one of one key, and one of all.
func TestKeysOfASpan(t *testing.T) {
	s := api.Span{From: "b", To: "d"}
	for _, c := range []struct {
		key  string
		isIn bool
	}{
		{"\x00", false}, {"a", false}, {"a\xff\xff", false}, {"B", false}, {"a" + strings.Repeat("\xff", 31), false}, {"b", true}, {"b\x00", true}, {"bb", true}, {"c", true}, {"c\x00", true}, {"c\xff\xff", true}, {"c" + strings.Repeat("\xff", 31), true},
		{"d", false}, {"d\x00", false}, {"d\xff", false}, {"e", false}, {"\xff", false}, {strings.Repeat("\xff", 32), false},
	} {
		m := with(c.key, kept(10), gone(20), kept(30))
		l, e := sweeps(t, m.table(t), m, s, wall(20))
		answers(t, c.key, e, api.OK)
		want := going(c.key, 20, 10)
		if !c.isIn {
			want = nil
		}
		areOps(t, fmt.Sprintf("%q alone", c.key), l, want)
		m.add("a", kept(1), kept(2)).add("d", kept(1), kept(2)).add("bc", kept(1), kept(3))
		sweeps(t, m.table(t), m, s, wall(20))
		l, _ = sweeps(t, m.table(t), m, point(c.key), wall(20))
		areOps(t, fmt.Sprintf("%q, and others", c.key), l, m.ofKey(c.key, wall(20)))
	}
}

// ofKey is all that goes of one key.
func (m *shelf) ofKey(key string, to api.Stamp) []api.Op {
	var l []api.Op
	for _, v := range m.needless(key, to) {
		l = append(l, goes(key, v.at))
	}
	return l
}

// P15.1: each span of all pairs of many ends, also of such as are no keys: of the keys that stand in it, and of no other one, versions go.
func TestEndsOfSpans(t *testing.T) {
	texts := []string{"", fill(33), fill(31) + "y\x00", fill(31) + "\x00", fill(32) + "\x00", fill(32) + "\xff", strings.Repeat("\x00", 33), strings.Repeat("\x00", 32) + "\x01", strings.Repeat("\xff", 33), strings.Repeat("\xff", 32) + "\x00", strings.Repeat("\xff", 31) + "\x00\x00", "\xfe", "m", "a\x00a"}
	for _, key := range oddKeys {
		texts = append(texts, key, key+"\x00")
	}
	m := everyKey()
	x := m.table(t)
	spans := 0
	for _, from := range texts {
		for _, to := range texts {
			s := api.Span{From: from, To: to}
			l, e := sweep.Sweep(x, s, wall(31))
			want, wantE := m.swept(s, wall(31))
			answers(t, fmt.Sprintf("%q", s), e, wantE)
			areOps(t, fmt.Sprintf("%q", s), l, want)
			if e == api.OK {
				spans++
			}
		}
	}
	if spans < 3000 {
		t.Errorf("only %d spans", spans)
	}
}

// P15.1: a span between two keys that stand beside each other has none of them.
func TestSpansWithoutKeys(t *testing.T) {
	m := newShelf()
	for _, key := range []string{"a", "c", fill(32), strings.Repeat("\xff", 32)} {
		m.add(key, kept(10), gone(15))
	}
	x := m.table(t)
	for _, s := range []api.Span{{From: "a\x00", To: "c"}, {From: "b", To: "c"}, {From: "", To: "a"}, {From: "\x00", To: "a"}, {From: fill(33), To: fill(32) + "y"}, {From: fill(32) + "\x00", To: "y"}, {From: fill(31), To: fill(32)}, {From: strings.Repeat("\xff", 32) + "\x00", To: strings.Repeat("\xff", 33)}, {From: "c\x00", To: fill(31)}} {
		l, e := sweeps(t, x, m, s, greatest)
		answers(t, fmt.Sprintf("%q", s), e, api.OK)
		areOps(t, fmt.Sprintf("%q", s), l, nil)
	}
}

// intent is one of a transaction.
func intent(id, epoch int, at api.Stamp) api.Intent {
	return api.Intent{Id: id, Epoch: epoch, Priority: 9, Anchor: "anchor", Stamp: at, Beat: wall(60), L: []api.Change{{Seq: 2, Value: "elder"}, {Seq: 4, Value: fmt.Sprint("of ", id)}}}
}

func pending() api.Record {
	return api.Record{Id: 8, Epoch: 3, Status: api.StatusPending, Priority: 5, Anchor: "anchor", Stamp: wall(16), Beat: wall(80)}
}

// unreadable are texts that stand for no version.
func unreadable() []string {
	y := must(cell.Intent(intent(8, 3, wall(1))))
	return []string{"", "\x01", "\x02\x00\x00", "junk", "\x08", "\xff", y, y[1:], must(cell.Record(pending())), versionText(kept(1)) + "\x00", versionText(gone(1)) + "\x00", "\x00\x00", versionText(kept(123))[:4], "\x01\x02" + "\x01\x01x", "\x01\x01\x01\x41" + fill(65), must(cell.Stamp(stampOf(5, 7))), must(cell.Number(77)), fill(5000)}
}

// P15.1: a text under a version's key that can't be read is no version: not the newest one, nor one that goes, wherever it stands.
func TestTextsThatCantBeRead(t *testing.T) {
	for _, text := range unreadable() {
		if _, _, e := cell.TakeVersion(text); e != api.ErrSyntax {
			t.Fatalf("%q is a version", text)
		}
		for _, c := range []struct {
			what string
			l    []version
			junk []int
			want []api.Op
		}{
			{"alone", nil, []int{10}, nil},
			{"many, alone", nil, []int{1, 10, 19, 20, 30}, nil},
			{"newer than the newest one", []version{kept(10)}, []int{15, 20}, nil},
			{"newer than the newest one, that is gone", []version{gone(10)}, []int{15}, going("a", 10)},
			{"newer than two", []version{kept(8), kept(10)}, []int{15}, going("a", 8)},
			{"between two", []version{kept(8), kept(10)}, []int{9}, going("a", 8)},
			{"between one that is gone, and an elder one", []version{kept(8), gone(10)}, []int{9}, going("a", 10, 8)},
			{"elder than the newest one", []version{kept(10)}, []int{0, 5, 9}, nil},
			{"elder than one that is gone", []version{gone(10)}, []int{0, 5, 9}, going("a", 10)},
			{"at to", []version{kept(10)}, []int{20}, nil},
			{"above to", []version{kept(8), kept(10), kept(30)}, []int{21, 25, 31}, going("a", 8)},
		} {
			m := with("a", c.l...)
			for _, n := range c.junk {
				m.junk("a", wall(n), text)
			}
			x := m.table(t)
			l, e := sweeps(t, x, m, all, wall(20))
			answers(t, c.what, e, api.OK)
			areOps(t, fmt.Sprintf("%s, %.20q", c.what, text), l, c.want)
			apply(t, x, l)
			for _, n := range c.junk {
				if got, is := x.Get(versionKey("a", wall(n))); !is || got != text {
					t.Fatalf("%s: %.20q does not stay", c.what, text)
				}
			}
			// Beside keys that have versions.
			m.add("\x00", kept(10), kept(20)).add("b", gone(20)).junk("a\x00", wall(10), text).junk("0", wall(20), text)
			sweeps(t, m.table(t), m, all, wall(20))
			sweeps(t, m.table(t), m, api.Span{From: "a", To: "b"}, wall(20))
		}
	}
}

// beside are rows of a table that are no versions of keys, near those of that key.
func beside(key string) []api.Op {
	y, value, lost := must(cell.Intent(intent(8, 3, wall(1)))), versionText(kept(1)), versionText(gone(1))
	i, v := intentKey(key), versionKey(key, wall(16))
	ordered := i[1:]
	l := []api.Op{
		put("i", y), put("v", value), put("b", must(cell.Number(5))), put("h", y), put("j", y), put("u", lost), put("w", lost), put("\x00", value), put("\xff", value), put("vv", lost), put("ii", y),
		put(i, y), put(i+"\x00", y), put(i[:len(i)-1], y), put(i[:len(i)-2], y), put("I"+ordered, y), put("j"+ordered, y), put(ordered, y), put("i"+key+"\x00\x02", y), put("i\x00\x00", y), put("i"+v[1:], value),
		put(v+"\x00", value), put(v+"\xff", lost), put(v[:len(v)-1], lost), put(v[:len(v)-2], value), put("v"+ordered, value), put("v"+ordered+strings.Repeat("\xff", 9), value), put("v"+ordered+"\x01\x00\x00\x00\x00\x01\x00\x00\x00", lost), put("v"+ordered+"\x00\x00\x00\x00\x00\x00\x10\x00\x00", lost),
		put("V"+v[1:], lost), put("w"+v[1:], lost), put("u"+v[1:], lost), put(v[1:], lost), put("v"+key+"\x00\x02"+v[len(v)-9:], lost), put("v\x00\x00"+v[len(v)-9:], lost), put("v\x00\x00"+versionKey(key, wall(3))[1:], value),
		put(versionKey(key, wall(0))+"\x00", lost), put(versionKey(key, greatest)+"\x00", lost), put(versionKey(key, wall(0))+"\xff", value),
		put(must(cell.RecordKey(key, 7)), lost), put(must(cell.RecordKey(key, 8)), must(cell.Record(pending()))),
	}
	for n := range 6 {
		l = append(l, put(must(cell.Threshold(n+1)), must(cell.Stamp(wall(16)))))
	}
	l = append(l, put("g\x00", lost), put("g\x07", lost), put(cell.Bound()+"\x00", lost))
	for _, long := range []string{fill(33), strings.Repeat("\xff", 33), strings.Repeat("\x00\x01", 33), "a" + fill(33)} {
		l = append(l, put("i"+long+"\x00\x00", y), put("v"+long+v[len(v)-11:], lost))
	}
	return l
}

// isBeside makes sure that no row of a list is a version's.
func isBeside(t *testing.T, l []api.Op) {
	t.Helper()
	for _, o := range l {
		if _, _, e := cell.ReadVersion(o.Key); e != api.ErrSyntax {
			t.Fatalf("%q is a version's key", o.Key)
		}
	}
}

// P15.1, P15.4: keys that can't be read, intents, records, thresholds, the bound and keys of other kinds, ahead of, between and behind the versions: they change nothing of what goes, and stay.
func TestRowsOfOtherKinds(t *testing.T) {
	keys := []string{"a", "\x00", "\xff", "b\x00c", fill(31), fill(32), strings.Repeat("\xff", 32), strings.Repeat("\x00", 32)}
	for _, key := range keys {
		isBeside(t, beside(key))
		for _, m := range []*shelf{newShelf(), with(key, kept(10), kept(15), kept(30)), with(key, kept(10), gone(16)), with(key, gone(17), kept(18)).add("a", kept(1), kept(2)).add("c", gone(3))} {
			n := m.copied().and(beside(key)...)
			for _, s := range []api.Span{all, point(key), {From: "", To: key}, {From: key + "\x00", To: all.To}, {From: "\x00", To: "\xff"}} {
				if s.From >= s.To {
					continue
				}
				x := n.table(t)
				one, e := sweeps(t, m.table(t), m, s, wall(20))
				two, f := sweeps(t, x, n, s, wall(20))
				answers(t, "with more beside it", f, e)
				areOps(t, fmt.Sprintf("with more beside %q", key), two, one)
				apply(t, x, two)
				stays(t, x, beside(key))
			}
		}
		// Each of them alone, too.
		for _, o := range beside(key) {
			m := newShelf().and(o)
			l, e := sweeps(t, m.table(t), m, all, greatest)
			answers(t, "Sweep", e, api.OK)
			areOps(t, fmt.Sprintf("%q alone", o.Key), l, nil)
		}
	}
}

// stays makes sure that a table has rows as they were put there.
func stays(t *testing.T, x *table.Table, l []api.Op) {
	t.Helper()
	for _, o := range l {
		if value, is := x.Get(o.Key); !is || value != o.Value {
			t.Fatalf("%q is %q, %t; want %q", o.Key, value, is, o.Value)
		}
	}
}

// P15.1: more changes than one batch may have, of one key and of many.
func TestManyChanges(t *testing.T) {
	for _, n := range []int{127, 128, 129, 130, 1000} {
		one, many := newShelf(), newShelf()
		for i := range n {
			one.add("a", keptAt(stampOf(7, i)))
			many.add(fmt.Sprintf("k%04d", i), kept(i), gone(5000))
		}
		l, e := sweeps(t, one.table(t), one, all, greatest)
		answers(t, "of one key", e, api.OK)
		if len(l) != n-1 {
			t.Errorf("of one key: %d changes of %d", len(l), n-1)
		}
		l, e = sweeps(t, many.table(t), many, all, greatest)
		answers(t, "of many keys", e, api.OK)
		if len(l) != 2*n {
			t.Errorf("of many keys: %d changes of %d", len(l), 2*n)
		}
		one.add("a", goneAt(greatest))
		l, _ = sweeps(t, one.table(t), one, point("a"), greatest)
		if len(l) != n+1 {
			t.Errorf("gone: %d changes of %d", len(l), n+1)
		}
		sweeps(t, one.table(t), one, all, stampOf(7, n/2))
		sweeps(t, many.table(t), many, all, wall(4999))
	}
}

// P15.1: whatever was done to a table before, by versions that came later and went, it is swept as it is now.
func TestATableThatChanges(t *testing.T) {
	m := with("a", kept(10))
	x := m.table(t)
	for i := range 40 {
		at := wall(11 + i*7%40)
		if i%3 == 0 {
			m.add("a", goneAt(at))
			apply(t, x, []api.Op{put(versionKey("a", at), versionText(goneAt(at)))})
		} else {
			m.add("a", keptAt(at))
			apply(t, x, []api.Op{put(versionKey("a", at), versionText(keptAt(at)))})
		}
		sweeps(t, x, m, all, wall(30))
		if i%5 == 4 {
			applied(t, x, m, all, wall(10+i/2))
		}
	}
}

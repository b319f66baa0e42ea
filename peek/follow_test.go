package peek_test

import (
	"fmt"
	"math/rand"
	"slices"
	"testing"

	"scriptorium/api"
	"scriptorium/peek"
)

// drawnKey is one of few, so that many of them are there.
func drawnKey(r *rand.Rand) string {
	b := make([]byte, 1+r.Intn(3))
	for i := range b {
		b[i] = "\x00\x01ab\xff"[r.Intn(5)]
	}
	return string(b)
}

// drawnStamp is one of few, most of them beside each other.
func drawnStamp(r *rand.Rand) api.Stamp {
	switch r.Intn(8) {
	case 0:
		return stampOf(20, r.Intn(2))
	case 1:
		return stampOf(9, 1<<20-1-r.Intn(2))
	}
	return stampOf(10+r.Intn(3), r.Intn(3))
}

func drawnVersion(r *rand.Rand, at api.Stamp) version {
	if r.Intn(3) == 0 {
		return version{at: at, gone: true}
	}
	return version{at: at, value: fmt.Sprint("value ", r.Intn(1000))}
}

func drawnIntent(r *rand.Rand) api.Intent {
	y := api.Intent{Id: 6 + r.Intn(3), Epoch: 2 + r.Intn(3), Priority: 1 + r.Intn(1000), Anchor: "anchor", Stamp: drawnStamp(r), Beat: drawnStamp(r)}
	for i := range 1 + r.Intn(4) {
		c := change(3*i+1+r.Intn(3), fmt.Sprint("change ", r.Intn(1000)))
		if r.Intn(3) == 0 {
			c = del(c.Seq)
		}
		y.L = append(y.L, c)
	}
	return y
}

// hasAt tells whether a key has a version at a stamp.
func (m *shelf) hasAt(key string, at api.Stamp) bool {
	return slices.ContainsFunc(m.versions[key], func(v version) bool { return v.at == at })
}

// drawnShelf has keys that were drawn up to so many times; of so many of hundred an intent.
func drawnShelf(r *rand.Rand, keys, intents int) *shelf {
	m := newShelf()
	for range r.Intn(keys + 1) {
		key := drawnKey(r)
		for range r.Intn(4) {
			if at := drawnStamp(r); !m.hasAt(key, at) {
				m.add(key, drawnVersion(r, at))
			}
		}
		if r.Intn(100) < intents {
			m.way(key, drawnIntent(r))
		}
	}
	for range r.Intn(3) {
		m.and(beside(drawnKey(r))...)
		l := unreadable()
		m.and(put(intentKey("none"+drawnKey(r)), l[r.Intn(len(l))]), put(versionKey("none"+drawnKey(r), drawnStamp(r)), l[r.Intn(len(l))]))
	}
	return m
}

func drawnReader(r *rand.Rand) api.Txn {
	x := me(drawnStamp(r), drawnStamp(r))
	if r.Intn(2) == 0 {
		x.Limit = x.Read
	}
	return x
}

// P12.2, P12.3: drawn tables, with what is no key of peek's among the rows, are read as the words say.
func TestDrawnTables(t *testing.T) {
	counts := map[api.Errno]int{}
	for seed := range 120 {
		r := rand.New(rand.NewSource(int64(seed)))
		m := drawnShelf(r, []int{3, 12, 2500}[seed%3], []int{0, 0, 30}[seed/3%3])
		x := m.table(t)
		for range 4 {
			txn, low := drawnReader(r), stampOf(9, 1<<20-3)
			if r.Intn(4) == 0 { // nothing is unsure there
				txn = me(wall(15), wall(15))
			}
			if r.Intn(10) == 0 {
				low = drawnStamp(r)
			}
			counts[holds(t, x, m, txn, low, drawnKey(r))]++
			for range 20 {
				counts[scans(t, x, m, api.Span{From: drawnKey(r), To: drawnKey(r)}, txn, low)]++
			}
		}
	}
	for _, e := range []api.Errno{api.OK, api.ErrArg, api.ErrOld, api.ErrLimit, api.ErrWait, api.ErrUnsure, api.ErrStale} {
		if counts[e] < 25 {
			t.Errorf("%d only %d times", e, counts[e])
		}
	}
}

// P12.6: each key of a Scan is what Get of it is, in order, and no key that is not told has something.
func TestScanIsGetOfEachKey(t *testing.T) {
	for seed := range 200 {
		r := rand.New(rand.NewSource(int64(seed)))
		m := drawnShelf(r, 40, []int{0, 0, 5}[seed%3])
		x := m.table(t)
		for range 10 {
			txn := drawnReader(r)
			s := api.Span{From: drawnKey(r), To: drawnKey(r) + "\xff"}
			if s.From >= s.To {
				continue
			}
			rows, f, e := peek.Scan(x, s, txn, wall(1))
			var want []api.Row
			for _, key := range m.keys() {
				if key < s.From || key >= s.To {
					continue
				}
				g, failed := peek.Get(x, key, txn, wall(1))
				if failed != api.OK {
					answers(t, "the first error", e, failed)
					found(t, "the first error", f, g)
					want = nil
					break
				}
				if g.Is {
					want = append(want, api.Row{Key: g.Key, Value: g.Value})
				}
				if len(want) > 64 {
					answers(t, "too many", e, api.ErrLimit)
					want = nil
					break
				}
			}
			told(t, "Scan", rows, want)
		}
	}
}

// P12.6: two spans that touch, and the one of both.
func TestSpansThatTouch(t *testing.T) {
	counts := map[api.Errno]int{}
	for seed := range 300 {
		r := rand.New(rand.NewSource(int64(seed)))
		m := drawnShelf(r, []int{20, 2500}[seed%2], []int{0, 0, 1}[seed%3])
		x := m.table(t)
		for range 20 {
			ends := []string{drawnKey(r), drawnKey(r), drawnKey(r)}
			slices.Sort(ends)
			if ends[0] == ends[1] || ends[1] == ends[2] {
				continue
			}
			txn := drawnReader(r)
			if r.Intn(2) == 0 { // nothing is unsure there
				txn = me(wall(15), wall(15))
			}
			one, f, e := peek.Scan(x, api.Span{From: ends[0], To: ends[1]}, txn, wall(1))
			two, g, h := peek.Scan(x, api.Span{From: ends[1], To: ends[2]}, txn, wall(1))
			both, k, failed := peek.Scan(x, api.Span{From: ends[0], To: ends[2]}, txn, wall(1))
			counts[failed]++
			switch {
			case e != api.OK:
				answers(t, "both", failed, e)
				found(t, "both", k, f)
			case failed == api.ErrLimit: // the second one may have its error behind the 65-th row
				if h == api.OK && len(one)+len(two) <= 64 {
					t.Fatalf("%d and %d rows are too many", len(one), len(two))
				}
			case h != api.OK:
				answers(t, "both", failed, h)
				found(t, "both", k, g)
			default:
				answers(t, "both", failed, api.OK)
				told(t, "both", both, slices.Concat(one, two))
			}
		}
	}
	for _, e := range []api.Errno{api.OK, api.ErrLimit, api.ErrWait, api.ErrUnsure} {
		if counts[e] < 20 {
			t.Errorf("%d only %d times", e, counts[e])
		}
	}
}

// P12.5: what another one writes at or above Read, a version or an intent, is in the way, or unsure, or changes nothing; above the top it changes nothing at all.
func TestWhatOthersWrite(t *testing.T) {
	counts := [2]int{}
	for seed := range 400 {
		r := rand.New(rand.NewSource(int64(seed)))
		m := drawnShelf(r, 12, 15)
		m.beside = nil
		txn := drawnReader(r)
		top := max(place(txn.Read), place(txn.Limit))
		for d := range 8 {
			key := drawnKey(r)
			at := atPlace(place(txn.Read) + d)
			if d >= 4 {
				at = atPlace(top + d - 4)
			}
			n := m.copied()
			if _, is := n.intents[key]; !is && r.Intn(2) == 0 {
				n.way(key, others(at))
			} else if !n.hasAt(key, at) {
				n.add(key, drawnVersion(r, at))
			}
			x, y := m.table(t), n.table(t)
			for _, k := range append(m.keys(), key) {
				f, e := peek.Get(x, k, txn, wall(1))
				g, h := peek.Get(y, k, txn, wall(1))
				isOne := place(at) <= top && k == key && (h == api.ErrWait || h == api.ErrUnsure)
				if (e != h || !same(f, g)) && !isOne {
					t.Fatalf("%q written at %v changes %q: %+v, %d; %+v, %d", key, at, k, f, e, g, h)
				}
				if isOne {
					counts[0]++
				} else {
					counts[1]++
				}
			}
			if place(at) > top {
				rows, f, e := peek.Scan(x, all, txn, wall(1))
				other, g, h := peek.Scan(y, all, txn, wall(1))
				answers(t, "Scan", h, e)
				found(t, "Scan", g, f)
				told(t, "Scan", other, rows)
			}
			holds(t, y, n, txn, wall(1), key)
		}
	}
	if counts[0] < 200 || counts[1] < 200 {
		t.Errorf("in the way or unsure, and not: %v", counts)
	}
}

// P12.5: the same in plain words, below, at and above Read and the top.
func TestWhatOneOtherWrites(t *testing.T) {
	txn := me(wall(15), wall(25))
	for _, c := range []struct {
		at      api.Stamp
		version api.Errno
		intent  api.Errno
		value   string // what is read
	}{
		{stampOf(14, 1<<20-1), api.OK, api.ErrWait, "new"},
		{wall(15), api.ErrUnsure, api.ErrWait, ""},
		{stampOf(15, 1), api.ErrUnsure, api.ErrWait, ""},
		{stampOf(24, 1<<20-1), api.ErrUnsure, api.ErrWait, ""},
		{wall(25), api.ErrUnsure, api.ErrWait, ""},
		{stampOf(25, 1), api.OK, api.OK, "old"},
		{wall(99), api.OK, api.OK, "old"},
	} {
		m := with("a", kept(10, "old"), version{at: c.at, value: "new"})
		f, e := peek.Get(m.table(t), "a", txn, wall(5))
		answers(t, fmt.Sprint("a version at ", c.at), e, c.version)
		if f.Value != c.value {
			t.Errorf("%v: %q is read", c.at, f.Value)
		}
		m = with("a", kept(10, "old")).way("a", others(c.at))
		f, e = peek.Get(m.table(t), "a", txn, wall(5))
		answers(t, fmt.Sprint("an intent at ", c.at), e, c.intent)
		if e == api.OK && f.Value != "old" {
			t.Errorf("%v: %q is read", c.at, f.Value)
		}
	}
}

// P12.7: at a greater stamp the same is read, if there is no version between, and nothing is in the way; with one between, that is.
func TestAtAGreaterStamp(t *testing.T) {
	m := with("a", kept(10, "x"), kept(20, "y")).add("b", kept(10, "z"), gone(20)).way("c", own(3, wall(12), change(1, "mine")))
	x := m.table(t)
	at := func(s api.Stamp) []api.Row {
		t.Helper()
		rows, _, e := peek.Scan(x, all, me(s, s), wall(5))
		answers(t, fmt.Sprint("Scan at ", s), e, api.OK)
		return rows
	}
	early := []api.Row{{Key: "c", Value: "mine"}}
	between := []api.Row{{Key: "a", Value: "x"}, {Key: "b", Value: "z"}, {Key: "c", Value: "mine"}}
	late := []api.Row{{Key: "a", Value: "y"}, {Key: "c", Value: "mine"}}
	for _, s := range []api.Stamp{wall(6), wall(8), stampOf(9, 1<<20-1)} {
		told(t, fmt.Sprint(s), at(s), early)
	}
	for _, s := range []api.Stamp{stampOf(10, 1), wall(15), stampOf(19, 1<<20-1)} {
		told(t, fmt.Sprint(s), at(s), between)
	}
	for _, s := range []api.Stamp{stampOf(20, 1), wall(30), greatest} {
		told(t, fmt.Sprint(s), at(s), late)
	}
}

// P12.7: the same of drawn tables.
func TestDrawnGreaterStamps(t *testing.T) {
	var kept, changed int
	for seed := range 400 {
		r := rand.New(rand.NewSource(int64(seed)))
		m := drawnShelf(r, 12, 15)
		x := m.table(t)
		for range 4 {
			one, two := drawnReader(r), drawnReader(r)
			if place(one.Read) > place(two.Read) {
				one, two = two, one
			}
			for _, key := range m.keys() {
				f, e := peek.Get(x, key, one, wall(1))
				g, h := peek.Get(x, key, two, wall(1))
				if e != api.OK || h != api.OK {
					continue
				}
				if v, is := greatestOf(m.versions[key], place(one.Read), place(two.Read)-1); !is {
					found(t, "with none between", g, f)
					kept++
				} else if !g.Own {
					found(t, "with one between", g, peek.Found{Key: key, Value: v.value, Is: !v.gone, Stamp: v.at})
					changed++
				}
			}
		}
	}
	if kept < 200 || changed < 200 {
		t.Errorf("the same %d times, another one %d times", kept, changed)
	}
}

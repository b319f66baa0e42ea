package sweep_test

import (
	"fmt"
	"maps"
	"math/rand"
	"slices"
	"testing"

	"scriptorium/api"
	"scriptorium/cell"
	"scriptorium/peek"
	"scriptorium/sweep"
	"scriptorium/table"
)

// drawnKey is one of few, so that many of them are there.
func drawnKey(r *rand.Rand) string {
	b := make([]byte, 1+r.Intn(2))
	for i := range b {
		b[i] = "\x00\x01a\xff"[r.Intn(4)]
	}
	return string(b)
}

// drawnStamp is one of few, most of them beside each other.
func drawnStamp(r *rand.Rand) api.Stamp {
	switch r.Intn(12) {
	case 0:
		return stampOf(20, r.Intn(2))
	case 1:
		return stampOf(9, 1<<20-1-r.Intn(2))
	case 2:
		return stampOf(12, 1<<20-1-r.Intn(2))
	case 3:
		if r.Intn(4) == 0 {
			return atPlace(place(greatest) - r.Intn(3))
		}
		return atPlace(r.Intn(3))
	}
	return stampOf(10+r.Intn(3), r.Intn(3))
}

func drawnVersion(r *rand.Rand, at api.Stamp) version {
	switch r.Intn(8) {
	case 0, 1, 2:
		return goneAt(at)
	case 3:
		return version{at: at}
	}
	return version{at: at, value: fmt.Sprint("value ", r.Intn(1000))}
}

// drawnShelf has keys that were drawn up to so many times; of some there are intents, or texts that can't be read.
func drawnShelf(r *rand.Rand, keys int) *shelf {
	m := newShelf()
	for range r.Intn(keys + 1) {
		key := drawnKey(r)
		for range r.Intn(6) {
			if at := drawnStamp(r); !m.hasAt(key, at) {
				m.add(key, drawnVersion(r, at))
			}
		}
		if r.Intn(4) == 0 {
			m.way(key, intent(6+r.Intn(3), 2+r.Intn(3), drawnStamp(r)))
		}
	}
	for range r.Intn(3) {
		m.and(beside("none" + drawnKey(r))...)
	}
	l := unreadable()
	for range r.Intn(12) {
		if key, at := drawnKey(r), drawnStamp(r); !m.hasAt(key, at) {
			m.junk(key, at, l[r.Intn(len(l))])
		}
	}
	return m
}

func drawnSpan(r *rand.Rand) api.Span {
	switch r.Intn(4) {
	case 0:
		return all
	case 1:
		return point(drawnKey(r))
	}
	s := api.Span{From: drawnKey(r), To: drawnKey(r)}
	if s.From > s.To {
		s.From, s.To = s.To, s.From
	}
	return s
}

// P15.1: drawn tables are swept as the words say, once, and on and on.
func TestDrawnTables(t *testing.T) {
	counts := map[api.Errno]int{}
	changes := 0
	for seed := range 300 {
		r := rand.New(rand.NewSource(int64(seed)))
		m := drawnShelf(r, []int{5, 40}[seed%2])
		x := m.table(t)
		for range 30 {
			_, e := sweeps(t, x, m, drawnSpan(r), drawnStamp(r))
			counts[e]++
		}
		for range 10 {
			changes += len(applied(t, x, m, drawnSpan(r), drawnStamp(r)))
		}
	}
	if counts[api.OK] < 2000 || counts[api.ErrArg] < 200 || changes < 3000 {
		t.Errorf("errors %v, %d changes", counts, changes)
	}
}

// someone reads at Read, up to Limit.
func someone(id, epoch int, read, limit api.Stamp) api.Txn {
	return api.Txn{Id: id, Epoch: epoch, Read: read, Limit: limit}
}

// readsTheSame makes sure that a transaction reads under a key what it read ahead of a sweep. Of a version that went, because it said that the key is gone, the stamp is not told any more.
func readsTheSame(t *testing.T, what string, before, behind *table.Table, key string, txn api.Txn, to api.Stamp) (peek.Found, api.Errno) {
	t.Helper()
	f, e := peek.Get(before, key, txn, api.Stamp{})
	g, h := peek.Get(behind, key, txn, api.Stamp{})
	isLost := e == api.OK && !f.Is && !f.Own && place(f.Stamp) <= place(to)
	isStamp := g.Stamp == f.Stamp || isLost && g.Stamp == api.Stamp{}
	if h != e || g.Key != f.Key || g.Value != f.Value || g.Is != f.Is || g.Own != f.Own || !isStamp || !cell.Same(g.Way, f.Way) {
		t.Fatalf("%s: %q, read by %+v: %+v, %d; it was %+v, %d", what, key, txn, g, h, f, e)
	}
	return f, e
}

// byKey are the changes of each key, in their order.
func byKey(t *testing.T, l []api.Op) map[string][]api.Op {
	t.Helper()
	of := map[string][]api.Op{}
	for _, o := range l {
		key, _, e := cell.ReadVersion(o.Key)
		answers(t, "ReadVersion", e, api.OK)
		of[key] = append(of[key], o)
	}
	return of
}

// elder are the last ones of the changes of each key, so many as a function tells.
func elder(of map[string][]api.Op, some func(key string, n int) int) []api.Op {
	var part []api.Op
	for _, key := range slices.Sorted(maps.Keys(of)) {
		l := of[key]
		part = append(part, l[len(l)-some(key, len(l)):]...)
	}
	return part
}

// without is a table from which changes took away what they do.
func without(t *testing.T, x *table.Table, l []api.Op) *table.Table {
	t.Helper()
	y := x.Copy()
	apply(t, y, l)
	return y
}

// P15.3: the chapter's examples, swept to each stamp, whole and in each part that takes of the key elder versions first: at each Read above that a is read as it was, with limits, too.
func TestExamplesAreReadTheSame(t *testing.T) {
	m := example().add("c", gone(10)).add("d", gone(10), kept(20)).add("e", blank(10), gone(20)).way("d", intent(8, 3, wall(33))).junk("c", wall(20), "junk")
	x := m.table(t)
	parts := 0
	for to := range 45 {
		l, e := sweeps(t, x, m, all, wall(to))
		answers(t, "Sweep", e, api.OK)
		of := byKey(t, l)
		for n := range 4 {
			y := without(t, x, elder(of, func(_ string, most int) int { return min(n, most) }))
			parts++
			for read := to + 1; read < 50; read++ {
				for _, limit := range []api.Stamp{wall(0), wall(read), wall(read + 1), wall(read + 9), greatest} {
					for _, key := range []string{"a", "b", "c", "d", "e", "f"} {
						readsTheSame(t, fmt.Sprint("to ", to, ", ", n, " of each"), x, y, key, someone(9, 1, wall(read), limit), wall(to))
					}
				}
			}
			// The least Read that is above it.
			for _, key := range m.keys() {
				readsTheSame(t, fmt.Sprint("just above ", to), x, y, key, someone(9, 1, stampOf(to, 1), wall(0)), wall(to))
			}
		}
	}
	if parts != 45*4 {
		t.Errorf("%d parts", parts)
	}
	// In plain words: a at 36 is x, y, or gone, and at 41 z.
	y := without(t, x, m.ofKey("a", wall(35)))
	f, e := peek.Get(y, "a", someone(9, 1, wall(36), wall(36)), wall(35))
	answers(t, "a at 36", e, api.OK)
	if f.Is || f.Value != "" {
		t.Errorf("a at 36: %+v", f)
	}
	f, e = peek.Get(y, "a", someone(9, 1, wall(41), wall(41)), wall(35))
	answers(t, "a at 41", e, api.OK)
	if !f.Is || f.Value != "z" || f.Stamp != wall(40) {
		t.Errorf("a at 41: %+v", f)
	}
	_, e = peek.Get(y, "a", someone(9, 1, wall(36), wall(40)), wall(35))
	answers(t, "a at 36, up to 40", e, api.ErrUnsure)
}

// P15.3: each part of a sweep of two keys, of the one so many changes, of the other one as many: what stands there is read as it was.
func TestEachPartIsReadTheSame(t *testing.T) {
	for n := range 32 {
		m := newShelf()
		for i := range 4 {
			v := keptAt(stampOf(10, i))
			if n>>i&1 == 1 {
				v = goneAt(v.at)
			}
			m.add("a", v)
			if n>>4 == 1 {
				v.gone, v.value = !v.gone, ""
			}
			m.add("a\x00", v)
		}
		x := m.table(t)
		for to := range 4 {
			l, _ := sweeps(t, x, m, all, stampOf(10, to))
			of := byKey(t, l)
			for one := range len(of["a"]) + 1 {
				for two := range len(of["a\x00"]) + 1 {
					y := without(t, x, elder(of, func(key string, _ int) int {
						if key == "a" {
							return one
						}
						return two
					}))
					for read := to + 1; read < 6; read++ {
						for limit := range 6 {
							for _, key := range []string{"a", "a\x00"} {
								readsTheSame(t, fmt.Sprint(one, " and ", two), x, y, key, someone(9, 1, stampOf(10, read), stampOf(10, limit)), stampOf(10, to))
							}
						}
					}
				}
			}
		}
	}
}

// drawnAbove is a stamp that is above another one.
func drawnAbove(r *rand.Rand, to api.Stamp) api.Stamp {
	for range 20 {
		if at := drawnStamp(r); place(at) > place(to) {
			return at
		}
	}
	return atPlace(min(place(to)+1+r.Intn(2), place(greatest)))
}

// P15.3: drawn tables with intents, and texts that can't be read: behind a sweep, and behind drawn parts of it, each key is read as it was, at each Read above to, and scanned.
func TestDrawnTablesAreReadTheSame(t *testing.T) {
	counts := map[api.Errno]int{}
	var values, none, own int
	for seed := range 400 {
		r := rand.New(rand.NewSource(int64(seed)))
		m := drawnShelf(r, []int{5, 40}[seed%2])
		x := m.table(t)
		keys := append(m.keys(), "nothing stands here")
		s, to := drawnSpan(r), drawnStamp(r)
		l, e := sweeps(t, x, m, s, to)
		if e != api.OK || to == greatest {
			continue
		}
		of := byKey(t, l)
		for n := range 4 {
			part := l
			if n > 0 {
				part = elder(of, func(_ string, most int) int { return r.Intn(most + 1) })
			}
			y := without(t, x, part)
			for range 20 {
				txn := someone(6+r.Intn(4), 2+r.Intn(3), drawnAbove(r, to), drawnStamp(r))
				if r.Intn(2) == 0 {
					txn.Limit = api.Stamp{}
				}
				for _, key := range keys {
					f, e := readsTheSame(t, fmt.Sprint("seed ", seed), x, y, key, txn, to)
					counts[e]++
					switch {
					case f.Own:
						own++
					case f.Is:
						values++
					case e == api.OK:
						none++
					}
				}
				rows, f, e := peek.Scan(x, all, txn, api.Stamp{})
				later, g, h := peek.Scan(y, all, txn, api.Stamp{})
				answers(t, "Scan", h, e)
				told(t, "Scan", later, rows)
				if g.Key != f.Key || g.Stamp != f.Stamp || !cell.Same(g.Way, f.Way) {
					t.Fatalf("Scan: %+v; it was %+v", g, f)
				}
			}
		}
	}
	for _, e := range []api.Errno{api.OK, api.ErrWait, api.ErrUnsure, api.ErrStale} {
		if counts[e] < 500 {
			t.Errorf("%d only %d times", e, counts[e])
		}
	}
	if values < 5000 || none < 5000 || own < 300 {
		t.Errorf("values %d times, none %d times, own ones %d times", values, none, own)
	}
}

// P15.3: the changes are done from the last one on, batch by batch: behind each batch all is read as it was.
func TestBatchesFromTheLastOne(t *testing.T) {
	m := newShelf()
	for i := range 60 {
		key := fmt.Sprintf("k%02d", i)
		for n := range 3 + i%7 {
			v := kept(10 + n)
			if (n+i)%4 == 0 {
				v = gone(10 + n)
			}
			m.add(key, v)
		}
	}
	x := m.table(t)
	to := wall(14)
	l, e := sweeps(t, x, m, all, to)
	answers(t, "Sweep", e, api.OK)
	slices.Reverse(l)
	y := x.Copy()
	for part := range slices.Chunk(l, 37) {
		apply(t, y, part)
		for _, key := range m.keys() {
			for read := 15; read < 22; read++ {
				readsTheSame(t, "a part", x, y, key, someone(9, 1, wall(read), wall(read)), to)
				readsTheSame(t, "a part", x, y, key, someone(9, 1, stampOf(14, 1), wall(read)), to)
			}
		}
	}
	sweepsNothing(t, y, all, to)
}

// sweepsNothing makes sure that nothing is left to do.
func sweepsNothing(t *testing.T, x *table.Table, s api.Span, to api.Stamp) {
	t.Helper()
	l, e := sweep.Sweep(x, s, to)
	answers(t, "swept again", e, api.OK)
	areOps(t, fmt.Sprintf("%q swept again, to %v", s, to), l, nil)
}

// isUntouched tells whether a row is none that a sweep may take away: it is no version, or one outside of the span, or above to.
func isUntouched(row api.Row, s api.Span, to api.Stamp) bool {
	key, at, e := cell.ReadVersion(row.Key)
	_, _, f := cell.TakeVersion(row.Value)
	return e != api.OK || f != api.OK || key < s.From || key >= s.To || place(at) > place(to)
}

func only(rows []api.Row, is func(api.Row) bool) []api.Row {
	return slices.DeleteFunc(slices.Clone(rows), func(row api.Row) bool { return !is(row) })
}

// P15.4: swept again, to the same stamp, or to a lesser one, all of it or a piece of it, nothing is left to do; what is outside of the span, or above the stamp, or no version, stays byte for byte, and so does all that was not told to go.
func TestSweptAgain(t *testing.T) {
	changes := 0
	for seed := range 300 {
		r := rand.New(rand.NewSource(int64(seed)))
		m := drawnShelf(r, 40)
		x := m.table(t)
		for range 6 {
			s, to := drawnSpan(r), drawnStamp(r)
			before := x.Rows()
			l, e := sweep.Sweep(x, s, to)
			if e != api.OK {
				continue
			}
			changes += len(l)
			apply(t, x, l)
			sweepsNothing(t, x, s, to)
			for range 5 {
				if at := drawnStamp(r); place(at) <= place(to) {
					sweepsNothing(t, x, s, at)
				}
				sweepsNothing(t, x, point(s.From), atPlace(place(to)/2))
			}
			stay := func(row api.Row) bool { return isUntouched(row, s, to) }
			told(t, "what stays", only(x.Rows(), stay), only(before, stay))
			told(t, "what was not told to go", x.Rows(), only(before, func(row api.Row) bool {
				return !slices.Contains(l, api.Op{Key: row.Key, Del: true})
			}))
		}
	}
	if changes < 3000 {
		t.Errorf("only %d changes", changes)
	}
}

// P15.4: behind a sweep of each key there is one version at most at or below to, and that is a value; a table swept to a stamp, and then to a greater one, is as one that was swept to that alone.
func TestSweptStepByStep(t *testing.T) {
	for seed := range 200 {
		r := rand.New(rand.NewSource(int64(seed)))
		m := drawnShelf(r, 40)
		x, y := m.table(t), m.table(t)
		l := []api.Stamp{drawnStamp(r), drawnStamp(r), drawnStamp(r), drawnStamp(r)}
		slices.SortFunc(l, func(a, b api.Stamp) int { return place(a) - place(b) })
		n := m.copied()
		for _, to := range l {
			applied(t, x, n, all, to)
		}
		to := l[len(l)-1]
		applied(t, y, m, all, to)
		told(t, "step by step", x.Rows(), y.Rows())
		last := ""
		for _, row := range y.Rows() {
			if isUntouched(row, all, to) {
				continue
			}
			key, _, _ := cell.ReadVersion(row.Key)
			if _, is, _ := cell.TakeVersion(row.Value); !is || key == last {
				t.Fatalf("%q stays: %q", key, row)
			}
			last = key
		}
	}
}

// P15.1, P15.4: a sweep of two spans that touch is the sweep of both, one behind the other, and the one leaves the other's alone.
func TestSpansThatTouch(t *testing.T) {
	for seed := range 200 {
		r := rand.New(rand.NewSource(int64(seed)))
		m := drawnShelf(r, 40)
		x := m.table(t)
		for range 20 {
			l := []string{drawnKey(r), drawnKey(r), drawnKey(r)}
			slices.Sort(l)
			if l[0] == l[1] || l[1] == l[2] {
				continue
			}
			to := drawnStamp(r)
			one, _ := sweep.Sweep(x, api.Span{From: l[0], To: l[1]}, to)
			two, _ := sweep.Sweep(without(t, x, one), api.Span{From: l[1], To: l[2]}, to)
			both, e := sweep.Sweep(x, api.Span{From: l[0], To: l[2]}, to)
			answers(t, "both", e, api.OK)
			areOps(t, "both", both, slices.Concat(one, two))
		}
	}
}

package settle_test

import (
	"fmt"
	"maps"
	"math/rand"
	"slices"
	"testing"

	"scriptorium/api"
	"scriptorium/cell"
	"scriptorium/peek"
	"scriptorium/settle"
	"scriptorium/table"
)

// drawnKey is one of few, so that many of them are there.
func drawnKey(r *rand.Rand) string {
	b := make([]byte, 1+r.Intn(2))
	for i := range b {
		b[i] = "\x00\x01a\xff"[r.Intn(4)]
	}
	return string(b)
}

// drawnStamp is one of few, most of them beside each other, never the least one.
func drawnStamp(r *rand.Rand) api.Stamp {
	switch r.Intn(12) {
	case 0:
		return stampOf(20, r.Intn(2))
	case 1:
		return stampOf(9, 1<<20-1-r.Intn(2))
	case 2:
		return stampOf(12, 1<<20-1-r.Intn(2))
	case 3:
		if r.Intn(4) == 0 {
			return atPlace(place(greatest) - r.Intn(3))
		}
	}
	return stampOf(10+r.Intn(3), r.Intn(3))
}

func drawnVersion(r *rand.Rand, at api.Stamp) version {
	if r.Intn(3) == 0 {
		return gone(at)
	}
	return version{at: at, value: fmt.Sprint("value ", r.Intn(1000))}
}

func drawnIntent(r *rand.Rand) api.Intent {
	y := api.Intent{Id: 6 + r.Intn(3), Epoch: 2 + r.Intn(3), Priority: 1 + r.Intn(1000), Anchor: "anchor", Stamp: drawnStamp(r), Beat: drawnStamp(r)}
	n := 1 + r.Intn(4)
	if r.Intn(4) == 0 {
		n = 16
	}
	seq := 0
	for range n {
		seq += 1 + r.Intn(3)
		c := change(seq, fmt.Sprint("change ", r.Intn(1000)))
		if r.Intn(3) == 0 {
			c = del(seq)
		}
		y.L = append(y.L, c)
	}
	return y
}

// drawnShelf has keys that were drawn up to so many times; of so many of hundred an intent.
func drawnShelf(r *rand.Rand, keys, intents int) *shelf {
	m := newShelf()
	for range r.Intn(keys + 1) {
		key := drawnKey(r)
		for range r.Intn(4) {
			if at := drawnStamp(r); !m.hasAt(key, at) {
				m.add(key, drawnVersion(r, at))
			}
		}
		if r.Intn(100) < intents {
			m.way(key, drawnIntent(r))
		}
	}
	for range r.Intn(3) {
		m.and(beside(drawnKey(r))...)
		l := unreadable()
		m.and(put(intentKey("none"+drawnKey(r)), l[r.Intn(len(l))]), put(versionKey("none"+drawnKey(r), drawnStamp(r)), l[r.Intn(len(l))]))
	}
	return m
}

func drawnRecord(r *rand.Rand) api.Record {
	x := record(statuses[r.Intn(4)], drawnStamp(r))
	x.Id, x.Epoch, x.Priority, x.Beat = 6+r.Intn(3), 2+r.Intn(3), 1+r.Intn(1000), drawnStamp(r)
	if x.Status == api.StatusStaging {
		x.Writes = writesTo(r.Intn(4))
	}
	return x
}

// drawnOf is a drawn key, most often one that has an intent.
func (m *shelf) drawnOf(r *rand.Rand) string {
	l := slices.Sorted(maps.Keys(m.intents))
	if len(l) == 0 || r.Intn(4) == 0 {
		return drawnKey(r)
	}
	return l[r.Intn(len(l))]
}

// drawnFor is a record, most often of the transaction that has the intent at a key, and half of those in its epoch.
func (m *shelf) drawnFor(r *rand.Rand, key string) api.Record {
	x := drawnRecord(r)
	if y, is := m.intents[key]; is && r.Intn(4) > 0 {
		x.Id = y.Id
		if r.Intn(2) == 0 {
			x.Epoch = y.Epoch
		}
	}
	return x
}

func drawnReader(r *rand.Rand) api.Txn {
	x := reader(drawnStamp(r))
	x.Id, x.Epoch, x.Limit = 6+r.Intn(4), 2+r.Intn(3), drawnStamp(r)
	return x
}

func drawnSpan(r *rand.Rand) api.Span {
	switch r.Intn(4) {
	case 0:
		return all
	case 1:
		return point(drawnKey(r))
	}
	return api.Span{From: drawnKey(r), To: drawnKey(r)}
}

// P14.1, P14.2, P14.3: drawn tables are settled, and asked, as the words say, once, and on and on.
func TestDrawnTables(t *testing.T) {
	changed := map[int]int{}
	counts := map[api.Errno]int{}
	found := map[bool]int{}
	for seed := range 150 {
		r := rand.New(rand.NewSource(int64(seed)))
		m := drawnShelf(r, 30, []int{10, 60, 90}[seed%3])
		x := m.table(t)
		for range 40 {
			_, e := refreshes(t, x, m, drawnSpan(r), drawnReader(r), drawnStamp(r), stampOf(9, 1<<20-2))
			counts[e]++
			key := m.drawnOf(r)
			is, _ := queries(t, x, m, key, 1+r.Intn(10), m.drawnFor(r, key))
			found[is]++
			resolves(t, x, m, key, m.drawnFor(r, key))
		}
		for range 20 {
			key := m.drawnOf(r)
			changed[len(applied(t, x, m, key, m.drawnFor(r, key)))]++
		}
	}
	for _, e := range []api.Errno{api.OK, api.ErrArg, api.ErrOld, api.ErrRetry, api.ErrWait} {
		if counts[e] < 100 {
			t.Errorf("%d only %d times", e, counts[e])
		}
	}
	if changed[0] < 100 || changed[1] < 100 || changed[2] < 50 || found[true] < 200 || found[false] < 50 {
		t.Errorf("so many changes: %v; found: %v", changed, found)
	}
}

// readsAs asks what a transaction reads under a key, above the threshold 0.
func readsAs(x *table.Table, key string, txn api.Txn) (peek.Found, api.Errno) {
	return peek.Get(x, key, txn, api.Stamp{})
}

// isFound tells whether two Founds are the same.
func isFound(f, want peek.Found) bool {
	return f.Key == want.Key && f.Value == want.Value && f.Is == want.Is && f.Own == want.Own && f.Stamp == want.Stamp && cell.Same(f.Way, want.Way)
}

// only are the rows of which that holds.
func only(l []api.Row, is func(api.Row) bool) []api.Row {
	var kept []api.Row
	for _, row := range l {
		if is(row) {
			kept = append(kept, row)
		}
	}
	return kept
}

// P14.5: what was settled by a record that has ended is settled: once more changes nothing; nor does the other way of ending, or a late pending one, of that transaction.
func TestOnceMore(t *testing.T) {
	for _, status := range []int{api.StatusCommitted, api.StatusAborted} {
		for _, epoch := range []int{2, 3, 4} {
			for _, at := range []api.Stamp{wall(14), wall(15), wall(20)} {
				m := with("a", kept(10)).way("a", own(epoch, wall(15), change(4, "y"), change(5, "z"))).way("b", others(wall(3)))
				x := m.table(t)
				if l := applied(t, x, m, "a", record(status, at)); len(l) == 0 {
					t.Fatal("nothing is settled")
				}
				before := x.Rows()
				for _, again := range statuses {
					for _, late := range []api.Stamp{wall(14), wall(15), wall(20), wall(30)} {
						l := applied(t, x, m, "a", record(again, late))
						areOps(t, "once more", l, nil)
						is, _ := queries(t, x, m, "a", 5, record(again, late))
						if is {
							t.Error("what is settled is found")
						}
					}
				}
				told(t, "the table", x.Rows(), before)
			}
		}
	}
}

// P14.5: the same of drawn tables, key by key.
func TestOnceMoreOfDrawnTables(t *testing.T) {
	var settledOnes int
	for seed := range 100 {
		r := rand.New(rand.NewSource(int64(seed)))
		m := drawnShelf(r, 30, 70)
		x := m.table(t)
		for range 10 {
			ended := drawnRecord(r)
			ended.Writes, ended.Status = nil, api.StatusCommitted+r.Intn(2)
			for _, key := range m.keys() {
				if len(applied(t, x, m, key, ended)) > 0 {
					settledOnes++
				}
				areOps(t, "once more", applied(t, x, m, key, ended), nil)
			}
		}
	}
	if settledOnes < 300 {
		t.Errorf("only %d times", settledOnes)
	}
}

// P14.5: who reads behind the stamp of a commit reads the last change of each key that was written; who reads at or below it reads what stood there ahead; an aborted one is read by nobody.
func TestWhatOthersReadBehindIt(t *testing.T) {
	for _, l := range lists() {
		last := l[len(l)-1]
		for _, v := range [][]version{nil, {kept(10)}, {kept(10), gone(wall(14))}, {kept(10), kept(40)}} {
			m := with("a", v...).way("a", own(3, wall(15), l...))
			before := m.copied()
			delete(before.intents, "a")
			bare := before.table(t)
			committed, aborted := m.table(t), m.table(t)
			applied(t, committed, m.copied(), "a", record(api.StatusCommitted, wall(20)))
			applied(t, aborted, m.copied(), "a", record(api.StatusAborted, wall(20)))
			for _, id := range []int{7, 8, 9} {
				for _, at := range []api.Stamp{wall(1), wall(11), wall(15), wall(16), stampOf(19, 1<<20-1), wall(20), stampOf(20, 1), wall(30), wall(40), wall(41), greatest} {
					other := api.Txn{Id: id, Epoch: 3, Read: at, Limit: at}
					was, wasE := readsAs(bare, "a", other)
					f, e := readsAs(committed, "a", other)
					want, wantE := was, wasE
					switch {
					case at == wall(20):
						want, wantE = peek.Found{Key: "a", Stamp: wall(20)}, api.ErrUnsure
					case place(at) > place(wall(20)) && !(len(v) > 1 && v[1].at == wall(40) && place(at) >= place(wall(40))):
						want = peek.Found{Key: "a", Value: last.Value, Is: !last.Del, Stamp: wall(20)}
					}
					answers(t, fmt.Sprint("committed, read at ", at), e, wantE)
					if !isFound(f, want) {
						t.Fatalf("committed, read at %v: %+v; want %+v", at, f, want)
					}
					f, e = readsAs(aborted, "a", other)
					answers(t, fmt.Sprint("aborted, read at ", at), e, wasE)
					if !isFound(f, was) {
						t.Fatalf("aborted, read at %v: %+v; want %+v", at, f, was)
					}
				}
			}
		}
	}
}

// P14.5: a transaction that wrote several keys, in two epochs, is committed: its last change of each key that it wrote in the record's epoch is read behind the stamp, of the other keys what was there.
func TestACommitOfManyKeys(t *testing.T) {
	m := newShelf()
	want := map[string]string{}
	for i, key := range oddKeys {
		m.add(key, kept(10))
		want[key] = fmt.Sprint("of ", wall(10))
		switch i % 4 {
		case 0:
			m.way(key, own(3, wall(12+i%9), change(i+1, "elder"), change(i+2, fmt.Sprint("last ", i))))
			want[key] = fmt.Sprint("last ", i)
		case 1:
			m.way(key, own(2, wall(12+i%9), change(i+1, "past")))
		case 2:
			m.way(key, own(3, wall(12+i%9), change(i+1, "elder"), del(i+9)))
			delete(want, key)
		}
	}
	for _, status := range []int{api.StatusCommitted, api.StatusAborted} {
		n := m.copied()
		x := n.table(t)
		for _, key := range oddKeys {
			applied(t, x, n, key, record(status, wall(20)))
		}
		rows, _, e := peek.Scan(x, all, api.Txn{Id: 9, Read: stampOf(20, 1), Limit: stampOf(20, 1)}, wall(1))
		answers(t, "Scan behind it", e, api.OK)
		for _, key := range oddKeys {
			i := slices.IndexFunc(rows, func(row api.Row) bool { return row.Key == key })
			value, is := want[key]
			if status == api.StatusAborted {
				value, is = fmt.Sprint("of ", wall(10)), true
			}
			if (i >= 0) != is || is && rows[i].Value != value {
				t.Errorf("%d, %q: %q; want %q, %t", status, key, rows, value, is)
			}
		}
	}
}

// sameBehind asks a Refresh for what the words promise of each key of a span, and answers how many keys were the same, and how many were in the way, or unsure.
func sameBehind(t *testing.T, x *table.Table, s api.Span, keys []string, txn api.Txn, to api.Stamp) (same, not int) {
	t.Helper()
	late := txn
	late.Read, late.Limit = to, to
	for _, key := range keys {
		if key < s.From || key >= s.To {
			continue
		}
		f, e := readsAs(x, key, txn)
		g, h := readsAs(x, key, late)
		if e == api.ErrWait || e == api.ErrUnsure {
			not++
			continue
		}
		if h != e || !isFound(g, f) {
			t.Fatalf("%q, refreshed from %v to %v: %+v, %d; it read %+v, %d", key, txn.Read, to, g, h, f, e)
		}
		same++
	}
	return same, not
}

// P14.6: behind a Refresh that answers OK, what peek reads of each key of the span at to is what it read at Read, or there it was in its way, or unsure.
func TestWhatNothingCameTo(t *testing.T) {
	var same, not, ok int
	for seed := range 600 {
		r := rand.New(rand.NewSource(int64(seed)))
		m := drawnShelf(r, []int{4, 12}[seed%2], []int{0, 20, 60}[seed%3])
		x := m.table(t)
		keys := append(m.keys(), "nothing stands here")
		for range 30 {
			s, txn, to := drawnSpan(r), drawnReader(r), drawnStamp(r)
			if r.Intn(3) == 0 {
				txn.Limit = txn.Read
			}
			if _, e := refreshes(t, x, m, s, txn, to, wall(1)); e != api.OK {
				continue
			}
			a, b := sameBehind(t, x, s, keys, txn, to)
			same, not, ok = same+a, not+b, ok+1
		}
	}
	if same < 1000 || not < 50 || ok < 1000 {
		t.Errorf("OK %d times, the same %d times, in the way or unsure %d times", ok, same, not)
	}
}

// P14.6: the same in plain words: of a few keys, Read and to below, between and above their versions.
func TestWhatNothingCameToInWords(t *testing.T) {
	m := with("a", kept(10), kept(30)).add("b", kept(11), gone(wall(31))).add("c", kept(3)).way("d", own(3, wall(14), change(1, "mine"))).way("e", own(2, wall(14), change(1, "past"))).way("f", others(wall(33)))
	x := m.table(t)
	for _, c := range []struct {
		read, to int
		want     api.Errno
	}{{12, 12, api.OK}, {12, 20, api.OK}, {12, 29, api.OK}, {12, 30, api.ErrRetry}, {11, 20, api.ErrRetry}, {10, 20, api.ErrRetry}, {31, 32, api.ErrRetry}, {32, 32, api.OK}, {32, 33, api.ErrWait}, {4, 9, api.OK}} {
		what := fmt.Sprint("Read ", c.read, ", to ", c.to)
		txn := reader(wall(c.read))
		_, e := refreshes(t, x, m, all, txn, wall(c.to), wall(2))
		answers(t, what, e, c.want)
		if e == api.OK {
			if same, not := sameBehind(t, x, all, m.keys(), txn, wall(c.to)); same != 6 || not != 0 {
				t.Errorf("%s: the same %d times, not %d times", what, same, not)
			}
		}
	}
}

// P14.7: behind each Resolve all other keys' versions and intents are as they were, and of the key all its versions but the one at the record's stamp, also what can't be read, and rows of other kinds; an intent of another transaction stays.
func TestOtherKeysStay(t *testing.T) {
	var changed int
	for seed := range 400 {
		r := rand.New(rand.NewSource(int64(seed)))
		m := drawnShelf(r, 20, 60)
		x := m.table(t)
		for range 20 {
			key := m.drawnOf(r)
			txn := m.drawnFor(r, key)
			before := x.Rows()
			way, isThere := x.Get(intentKey(key))
			l, e := settle.Resolve(x, key, txn)
			answers(t, "Resolve", e, api.OK)
			apply(t, x, l)
			m.do(key, m.settles(key, txn))
			mine := []string{intentKey(key)}
			if txn.Status == api.StatusCommitted {
				mine = append(mine, versionKey(key, txn.Stamp))
			}
			isOther := func(row api.Row) bool { return !slices.Contains(mine, row.Key) }
			told(t, "the other rows", only(x.Rows(), isOther), only(before, isOther))
			if y, e := cell.TakeIntent(way); isThere && e == api.OK && y.Id != txn.Id {
				told(t, "all rows, by a record of another one", x.Rows(), before)
			}
			if len(l) > 0 {
				changed++
			}
		}
	}
	if changed < 500 {
		t.Errorf("only %d times", changed)
	}
}

// P14.7: a record whose keys all have the intents of another transaction changes nothing at all, whatever its status.
func TestIntentsOfAnother(t *testing.T) {
	m := newShelf()
	for i, key := range oddKeys {
		m.add(key, kept(10)).way(key, others(wall(10+i%20)))
	}
	x := m.table(t)
	before := x.Rows()
	for _, status := range statuses {
		for _, key := range oddKeys {
			for _, id := range []int{1, 7, 9, 1<<53 - 1} {
				r := record(status, wall(20))
				r.Id = id
				areOps(t, key, applied(t, x, m, key, r), nil)
			}
		}
	}
	told(t, "the table", x.Rows(), before)
}

package poke_test

import (
	"fmt"
	"math/rand"
	"slices"
	"strings"
	"testing"

	"scriptorium/api"
	"scriptorium/cell"
	"scriptorium/peek"
	"scriptorium/poke"
	"scriptorium/table"
)

// drawnKey is one of few, so that many of them are there.
func drawnKey(r *rand.Rand) string {
	b := make([]byte, 1+r.Intn(2))
	for i := range b {
		b[i] = "\x00\x01a\xff"[r.Intn(4)]
	}
	return string(b)
}

// drawnStamp is one of few, most of them beside each other, never the least one.
func drawnStamp(r *rand.Rand) api.Stamp {
	switch r.Intn(12) {
	case 0:
		return stampOf(20, r.Intn(2))
	case 1:
		return stampOf(9, 1<<20-1-r.Intn(2))
	case 2:
		return stampOf(12, 1<<20-1-r.Intn(2))
	case 3:
		if r.Intn(4) == 0 {
			return atPlace(place(greatest) - r.Intn(3))
		}
	}
	return stampOf(10+r.Intn(3), r.Intn(3))
}

func drawnVersion(r *rand.Rand, at api.Stamp) version {
	if r.Intn(3) == 0 {
		return gone(at)
	}
	return version{at: at, value: fmt.Sprint("value ", r.Intn(1000))}
}

// drawnChange has one of few numbers up to that one, and one of few values.
func drawnChange(r *rand.Rand, most int) api.Change {
	c := change(1+r.Intn(most), strings.Repeat("z", r.Intn(3)))
	if c.Value == "" && r.Intn(2) == 0 {
		c.Del = true
	}
	return c
}

func drawnChanges(r *rand.Rand, n int) []api.Change {
	var l []api.Change
	seq := 0
	for range n {
		c := drawnChange(r, 3)
		seq += c.Seq
		c.Seq = seq
		l = append(l, c)
	}
	return l
}

func drawnIntent(r *rand.Rand) api.Intent {
	y := api.Intent{Id: 6 + r.Intn(3), Epoch: 2 + r.Intn(3), Priority: 1 + r.Intn(1000), Anchor: "anchor", Stamp: drawnStamp(r), Beat: drawnStamp(r)}
	y.L = drawnChanges(r, 1+r.Intn(4))
	if r.Intn(3) == 0 {
		y.L = drawnChanges(r, 15+r.Intn(2))
	}
	return y
}

// drawnFor is a change for a key, now and then one that stands there.
func drawnFor(r *rand.Rand, m *shelf, key string) api.Change {
	if y, is := m.intents[key]; is && r.Intn(4) == 0 {
		return y.L[r.Intn(len(y.L))]
	}
	return drawnChange(r, []int{4, 40, 200}[r.Intn(3)])
}

// drawnShelf has keys that were drawn up to so many times; of so many of hundred an intent.
func drawnShelf(r *rand.Rand, keys, intents int) *shelf {
	m := newShelf()
	for range r.Intn(keys + 1) {
		key := drawnKey(r)
		for range r.Intn(4) {
			if at := drawnStamp(r); !m.hasAt(key, at) {
				m.add(key, drawnVersion(r, at))
			}
		}
		if r.Intn(100) < intents {
			m.way(key, drawnIntent(r))
		}
	}
	for range r.Intn(3) {
		m.and(beside(drawnKey(r))...)
		l := unreadable()
		m.and(put(intentKey("none"+drawnKey(r)), l[r.Intn(len(l))]), put(versionKey("none"+drawnKey(r), drawnStamp(r)), l[r.Intn(len(l))]))
	}
	return m
}

func drawnWriter(r *rand.Rand) api.Txn {
	x := me(drawnStamp(r))
	x.Id, x.Epoch, x.Priority = 6+r.Intn(3), 2+r.Intn(3), 1+r.Intn(1000)
	x.Read, x.Limit, x.Beat = drawnStamp(r), drawnStamp(r), drawnStamp(r)
	return x
}

func hasAll(t *testing.T, counts map[api.Errno]int, least int) {
	t.Helper()
	for _, e := range []api.Errno{api.OK, api.ErrWait, api.ErrStale, api.ErrArg, api.ErrFull, api.ErrLimit} {
		if counts[e] < least {
			t.Errorf("%d only %d times", e, counts[e])
		}
	}
}

// P13.1: drawn tables are written to as the words say, once, and on and on.
func TestDrawnTables(t *testing.T) {
	counts := map[api.Errno]int{}
	for seed := range 200 {
		r := rand.New(rand.NewSource(int64(seed)))
		m := drawnShelf(r, 20, 50)
		x := m.table(t)
		for range 40 {
			key := drawnKey(r)
			_, e := puts(t, x, m, key, drawnFor(r, m, key), drawnWriter(r), drawnStamp(r))
			counts[e]++
		}
		for range 40 {
			key := drawnKey(r)
			_, e := applied(t, x, m, key, drawnFor(r, m, key), drawnWriter(r), drawnStamp(r))
			counts[e]++
		}
	}
	hasAll(t, counts, 15)
}

// readsAs asks what a transaction reads under a key, above the threshold 0.
func readsAs(x *table.Table, key string, txn api.Txn) (peek.Found, api.Errno) {
	return peek.Get(x, key, txn, api.Stamp{})
}

// P13.3: behind a write the transaction reads what it wrote, at the new stamp, and the same write changes nothing, whatever most is.
func TestBehindAWrite(t *testing.T) {
	x := me(wall(15))
	for _, y := range []api.Intent{{}, own(3, wall(30), change(1, "elder")), own(3, wall(14), changes(15)...), own(2, wall(30), change(9, "past"), del(70))} {
		for _, c := range []api.Change{change(60, "z"), change(60, ""), del(60), change(60, fill(64)), change(1<<53-1, "z")} {
			for _, v := range [][]version{nil, {kept(10)}, {kept(10), kept(13)}, {kept(20)}, {gone(wall(20))}} {
				m := with("a", v...)
				if y.Id != 0 {
					m.way("a", y)
				}
				tab := m.table(t)
				d, e := applied(t, tab, m, "a", c, x, wall(5))
				answers(t, "Put", e, api.OK)
				f, e := readsAs(tab, "a", x)
				answers(t, "Get behind it", e, api.OK)
				want := peek.Found{Key: "a", Value: c.Value, Is: !c.Del, Own: true, Stamp: d.Stamp}
				if !isFound(f, want) {
					t.Fatalf("%+v is read behind %+v; want %+v", f, c, want)
				}
				rows, _, e := peek.Scan(tab, api.Span{From: "a", To: "b"}, x, wall(5))
				answers(t, "Scan behind it", e, api.OK)
				if want := (api.Row{Key: "a", Value: c.Value}); c.Del && len(rows) > 0 || !c.Del && !slices.Equal(rows, []api.Row{want}) {
					t.Fatalf("%q are read behind %+v", rows, c)
				}
				for _, most := range []api.Stamp{wall(0), wall(5), wall(15), d.Stamp, wall(99), greatest} {
					again, e := puts(t, tab, m, "a", c, x, most)
					answers(t, "Put once more", e, api.OK)
					done(t, "Put once more", again, poke.Done{Stamp: d.Stamp})
				}
			}
		}
	}
}

// isFound tells whether a Found with nothing in its way is that.
func isFound(f, want peek.Found) bool {
	return f.Key == want.Key && f.Value == want.Value && f.Is == want.Is && f.Own == want.Own && f.Stamp == want.Stamp && cell.Same(f.Way, want.Way)
}

// P13.3: the same behind drawn writes; where the write was there already, its last change is read.
func TestBehindDrawnWrites(t *testing.T) {
	var wrote, had int
	for seed := range 300 {
		r := rand.New(rand.NewSource(int64(seed)))
		m := drawnShelf(r, 12, 30)
		x := m.table(t)
		for range 40 {
			key, txn := drawnKey(r), drawnWriter(r)
			c := drawnFor(r, m, key)
			d, e := applied(t, x, m, key, c, txn, drawnStamp(r))
			if e != api.OK {
				continue
			}
			last := m.intents[key].L[len(m.intents[key].L)-1]
			if len(d.L) > 0 && last != c {
				t.Fatalf("%+v is written, %+v stands", c, last)
			}
			f, e := readsAs(x, key, txn)
			answers(t, "Get behind it", e, api.OK)
			if want := (peek.Found{Key: key, Value: last.Value, Is: !last.Del, Own: true, Stamp: d.Stamp}); !isFound(f, want) {
				t.Fatalf("%+v is read; want %+v", f, want)
			}
			again, e := poke.Put(x, key, c, txn, drawnStamp(r))
			answers(t, "Put once more", e, api.OK)
			done(t, "Put once more", again, poke.Done{Stamp: d.Stamp})
			if len(d.L) > 0 {
				wrote++
			} else {
				had++
			}
		}
	}
	if wrote < 1000 || had < 20 {
		t.Errorf("%d writes, %d that were there", wrote, had)
	}
}

// P13.4: over many writes of one transaction in one epoch the stamp does not fall; each that changes something is at or above Write, above most, and above all versions.
func TestStampsDontFall(t *testing.T) {
	var rose, stayed, full int
	for seed := range 300 {
		r := rand.New(rand.NewSource(int64(seed)))
		m := with("a", drawnVersion(r, wall(8)))
		if r.Intn(2) == 0 {
			m.way("a", own(2, greatest, change(9, "past")))
		}
		x := m.table(t)
		last := api.Stamp{}
		for seq := range 20 {
			txn, most := me(stampOf(10+r.Intn(3), r.Intn(3))), stampOf(10+r.Intn(3), r.Intn(3))
			if at := stampOf(10+r.Intn(3), r.Intn(3)); r.Intn(3) == 0 && !m.hasAt("a", at) {
				m.add("a", drawnVersion(r, at))
				apply(t, x, []api.Op{put(versionKey("a", at), versionText(m.versions["a"][len(m.versions["a"])-1]))})
			}
			c := change(seq+1, "z")
			d, e := applied(t, x, m, "a", c, txn, most)
			if seq >= 16 {
				answers(t, "behind 16", e, api.ErrFull)
				full++
				continue
			}
			answers(t, "Put", e, api.OK)
			if place(d.Stamp) < place(last) || place(d.Stamp) < place(txn.Write) || place(d.Stamp) <= place(most) {
				t.Fatalf("at %v behind %v, Write %v, most %v", d.Stamp, last, txn.Write, most)
			}
			for _, v := range m.versions["a"] {
				if place(d.Stamp) <= place(v.at) {
					t.Fatalf("at %v, a version at %v", d.Stamp, v.at)
				}
			}
			if d.Stamp == last {
				stayed++
			} else {
				rose++
			}
			last = d.Stamp
		}
	}
	if rose < 300 || stayed < 300 || full < 300 {
		t.Errorf("rose %d times, stayed %d times, full %d times", rose, stayed, full)
	}
}

// P13.5: a write changes no key but that of the intent.
func TestOneKeyChanges(t *testing.T) {
	for seed := range 200 {
		r := rand.New(rand.NewSource(int64(seed)))
		m := drawnShelf(r, 12, 40)
		x := m.table(t)
		for range 20 {
			key := drawnKey(r)
			before := x.Rows()
			d, _ := applied(t, x, m, key, drawnFor(r, m, key), drawnWriter(r), drawnStamp(r))
			isOther := func(row api.Row) bool { return row.Key != intentKey(key) }
			told(t, "the other rows", only(x.Rows(), isOther), only(before, isOther))
			if len(d.L) == 0 {
				told(t, "all rows", x.Rows(), before)
			}
		}
	}
}

func only(l []api.Row, is func(api.Row) bool) []api.Row {
	var kept []api.Row
	for _, row := range l {
		if is(row) {
			kept = append(kept, row)
		}
	}
	return kept
}

// P13.5: what others read below the stamp of a write is what it was: just below, and far below; from there on it is in their way.
func TestWhatOthersRead(t *testing.T) {
	for _, l := range [][]version{nil, {kept(10)}, {kept(10), gone(wall(12))}, {kept(10), kept(14)}} {
		for _, y := range []api.Intent{{}, own(2, wall(40), change(9, "past")), own(3, wall(40), change(1, "elder"))} {
			m := with("a", l...).add("b", kept(11))
			if y.Id != 0 {
				m.way("a", y)
			}
			x := m.table(t)
			before := x.Copy()
			d, e := applied(t, x, m, "a", change(6, "z"), me(wall(20)), wall(15))
			answers(t, "Put", e, api.OK)
			at := place(d.Stamp)
			for _, top := range []int{place(wall(1)), place(wall(10)), place(wall(13)), place(wall(14)), place(wall(15)), at - 2, at - 1, at, at + 1, at + 9} {
				for _, read := range []int{place(wall(1)), place(wall(13)), top} {
					if read > top {
						continue
					}
					other := api.Txn{Id: 8, Epoch: 3, Read: atPlace(read), Limit: atPlace(top)}
					f, e := readsAs(before, "a", other)
					g, h := readsAs(x, "a", other)
					if top < at {
						answers(t, fmt.Sprint("below it, at ", top), h, e)
					} else {
						answers(t, fmt.Sprint("at or above it, at ", top), h, api.ErrWait)
						f = peek.Found{Key: "a", Way: m.intents["a"]}
					}
					if !isFound(g, f) {
						t.Fatalf("%+v is read behind it; want %+v", g, f)
					}
				}
			}
		}
	}
}

// P13.5: the same of drawn tables: who reads below the stamp reads what it would without the intent, and each other key at any stamp as ahead of the write.
func TestWhatOthersReadOfDrawnTables(t *testing.T) {
	var below, above int
	for seed := range 300 {
		r := rand.New(rand.NewSource(int64(seed)))
		m := drawnShelf(r, 12, 40)
		x := m.table(t)
		for range 10 {
			key, txn := drawnKey(r), drawnWriter(r)
			before := x.Copy()
			d, e := applied(t, x, m, key, drawnFor(r, m, key), txn, drawnStamp(r))
			if e != api.OK {
				continue
			}
			bare := before.Copy()
			apply(t, bare, []api.Op{{Key: intentKey(key), Del: true}})
			for range 8 {
				other := drawnWriter(r)
				if other.Id == txn.Id {
					other.Id = 9
				}
				for _, k := range append(m.keys(), key) {
					f, e := readsAs(before, k, other)
					g, h := readsAs(x, k, other)
					isBelow := k == key && place(peek.Top(other)) < place(d.Stamp)
					if isBelow && e == api.ErrWait { // the elder intent was in the way, and is no more
						f, e = readsAs(bare, k, other)
					}
					if k == key && !isBelow {
						f, e = peek.Found{Key: k, Way: m.intents[k]}, api.ErrWait
						above++
					}
					if h != e || !isFound(g, f) {
						t.Fatalf("%q at %v, read by %+v behind a write of %q at %v: %+v, %d; want %+v, %d", k, d.Stamp, other, key, d.Stamp, g, h, f, e)
					}
					if isBelow {
						below++
					}
				}
			}
		}
	}
	if below < 1000 || above < 1000 {
		t.Errorf("below %d times, at or above %d times", below, above)
	}
}

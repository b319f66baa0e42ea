package poke_test

import (
	"fmt"
	"maps"
	"reflect"
	"slices"
	"strings"
	"testing"

	"scriptorium/api"
	"scriptorium/cell"
	"scriptorium/poke"
	"scriptorium/table"
)

func stampOf(wall, logic int) api.Stamp { return api.Stamp{Wall: wall, Logic: logic} }

func wall(n int) api.Stamp { return stampOf(n, 0) }

func fill(n int) string { return strings.Repeat("x", n) }

// place is where a stamp stands in the one row of all that may be.
func place(s api.Stamp) int { return s.Wall<<20 + s.Logic }

func atPlace(n int) api.Stamp { return stampOf(n>>20, n&(1<<20-1)) }

var greatest = stampOf(1<<40, 1<<20-1)

// me is the transaction 7 in its epoch 3.
func me(write api.Stamp) api.Txn {
	return api.Txn{Id: 7, Epoch: 3, Priority: 5, Anchor: "anchor", Read: wall(12), Write: write, Limit: wall(13), Beat: wall(80)}
}

func change(seq int, value string) api.Change { return api.Change{Seq: seq, Value: value} }

func del(seq int) api.Change { return api.Change{Seq: seq, Del: true} }

// changes are so many, with every third number from 3 on.
func changes(n int) []api.Change {
	var l []api.Change
	for i := range n {
		l = append(l, change(3*i+3, fmt.Sprint("the change ", i)))
	}
	return l
}

// own is an elder intent of me, with another priority, anchor and beat.
func own(epoch int, at api.Stamp, l ...api.Change) api.Intent {
	return api.Intent{Id: 7, Epoch: epoch, Priority: 2, Anchor: "elder", Stamp: at, Beat: wall(70), L: l}
}

// others is an intent of another transaction.
func others(at api.Stamp) api.Intent {
	return api.Intent{Id: 8, Epoch: 3, Priority: 9, Anchor: "other", Stamp: at, Beat: wall(60), L: []api.Change{change(2, "not mine"), change(4, "nor this")}}
}

// made is the intent that a transaction writes.
func made(x api.Txn, at api.Stamp, l ...api.Change) api.Intent {
	return api.Intent{Id: x.Id, Epoch: x.Epoch, Priority: x.Priority, Anchor: x.Anchor, Stamp: at, Beat: x.Beat, L: l}
}

// version is one of a key.
type version struct {
	at    api.Stamp
	value string
	gone  bool
}

func kept(n int) version { return version{at: wall(n), value: fmt.Sprint("of ", n)} }

func keptAt(at api.Stamp) version { return version{at: at, value: "kept"} }

func gone(at api.Stamp) version { return version{at: at, gone: true} }

// shelf is what stands in a table, as the words speak of it, and rows beside that, of which they say that they do not count.
type shelf struct {
	intents  map[string]api.Intent
	versions map[string][]version
	beside   []api.Op
}

func newShelf() *shelf {
	return &shelf{intents: map[string]api.Intent{}, versions: map[string][]version{}}
}

// with is a shelf of one key.
func with(key string, l ...version) *shelf { return newShelf().add(key, l...) }

func (m *shelf) add(key string, l ...version) *shelf {
	m.versions[key] = append(m.versions[key], l...)
	return m
}

func (m *shelf) way(key string, y api.Intent) *shelf {
	m.intents[key] = y
	return m
}

func (m *shelf) and(l ...api.Op) *shelf {
	m.beside = append(m.beside, l...)
	return m
}

func (m *shelf) copied() *shelf {
	c := &shelf{intents: maps.Clone(m.intents), versions: map[string][]version{}, beside: slices.Clone(m.beside)}
	for key, l := range m.versions {
		c.versions[key] = slices.Clone(l)
	}
	return c
}

// keys are all of which there is an intent or a version, rising.
func (m *shelf) keys() []string {
	l := slices.AppendSeq(slices.Collect(maps.Keys(m.intents)), maps.Keys(m.versions))
	slices.Sort(l)
	return slices.Compact(l)
}

// hasAt tells whether a key has a version at a stamp.
func (m *shelf) hasAt(key string, at api.Stamp) bool {
	return slices.ContainsFunc(m.versions[key], func(v version) bool { return v.at == at })
}

// The keys and texts of a table are made by cell, which must take them.

func must(text string, e api.Errno) string {
	if e != api.OK {
		panic(fmt.Sprint("cell answers ", e))
	}
	return text
}

func intentKey(key string) string { return must(cell.IntentKey(key)) }

func versionKey(key string, s api.Stamp) string { return must(cell.VersionKey(key, s)) }

func versionText(v version) string { return must(cell.Version(v.value, !v.gone)) }

func put(key, value string) api.Op { return api.Op{Key: key, Value: value} }

// table is a table of all that. What is beside is put last, so it stands in the place of what can be read.
func (m *shelf) table(t testing.TB) *table.Table {
	t.Helper()
	var l []api.Op
	for _, key := range m.keys() {
		for _, v := range m.versions[key] {
			l = append(l, put(versionKey(key, v.at), versionText(v)))
		}
		if y, is := m.intents[key]; is {
			l = append(l, put(intentKey(key), must(cell.Intent(y))))
		}
	}
	x := table.New(13)
	for part := range slices.Chunk(append(l, m.beside...), 128) {
		apply(t, x, part)
	}
	return x
}

func apply(t testing.TB, x *table.Table, l []api.Op) {
	t.Helper()
	if e := x.Apply(l); e != api.OK {
		t.Fatalf("Apply(%+v): %d", l, e)
	}
}

func mayNumber(n, least, most int) bool { return least <= n && n <= most }

func mayStamp(s api.Stamp) bool {
	return mayNumber(s.Wall, 0, 1<<40) && mayNumber(s.Logic, 0, 1<<20-1)
}

func mayKey(s string) bool { return 0 < len(s) && len(s) <= 32 }

func mayWrite(x api.Txn) bool {
	return mayNumber(x.Id, 1, 1<<53-1) && mayNumber(x.Epoch, 0, 1<<53-1) && mayNumber(x.Priority, 1, 1000) && mayKey(x.Anchor) &&
		mayStamp(x.Read) && mayStamp(x.Limit) && mayStamp(x.Write) && mayStamp(x.Beat)
}

func mayChange(c api.Change) bool {
	return mayNumber(c.Seq, 1, 1<<53-1) && len(c.Value) <= 64 && (!c.Del || c.Value == "")
}

// written is what a write comes to: the stamp, and the intent, if it is another one than ahead of it; or what is in the way.
type written struct {
	stamp  api.Stamp
	intent *api.Intent
	way    api.Intent
}

// next is the place behind one, in the one row of all stamps.
func next(n int) (int, api.Errno) {
	if n == place(greatest) {
		return 0, api.ErrLimit
	}
	return n + 1, api.OK
}

// newStamp is the words' stamp of a new write.
func (m *shelf) newStamp(key string, x api.Txn, most api.Stamp) (api.Stamp, api.Errno) {
	at := place(x.Write)
	if l := m.versions[key]; len(l) > 0 {
		newest := 0
		for _, v := range l {
			newest = max(newest, place(v.at))
		}
		n, e := next(newest)
		if e != api.OK {
			return api.Stamp{}, e
		}
		at = max(at, n)
	}
	n, e := next(place(most))
	if e != api.OK {
		return api.Stamp{}, e
	}
	at = max(at, n)
	if y, is := m.intents[key]; is && y.Epoch == x.Epoch {
		at = max(at, place(y.Stamp))
	}
	return atPlace(at), api.OK
}

// writes is what comes of a write: the words' table, row by row.
func (m *shelf) writes(key string, c api.Change, x api.Txn, most api.Stamp) (written, api.Errno) {
	y, is := m.intents[key]
	if is && y.Id != x.Id {
		return written{way: y}, api.ErrWait
	}
	if is && y.Epoch > x.Epoch {
		return written{}, api.ErrStale
	}
	current := is && y.Epoch == x.Epoch
	if current {
		for _, had := range y.L {
			if had.Seq == c.Seq && had.Value == c.Value && had.Del == c.Del {
				return written{stamp: y.Stamp}, api.OK
			}
			if had.Seq == c.Seq {
				return written{}, api.ErrArg
			}
		}
		if y.L[len(y.L)-1].Seq > c.Seq {
			return written{}, api.ErrStale
		}
		if len(y.L) == 16 {
			return written{}, api.ErrFull
		}
	}
	at, e := m.newStamp(key, x, most)
	if e != api.OK {
		return written{}, e
	}
	l := []api.Change{c}
	if current {
		l = append(slices.Clone(y.L), c)
	}
	z := made(x, at, l...)
	return written{stamp: at, intent: &z}, api.OK
}

func (m *shelf) put(key string, c api.Change, x api.Txn, most api.Stamp) (written, api.Errno) {
	if !mayKey(key) || !mayChange(c) || !mayWrite(x) || !mayStamp(most) {
		return written{}, api.ErrArg
	}
	return m.writes(key, c, x, most)
}

// done is the Done that tells of that, with what changes in the table: none, or one row.
func (w written) done(key string) poke.Done {
	d := poke.Done{Stamp: w.stamp, Way: w.way}
	if w.intent != nil {
		d.L = []api.Op{put(intentKey(key), must(cell.Intent(*w.intent)))}
	}
	return d
}

// same tells whether all fields are; lists without elements are alike.
func same(a, b poke.Done) bool {
	return a.Stamp == b.Stamp && slices.Equal(a.L, b.L) && cell.Same(a.Way, b.Way)
}

func answers(t testing.TB, what string, got, want api.Errno) {
	t.Helper()
	if got != want {
		t.Fatalf("%s: error %d; want %d", what, got, want)
	}
}

func done(t testing.TB, what string, got, want poke.Done) {
	t.Helper()
	if !same(got, want) {
		t.Fatalf("%s: done %+v; want %+v", what, got, want)
	}
}

func told(t testing.TB, what string, got, want []api.Row) {
	t.Helper()
	if !slices.Equal(got, want) {
		t.Fatalf("%s: rows %q; want %q", what, got, want)
	}
}

// readBack is the intent that a list of changes says: one change, under a key's intent's key.
func readBack(t testing.TB, what, key string, l []api.Op) api.Intent {
	t.Helper()
	if len(l) != 1 || l[0].Del {
		t.Fatalf("%s: not one change that puts: %+v", what, l)
	}
	if got, e := cell.ReadIntent(l[0].Key); e != api.OK || got != key {
		t.Fatalf("%s: the change is of %q, %d; want %q", what, got, e, key)
	}
	y, e := cell.TakeIntent(l[0].Value)
	if e != api.OK {
		t.Fatalf("%s: the change is no intent: %q, %d", what, l[0].Value, e)
	}
	return y
}

// reads tells whether changes say that the intent, and no more.
func reads(t testing.TB, what, key string, l []api.Op, want api.Intent) {
	t.Helper()
	if got := readBack(t, what, key, l); !reflect.DeepEqual(got, want) {
		t.Fatalf("%s: the intent %+v; want %+v", what, got, want)
	}
}

// puts asks for a write, and holds the answer against the words; the table is the same behind it.
func puts(t testing.TB, x *table.Table, m *shelf, key string, c api.Change, txn api.Txn, most api.Stamp) (poke.Done, api.Errno) {
	t.Helper()
	before := x.Rows()
	d, e := poke.Put(x, key, c, txn, most)
	want, wantE := m.put(key, c, txn, most)
	what := fmt.Sprintf("Put(%.40q, %.90q, %+.90v, %v) of %+v", key, fmt.Sprint(c), txn, most, m)
	answers(t, what, e, wantE)
	done(t, what, d, want.done(key))
	if want.intent != nil {
		reads(t, what, key, d.L, *want.intent)
	}
	told(t, "the table behind Put", x.Rows(), before)
	return d, e
}

// applied is puts, and what changes is done, in the table and on the shelf.
func applied(t testing.TB, x *table.Table, m *shelf, key string, c api.Change, txn api.Txn, most api.Stamp) (poke.Done, api.Errno) {
	t.Helper()
	d, e := puts(t, x, m, key, c, txn, most)
	apply(t, x, d.L)
	if len(d.L) > 0 {
		m.way(key, readBack(t, "what is applied", key, d.L))
	}
	return d, e
}

package peek_test

import (
	"fmt"
	"maps"
	"reflect"
	"slices"
	"strings"
	"testing"

	"scriptorium/api"
	"scriptorium/cell"
	"scriptorium/peek"
	"scriptorium/table"
)

func stampOf(wall, logic int) api.Stamp { return api.Stamp{Wall: wall, Logic: logic} }

func wall(n int) api.Stamp { return stampOf(n, 0) }

func fill(n int) string { return strings.Repeat("x", n) }

// place is where a stamp stands in the one row of all that may be.
func place(s api.Stamp) int { return s.Wall<<20 + s.Logic }

func atPlace(n int) api.Stamp { return stampOf(n>>20, n&(1<<20-1)) }

var greatest = stampOf(1<<40, 1<<20-1)

// me is the transaction 7 in its epoch 3.
func me(read, limit api.Stamp) api.Txn {
	return api.Txn{Id: 7, Epoch: 3, Priority: 5, Anchor: "anchor", Read: read, Write: wall(90), Limit: limit, Beat: wall(80)}
}

// version is one of a key.
type version struct {
	at    api.Stamp
	value string
	gone  bool
}

func kept(n int, value string) version { return version{at: wall(n), value: value} }

func gone(n int) version { return version{at: wall(n), gone: true} }

func change(seq int, value string) api.Change { return api.Change{Seq: seq, Value: value} }

func del(seq int) api.Change { return api.Change{Seq: seq, Del: true} }

// own is an intent of me.
func own(epoch int, at api.Stamp, l ...api.Change) api.Intent {
	return api.Intent{Id: 7, Epoch: epoch, Priority: 5, Anchor: "anchor", Stamp: at, Beat: wall(70), L: l}
}

// others is an intent of another transaction.
func others(at api.Stamp) api.Intent {
	return api.Intent{Id: 8, Epoch: 3, Priority: 9, Anchor: "other", Stamp: at, Beat: wall(60), L: []api.Change{change(2, "never read"), change(4, "nor this")}}
}

// shelf is what stands in a table, as the words speak of it, and rows beside that, of which they say that they do not count.
type shelf struct {
	intents  map[string]api.Intent
	versions map[string][]version
	beside   []api.Op
}

func newShelf() *shelf {
	return &shelf{intents: map[string]api.Intent{}, versions: map[string][]version{}}
}

// with is a shelf of one key.
func with(key string, l ...version) *shelf { return newShelf().add(key, l...) }

func (m *shelf) add(key string, l ...version) *shelf {
	m.versions[key] = append(m.versions[key], l...)
	return m
}

func (m *shelf) way(key string, y api.Intent) *shelf {
	m.intents[key] = y
	return m
}

func (m *shelf) and(l ...api.Op) *shelf {
	m.beside = append(m.beside, l...)
	return m
}

func (m *shelf) copied() *shelf {
	c := &shelf{intents: maps.Clone(m.intents), versions: map[string][]version{}, beside: slices.Clone(m.beside)}
	for key, l := range m.versions {
		c.versions[key] = slices.Clone(l)
	}
	return c
}

// keys are all of which there is an intent or a version, rising.
func (m *shelf) keys() []string {
	l := slices.AppendSeq(slices.Collect(maps.Keys(m.intents)), maps.Keys(m.versions))
	slices.Sort(l)
	return slices.Compact(l)
}

// The keys and texts of a table are made by cell, which must take them.

func must(text string, e api.Errno) string {
	if e != api.OK {
		panic(fmt.Sprint("cell answers ", e))
	}
	return text
}

func intentKey(key string) string { return must(cell.IntentKey(key)) }

func versionKey(key string, s api.Stamp) string { return must(cell.VersionKey(key, s)) }

func versionText(v version) string { return must(cell.Version(v.value, !v.gone)) }

func put(key, value string) api.Op { return api.Op{Key: key, Value: value} }

// table is a table of all that. What is beside is put last, so it stands in the place of what can be read.
func (m *shelf) table(t testing.TB) *table.Table {
	t.Helper()
	var l []api.Op
	for _, key := range m.keys() {
		for _, v := range m.versions[key] {
			l = append(l, put(versionKey(key, v.at), versionText(v)))
		}
		if y, is := m.intents[key]; is {
			l = append(l, put(intentKey(key), must(cell.Intent(y))))
		}
	}
	x := table.New(12)
	for part := range slices.Chunk(append(l, m.beside...), 128) {
		if e := x.Apply(part); e != api.OK {
			t.Fatalf("Apply: %d", e)
		}
	}
	return x
}

func mayStamp(s api.Stamp) bool {
	return 0 <= s.Wall && s.Wall <= 1<<40 && 0 <= s.Logic && s.Logic < 1<<20
}

func mayKey(s string) bool { return 0 < len(s) && len(s) <= 32 }

func mayRead(x api.Txn) bool {
	return 0 < x.Id && x.Id < 1<<53 && 0 <= x.Epoch && x.Epoch < 1<<53 && mayStamp(x.Read) && mayStamp(x.Limit)
}

// handed is the error of what is handed in.
func handed(is bool, x api.Txn, low api.Stamp) api.Errno {
	switch {
	case !is || !mayRead(x) || !mayStamp(low):
		return api.ErrArg
	case place(x.Read) <= place(low):
		return api.ErrOld
	}
	return api.OK
}

// greatestOf is the version with the greatest stamp of those in places from one on, up to another one, both with it.
func greatestOf(l []version, from, to int) (v version, is bool) {
	for _, c := range l {
		if from <= place(c.at) && place(c.at) <= to && (!is || place(c.at) > place(v.at)) {
			v, is = c, true
		}
	}
	return v, is
}

// reads is what a transaction reads under a key: the words' table, row by row.
func (m *shelf) reads(key string, x api.Txn) (peek.Found, api.Errno) {
	read, top := place(x.Read), max(place(x.Read), place(x.Limit))
	y, is := m.intents[key]
	if is && y.Id == x.Id && y.Epoch > x.Epoch {
		return peek.Found{}, api.ErrStale
	}
	if is && y.Id == x.Id && y.Epoch == x.Epoch {
		c := y.L[len(y.L)-1]
		return peek.Found{Key: key, Value: c.Value, Is: !c.Del, Own: true, Stamp: y.Stamp}, api.OK
	}
	if is && y.Id != x.Id && place(y.Stamp) <= top {
		return peek.Found{Key: key, Way: y}, api.ErrWait
	}
	if v, is := greatestOf(m.versions[key], read, top); is {
		return peek.Found{Key: key, Stamp: v.at}, api.ErrUnsure
	}
	if v, is := greatestOf(m.versions[key], 0, read-1); is {
		return peek.Found{Key: key, Value: v.value, Is: !v.gone, Stamp: v.at}, api.OK
	}
	return peek.Found{Key: key}, api.OK
}

func (m *shelf) get(key string, x api.Txn, low api.Stamp) (peek.Found, api.Errno) {
	if e := handed(mayKey(key), x, low); e != api.OK {
		return peek.Found{}, e
	}
	return m.reads(key, x)
}

func (m *shelf) scan(s api.Span, x api.Txn, low api.Stamp) ([]api.Row, peek.Found, api.Errno) {
	if e := handed(s.From < s.To, x, low); e != api.OK {
		return nil, peek.Found{}, e
	}
	var rows []api.Row
	for _, key := range m.keys() {
		if key < s.From || key >= s.To {
			continue
		}
		f, e := m.reads(key, x)
		if e != api.OK {
			return nil, f, e
		}
		if f.Is {
			rows = append(rows, api.Row{Key: key, Value: f.Value})
		}
		if len(rows) == 65 {
			return nil, peek.Found{}, api.ErrLimit
		}
	}
	return rows, peek.Found{}, api.OK
}

// same tells whether all fields are; lists without elements are alike.
func same(a, b peek.Found) bool {
	if !cell.Same(a.Way, b.Way) {
		return false
	}
	a.Way, b.Way = api.Intent{}, api.Intent{}
	return reflect.DeepEqual(a, b)
}

func found(t testing.TB, what string, got, want peek.Found) {
	t.Helper()
	if !same(got, want) {
		t.Fatalf("%s: found %+v; want %+v", what, got, want)
	}
}

func answers(t testing.TB, what string, got, want api.Errno) {
	t.Helper()
	if got != want {
		t.Fatalf("%s: error %d; want %d", what, got, want)
	}
}

func told(t testing.TB, what string, got, want []api.Row) {
	t.Helper()
	if !slices.Equal(got, want) {
		t.Fatalf("%s: rows %q; want %q", what, got, want)
	}
}

// isGot asks for a key, and holds the answer against the words.
func isGot(t testing.TB, x *table.Table, m *shelf, key string, txn api.Txn, low api.Stamp) api.Errno {
	t.Helper()
	f, e := peek.Get(x, key, txn, low)
	want, wantE := m.get(key, txn, low)
	if e != wantE || !same(f, want) {
		t.Fatalf("Get(%.40q, %+v, %v) of %+v: %+v, %d; want %+v, %d", key, txn, low, m, f, e, want, wantE)
	}
	return e
}

// isScanned asks for a span, likewise.
func isScanned(t testing.TB, x *table.Table, m *shelf, s api.Span, txn api.Txn, low api.Stamp) api.Errno {
	t.Helper()
	rows, f, e := peek.Scan(x, s, txn, low)
	wantRows, want, wantE := m.scan(s, txn, low)
	if e != wantE || !same(f, want) || !slices.Equal(rows, wantRows) {
		t.Fatalf("Scan(%.40q, %+v, %v) of %+v: %q, %+v, %d; want %q, %+v, %d", s, txn, low, m, rows, f, e, wantRows, want, wantE)
	}
	return e
}

// gets is isGot, and the table is the same behind it.
func gets(t testing.TB, x *table.Table, m *shelf, key string, txn api.Txn, low api.Stamp) api.Errno {
	t.Helper()
	before := x.Rows()
	e := isGot(t, x, m, key, txn, low)
	told(t, "the table behind Get", x.Rows(), before)
	return e
}

// scans is isScanned, likewise.
func scans(t testing.TB, x *table.Table, m *shelf, s api.Span, txn api.Txn, low api.Stamp) api.Errno {
	t.Helper()
	before := x.Rows()
	e := isScanned(t, x, m, s, txn, low)
	told(t, "the table behind Scan", x.Rows(), before)
	return e
}

// all has each key.
var all = api.Span{From: "", To: strings.Repeat("\xff", 33)}

// holds asks for each key, for some beside them, and for all, and answers what Scan of all did.
func holds(t testing.TB, x *table.Table, m *shelf, txn api.Txn, low api.Stamp, beside ...string) api.Errno {
	t.Helper()
	before := x.Rows()
	for _, key := range append(m.keys(), beside...) {
		isGot(t, x, m, key, txn, low)
		isScanned(t, x, m, api.Span{From: key, To: key + "\x00"}, txn, low)
	}
	e := isScanned(t, x, m, all, txn, low)
	told(t, "the table behind all", x.Rows(), before)
	return e
}

package sweep_test

import (
	"fmt"
	"maps"
	"slices"
	"strings"
	"testing"

	"scriptorium/api"
	"scriptorium/cell"
	"scriptorium/sweep"
	"scriptorium/table"
)

func stampOf(wall, logic int) api.Stamp { return api.Stamp{Wall: wall, Logic: logic} }

func wall(n int) api.Stamp { return stampOf(n, 0) }

func fill(n int) string { return strings.Repeat("x", n) }

// place is where a stamp stands in the one row of all that may be.
func place(s api.Stamp) int { return s.Wall<<20 + s.Logic }

func atPlace(n int) api.Stamp { return stampOf(n>>20, n&(1<<20-1)) }

var greatest = stampOf(1<<40, 1<<20-1)

// version is one of a key.
type version struct {
	at    api.Stamp
	value string
	gone  bool
}

func kept(n int) version { return keptAt(wall(n)) }

func keptAt(at api.Stamp) version { return version{at: at, value: fmt.Sprint("of ", at)} }

// blank is a value of no bytes.
func blank(n int) version { return version{at: wall(n)} }

func gone(n int) version { return goneAt(wall(n)) }

func goneAt(at api.Stamp) version { return version{at: at, gone: true} }

// shelf is what stands in a table, as the words speak of it: the versions that can be read, and rows beside them, which are to stay.
type shelf struct {
	versions map[string][]version
	beside   []api.Op
}

func newShelf() *shelf { return &shelf{versions: map[string][]version{}} }

// with is a shelf of one key.
func with(key string, l ...version) *shelf { return newShelf().add(key, l...) }

func (m *shelf) add(key string, l ...version) *shelf {
	m.versions[key] = append(m.versions[key], l...)
	return m
}

func (m *shelf) and(l ...api.Op) *shelf {
	m.beside = append(m.beside, l...)
	return m
}

// way puts an intent there.
func (m *shelf) way(key string, y api.Intent) *shelf {
	return m.and(put(intentKey(key), must(cell.Intent(y))))
}

// junk puts a text in the place of a key's version.
func (m *shelf) junk(key string, at api.Stamp, text string) *shelf {
	return m.and(put(versionKey(key, at), text))
}

func (m *shelf) copied() *shelf {
	c := &shelf{versions: map[string][]version{}, beside: slices.Clone(m.beside)}
	for key, l := range m.versions {
		c.versions[key] = slices.Clone(l)
	}
	return c
}

// keys are all of which there are versions, rising.
func (m *shelf) keys() []string { return slices.Sorted(maps.Keys(m.versions)) }

func (m *shelf) hasAt(key string, at api.Stamp) bool {
	return slices.ContainsFunc(m.versions[key], func(v version) bool { return v.at == at })
}

// The keys and texts of a table are made by cell, which must take them.

func must(text string, e api.Errno) string {
	if e != api.OK {
		panic(fmt.Sprint("cell answers ", e))
	}
	return text
}

func intentKey(key string) string { return must(cell.IntentKey(key)) }

func versionKey(key string, s api.Stamp) string { return must(cell.VersionKey(key, s)) }

func versionText(v version) string { return must(cell.Version(v.value, !v.gone)) }

func put(key, value string) api.Op { return api.Op{Key: key, Value: value} }

// goes is the change that takes a version away.
func goes(key string, at api.Stamp) api.Op { return api.Op{Key: versionKey(key, at), Del: true} }

// going are the changes that take versions of a key away, in their order.
func going(key string, walls ...int) []api.Op {
	var l []api.Op
	for _, n := range walls {
		l = append(l, goes(key, wall(n)))
	}
	return l
}

// table is a table of all that.
func (m *shelf) table(t testing.TB) *table.Table {
	t.Helper()
	var l []api.Op
	for _, key := range m.keys() {
		for _, v := range m.versions[key] {
			l = append(l, put(versionKey(key, v.at), versionText(v)))
		}
	}
	x := table.New(15)
	apply(t, x, append(l, m.beside...))
	return x
}

// apply does any number of changes.
func apply(t testing.TB, x *table.Table, l []api.Op) {
	t.Helper()
	for part := range slices.Chunk(l, 128) {
		if e := x.Apply(part); e != api.OK {
			t.Fatalf("Apply(%+v): %d", part, e)
		}
	}
}

func mayStamp(s api.Stamp) bool {
	return 0 <= s.Wall && s.Wall <= 1<<40 && 0 <= s.Logic && s.Logic <= 1<<20-1
}

// needless are a key's versions that go, as the words say it, the greatest stamp's first: of those at or below to the first one, if it says that the key is gone, and all others.
func (m *shelf) needless(key string, to api.Stamp) []version {
	l := slices.DeleteFunc(slices.Clone(m.versions[key]), func(v version) bool { return place(v.at) > place(to) })
	slices.SortFunc(l, func(a, b version) int { return place(b.at) - place(a.at) })
	if len(l) > 0 && !l[0].gone {
		return l[1:]
	}
	return l
}

// swept is what Sweep is to answer.
func (m *shelf) swept(s api.Span, to api.Stamp) ([]api.Op, api.Errno) {
	if len(s.From) > 33 || len(s.To) > 33 {
		return nil, api.ErrLimit
	}
	if s.From >= s.To || !mayStamp(to) {
		return nil, api.ErrArg
	}
	var l []api.Op
	for _, key := range m.keys() {
		if key < s.From || key >= s.To {
			continue
		}
		for _, v := range m.needless(key, to) {
			l = append(l, goes(key, v.at))
		}
	}
	return l, api.OK
}

// done takes away on the shelf what Sweep answers.
func (m *shelf) done(s api.Span, to api.Stamp) {
	for _, key := range m.keys() {
		if key < s.From || key >= s.To {
			continue
		}
		l := m.needless(key, to)
		m.versions[key] = slices.DeleteFunc(m.versions[key], func(v version) bool { return slices.Contains(l, v) })
	}
}

func answers(t testing.TB, what string, got, want api.Errno) {
	t.Helper()
	if got != want {
		t.Fatalf("%s: error %d; want %d", what, got, want)
	}
}

func areOps(t testing.TB, what string, got, want []api.Op) {
	t.Helper()
	if !slices.Equal(got, want) {
		t.Fatalf("%s: changes %s; want %s", what, listed(got), listed(want))
	}
}

// listed are changes in words.
func listed(l []api.Op) string {
	var b strings.Builder
	for _, o := range l {
		key, at, e := cell.ReadVersion(o.Key)
		if e != api.OK || !o.Del || o.Value != "" {
			fmt.Fprintf(&b, " %+v", o)
			continue
		}
		fmt.Fprintf(&b, " %q %v", key, at)
	}
	return "(" + b.String() + " )"
}

func told(t testing.TB, what string, got, want []api.Row) {
	t.Helper()
	if !slices.Equal(got, want) {
		t.Fatalf("%s: rows %q; want %q", what, got, want)
	}
}

// sweeps asks what goes, and holds the answer against the words; the changes rise, and the table is the same behind it.
func sweeps(t testing.TB, x *table.Table, m *shelf, s api.Span, to api.Stamp) ([]api.Op, api.Errno) {
	t.Helper()
	before := x.Rows()
	l, e := sweep.Sweep(x, s, to)
	want, wantE := m.swept(s, to)
	if e != wantE || !slices.Equal(l, want) {
		t.Fatalf("Sweep(%.40q, %v) of %+v: %s, %d; want %s, %d", s, to, m, listed(l), e, listed(want), wantE)
	}
	for i := 1; i < len(l); i++ {
		if l[i].Key <= l[i-1].Key {
			t.Fatalf("Sweep(%.40q, %v): %s do not rise", s, to, listed(l))
		}
	}
	told(t, "the table behind Sweep", x.Rows(), before)
	return l, e
}

// applied is sweeps, and what goes is taken away, in the table and on the shelf.
func applied(t testing.TB, x *table.Table, m *shelf, s api.Span, to api.Stamp) []api.Op {
	t.Helper()
	l, e := sweeps(t, x, m, s, to)
	if e == api.OK {
		apply(t, x, l)
		m.done(s, to)
	}
	return l
}

// all has each key.
var all = api.Span{From: "", To: strings.Repeat("\xff", 33)}

// point has one key.
func point(key string) api.Span { return api.Span{From: key, To: key + "\x00"} }

// oddKeys are keys of which some one is the beginning of the next one, and that hold the bytes 0, 1 and 255.
var oddKeys = []string{
	"\x00", "\x00\x00", "\x00\x00\x00", "\x00\x01", "\x00\x01\x00", "\x00\xff", "\x01", "\x01\x00", "\x01\x01", "\x01\xff", "a", "a\x00", "a\x00\x00", "a\x00\x01", "a\x00b", "a\x00\xff", "a\x01", "a\x01\x00", "aa", "ab", "a\xff", "a\xff\x00", "a\xff\xff", "b",
	strings.Repeat("x", 31), strings.Repeat("x", 32), strings.Repeat("x", 31) + "y", "\xff", "\xff\x00", "\xff\x01", "\xff\xff", strings.Repeat("\xff", 31), strings.Repeat("\xff", 31) + "\x00", strings.Repeat("\xff", 32),
	strings.Repeat("\x00", 32), strings.Repeat("\x00", 31), strings.Repeat("\x00", 31) + "\x01",
}

package settle_test

import (
	"fmt"
	"maps"
	"reflect"
	"slices"
	"strings"
	"testing"

	"scriptorium/api"
	"scriptorium/cell"
	"scriptorium/settle"
	"scriptorium/table"
)

func stampOf(wall, logic int) api.Stamp { return api.Stamp{Wall: wall, Logic: logic} }

func wall(n int) api.Stamp { return stampOf(n, 0) }

func fill(n int) string { return strings.Repeat("x", n) }

// place is where a stamp stands in the one row of all that may be.
func place(s api.Stamp) int { return s.Wall<<20 + s.Logic }

func atPlace(n int) api.Stamp { return stampOf(n>>20, n&(1<<20-1)) }

var greatest = stampOf(1<<40, 1<<20-1)

func change(seq int, value string) api.Change { return api.Change{Seq: seq, Value: value} }

func del(seq int) api.Change { return api.Change{Seq: seq, Del: true} }

// changes are so many, with every third number from 3 on.
func changes(n int) []api.Change {
	var l []api.Change
	for i := range n {
		l = append(l, change(3*i+3, fmt.Sprint("the change ", i)))
	}
	return l
}

// own is an intent of the transaction 7.
func own(epoch int, at api.Stamp, l ...api.Change) api.Intent {
	return api.Intent{Id: 7, Epoch: epoch, Priority: 2, Anchor: "elder", Stamp: at, Beat: wall(70), L: l}
}

// others is an intent of another transaction.
func others(at api.Stamp) api.Intent {
	return api.Intent{Id: 8, Epoch: 3, Priority: 9, Anchor: "other", Stamp: at, Beat: wall(60), L: []api.Change{change(2, "not mine"), change(4, "nor this")}}
}

// record is one of the transaction 7, in its epoch 3.
func record(status int, at api.Stamp) api.Record {
	return api.Record{Id: 7, Epoch: 3, Status: status, Priority: 5, Anchor: "anchor", Stamp: at, Beat: wall(80)}
}

// reader is the transaction 7, in its epoch 3.
func reader(read api.Stamp) api.Txn {
	return api.Txn{Id: 7, Epoch: 3, Priority: 5, Anchor: "anchor", Read: read, Write: wall(90), Limit: read, Beat: wall(80)}
}

var statuses = []int{api.StatusPending, api.StatusStaging, api.StatusCommitted, api.StatusAborted}

// version is one of a key.
type version struct {
	at    api.Stamp
	value string
	gone  bool
}

func kept(n int) version { return keptAt(wall(n)) }

func keptAt(at api.Stamp) version { return version{at: at, value: fmt.Sprint("of ", at)} }

func gone(at api.Stamp) version { return version{at: at, gone: true} }

// shelf is what stands in a table, as the words speak of it, and rows beside that, of which they say that they do not count.
type shelf struct {
	intents  map[string]api.Intent
	versions map[string][]version
	beside   []api.Op
}

func newShelf() *shelf {
	return &shelf{intents: map[string]api.Intent{}, versions: map[string][]version{}}
}

// with is a shelf of one key.
func with(key string, l ...version) *shelf { return newShelf().add(key, l...) }

func (m *shelf) add(key string, l ...version) *shelf {
	m.versions[key] = append(m.versions[key], l...)
	return m
}

func (m *shelf) way(key string, y api.Intent) *shelf {
	m.intents[key] = y
	return m
}

func (m *shelf) and(l ...api.Op) *shelf {
	m.beside = append(m.beside, l...)
	return m
}

func (m *shelf) copied() *shelf {
	c := &shelf{intents: maps.Clone(m.intents), versions: map[string][]version{}, beside: slices.Clone(m.beside)}
	for key, l := range m.versions {
		c.versions[key] = slices.Clone(l)
	}
	return c
}

// keys are all of which there is an intent or a version, rising.
func (m *shelf) keys() []string {
	l := slices.AppendSeq(slices.Collect(maps.Keys(m.intents)), maps.Keys(m.versions))
	slices.Sort(l)
	return slices.Compact(l)
}

// hasAt tells whether a key has a version at a stamp.
func (m *shelf) hasAt(key string, at api.Stamp) bool {
	return slices.ContainsFunc(m.versions[key], func(v version) bool { return v.at == at })
}

// The keys and texts of a table are made by cell, which must take them.

func must(text string, e api.Errno) string {
	if e != api.OK {
		panic(fmt.Sprint("cell answers ", e))
	}
	return text
}

func intentKey(key string) string { return must(cell.IntentKey(key)) }

func versionKey(key string, s api.Stamp) string { return must(cell.VersionKey(key, s)) }

func versionText(v version) string { return must(cell.Version(v.value, !v.gone)) }

func put(key, value string) api.Op { return api.Op{Key: key, Value: value} }

// table is a table of all that. What is beside is put last, so it stands in the place of what can be read.
func (m *shelf) table(t testing.TB) *table.Table {
	t.Helper()
	var l []api.Op
	for _, key := range m.keys() {
		for _, v := range m.versions[key] {
			l = append(l, put(versionKey(key, v.at), versionText(v)))
		}
		if y, is := m.intents[key]; is {
			l = append(l, put(intentKey(key), must(cell.Intent(y))))
		}
	}
	x := table.New(14)
	for part := range slices.Chunk(append(l, m.beside...), 128) {
		apply(t, x, part)
	}
	return x
}

func apply(t testing.TB, x *table.Table, l []api.Op) {
	t.Helper()
	if e := x.Apply(l); e != api.OK {
		t.Fatalf("Apply(%+v): %d", l, e)
	}
}

func mayNumber(n, least, most int) bool { return least <= n && n <= most }

func mayStamp(s api.Stamp) bool {
	return mayNumber(s.Wall, 0, 1<<40) && mayNumber(s.Logic, 0, 1<<20-1)
}

func mayKey(s string) bool { return 0 < len(s) && len(s) <= 32 }

func mayRead(x api.Txn) bool {
	return mayNumber(x.Id, 1, 1<<53-1) && mayNumber(x.Epoch, 0, 1<<53-1) && mayStamp(x.Read) && mayStamp(x.Limit)
}

func mayRecord(r api.Record) bool {
	for i, w := range r.Writes {
		if !mayKey(w.Key) || !mayNumber(w.Seq, 1, 1<<53-1) || i > 0 && w.Key <= r.Writes[i-1].Key {
			return false
		}
	}
	most := 0
	if r.Status == 2 {
		most = 32
	}
	return mayNumber(r.Id, 1, 1<<53-1) && mayNumber(r.Epoch, 0, 1<<53-1) && mayNumber(r.Status, 1, 4) && mayNumber(r.Priority, 1, 1000) &&
		mayKey(r.Anchor) && mayStamp(r.Stamp) && mayStamp(r.Beat) && len(r.Writes) <= most
}

// settled is what a settled intent becomes: it goes, or is another one; or, without both, all is as it was.
type settled struct {
	version *version
	intent  *api.Intent
	goes    bool
}

// settles is what becomes of the intent at a key: the words' table, row by row.
func (m *shelf) settles(key string, r api.Record) settled {
	y, is := m.intents[key]
	if !is || y.Id != r.Id {
		return settled{}
	}
	switch {
	case r.Status == 3 && y.Epoch == r.Epoch && place(y.Stamp) <= place(r.Stamp):
		last := y.L[len(y.L)-1]
		return settled{version: &version{at: r.Stamp, value: last.Value, gone: last.Del}, goes: true}
	case r.Status == 3, r.Status == 4, r.Status == 1 && y.Epoch < r.Epoch:
		return settled{goes: true}
	case r.Status == 1 && y.Epoch == r.Epoch && place(y.Stamp) < place(r.Stamp):
		y.Stamp = r.Stamp
		return settled{intent: &y}
	}
	return settled{}
}

func (m *shelf) resolve(key string, r api.Record) (settled, api.Errno) {
	if !mayKey(key) || !mayRecord(r) {
		return settled{}, api.ErrArg
	}
	return m.settles(key, r), api.OK
}

// ops are the changes of a table that say that, in their order.
func (w settled) ops(key string) []api.Op {
	var l []api.Op
	if w.version != nil {
		l = append(l, put(versionKey(key, w.version.at), versionText(*w.version)))
	}
	if w.intent != nil {
		l = append(l, put(intentKey(key), must(cell.Intent(*w.intent))))
	}
	if w.goes {
		l = append(l, api.Op{Key: intentKey(key), Del: true})
	}
	return l
}

// do settles on the shelf.
func (m *shelf) do(key string, w settled) {
	if w.version != nil {
		m.versions[key] = slices.DeleteFunc(m.versions[key], func(v version) bool { return v.at == w.version.at })
		m.add(key, *w.version)
	}
	if w.intent != nil {
		m.way(key, *w.intent)
	}
	if w.goes {
		delete(m.intents, key)
	}
}

// came is what came to a span, as the words say it: whether a version did, and the intents that did, by their keys.
func (m *shelf) came(s api.Span, x api.Txn, to api.Stamp) (late bool, l []api.Intent) {
	for _, key := range m.keys() {
		if key < s.From || key >= s.To {
			continue
		}
		for _, v := range m.versions[key] {
			late = late || place(x.Read) <= place(v.at) && place(v.at) <= place(to)
		}
		if y, is := m.intents[key]; is && y.Id != x.Id && place(y.Stamp) <= place(to) {
			l = append(l, y)
		}
	}
	return late, l
}

func (m *shelf) refresh(s api.Span, x api.Txn, to, low api.Stamp) (api.Intent, api.Errno) {
	if s.From >= s.To || !mayRead(x) || !mayStamp(to) || !mayStamp(low) || place(to) < place(x.Read) {
		return api.Intent{}, api.ErrArg
	}
	if place(x.Read) <= place(low) {
		return api.Intent{}, api.ErrOld
	}
	late, l := m.came(s, x, to)
	switch {
	case late:
		return api.Intent{}, api.ErrRetry
	case len(l) > 0:
		return l[0], api.ErrWait
	}
	return api.Intent{}, api.OK
}

func (m *shelf) query(key string, seq int, r api.Record) (bool, api.Errno) {
	if !mayKey(key) || !mayNumber(seq, 1, 1<<53-1) || !mayRecord(r) {
		return false, api.ErrArg
	}
	y, is := m.intents[key]
	has := false
	for _, c := range y.L {
		has = has || c.Seq == seq
	}
	return is && has && y.Id == r.Id && y.Epoch == r.Epoch && place(y.Stamp) <= place(r.Stamp), api.OK
}

func answers(t testing.TB, what string, got, want api.Errno) {
	t.Helper()
	if got != want {
		t.Fatalf("%s: error %d; want %d", what, got, want)
	}
}

func isWay(t testing.TB, what string, got, want api.Intent) {
	t.Helper()
	if !cell.Same(got, want) {
		t.Fatalf("%s: the intent %+v; want %+v", what, got, want)
	}
}

func areOps(t testing.TB, what string, got, want []api.Op) {
	t.Helper()
	if !slices.Equal(got, want) {
		t.Fatalf("%s: changes %+v; want %+v", what, got, want)
	}
}

func told(t testing.TB, what string, got, want []api.Row) {
	t.Helper()
	if !slices.Equal(got, want) {
		t.Fatalf("%s: rows %q; want %q", what, got, want)
	}
}

// readBack is what a list of changes says, each of them read by cell: the version first, if there is one, then the intent.
func readBack(t testing.TB, what, key string, l []api.Op) settled {
	t.Helper()
	var w settled
	if len(l) == 2 {
		of, at, e := cell.ReadVersion(l[0].Key)
		value, is, f := cell.TakeVersion(l[0].Value)
		if of != key || e != api.OK || f != api.OK || l[0].Del {
			t.Fatalf("%s: the first change is no version of %q: %+v", what, key, l)
		}
		w.version = &version{at: at, value: value, gone: !is}
		l = l[1:]
	}
	if len(l) == 0 {
		return w
	}
	if of, e := cell.ReadIntent(l[0].Key); len(l) > 1 || of != key || e != api.OK {
		t.Fatalf("%s: the last change is not that of the intent of %q: %+v", what, key, l)
	}
	if l[0].Del {
		w.goes = true
		return w
	}
	y, e := cell.TakeIntent(l[0].Value)
	answers(t, what+", the intent", e, api.OK)
	w.intent = &y
	return w
}

// resolves settles, and holds the answer against the words; the table is the same behind it.
func resolves(t testing.TB, x *table.Table, m *shelf, key string, r api.Record) ([]api.Op, api.Errno) {
	t.Helper()
	before := x.Rows()
	l, e := settle.Resolve(x, key, r)
	want, wantE := m.resolve(key, r)
	if e != wantE || !slices.Equal(l, want.ops(key)) {
		t.Fatalf("Resolve(%.40q, %+v) of %+v: %+v, %d; want %+v, %d", key, r, m, l, e, want.ops(key), wantE)
	}
	if got := readBack(t, "Resolve", key, l); !reflect.DeepEqual(got, want) {
		t.Fatalf("Resolve(%.40q, %+v) of %+v: %+v; want %+v", key, r, m, got, want)
	}
	told(t, "the table behind Resolve", x.Rows(), before)
	return l, e
}

// applied is resolves, and what changes is done, in the table and on the shelf.
func applied(t testing.TB, x *table.Table, m *shelf, key string, r api.Record) []api.Op {
	t.Helper()
	l, e := resolves(t, x, m, key, r)
	if e != api.OK {
		return nil
	}
	apply(t, x, l)
	m.do(key, m.settles(key, r))
	return l
}

// refreshes asks whether something came to a span, likewise.
func refreshes(t testing.TB, x *table.Table, m *shelf, s api.Span, txn api.Txn, to, low api.Stamp) (api.Intent, api.Errno) {
	t.Helper()
	before := x.Rows()
	y, e := settle.Refresh(x, s, txn, to, low)
	want, wantE := m.refresh(s, txn, to, low)
	if e != wantE || !cell.Same(y, want) {
		t.Fatalf("Refresh(%.40q, %+v, %v, %v) of %+v: %+v, %d; want %+v, %d", s, txn, to, low, m, y, e, want, wantE)
	}
	told(t, "the table behind Refresh", x.Rows(), before)
	return y, e
}

// queries asks for a write, likewise.
func queries(t testing.TB, x *table.Table, m *shelf, key string, seq int, r api.Record) (bool, api.Errno) {
	t.Helper()
	before := x.Rows()
	is, e := settle.Query(x, key, seq, r)
	want, wantE := m.query(key, seq, r)
	if is != want || e != wantE {
		t.Fatalf("Query(%.40q, %d, %+v) of %+v: %t, %d; want %t, %d", key, seq, r, m, is, e, want, wantE)
	}
	told(t, "the table behind Query", x.Rows(), before)
	return is, e
}

// all has each key.
var all = api.Span{From: "", To: strings.Repeat("\xff", 33)}

// point has one key.
func point(key string) api.Span { return api.Span{From: key, To: key + "\x00"} }

package peek_test

import (
	"fmt"
	"math/rand"
	"slices"
	"strings"
	"testing"
	"unsafe"

	"scriptorium/api"
	"scriptorium/peek"
)

// loose are bytes that a text shares, so that the text can be written over behind a call.
type loose []byte

func (b loose) text() string { return unsafe.String(&b[0], len(b)) }

func (b loose) writeOver() {
	for i := range b {
		b[i] = '#'
	}
}

// overlaps tells whether two texts share memory.
func overlaps(a, b string) bool {
	if a == "" || b == "" {
		return false
	}
	from, at := uintptr(unsafe.Pointer(unsafe.StringData(a))), uintptr(unsafe.Pointer(unsafe.StringData(b)))
	return at < from+uintptr(len(a)) && from < at+uintptr(len(b))
}

// writeOver writes over all changes, the spare room, too.
func writeOver(l []api.Change) {
	room := l[:cap(l)]
	for i := range room {
		room[i] = api.Change{Seq: -1, Value: "written over", Del: true}
	}
	_ = append(l, room...)
}

// P12.4: the changes of the intent in Way are new memory: they are written over behind the call, and what the table has stays, and what was answered before.
func TestTheIntentInTheWayIsNew(t *testing.T) {
	m := with("a", kept(10, "x")).way("a", others(wall(14)))
	x := m.table(t)
	txn := me(wall(15), wall(15))
	before := x.Rows()
	var answered []peek.Found
	for range 3 {
		f, e := peek.Get(x, "a", txn, wall(5))
		answers(t, "Get", e, api.ErrWait)
		_, g, e := peek.Scan(x, all, txn, wall(5))
		answers(t, "Scan", e, api.ErrWait)
		answered = append(answered, f, g)
	}
	for i := range answered {
		for _, f := range answered[i:] {
			found(t, "not written over yet", f, peek.Found{Key: "a", Way: others(wall(14))})
		}
		writeOver(answered[i].Way.L)
		told(t, "the table", x.Rows(), before)
	}
	holds(t, x, m, txn, wall(5))
}

// P12.4: rows are new memory.
func TestRowsAreNew(t *testing.T) {
	m := many(40)
	x := m.table(t)
	txn := me(wall(15), wall(15))
	before := x.Rows()
	one, _, _ := peek.Scan(x, all, txn, wall(5))
	two, _, _ := peek.Scan(x, all, txn, wall(5))
	room := one[:cap(one)]
	for i := range room {
		room[i] = api.Row{Key: "written over", Value: "written over"}
	}
	_ = append(one, room...)
	want, _, _ := m.scan(all, txn, wall(5))
	told(t, "the other rows", two, want)
	told(t, "the table", x.Rows(), before)
	slices.Reverse(two)
	holds(t, x, m, txn, wall(5))
}

// P12.4: what is answered stays as it is when the table changes.
func TestAnswersStay(t *testing.T) {
	m := with("a", kept(10, "x")).add("b", kept(11, "y")).way("c", others(wall(14))).way("d", own(3, wall(14), change(1, "mine")))
	x := m.table(t)
	txn := me(wall(15), wall(15))
	a, _ := peek.Get(x, "a", txn, wall(5))
	c, _ := peek.Get(x, "c", txn, wall(5))
	d, _ := peek.Get(x, "d", txn, wall(5))
	rows, _, _ := peek.Scan(x, api.Span{From: "a", To: "c"}, txn, wall(5))
	for _, row := range x.Rows() {
		if e := x.Apply([]api.Op{put(row.Key, "#"), {Key: row.Key, Del: true}, put(row.Key, strings.Repeat("#", len(row.Value)))}); e != api.OK {
			t.Fatal(e)
		}
	}
	found(t, "a", a, peek.Found{Key: "a", Value: "x", Is: true, Stamp: wall(10)})
	found(t, "c", c, peek.Found{Key: "c", Way: others(wall(14))})
	found(t, "d", d, peek.Found{Key: "d", Value: "mine", Is: true, Own: true, Stamp: wall(14)})
	told(t, "a to c", rows, []api.Row{{Key: "a", Value: "x"}, {Key: "b", Value: "y"}})
}

// P12.4: texts that are handed in are written over behind the call, and neither what was answered nor the table has them.
func TestTextsAreNotKept(t *testing.T) {
	m := newShelf()
	for _, key := range []string{"key a", "key b", "key c"} {
		m.add(key, kept(10, "of "+key), kept(30, "later"))
	}
	m.way("key w", others(wall(14)))
	x := m.table(t)
	txn := me(wall(15), wall(15))
	for _, c := range []struct {
		key string
		x   api.Txn
	}{{"key a", txn}, {"key b", me(wall(15), wall(30))}, {"key w", txn}, {"key none", txn}} {
		key, anchor := loose(c.key), loose("an anchor")
		c.x.Anchor = anchor.text()
		f, e := peek.Get(x, key.text(), c.x, wall(5))
		if overlaps(key.text(), f.Key) {
			t.Errorf("%s shares the key's memory", c.key)
		}
		key.writeOver()
		anchor.writeOver()
		want, wantE := m.get(c.key, c.x, wall(5))
		answers(t, c.key, e, wantE)
		found(t, c.key, f, want)
	}
	for _, to := range []string{"key d", "key z"} {
		from, to := loose("key a"), loose(to)
		s := api.Span{From: from.text(), To: to.text()}
		want, wantF, wantE := m.scan(api.Span{From: "key a", To: string(to)}, txn, wall(5))
		rows, f, e := peek.Scan(x, s, txn, wall(5))
		from.writeOver()
		to.writeOver()
		answers(t, "Scan", e, wantE)
		found(t, "Scan", f, wantF)
		told(t, "Scan", rows, want)
	}
	holds(t, x, m, txn, wall(5))
}

// P12.4: no text that is answered is a piece of one that the table has.
func TestTextsThatAreAnswered(t *testing.T) {
	m := with("key a", kept(10, "a value that is long enough")).way("key w", others(wall(14))).way("key x", own(3, wall(14), change(1, "mine, and long enough, too")))
	x := m.table(t)
	txn := me(wall(15), wall(15))
	var texts []string
	for _, key := range m.keys() {
		f, _ := peek.Get(x, key, txn, wall(5))
		texts = append(texts, f.Key, f.Value, f.Way.Anchor)
		for _, c := range f.Way.L {
			texts = append(texts, c.Value)
		}
		rows, g, _ := peek.Scan(x, api.Span{From: key, To: key + "\x00"}, txn, wall(5))
		texts = append(texts, g.Key, g.Way.Anchor)
		for _, row := range rows {
			texts = append(texts, row.Key, row.Value)
		}
	}
	for k, text := range x.All("", "") {
		for _, answered := range texts {
			if overlaps(k, answered) || overlaps(text, answered) {
				t.Errorf("%q is a piece of the table's", answered)
			}
		}
	}
}

// P12.4: many calls, one behind the other, change nothing of the table, whatever they answer, and the same call answers the same.
func TestCallsChangeNothing(t *testing.T) {
	for seed := range 60 {
		r := rand.New(rand.NewSource(int64(seed)))
		m := drawnShelf(r, 30, 20)
		x := m.table(t)
		before := x.Rows()
		for range 40 {
			txn, low, key := drawnReader(r), drawnStamp(r), drawnKey(r)
			s := api.Span{From: drawnKey(r), To: drawnKey(r)}
			f, e := peek.Get(x, key, txn, low)
			rows, g, h := peek.Scan(x, s, txn, low)
			again, againE := peek.Get(x, key, txn, low)
			answers(t, "Get again", againE, e)
			found(t, "Get again", again, f)
			more, again, againE := peek.Scan(x, s, txn, low)
			answers(t, "Scan again", againE, h)
			found(t, "Scan again", again, g)
			told(t, "Scan again", more, rows)
		}
		told(t, fmt.Sprint("the table of ", seed), x.Rows(), before)
	}
}

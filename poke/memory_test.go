package poke_test

import (
	"fmt"
	"math/rand"
	"strings"
	"testing"
	"unsafe"

	"scriptorium/api"
	"scriptorium/poke"
)

// loose are bytes that a text shares, so that the text can be written over behind a call.
type loose []byte

func (b loose) text() string { return unsafe.String(&b[0], len(b)) }

func (b loose) writeOver() {
	for i := range b {
		b[i] = '#'
	}
}

// overlaps tells whether two texts share memory.
func overlaps(a, b string) bool {
	if a == "" || b == "" {
		return false
	}
	from, at := uintptr(unsafe.Pointer(unsafe.StringData(a))), uintptr(unsafe.Pointer(unsafe.StringData(b)))
	return at < from+uintptr(len(a)) && from < at+uintptr(len(b))
}

// writeOver writes over all changes, the spare room, too.
func writeOver(l []api.Change) {
	room := l[:cap(l)]
	for i := range room {
		room[i] = api.Change{Seq: -1, Value: "written over", Del: true}
	}
	_ = append(l, room...)
}

// P13.2: the changes of the intent in Way are new memory: they are written over behind the call, and what the table has stays, and what was answered before.
func TestTheIntentInTheWayIsNew(t *testing.T) {
	m := with("a", kept(10)).way("a", others(wall(14)))
	x := m.table(t)
	before := x.Rows()
	var answered []poke.Done
	for range 4 {
		d, e := poke.Put(x, "a", change(6, "z"), me(wall(15)), wall(5))
		answers(t, "Put", e, api.ErrWait)
		answered = append(answered, d)
	}
	for i := range answered {
		for _, d := range answered[i:] {
			done(t, "not written over yet", d, poke.Done{Way: others(wall(14))})
		}
		writeOver(answered[i].Way.L)
		told(t, "the table", x.Rows(), before)
	}
	puts(t, x, m, "a", change(6, "z"), me(wall(15)), wall(5))
}

// P13.2: what changes is new memory: it is written over behind the call, and what was answered before stays, and the table.
func TestWhatChangesIsNew(t *testing.T) {
	for _, m := range []*shelf{with("a", kept(10)), with("a", kept(10)).way("a", own(3, wall(14), changes(14)...))} {
		x := m.table(t)
		before := x.Rows()
		one, _ := poke.Put(x, "a", change(60, "z"), me(wall(15)), wall(5))
		two, _ := poke.Put(x, "a", change(60, "z"), me(wall(15)), wall(5))
		room := one.L[:cap(one.L)]
		for i := range room {
			room[i] = put("written over", "written over")
		}
		_ = append(one.L, room...)
		want, _ := m.put("a", change(60, "z"), me(wall(15)), wall(5))
		done(t, "the other one", two, want.done("a"))
		told(t, "the table", x.Rows(), before)
		puts(t, x, m, "a", change(60, "z"), me(wall(15)), wall(5))
	}
}

// P13.2: what is answered stays as it is when the table changes.
func TestAnswersStay(t *testing.T) {
	m := with("a", kept(10)).way("b", others(wall(14))).way("c", own(3, wall(14), change(1, "mine")))
	x := m.table(t)
	var answered, want []poke.Done
	for _, key := range m.keys() {
		d, _ := poke.Put(x, key, change(6, "z"), me(wall(15)), wall(5))
		w, _ := m.put(key, change(6, "z"), me(wall(15)), wall(5))
		answered, want = append(answered, d), append(want, w.done(key))
	}
	for _, row := range x.Rows() {
		apply(t, x, []api.Op{put(row.Key, "#"), {Key: row.Key, Del: true}, put(row.Key, strings.Repeat("#", len(row.Value)))})
	}
	for i, d := range answered {
		done(t, fmt.Sprint("the answer ", i), d, want[i])
	}
}

// P13.2: texts that are handed in are written over behind the call, and neither what was answered nor the table has them.
func TestTextsAreNotKept(t *testing.T) {
	m := with("key a", kept(10)).way("key b", others(wall(14))).way("key c", own(3, wall(14), change(1, "mine"))).way("key d", own(3, wall(14), change(6, "the value z"))).way("key e", own(2, wall(14), change(6, "past")))
	x := m.table(t)
	for _, key := range append(m.keys(), "key none") {
		before := x.Rows()
		k, value, anchor := loose(key), loose("the value z"), loose("an anchor")
		txn := me(wall(15))
		txn.Anchor = anchor.text()
		d, e := poke.Put(x, k.text(), change(6, value.text()), txn, wall(5))
		for _, handed := range []string{k.text(), value.text(), anchor.text()} {
			for _, answered := range textsOf(d) {
				if overlaps(handed, answered) {
					t.Errorf("%q shares memory with %q", answered, handed)
				}
			}
		}
		k.writeOver()
		value.writeOver()
		anchor.writeOver()
		txn.Anchor = "an anchor"
		want, wantE := m.put(key, change(6, "the value z"), txn, wall(5))
		answers(t, key, e, wantE)
		done(t, key, d, want.done(key))
		told(t, "the table", x.Rows(), before)
	}
}

// textsOf are all texts of an answer.
func textsOf(d poke.Done) []string {
	texts := []string{d.Way.Anchor}
	for _, o := range d.L {
		texts = append(texts, o.Key, o.Value)
	}
	for _, c := range d.Way.L {
		texts = append(texts, c.Value)
	}
	return texts
}

// P13.2: no text that is answered is a piece of one that the table has.
func TestTextsThatAreAnswered(t *testing.T) {
	m := with("key a", kept(10)).way("key w", others(wall(14))).way("key x", own(3, wall(14), change(1, "mine, and long enough, too")))
	x := m.table(t)
	var texts []string
	for _, key := range m.keys() {
		d, _ := poke.Put(x, key, change(6, "z"), me(wall(15)), wall(5))
		texts = append(texts, textsOf(d)...)
	}
	for k, text := range x.All("", "") {
		for _, answered := range texts {
			if overlaps(k, answered) || overlaps(text, answered) {
				t.Errorf("%q is a piece of the table's", answered)
			}
		}
	}
}

// P13.2: many calls, one behind the other, change nothing of the table, whatever they answer, and the same call answers the same.
func TestCallsChangeNothing(t *testing.T) {
	for seed := range 60 {
		r := rand.New(rand.NewSource(int64(seed)))
		m := drawnShelf(r, 20, 40)
		x := m.table(t)
		before := x.Rows()
		for range 40 {
			key, txn, most := drawnKey(r), drawnWriter(r), drawnStamp(r)
			c := drawnFor(r, m, key)
			d, e := poke.Put(x, key, c, txn, most)
			again, againE := poke.Put(x, key, c, txn, most)
			answers(t, "Put again", againE, e)
			done(t, "Put again", again, d)
		}
		told(t, fmt.Sprint("the table of ", seed), x.Rows(), before)
	}
}

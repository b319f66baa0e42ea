package sweep_test

import (
	"fmt"
	"math/rand"
	"slices"
	"strings"
	"testing"
	"unsafe"

	"scriptorium/api"
	"scriptorium/sweep"
)

// loose are bytes that a text shares, so that the text can be written over behind a call.
type loose []byte

func (b loose) text() string { return unsafe.String(&b[0], len(b)) }

func (b loose) writeOver() {
	for i := range b {
		b[i] = '#'
	}
}

// overlaps tells whether two texts share memory.
func overlaps(a, b string) bool {
	if a == "" || b == "" {
		return false
	}
	from, at := uintptr(unsafe.Pointer(unsafe.StringData(a))), uintptr(unsafe.Pointer(unsafe.StringData(b)))
	return at < from+uintptr(len(a)) && from < at+uintptr(len(b))
}

// fillRoom writes over a list, the spare room, too.
func fillRoom[E any](l []E, with E) {
	room := l[:cap(l)]
	for i := range room {
		room[i] = with
	}
	_ = append(l, room...)
}

// P15.2: what is answered is written over behind the call, and the table has what it had, and what was answered before stays.
func TestWhatIsAnsweredIsNew(t *testing.T) {
	m := everyKey()
	x := m.table(t)
	before := x.Rows()
	want, _ := m.swept(all, wall(30))
	var answered [][]api.Op
	for range 4 {
		l, e := sweep.Sweep(x, all, wall(30))
		answers(t, "Sweep", e, api.OK)
		answered = append(answered, l)
	}
	for i := range answered {
		for _, l := range answered[i:] {
			areOps(t, "not written over yet", l, want)
		}
		fillRoom(answered[i], put("written over", "written over"))
		told(t, "the table", x.Rows(), before)
	}
	sweeps(t, x, m, all, wall(30))
}

// P15.2: what is answered stays as it is when the table changes.
func TestAnswersStay(t *testing.T) {
	m := everyKey()
	x := m.table(t)
	want, _ := m.swept(all, wall(30))
	l, e := sweep.Sweep(x, all, wall(30))
	answers(t, "Sweep", e, api.OK)
	apply(t, x, l)
	areOps(t, "behind the changes themselves", l, want)
	for _, row := range x.Rows() {
		apply(t, x, []api.Op{put(row.Key, "#"), {Key: row.Key, Del: true}, put(row.Key, strings.Repeat("#", len(row.Value)))})
	}
	areOps(t, "behind all changes", l, want)
}

// P15.2: the ends of a span are written over behind the call, and neither what was answered nor the table has them; the call itself leaves them as they are.
func TestWhatIsHandedInIsNotKept(t *testing.T) {
	m := with("key a", kept(10), kept(20)).add("key b", kept(10), gone(20)).add(fill(32), gone(5)).way("key a", intent(8, 3, wall(15)))
	x := m.table(t)
	for _, s := range []api.Span{{From: "key a", To: "key b"}, {From: "key", To: "z"}, {From: "key a\x00", To: fill(33)}, {From: fill(32), To: fill(33)}, {From: fill(33), To: fill(32) + "y"}, {From: "key b", To: "key a"}, {From: fill(34), To: fill(35)}} {
		before := x.Rows()
		from, to := loose(s.From), loose(s.To)
		l, e := sweep.Sweep(x, api.Span{From: from.text(), To: to.text()}, wall(30))
		if string(from) != s.From || string(to) != s.To {
			t.Fatal("what was handed in is changed")
		}
		for _, o := range l {
			if overlaps(o.Key, from.text()) || overlaps(o.Key, to.text()) {
				t.Errorf("%q shares memory with what was handed in", o.Key)
			}
		}
		from.writeOver()
		to.writeOver()
		want, wantE := m.swept(s, wall(30))
		answers(t, "Sweep", e, wantE)
		areOps(t, "Sweep", l, want)
		told(t, "the table", x.Rows(), before)
	}
}

// P15.2: no text that is answered is a piece of one that the table has, nor of another one that was answered.
func TestTextsThatAreAnswered(t *testing.T) {
	m := everyKey()
	x := m.table(t)
	l, _ := sweep.Sweep(x, all, wall(30))
	again, _ := sweep.Sweep(x, all, wall(30))
	if len(l) == 0 || len(l) != len(again) {
		t.Fatalf("%d and %d changes", len(l), len(again))
	}
	var had []string
	for k, text := range x.All("", "") {
		had = append(had, k, text)
	}
	for _, o := range again {
		had = append(had, o.Key, o.Value)
	}
	for _, o := range l {
		for _, text := range had {
			if overlaps(o.Key, text) {
				t.Fatalf("%q is a piece of what was there", o.Key)
			}
		}
	}
}

// P15.2: many calls, one behind the other, change nothing of the table, whatever they answer, and the same call answers the same; so does that of a copy, and of a table that was filled in another order.
func TestCallsChangeNothing(t *testing.T) {
	for seed := range 60 {
		r := rand.New(rand.NewSource(int64(seed)))
		m := drawnShelf(r, 30)
		x := m.table(t)
		before := x.Rows()
		y := newShelf().table(t)
		for _, row := range slices.Backward(before) {
			apply(t, y, []api.Op{put(row.Key, row.Value)})
		}
		for range 40 {
			s, to := drawnSpan(r), drawnStamp(r)
			l, e := sweep.Sweep(x, s, to)
			again, f := sweep.Sweep(x, s, to)
			answers(t, "again", f, e)
			areOps(t, "again", again, l)
			again, f = sweep.Sweep(x.Copy(), s, to)
			answers(t, "of a copy", f, e)
			areOps(t, "of a copy", again, l)
			again, f = sweep.Sweep(y, s, to)
			answers(t, "filled in another order", f, e)
			areOps(t, "filled in another order", again, l)
		}
		told(t, fmt.Sprint("the table of ", seed), x.Rows(), before)
	}
}

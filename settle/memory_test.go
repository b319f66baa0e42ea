package settle_test

import (
	"fmt"
	"math/rand"
	"slices"
	"strings"
	"testing"
	"unsafe"

	"scriptorium/api"
	"scriptorium/settle"
)

// loose are bytes that a text shares, so that the text can be written over behind a call.
type loose []byte

func (b loose) text() string { return unsafe.String(&b[0], len(b)) }

func (b loose) writeOver() {
	for i := range b {
		b[i] = '#'
	}
}

// overlaps tells whether two texts share memory.
func overlaps(a, b string) bool {
	if a == "" || b == "" {
		return false
	}
	from, at := uintptr(unsafe.Pointer(unsafe.StringData(a))), uintptr(unsafe.Pointer(unsafe.StringData(b)))
	return at < from+uintptr(len(a)) && from < at+uintptr(len(b))
}

// fillRoom writes over a list, the spare room, too.
func fillRoom[E any](l []E, with E) {
	room := l[:cap(l)]
	for i := range room {
		room[i] = with
	}
	_ = append(l, room...)
}

// textsOf are all texts of what is answered.
func textsOf(l []api.Op, y api.Intent) []string {
	texts := []string{y.Anchor}
	for _, o := range l {
		texts = append(texts, o.Key, o.Value)
	}
	for _, c := range y.L {
		texts = append(texts, c.Value)
	}
	return texts
}

// P14.4: the changes of the intent that Refresh tells are written over behind the call, and what the table has stays, and what was answered before.
func TestTheIntentThatIsToldIsNew(t *testing.T) {
	m := with("a", kept(10)).way("a", others(wall(14)))
	x := m.table(t)
	before := x.Rows()
	var answered []api.Intent
	for range 4 {
		y, e := settle.Refresh(x, all, reader(wall(12)), wall(20), wall(5))
		answers(t, "Refresh", e, api.ErrWait)
		answered = append(answered, y)
	}
	for i := range answered {
		for _, y := range answered[i:] {
			isWay(t, "not written over yet", y, others(wall(14)))
		}
		fillRoom(answered[i].L, api.Change{Seq: -1, Value: "written over", Del: true})
		told(t, "the table", x.Rows(), before)
	}
	refreshes(t, x, m, all, reader(wall(12)), wall(20), wall(5))
}

// P14.4: what changes is new memory: it is written over behind the call, and what was answered before stays, and the table.
func TestWhatChangesIsNew(t *testing.T) {
	m := with("a", kept(10)).way("a", own(3, wall(15), changes(14)...))
	x := m.table(t)
	before := x.Rows()
	for _, status := range statuses {
		one, _ := settle.Resolve(x, "a", record(status, wall(20)))
		two, _ := settle.Resolve(x, "a", record(status, wall(20)))
		fillRoom(one, put("written over", "written over"))
		areOps(t, "the other one", two, m.settles("a", record(status, wall(20))).ops("a"))
		told(t, "the table", x.Rows(), before)
		resolves(t, x, m, "a", record(status, wall(20)))
	}
}

// P14.4: what is answered stays as it is when the table changes.
func TestAnswersStay(t *testing.T) {
	m := with("a", kept(10)).way("a", own(3, wall(15), change(4, "a value that is long enough"))).way("b", others(wall(14)))
	x := m.table(t)
	var answered, want [][]api.Op
	for _, status := range statuses {
		l, _ := settle.Resolve(x, "a", record(status, wall(20)))
		answered, want = append(answered, l), append(want, m.settles("a", record(status, wall(20))).ops("a"))
	}
	y, e := settle.Refresh(x, all, reader(wall(12)), wall(20), wall(5))
	answers(t, "Refresh", e, api.ErrWait)
	for _, row := range x.Rows() {
		apply(t, x, []api.Op{put(row.Key, "#"), {Key: row.Key, Del: true}, put(row.Key, strings.Repeat("#", len(row.Value)))})
	}
	for i, l := range answered {
		areOps(t, fmt.Sprint("the answer ", i), l, want[i])
	}
	isWay(t, "the answer of Refresh", y, others(wall(14)))
}

// P14.4: texts and lists that are handed in are written over behind the call, and neither what was answered nor the table has them; the call itself leaves them as they are.
func TestWhatIsHandedInIsNotKept(t *testing.T) {
	m := with("key a", kept(10)).way("key a", own(3, wall(15), change(4, "a value that is long enough"))).way("key b", others(wall(14))).way("key c", own(2, wall(14), change(6, "past")))
	x := m.table(t)
	for _, key := range append(m.keys(), "key none") {
		for _, status := range statuses {
			before := x.Rows()
			k, anchor, write := loose(key), loose("an anchor"), loose("a key")
			r := record(status, wall(20))
			r.Anchor = anchor.text()
			if status == api.StatusStaging {
				r.Writes = append(make([]api.Write, 0, 4), api.Write{Key: write.text(), Seq: 4})
			}
			writes := slices.Clone(r.Writes[:cap(r.Writes)])
			l, e := settle.Resolve(x, k.text(), r)
			is, f := settle.Query(x, k.text(), 4, r)
			if string(k) != key || string(anchor) != "an anchor" || string(write) != "a key" || !slices.Equal(writes, r.Writes[:cap(r.Writes)]) {
				t.Fatal("what was handed in is changed")
			}
			for _, handed := range []string{k.text(), anchor.text(), write.text()} {
				for _, answered := range textsOf(l, api.Intent{}) {
					if overlaps(handed, answered) {
						t.Errorf("%q shares memory with %q", answered, handed)
					}
				}
			}
			k.writeOver()
			anchor.writeOver()
			write.writeOver()
			fillRoom(r.Writes, api.Write{Key: "written over", Seq: -1})
			want, wantE := m.resolve(key, record(status, wall(20)))
			answers(t, key, e, wantE)
			areOps(t, key, l, want.ops(key))
			isThere, wantE := m.query(key, 4, record(status, wall(20)))
			answers(t, key, f, wantE)
			if is != isThere {
				t.Errorf("Query: %t", is)
			}
			told(t, "the table", x.Rows(), before)
		}
	}
	for _, ends := range []api.Span{{From: "key a", To: "key z"}, {From: "key b", To: "key c"}, {From: "key c", To: "key z"}} {
		before := x.Rows()
		from, to, anchor := loose(ends.From), loose(ends.To), loose("an anchor")
		txn := reader(wall(12))
		txn.Anchor = anchor.text()
		y, e := settle.Refresh(x, api.Span{From: from.text(), To: to.text()}, txn, wall(20), wall(5))
		for _, answered := range textsOf(nil, y) {
			if overlaps(from.text(), answered) || overlaps(to.text(), answered) || overlaps(anchor.text(), answered) {
				t.Errorf("%q shares memory with what was handed in", answered)
			}
		}
		from.writeOver()
		to.writeOver()
		anchor.writeOver()
		want, wantE := m.refresh(ends, reader(wall(12)), wall(20), wall(5))
		answers(t, "Refresh", e, wantE)
		isWay(t, "Refresh", y, want)
		told(t, "the table", x.Rows(), before)
	}
}

// P14.4: no text that is answered is a piece of one that the table has.
func TestTextsThatAreAnswered(t *testing.T) {
	m := with("key a", kept(10)).way("key a", own(3, wall(15), change(4, "a value that is long enough"))).way("key w", others(wall(14)))
	x := m.table(t)
	var texts []string
	for _, status := range statuses {
		l, _ := settle.Resolve(x, "key a", record(status, wall(20)))
		texts = append(texts, textsOf(l, api.Intent{})...)
	}
	y, _ := settle.Refresh(x, all, reader(wall(12)), wall(20), wall(5))
	texts = append(texts, textsOf(nil, y)...)
	for k, text := range x.All("", "") {
		for _, answered := range texts {
			if overlaps(k, answered) || overlaps(text, answered) {
				t.Errorf("%q is a piece of the table's", answered)
			}
		}
	}
}

// P14.4: many calls, one behind the other, change nothing of the table, whatever they answer, and the same call answers the same.
func TestCallsChangeNothing(t *testing.T) {
	for seed := range 60 {
		r := rand.New(rand.NewSource(int64(seed)))
		m := drawnShelf(r, 20, 50)
		x := m.table(t)
		before := x.Rows()
		for range 40 {
			key, ended, txn, s, to := drawnKey(r), drawnRecord(r), drawnReader(r), drawnSpan(r), drawnStamp(r)
			l, e := settle.Resolve(x, key, ended)
			again, f := settle.Resolve(x, key, ended)
			answers(t, "Resolve again", f, e)
			areOps(t, "Resolve again", again, l)
			y, e := settle.Refresh(x, s, txn, to, wall(1))
			z, f := settle.Refresh(x, s, txn, to, wall(1))
			answers(t, "Refresh again", f, e)
			isWay(t, "Refresh again", z, y)
			is, e := settle.Query(x, key, 4, ended)
			isAgain, f := settle.Query(x, key, 4, ended)
			answers(t, "Query again", f, e)
			if is != isAgain {
				t.Errorf("Query again: %t", isAgain)
			}
		}
		told(t, fmt.Sprint("the table of ", seed), x.Rows(), before)
	}
}

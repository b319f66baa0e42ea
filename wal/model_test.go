package wal

import (
	"fmt"
	"math/rand"
	"slices"
	"strings"
	"testing"

	"scriptorium/api"
	"scriptorium/disk"
)

// era is what a turn has: what is ahead of its batches, and these, as they stand in the file "log".
type era struct {
	turn, ahead int
	rows        []api.Row
	batches     [][]api.Op
}

func (x era) base() string { return baseOf(x.turn, x.ahead, x.rows...) }

func (x era) log() string { return logOf(x.turn, x.ahead, x.batches...) }

func (x era) last() int { return x.ahead + len(x.batches) }

// model does what the words say, work by work, on a disk of its own. It never reads a log: it knows what it wrote, and looks how far that reaches.
type model struct {
	d         *disk.Disk
	now, next era // next: of a checkpoint that may be under way
	synced    int
	broken    bool
}

func (m *model) do(l ...func() api.Errno) api.Errno {
	if m.broken {
		return api.ErrDead
	}
	for _, work := range l {
		if e := work(); e != api.OK {
			m.broken = true
			return e
		}
	}
	return api.OK
}

func (m *model) add(l []api.Op) (int, api.Errno) {
	number := m.now.last() + 1
	if e := m.do(func() api.Errno { return m.d.Append("log", []byte(rec(inBatch(number, l...)))) }); e != api.OK {
		// It may stand there in part, so that it counts as soon as it is looked how far this reaches.
		m.now.batches = append(m.now.batches, l)
		return 0, e
	}
	m.now.batches = append(m.now.batches, l)
	return number, api.OK
}

func (m *model) sync() api.Errno {
	e := m.do(func() api.Errno { return m.d.Sync("log") })
	if e == api.OK {
		m.synced = m.now.last()
	}
	return e
}

func (m *model) checkpoint(rows []api.Row) api.Errno {
	if m.broken {
		return api.ErrDead
	}
	m.next = era{turn: m.now.turn + 1, ahead: m.now.last(), rows: rows}
	e := m.do(
		func() api.Errno { return m.d.Append("next", []byte(m.next.base())) },
		func() api.Errno { return m.d.Sync("next") },
		func() api.Errno { return m.d.Rename("next", "base") },
		func() api.Errno { return m.d.Remove("log") },
		func() api.Errno { return m.d.Append("log", []byte(m.next.log())) },
		func() api.Errno { return m.d.Sync("log") },
	)
	if e == api.OK {
		m.now = m.next
		m.synced = m.now.last()
	}
	return e
}

func (m *model) open() (Kept, api.Errno) {
	m.broken = false
	if e := m.do(func() api.Errno { return m.removeIfThere("next") }); e != api.OK {
		return Kept{}, e
	}
	old := m.now
	if b, e := m.d.Read("base"); e == api.OK && string(b) != m.now.base() {
		m.now = m.next
		if string(b) != m.now.base() {
			panic("a base that nobody wrote")
		}
	}
	b, _ := m.d.Read("log")
	s := string(b)
	isOld := m.now.turn != old.turn && len(s) >= len(head(old.turn, old.ahead)) && strings.HasPrefix(old.log(), s)
	if isOld || len(s) < len(head(m.now.turn, m.now.ahead)) {
		m.now.batches = nil
		e := m.do(
			func() api.Errno { return m.removeIfThere("log") },
			func() api.Errno { return m.d.Append("log", []byte(m.now.log())) },
			func() api.Errno { return m.d.Sync("log") },
		)
		return m.opened(e)
	}
	if !strings.HasPrefix(m.now.log(), s) {
		panic("a log that nobody wrote")
	}
	for len(m.now.log()) > len(s) {
		m.now.batches = m.now.batches[:len(m.now.batches)-1]
	}
	e := m.do(
		func() api.Errno {
			if size := len(m.now.log()); size < len(s) {
				return m.d.Cut("log", size)
			}
			return api.OK
		},
		func() api.Errno { return m.d.Sync("log") },
	)
	return m.opened(e)
}

func (m *model) opened(e api.Errno) (Kept, api.Errno) {
	if e != api.OK {
		return Kept{}, e
	}
	m.synced = m.now.last()
	return Kept{m.now.rows, slices.Clone(m.now.batches)}, api.OK
}

func (m *model) removeIfThere(name string) api.Errno {
	if slices.Contains(m.d.Names(), name) {
		return m.d.Remove(name)
	}
	if m.d.Dead() {
		return api.ErrDead
	}
	return api.OK
}

// pair is a log, and the model that must answer the same, and have the same files, at all times.
type pair struct {
	t    *testing.T
	r    *rand.Rand
	d    *disk.Disk
	w    *Wal
	m    model
	told []string // what was done, for whoever looks for a fault
}

func (p *pair) same(what string, got, want api.Errno) {
	p.t.Helper()
	p.told = append(p.told, fmt.Sprint(what, ": ", int(want)))
	if got != want {
		p.fail("%s: %d; want %d", what, got, want)
	}
	if a, b := files(p.d), files(p.m.d); !slices.Equal(a, b) || p.d.Dead() != p.m.d.Dead() {
		p.fail("%s: the disk has %.300q; want %.300q", what, a, b)
	}
	last, synced := p.m.now.last(), p.m.synced
	if p.m.broken {
		last, synced = 0, 0
	}
	if p.w != nil && (p.w.Last() != last || p.w.Synced() != synced) {
		p.fail("%s: Last %d, Synced %d; want %d, %d", what, p.w.Last(), p.w.Synced(), last, synced)
	}
}

func (p *pair) fail(format string, l ...any) {
	p.t.Helper()
	p.t.Fatalf(format+"\n%s", append(l, strings.Join(p.told[max(0, len(p.told)-30):], "; "))...)
}

func (p *pair) open() {
	p.t.Helper()
	w, k, e := Open(p.d)
	p.w = w
	want, f := p.m.open()
	if e == api.OK {
		isKept(p.t, k, want.Rows, want.Batches...)
	} else if w != nil || len(k.Rows) != 0 || len(k.Batches) != 0 {
		p.fail("Open: %d, and something beside it", e)
	}
	p.same("Open", e, f)
}

func (p *pair) text(most int) string {
	if p.r.Intn(20) == 0 {
		return fill(p.r.Intn(4097))
	}
	b := make([]byte, p.r.Intn(most+1))
	p.r.Read(b)
	return string(b)
}

func (p *pair) batch() []api.Op {
	l := make([]api.Op, 1+p.r.Intn(5))
	for i := range l {
		l[i] = api.Op{Key: "k" + p.text(3), Value: p.text(5)}
		if p.r.Intn(3) == 0 {
			l[i].Value, l[i].Del = "", true
		}
	}
	return l
}

func (p *pair) rows() []api.Row {
	var l []api.Row
	for i := range p.r.Intn(6) {
		l = append(l, api.Row{Key: fmt.Sprint(i, p.text(3)), Value: p.text(5)})
	}
	return l
}

func (p *pair) keep() []int {
	l := make([]int, p.r.Intn(4))
	for i := range l {
		l[i] = p.r.Intn(200) - 20
	}
	return l
}

// call does one thing with both.
func (p *pair) call() {
	p.t.Helper()
	switch p.r.Intn(14) {
	case 0, 1, 2, 3:
		l := p.batch()
		n, e := p.w.Add(l)
		number, f := p.m.add(l)
		p.same("Add", e, f)
		if n != number {
			p.fail("Add: %d; want %d", n, number)
		}
	case 4, 5:
		p.same("Sync", p.w.Sync(), p.m.sync())
	case 6:
		rows := p.rows()
		p.same("Checkpoint", p.w.Checkpoint(rows), p.m.checkpoint(rows))
	case 7:
		l := append(p.batch(), api.Op{Key: fill(p.r.Intn(2) * 4097)})
		want := api.ErrArg
		if len(l[len(l)-1].Key) > 0 {
			want = api.ErrLimit
		}
		if p.m.broken {
			want = api.ErrDead
		}
		_, e := p.w.Add(l)
		p.same("Add of what may not be", e, want)
	case 8:
		rows := append(p.rows(), api.Row{})
		want := api.ErrArg
		if p.m.broken {
			want = api.ErrDead
		}
		p.same("Checkpoint of what may not be", p.w.Checkpoint(rows), want)
	case 9:
		p.open()
	case 10, 11:
		keep := p.keep()
		p.d.Crash(keep)
		p.m.d.Crash(keep)
		p.same(fmt.Sprint("Crash ", keep), api.OK, api.OK)
	case 12, 13:
		n, keep := p.r.Intn(10)-1, p.keep()
		p.d.Fail(n, keep)
		p.m.d.Fail(n, keep)
		p.same(fmt.Sprint("Fail ", n, keep), api.OK, api.OK)
	}
}

// P8.1 to P8.6: long ways of calls, with falls in between, held against the words.
func TestLongWays(t *testing.T) {
	ways, calls := 400, 150
	for seed := range ways {
		p := &pair{t: t, r: rand.New(rand.NewSource(int64(seed))), d: disk.New(), m: model{d: disk.New(), now: era{turn: 1}}}
		p.told = append(p.told, fmt.Sprint("seed ", seed))
		p.open()
		for range calls {
			p.call()
			// A log that does not know of the fall would write behind what was lost.
			for tries := 0; p.d.Dead() || p.w == nil; tries++ {
				if tries == 9 {
					p.fail("it can't be opened")
				}
				if p.r.Intn(2) == 0 && p.w != nil {
					p.same("Sync", p.w.Sync(), p.m.sync())
				}
				p.d.Boot()
				p.m.d.Boot()
				p.open()
			}
		}
	}
}

// history is what was asked of a log, told by whoever asks alone: batches as they were added, and how many of them must stay.
type history struct {
	added  [][]api.Op
	synced int
	// The rows of the last checkpoint that was done, and how many batches are ahead of it; and likewise of one that was under way.
	rows, under   []api.Row
	ahead, before int
	isUnder       bool
}

// steps are a way of calls: a batch, S (Sync), C (Checkpoint).
const steps = "bbSbCbSbbCCbbbSCSb"

// follow does the steps from the first one on, up to the disk's first error.
func (h *history) follow(d *disk.Disk) {
	w, _, e := Open(d)
	for i := 0; i < len(steps) && e == api.OK; i++ {
		switch steps[i] {
		case 'b':
			l := ops(put1(fmt.Sprint("k", i), fill(i)), gone("g"))
			h.added = append(h.added, l)
			_, e = w.Add(l)
		case 'S':
			if e = w.Sync(); e == api.OK {
				h.synced = len(h.added)
			}
		case 'C':
			h.isUnder, h.under, h.before = true, rowsTo(1+i%3), len(h.added)
			if e = w.Checkpoint(h.under); e == api.OK {
				h.isUnder, h.rows, h.ahead, h.synced = false, h.under, h.before, h.before
			}
		}
	}
}

// holds asks whether what Open tells is what must be left.
func (h *history) holds(k Kept, last int) string {
	ahead := h.ahead
	isOld, isNew := slices.Equal(k.Rows, h.rows), h.isUnder && slices.Equal(k.Rows, h.under)
	if isNew && last-len(k.Batches) == h.before {
		ahead = h.before
	} else if !isOld {
		return "rows of no checkpoint"
	}
	if last != ahead+len(k.Batches) {
		return "a number that is not so many batches behind the base's"
	}
	if last < h.synced {
		return "fewer batches than were synced"
	}
	if last > len(h.added) || !slices.EqualFunc(k.Batches, h.added[ahead:last], slices.Equal[[]api.Op]) {
		return "batches that were not added so"
	}
	return ""
}

// P8.6: wherever the power goes, whatever stays of what was not synced, and if it goes again while the log is opened.
func TestFallsAnywhere(t *testing.T) {
	for n := 0; ; n++ {
		fell := false
		for _, keep := range keeps2(60) {
			for again := -1; again < 4; again++ {
				d := disk.New()
				d.Fail(n, keep)
				var h history
				h.follow(d)
				fell = d.Dead()
				d.Crash(keep)
				d.Boot()
				if again >= 0 {
					d.Fail(again, keep)
					Open(d)
					d.Crash(keep)
					d.Boot()
				}
				w, k, e := Open(d)
				if e != api.OK {
					t.Fatalf("behind %d works, by %v, again %d: %d", n, keep, again, e)
				}
				if fault := h.holds(k, w.Last()); fault != "" {
					t.Fatalf("behind %d works, by %v, again %d: %s: %v", n, keep, again, fault, k)
				}
				if w.Synced() != w.Last() {
					t.Fatalf("Synced %d, Last %d", w.Synced(), w.Last())
				}
			}
		}
		if !fell {
			return
		}
	}
}

// keeps2 are numbers to keep by, for at most three files.
func keeps2(most int) [][]int {
	l := [][]int{nil, {-1, -1, -1}, {0, 1 << 30, 3}}
	for i := range most {
		l = append(l, []int{i, i, i}, []int{0, 0, i})
	}
	return l
}

// P8.6: of one record that was not synced any number of bytes may stay: it is there whole, or not at all.
func TestFallsWithinARecord(t *testing.T) {
	l := ops(put1("key", fill(300)), gone("k"))
	size := len(rec(inBatch(2, l...)))
	for stays := range size + 1 {
		d, w := fresh(t)
		adds(t, w, 1, many(1)...)
		well(t, w.Sync())
		adds(t, w, 2, l...)
		d.Crash([]int{stays})
		d.Boot()
		want := [][]api.Op{many(1)}
		if stays == size {
			want = append(want, l)
		}
		w = opens(t, d, len(want), nil, want...)
		adds(t, w, len(want)+1, many(3)...)
		opens(t, d, len(want)+1, nil, append(want, many(3))...)
	}
}

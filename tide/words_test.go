package tide_test

import (
	"fmt"
	"slices"
	"strings"
	"testing"

	"scriptorium/api"
	"scriptorium/tide"
)

func stampOf(wall, logic int) api.Stamp { return api.Stamp{Wall: wall, Logic: logic} }

func wall(n int) api.Stamp { return stampOf(n, 0) }

func span(from, to string) api.Span { return api.Span{From: from, To: to} }

func fill(n int) string { return strings.Repeat("x", n) }

// apart is the n-th one of spans of which no two meet or touch.
func apart(n int) api.Span { return span(fmt.Sprintf("%05da", n), fmt.Sprintf("%05db", n)) }

// place is where a stamp stands in the one row of all that may be.
func place(s api.Stamp) int { return s.Wall<<20 + s.Logic }

func atPlace(n int) api.Stamp { return stampOf(n>>20, n&(1<<20-1)) }

func justAbove(s api.Stamp) api.Stamp { return atPlace(place(s) + 1) }

func justBelow(s api.Stamp) api.Stamp { return atPlace(place(s) - 1) }

const most = 1<<53 - 1

var (
	least    = stampOf(0, 0)
	greatest = stampOf(1<<40, 1<<20-1)
	// mayNotBe are stamps that may not be: each number one below and one above what it may be, and far from that.
	mayNotBe = []api.Stamp{
		stampOf(-1, 0), stampOf(1<<40+1, 0), stampOf(0, -1), stampOf(0, 1<<20),
		stampOf(-1, 1<<20-1), stampOf(1<<40+1, 1<<20-1), stampOf(1<<40, -1), stampOf(1<<40, 1<<20),
		stampOf(-1, -1), stampOf(1<<40+1, 1<<20), stampOf(-1<<63, 0), stampOf(1<<63-1, 0), stampOf(5, -1<<63), stampOf(5, 1<<63-1),
	}
	owners   = []int{0, 1, 2, 7, most - 1, most}
	noOwners = []int{-1, most + 1, -2, -most, 1 << 60, -1 << 63, 1<<63 - 1}
)

// shape is a span that may not be, or may be just so, and the error that it makes.
type shape struct {
	s    api.Span
	want api.Errno
}

var shapes = []shape{
	{span("a", "c"), api.OK},
	{span("", "a"), api.OK},
	{span("", "\x00"), api.OK},
	{span("a", "a\x00"), api.OK},
	{span(fill(32), fill(32)+"\x00"), api.OK},
	{span("a", fill(33)), api.OK},
	{span(fill(33), "z"), api.OK},
	{span(fill(32)+"a", fill(32)+"b"), api.OK},
	{span("", strings.Repeat("\xff", 33)), api.OK},
	{span("", ""), api.ErrArg},
	{span("a", "a"), api.ErrArg},
	{span("c", "a"), api.ErrArg},
	{span("a\x00", "a"), api.ErrArg},
	{span("a", ""), api.ErrArg},
	{span(fill(33), fill(33)), api.ErrArg},
	{span(fill(33), fill(32)), api.ErrArg},
	{span("z", fill(33)), api.ErrArg},
	{span(fill(34), "z"), api.ErrLimit},
	{span("a", fill(34)), api.ErrLimit},
	{span(fill(34), fill(34)), api.ErrLimit},
	{span(fill(34), fill(33)), api.ErrLimit},
	{span(fill(33), fill(34)), api.ErrLimit},
	{span("z", fill(34)), api.ErrLimit},
	{span(fill(34), "a"), api.ErrLimit},
	{span(fill(34), ""), api.ErrLimit},
	{span("", fill(5000)), api.ErrLimit},
}

// What follows says with plain loops what the chapter's words say.

func mayBe(s api.Stamp) bool {
	return s.Wall >= 0 && s.Wall <= 1<<40 && s.Logic >= 0 && s.Logic <= 1<<20-1
}

func owns(n int) bool { return n >= 0 && n <= 1<<53-1 }

func fault(s api.Span) api.Errno {
	switch {
	case len(s.From) > 33, len(s.To) > 33:
		return api.ErrLimit
	case s.From < s.To:
		return api.OK
	}
	return api.ErrArg
}

// meets tells it of spans that may be: what both have begins where the later one of them does.
func meets(a, b api.Span) bool {
	from := a.From
	if from < b.From {
		from = b.From
	}
	return from < a.To && from < b.To
}

// read is one that is remembered.
type read struct {
	s     api.Span
	at    int // its stamp's place
	owner int
}

// model is a tide in the chapter's words.
type model struct {
	low   int // the low water's place
	reads []read
}

func (m *model) forget() {
	var l []read
	for _, r := range m.reads {
		if r.at > m.low {
			l = append(l, r)
		}
	}
	m.reads = l
}

func (m *model) add(s api.Span, at api.Stamp, owner int) api.Errno {
	if e := fault(s); e != api.OK {
		return e
	}
	if !mayBe(at) || !owns(owner) {
		return api.ErrArg
	}
	n := place(at)
	if n <= m.low {
		return api.OK
	}
	for i, r := range m.reads {
		if r.s == s && r.owner == owner {
			m.reads[i].at = max(r.at, n)
			return api.OK
		}
	}
	m.reads = append(m.reads, read{s, n, owner})
	if len(m.reads) <= 64 {
		return api.OK
	}
	m.low = m.reads[0].at
	for _, r := range m.reads {
		m.low = min(m.low, r.at)
	}
	m.forget()
	return api.OK
}

func (m *model) raise(low api.Stamp) api.Errno {
	if !mayBe(low) {
		return api.ErrArg
	}
	if place(low) > m.low {
		m.low = place(low)
		m.forget()
	}
	return api.OK
}

func (m *model) max(s api.Span, not int) (api.Stamp, api.Errno) {
	if e := fault(s); e != api.OK {
		return api.Stamp{}, e
	}
	if !owns(not) {
		return api.Stamp{}, api.ErrArg
	}
	n := m.low
	for _, r := range m.reads {
		if meets(r.s, s) && (not == 0 || r.owner != not) {
			n = max(n, r.at)
		}
	}
	return atPlace(n), api.OK
}

// step is a call that may change a tide: an Add, or a Raise.
type step struct {
	raises bool
	s      api.Span
	at     api.Stamp
	owner  int
}

func adds(s api.Span, at api.Stamp, owner int) step { return step{false, s, at, owner} }

func raises(low api.Stamp) step { return step{raises: true, at: low} }

func (x step) String() string {
	if x.raises {
		return fmt.Sprint("Raise of ", x.at)
	}
	return fmt.Sprintf("Add of (%q, %q), %v, %d", x.s.From, x.s.To, x.at, x.owner)
}

func (m *model) does(x step) api.Errno {
	if x.raises {
		return m.raise(x.at)
	}
	return m.add(x.s, x.at, x.owner)
}

// done is what a tide answers to a step.
func (x step) done(h *tide.Tide) api.Errno {
	if x.raises {
		return h.Raise(x.at)
	}
	return h.Add(x.s, x.at, x.owner)
}

// both is a tide beside its model, and all that was done with them.
type both struct {
	h     *tide.Tide
	m     *model
	first api.Stamp
	steps []step
}

func begin(t testing.TB, low api.Stamp) *both {
	t.Helper()
	h, e := tide.New(low)
	if h == nil || e != api.OK {
		t.Fatalf("New(%v): %v, %d", low, h, e)
	}
	return &both{h: h, m: &model{low: place(low)}, first: low}
}

// does takes steps with both.
func (b *both) does(t testing.TB, l ...step) *both {
	t.Helper()
	for _, x := range l {
		b.steps = append(b.steps, x)
		if e, want := x.done(b.h), b.m.does(x); e != want {
			t.Fatalf("%v: %d; want %d", x, e, want)
		}
		b.stands(t)
	}
	return b
}

// stands asks for the low water, and for how many reads are remembered.
func (b *both) stands(t testing.TB) {
	t.Helper()
	if low := b.h.Low(); low != atPlace(b.m.low) {
		t.Fatalf("behind %v the low water is %v; want %v", b.steps, low, atPlace(b.m.low))
	}
	if n := b.h.Len(); n != len(b.m.reads) {
		t.Fatalf("behind %v %d reads are remembered; want %d", b.steps, n, len(b.m.reads))
	}
}

// tells asks for what the tide tells of spans, but for each of some owners.
func (b *both) tells(t testing.TB, l []api.Span, but []int) *both {
	t.Helper()
	for _, s := range l {
		for _, not := range but {
			want, wantE := b.m.max(s, not)
			got, e := b.h.Max(s, not)
			if got != want || e != wantE {
				t.Fatalf("behind %v, Max((%q, %q), %d): %v, %d; want %v, %d", b.steps, s.From, s.To, not, got, e, want, wantE)
			}
		}
	}
	return b
}

// again is what comes of the same steps once more.
func (b *both) again(t testing.TB) *both {
	t.Helper()
	return begin(t, b.first).does(t, b.steps...)
}

// asked are spans that tell of each read and each piece between two ends whether it is remembered.
func (b *both) asked() []api.Span {
	ends := []string{"", strings.Repeat("\xff", 33)}
	l := []api.Span{span("", strings.Repeat("\xff", 33))}
	for _, x := range b.steps {
		if !x.raises && fault(x.s) == api.OK {
			ends = append(ends, x.s.From, x.s.To)
			l = append(l, x.s)
		}
	}
	slices.Sort(ends)
	ends = slices.Compact(ends)
	for i := 0; i+1 < len(ends); i++ {
		l = append(l, span(ends[i], ends[i+1]))
	}
	return l
}

// owners are those who own reads, one who owns none, and nobody.
func (b *both) owners() []int {
	l := []int{0, 99}
	for _, x := range b.steps {
		if !x.raises && owns(x.owner) {
			l = append(l, x.owner)
		}
	}
	slices.Sort(l)
	return slices.Compact(l)
}

// is asks for all that a tide tells of what was done with it.
func (b *both) is(t testing.TB) *both {
	t.Helper()
	b.stands(t)
	return b.tells(t, b.asked(), b.owners())
}

// isWithin asks for what no single call tells: the same steps are done once more for each read that was added, and then that read is added again, or the low water is raised to it, which tells whether it is remembered, and at which stamp.
func (b *both) isWithin(t testing.TB) *both {
	t.Helper()
	b.is(t)
	for _, x := range b.steps {
		if x.raises || fault(x.s) != api.OK || !owns(x.owner) || b.m.low == place(greatest) {
			continue
		}
		b.again(t).does(t, adds(x.s, atPlace(b.m.low+1), x.owner)).is(t)
		if mayBe(x.at) {
			b.again(t).does(t, raises(x.at)).is(t)
		}
	}
	return b
}

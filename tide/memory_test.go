package tide_test

import (
	"math/rand"
	"strings"
	"testing"
	"unsafe"

	"scriptorium/api"
	"scriptorium/tide"
)

// loose are bytes that a text shares, so that the text can be written over behind a call.
type loose []byte

func (b loose) text() string {
	if len(b) == 0 {
		return ""
	}
	return unsafe.String(&b[0], len(b))
}

func (b loose) writeOver() {
	for i := range b {
		b[i] = '#'
	}
}

// looseSpan is the same span, each end of bytes of its own.
type looseSpan struct{ from, to loose }

func loosely(s api.Span) looseSpan { return looseSpan{loose(s.From), loose(s.To)} }

func (l looseSpan) span() api.Span { return span(l.from.text(), l.to.text()) }

func (l looseSpan) is(s api.Span) bool { return string(l.from) == s.From && string(l.to) == s.To }

func (l looseSpan) writeOver() {
	l.from.writeOver()
	l.to.writeOver()
}

// P17.5: the texts of a span are the same behind each call, whether it is refused or not.
func TestWhatIsHandedInIsOnlyRead(t *testing.T) {
	for _, made := range []func(testing.TB) *both{some, full} {
		b := made(t)
		for _, h := range []*tide.Tide{b.h, {}, nil} {
			for _, c := range shapes {
				for _, at := range []api.Stamp{wall(4), wall(6), wall(8), greatest, wall(-1)} {
					for _, owner := range []int{0, 7, most, -1} {
						l := loosely(c.s)
						h.Max(l.span(), owner)
						h.Add(l.span(), at, owner)
						h.Max(l.span(), owner)
						if !l.is(c.s) {
							t.Fatalf("(%q, %q) became (%q, %q)", c.s.From, c.s.To, l.from, l.to)
						}
					}
				}
			}
		}
	}
}

// P17.5: what was handed in is written over, and all is told as if it was not: of a new read, of one that came before, of one that is nothing, of one that is refused, and of what was asked for.
func TestWhatIsHandedInIsNotKept(t *testing.T) {
	r := rand.New(rand.NewSource(175))
	for range 20 {
		b := begin(t, wall(5))
		for range 150 {
			from := r.Intn(20)
			s := span(apart(from).From, apart(from+r.Intn(3)).To)
			x := adds(s, wall(3+r.Intn(100)), r.Intn(3)-r.Intn(20)/19)
			l := loosely(s)
			if e, want := b.h.Add(l.span(), x.at, x.owner), b.m.does(x); e != want {
				t.Fatalf("%v: %d; want %d", x, e, want)
			}
			b.steps = append(b.steps, x)
			l.writeOver()
			l = loosely(s)
			b.h.Max(l.span(), x.owner)
			l.writeOver()
			b.stands(t)
			b.tells(t, []api.Span{s, apart(from), apart(from + 1), span("", "z")}, []int{0, 1, 2})
		}
		b.is(t)
	}
}

// overlaps tells whether two texts share memory.
func overlaps(a, b string) bool {
	if a == "" || b == "" {
		return false
	}
	from, at := uintptr(unsafe.Pointer(unsafe.StringData(a))), uintptr(unsafe.Pointer(unsafe.StringData(b)))
	return at < from+uintptr(len(a)) && from < at+uintptr(len(b))
}

// P17.5: two ends that are pieces of one text, or the same one, are read as any others.
func TestEndsOfOneText(t *testing.T) {
	long := strings.Repeat("abcdefgh", 4)
	for i := range 8 {
		for j := range 8 {
			s := span(long[i:i+8], long[j:])
			if !overlaps(s.From, s.To) && i+8 > j {
				t.Fatal("the ends share no memory")
			}
			b := begin(t, wall(5)).does(t, adds(s, wall(9), 7), adds(span(strings.Clone(s.From), strings.Clone(s.To)), wall(10), 7))
			b.tells(t, []api.Span{s, span("", "z"), span(long[j:], "z"), span("", long[i:i+8]), span(long[i:i+8], long[i:i+9])}, []int{0, 7, 8}).is(t)
		}
	}
}

// P17.5: no tide changes another one; the same calls are answered the same, whatever is done between (R2).
func TestTidesStandForThemselves(t *testing.T) {
	d := drawers()[1]
	var l []*both
	for i := range 6 {
		l = append(l, begin(t, wall(i)))
	}
	for range 900 {
		l[d.r.Intn(len(l))].does(t, d.step())
	}
	for _, b := range l {
		b.is(t)
	}
	for _, b := range l {
		b.again(t).is(t)
	}
}

// P17.3, P17.5: asking changes nothing: of two tides one is asked all the time.
func TestAskingChangesNothing(t *testing.T) {
	for _, d := range drawers() {
		asked, left := begin(t, wall(9)), begin(t, wall(9))
		spans, owners := d.asked(), d.all()
		for range 200 {
			x := d.step()
			asked.does(t, x).tells(t, spans[:5], owners)
			left.does(t, x)
		}
		asked.is(t)
		left.is(t)
	}
}

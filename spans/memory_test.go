package spans_test

import (
	"fmt"
	"math/rand"
	"slices"
	"strings"
	"testing"
	"unsafe"

	"scriptorium/api"
	"scriptorium/spans"
)

// loose are bytes that a text shares, so that the text can be written over behind a call.
type loose []byte

func (b loose) text() string {
	if len(b) == 0 {
		return ""
	}
	return unsafe.String(&b[0], len(b))
}

func (b loose) writeOver() {
	for i := range b {
		b[i] = '#'
	}
}

// loosely are the same spans, each end of bytes of its own, and these bytes.
func loosely(l []api.Span) ([]api.Span, []loose) {
	var c []api.Span
	var bytes []loose
	for _, s := range l {
		from, to := loose(s.From), loose(s.To)
		c = append(c, span(from.text(), to.text()))
		bytes = append(bytes, from, to)
	}
	return c, bytes
}

// firmly are the same spans, of texts of their own.
func firmly(l []api.Span) []api.Span {
	c := slices.Clone(l)
	for i, s := range c {
		c[i] = span(strings.Clone(s.From), strings.Clone(s.To))
	}
	return c
}

// overlaps tells whether two texts share memory.
func overlaps(a, b string) bool {
	if a == "" || b == "" {
		return false
	}
	from, at := uintptr(unsafe.Pointer(unsafe.StringData(a))), uintptr(unsafe.Pointer(unsafe.StringData(b)))
	return at < from+uintptr(len(a)) && from < at+uintptr(len(b))
}

// textsOf are all ends of lists.
func textsOf(lists ...[]api.Span) []string {
	var texts []string
	for _, l := range lists {
		for _, s := range l {
			texts = append(texts, s.From, s.To)
		}
	}
	return texts
}

var other = span("written over", "written over, too")

// fillRoom writes over a list, the spare room, too.
func fillRoom(l []api.Span) {
	room := l[:cap(l)]
	for i := range room {
		room[i] = other
	}
}

// roomy is a list with spare room, in which other spans stand.
func roomy(l []api.Span) []api.Span {
	c := slices.Concat(l, times(7, other))
	return c[:len(l)]
}

// pairs are lists on which the calls are tried: those of the shapes, in order and not, of few spans and many.
func pairs() [][2][]api.Span {
	l := [][2][]api.Span{{nil, nil}, {numbered(40), nil}, {nil, numbered(40)}, {numbered(40), over(40)}, {over(40), nested(30)}, {mayBe, mayBe[3:20]}, {with(numbered(5), 3, span("b", "a")), numbered(2)}, {numbered(2), with(numbered(5), 3, span("a", fill(34)))}, {numbered(1001), numbered(3)}}
	for _, c := range shapes {
		l = append(l, [2][]api.Span{c.a, c.b}, [2][]api.Span{c.b, c.a})
	}
	return l
}

// P16.3: what is handed in is the same behind each call, its spare room too.
func TestWhatIsHandedInIsOnlyRead(t *testing.T) {
	for _, pair := range pairs() {
		a, b := roomy(pair[0]), roomy(pair[1])
		for _, c := range all {
			c.call(a, b)
			c.call(b, a)
			c.call(a, a)
		}
		for _, key := range asked(a[:min(len(a), 50)]) {
			spans.In(a, key)
		}
		for i, l := range [][]api.Span{a, b} {
			areSpans(t, "what was handed in", l, pair[i])
			areSpans(t, "the spare room", l[len(l):len(l)+7], times(7, other))
		}
	}
}

// P16.3: what is answered is written over, and what was handed in has what it had; so has what was answered before.
func TestWhatIsAnsweredIsNew(t *testing.T) {
	for _, pair := range pairs() {
		for _, c := range all {
			a, b := roomy(pair[0]), roomy(pair[1])
			want, wantE := c.said(a, b)
			var answered [][]api.Span
			for range 4 {
				l, e := c.call(a, b)
				answers(t, c.name, e, wantE)
				answered = append(answered, l)
			}
			for i := range answered {
				for _, l := range answered[i:] {
					areSpans(t, "not written over yet", l, want)
				}
				fillRoom(answered[i])
				areSpans(t, "the first list", a, pair[0])
				areSpans(t, "the second list", b, pair[1])
			}
			areSpans(t, "once more", c.does(t, a, b), want)
		}
	}
}

// P16.3: what is answered is new, too, where it is just what was handed in, and where a list is handed in as both.
func TestTheSameListIsNew(t *testing.T) {
	for _, n := range []int{1, 2, 7, 1000} {
		want := numbered(n)
		for _, c := range []struct {
			name string
			call func(l []api.Span) ([]api.Span, api.Errno)
		}{
			{"Join", spans.Join},
			{"Both", func(l []api.Span) ([]api.Span, api.Errno) { return spans.Both(l, l) }},
			{"Both of all", func(l []api.Span) ([]api.Span, api.Errno) { return spans.Both(l, list("", "z")) }},
			{"Both of all, the other way round", func(l []api.Span) ([]api.Span, api.Errno) { return spans.Both(list("", "z"), l) }},
			{"Less of none", func(l []api.Span) ([]api.Span, api.Errno) { return spans.Less(l, nil) }},
		} {
			l := roomy(want)
			got, e := c.call(l)
			answers(t, c.name, e, api.OK)
			areSpans(t, c.name, got, want)
			fillRoom(got)
			areSpans(t, "what was handed in", l, want)
			areSpans(t, "the spare room", l[n:n+7], times(7, other))
		}
	}
}

// P16.3: what was handed in is written over, lists and texts, and what is answered has what it had.
func TestWhatIsHandedInIsNotKept(t *testing.T) {
	for _, pair := range pairs() {
		for _, c := range all {
			want, wantE := c.said(pair[0], pair[1])
			want = firmly(want)
			a, bytesA := loosely(pair[0])
			b, bytesB := loosely(pair[1])
			got, e := c.call(a, b)
			answers(t, c.name, e, wantE)
			for _, o := range slices.Concat(bytesA, bytesB) {
				o.writeOver()
			}
			fillRoom(a)
			fillRoom(b)
			areSpans(t, c.name, got, want)
		}
	}
	for _, key := range []string{"", "a", "\x00", "\xff", fill(31), fill(32), fill(33)} {
		b := loose(key)
		s, e := spans.Of(b.text())
		if string(b) != key {
			t.Fatal("what was handed in is changed")
		}
		b.writeOver()
		if e == api.OK && s != span(key, behind(key)) {
			t.Errorf("Of(%q), written over: %q", key, s)
		}
	}
}

// P16.3: no text that is answered is a piece of one that was handed in, nor of another one that was answered.
func TestTextsThatAreAnswered(t *testing.T) {
	long := strings.Repeat("abcdefghijklmnop", 2)
	pieces := list(long[:3], long[1:5], long[2:], long[3:], long[4:7], long[8:30])
	for _, pair := range append(pairs(), [2][]api.Span{pieces, nil}, [2][]api.Span{pieces, list("b", "f")}, [2][]api.Span{list("", "z"), pieces}) {
		for _, c := range all {
			got, _ := c.call(pair[0], pair[1])
			texts := textsOf(got)
			for i, text := range texts {
				for _, had := range slices.Concat(textsOf(pair[0], pair[1]), texts[:i]) {
					if overlaps(text, had) {
						t.Fatalf("%s: %q shares memory", c.name, text)
					}
				}
			}
		}
	}
	s, _ := spans.Of(long)
	if overlaps(s.From, long) || overlaps(s.To, long) || overlaps(s.From, s.To) {
		t.Error("Of: the span shares memory")
	}
}

// P16.3: the same call answers the same, whatever was called between (R2).
func TestTheSameCallAnswersTheSame(t *testing.T) {
	r := rand.New(rand.NewSource(163))
	l := pairs()
	type answer struct {
		l []api.Span
		e api.Errno
	}
	first := map[string]answer{}
	for range 2000 {
		i, c := r.Intn(len(l)), all[r.Intn(len(all))]
		got, e := c.call(l[i][0], l[i][1])
		name := fmt.Sprint(c.name, i)
		if had, is := first[name]; is && (had.e != e || !slices.Equal(had.l, got)) {
			t.Fatalf("%s: %s, %d; ahead of that %s, %d", name, listed(got), e, listed(had.l), had.e)
		}
		first[name] = answer{firmly(got), e}
		fillRoom(got)
	}
}

package spans_test

import (
	"fmt"
	"math/rand"
	"slices"
	"strings"
	"testing"

	"scriptorium/api"
	"scriptorium/spans"
)

// spansOf are all that may be with ends of some texts.
func spansOf(texts ...string) []api.Span {
	var l []api.Span
	for _, from := range texts {
		for _, to := range texts {
			if fault(span(from, to)) == api.OK {
				l = append(l, span(from, to))
			}
		}
	}
	return l
}

// subsets are all lists that have some spans of a list, each once.
func subsets(l []api.Span) [][]api.Span {
	subs := [][]api.Span{nil}
	for _, s := range l {
		for _, sub := range subs {
			subs = append(subs, append(slices.Clone(sub), s))
		}
	}
	return subs
}

// P16.2: all lists of spans between four texts, each with each other one, are reckoned as the words say, key by key.
func TestAllSmallLists(t *testing.T) {
	for _, texts := range [][]string{{"", "a", "a\x00", "\xff"}, {"\x00", "\x00\x00", fill(33), "\xff\xff"}} {
		subs := subsets(spansOf(texts...))
		if len(subs) != 64 {
			t.Fatal(len(subs), " lists")
		}
		for _, a := range subs {
			for _, b := range subs {
				for _, c := range all {
					c.hasJust(t, c.does(t, a, b), a, b)
				}
			}
		}
	}
}

// P16.4: all lists of spans between five texts: those that have the same have the same Join, and only one of them is in order, the Join itself.
func TestOneListInOrder(t *testing.T) {
	texts := []string{"", "\x00", "a", "a\x00", fill(33)}
	inOrderOf := map[string][]api.Span{}
	joinOf := map[string][]api.Span{}
	for _, l := range subsets(spansOf(texts...)) {
		has := ""
		for i, text := range texts {
			if in(l, text) {
				has += fmt.Sprint(" ", i)
			}
		}
		got := join.does(t, l, nil)
		if had, is := joinOf[has]; is {
			areSpans(t, "the Join of the same keys", got, had)
		}
		joinOf[has] = got
		if rises(l) {
			if _, is := inOrderOf[has]; is {
				t.Fatalf("two lists in order have the keys of%s", has)
			}
			inOrderOf[has] = l
		}
	}
	if len(joinOf) != 16 || len(inOrderOf) != 16 {
		t.Fatalf("%d Joins, %d lists in order; want 16", len(joinOf), len(inOrderOf))
	}
	for has, l := range inOrderOf {
		areSpans(t, "the Join of a list in order", joinOf[has], l)
		areSpans(t, "its own Join", join.does(t, l, nil), l)
	}
}

// rises tells whether a list is in order.
func rises(l []api.Span) bool {
	for i := 1; i < len(l); i++ {
		if l[i-1].To >= l[i].From {
			return false
		}
	}
	return true
}

// drawnText is one of few, some of them with the bytes 0 and 255, and of 33 bytes.
func drawnText(r *rand.Rand) string {
	switch r.Intn(8) {
	case 0:
		return fill(31+r.Intn(2)) + []string{"", "\x00", "\xff", "x"}[r.Intn(4)]
	case 1:
		return strings.Repeat("\xff", 31+r.Intn(3))
	}
	b := make([]byte, r.Intn(4))
	for i := range b {
		b[i] = "\x00\x01ab\x80\xff"[r.Intn(6)]
	}
	return string(b)
}

func drawnSpan(r *rand.Rand) api.Span {
	for {
		a, b := drawnText(r), drawnText(r)
		if a != b {
			return span(min(a, b), max(a, b))
		}
	}
}

func drawnList(r *rand.Rand, most int) []api.Span {
	var l []api.Span
	for range r.Intn(most + 1) {
		l = append(l, drawnSpan(r))
		if r.Intn(8) == 0 {
			l = append(l, l[r.Intn(len(l))])
		}
		if last := l[len(l)-1]; r.Intn(4) == 0 {
			// One that touches it, or goes on one text before its end, or behind it.
			from := []string{last.To, last.From, last.To + "\x00"}[r.Intn(3)]
			if s := span(from, drawnText(r)); fault(s) == api.OK {
				l = append(l, s)
			}
		}
	}
	return l
}

// P16.2: drawn lists are reckoned as the words say, key by key.
func TestDrawnLists(t *testing.T) {
	counts := map[int]int{}
	for seed := range 3000 {
		r := rand.New(rand.NewSource(int64(seed)))
		most := []int{2, 4, 10, 30}[seed%4]
		a, b := drawnList(r, most), drawnList(r, most)
		for _, c := range all {
			got := c.does(t, a, b)
			c.hasJust(t, got, a, b)
			counts[min(len(got), 2)]++
		}
	}
	if counts[0] < 500 || counts[1] < 500 || counts[2] < 500 {
		t.Errorf("none, one and many spans: %v", counts)
	}
}

// P16.4: the order of what is handed in does not count.
func TestOrdersOfLists(t *testing.T) {
	for seed := range 400 {
		r := rand.New(rand.NewSource(int64(seed)))
		a, b := drawnList(r, 3), drawnList(r, 2)
		if len(a) > 4 || len(b) > 3 {
			a, b = a[:min(len(a), 4)], b[:min(len(b), 3)]
		}
		for _, c := range all {
			want := c.does(t, a, b)
			for o := range orders(a) {
				for p := range orders(b) {
					got, e := c.call(o, p)
					answers(t, c.name, e, api.OK)
					areSpans(t, c.name+" in another order", got, want)
				}
			}
		}
	}
	for seed := range 300 {
		r := rand.New(rand.NewSource(int64(seed)))
		a, b := drawnList(r, 60), drawnList(r, 60)
		for _, c := range all {
			want := c.does(t, a, b)
			for range 5 {
				got, e := c.call(shuffled(r, a), shuffled(r, b))
				answers(t, c.name, e, api.OK)
				areSpans(t, c.name+", shuffled", got, want)
			}
		}
	}
}

// P16.4: Join of a list in order is that list; of Join's answer, and of those of Both and Less, too; so they are of lists that were joined before.
func TestJoinOfAListInOrder(t *testing.T) {
	for seed := range 1500 {
		r := rand.New(rand.NewSource(int64(seed)))
		a, b := drawnList(r, 12), drawnList(r, 12)
		joinedA, joinedB := join.does(t, a, nil), join.does(t, b, nil)
		for _, c := range all {
			got := c.does(t, a, b)
			areSpans(t, "the Join of what "+c.name+" answers", join.does(t, got, nil), got)
			areSpans(t, c.name+" of lists in order", c.does(t, joinedA, joinedB), got)
			areSpans(t, c.name+" of the first list in order", c.does(t, joinedA, b), got)
			areSpans(t, c.name+" of the second list in order", c.does(t, a, joinedB), got)
		}
	}
}

// P16.4: Both and Less have together just what the first list has, and nothing in common.
func TestBothAndLessTogether(t *testing.T) {
	for seed := range 1500 {
		r := rand.New(rand.NewSource(int64(seed)))
		a, b := drawnList(r, 12), drawnList(r, 12)
		two, one := both.does(t, a, b), less.does(t, a, b)
		areSpans(t, "together", join.does(t, slices.Concat(one, two), nil), join.does(t, a, nil))
		areSpans(t, "in common", both.does(t, one, two), nil)
		areSpans(t, "Both, the other way round", both.does(t, b, a), two)
		areSpans(t, "Less, and then Both", both.does(t, one, b), nil)
		areSpans(t, "Less of Both", less.does(t, a, two), one)
		areSpans(t, "Less of Less", less.does(t, a, one), two)
		for _, key := range asked(a, b) {
			isTwo, isOne := spans.In(two, key), spans.In(one, key)
			if isTwo && isOne || (isTwo || isOne) != in(a, key) {
				t.Fatalf("Both(%s; %s) has %q: %v, Less: %v", listed(a), listed(b), key, isTwo, isOne)
			}
		}
	}
}

// P16.5: over all pairs of many small spans, either one ahead, two meet just if Both of them has a span; and just if there is a key that both have.
func TestMeetsAndBoth(t *testing.T) {
	small := spansOf("", "\x00", "\x00\x00", "\x01", "a", "a\x00", "a\x01", "aa", "a\xff", "b", fill(32), fill(32)+"\x00", fill(33), "\xff", "\xff\x00", strings.Repeat("\xff", 33))
	meeting := 0
	for _, a := range small {
		for _, b := range small {
			got := both.does(t, []api.Span{a}, []api.Span{b})
			if spans.Meets(a, b) != (len(got) > 0) || spans.Meets(a, b) != meets(a, b) {
				t.Fatalf("Meets(%q, %q): %v; Both has %s", a, b, spans.Meets(a, b), listed(got))
			}
			if len(got) > 0 {
				meeting++
			}
		}
	}
	if len(small) != 120 || meeting < 2000 || meeting > 120*120-2000 {
		t.Errorf("%d spans, %d pairs meet", len(small), meeting)
	}
	// Such that may not be have nothing: Both has no span of them, and none meets.
	for _, c := range mayNotBe {
		for _, s := range slices.Concat(small, []api.Span{c.s}) {
			refuses(t, both, []api.Span{s}, []api.Span{c.s}, c.want)
			tells(t, "Meets", spans.Meets(s, c.s), false)
			tells(t, "Meets", spans.Meets(c.s, s), false)
		}
	}
}

// P16.5: drawn spans, likewise.
func TestDrawnSpansMeet(t *testing.T) {
	r := rand.New(rand.NewSource(165))
	for range 20000 {
		a, b := drawnSpan(r), drawnSpan(r)
		got, e := spans.Both([]api.Span{a}, []api.Span{b})
		answers(t, "Both", e, api.OK)
		if spans.Meets(a, b) != (len(got) == 1) || spans.Meets(b, a) != meets(a, b) {
			t.Fatalf("Meets(%q, %q): %v; Both has %s", a, b, spans.Meets(a, b), listed(got))
		}
	}
}

package spans_test

import (
	"fmt"
	"slices"
	"strings"
	"testing"

	"scriptorium/api"
	"scriptorium/spans"
)

// P16.1, P16.2: the chapter's examples, every row of them.
func TestExamples(t *testing.T) {
	answers(t, "Check(a, a)", spans.Check(span("a", "a")), api.ErrArg)
	s, e := spans.Of("a")
	if s != span("a", "a\x00") || e != api.OK {
		t.Errorf("Of(a): %q, %d", s, e)
	}
	tells(t, "Meets((a, c), (c, d))", spans.Meets(span("a", "c"), span("c", "d")), false)
	tells(t, "Meets((a, c), (b, d))", spans.Meets(span("a", "c"), span("b", "d")), true)
	l, e := spans.Join(list("c", "d", "a", "b", "b", "c", "e", "f"))
	answers(t, "Join", e, api.OK)
	areSpans(t, "Join", l, list("a", "d", "e", "f"))
	l, e = spans.Both(list("a", "d", "e", "g"), list("b", "f"))
	answers(t, "Both", e, api.OK)
	areSpans(t, "Both", l, list("b", "d", "e", "f"))
	l, e = spans.Less(list("a", "d", "e", "g"), list("b", "f"))
	answers(t, "Less", e, api.OK)
	areSpans(t, "Less", l, list("a", "b", "f", "g"))
}

// mayNotBe are spans that may not be, and why not.
var mayNotBe = []struct {
	s    api.Span
	want api.Errno
}{
	{span("", ""), api.ErrArg}, {span("a", ""), api.ErrArg}, {span("a", "a"), api.ErrArg}, {span("b", "a"), api.ErrArg}, {span("a\x00", "a"), api.ErrArg}, {span("aa", "a"), api.ErrArg}, {span("\x00", ""), api.ErrArg}, {span("\x00", "\x00"), api.ErrArg},
	{span("\xff", "\xff"), api.ErrArg}, {span("\xff", "\x7f"), api.ErrArg}, {span("\xff\x00", "\xff"), api.ErrArg}, {span("\x80", "\x7f"), api.ErrArg},
	{span(fill(33), fill(33)), api.ErrArg}, {span(fill(33), fill(32)), api.ErrArg}, {span(fill(33), ""), api.ErrArg}, {span(fill(33), "a"), api.ErrArg}, {span("y", fill(33)), api.ErrArg}, {span(fill(32)+"y", fill(33)), api.ErrArg},
	{span("", fill(34)), api.ErrLimit}, {span("a", fill(34)), api.ErrLimit}, {span(fill(33), fill(34)), api.ErrLimit}, {span(fill(34), "y"), api.ErrLimit}, {span(fill(34), fill(35)), api.ErrLimit}, {span("a", fill(1000)), api.ErrLimit}, {span(fill(1000), "y"), api.ErrLimit},
	{span(fill(34), ""), api.ErrLimit}, {span(fill(34), "a"), api.ErrLimit}, {span(fill(34), fill(33)), api.ErrLimit}, {span(fill(34), fill(34)), api.ErrLimit}, {span("y", fill(34)), api.ErrLimit}, {span(fill(35), fill(34)), api.ErrLimit}, {span(fill(33)+"y", fill(34)), api.ErrLimit},
	{span("", strings.Repeat("\x00", 34)), api.ErrLimit}, {span(strings.Repeat("\xff", 34), strings.Repeat("\xff", 33)), api.ErrLimit}, {span("", strings.Repeat("x", 1<<20)), api.ErrLimit},
}

// mayBe are spans that may be.
var mayBe = list(
	"", "\x00", "", "a", "", fill(33), "\x00", "\x00\x00", "\x00", "\x01", "a", "a\x00", "a", "aa", "a", "b", "a\x00", "a\x00\x00", "\x7f", "\x80", "\x00", "\xff", "\xff", "\xff\x00", "\xff", "\xff\xff",
	"a", fill(32), "a", fill(33), fill(32), "y", fill(33), "y", fill(32), fill(33), fill(33), fill(32)+"y", fill(32)+"\x00", fill(33), fill(31), fill(32), "", strings.Repeat("\x00", 33), "", strings.Repeat("\xff", 33), strings.Repeat("\x00", 33), strings.Repeat("\xff", 33), strings.Repeat("\xff", 32), strings.Repeat("\xff", 33),
)

// P16.1: Check of spans that may be, and of those that may not; where both errors are due, ErrLimit comes.
func TestCheck(t *testing.T) {
	for _, s := range mayBe {
		answers(t, fmt.Sprintf("Check(%.40q)", s), spans.Check(s), api.OK)
	}
	for _, c := range mayNotBe {
		answers(t, fmt.Sprintf("Check(%.40q)", c.s), spans.Check(c.s), c.want)
	}
}

// P16.1: ends of all lengths: From below To, the same, and above it.
func TestCheckLengths(t *testing.T) {
	lengths := []int{0, 1, 2, 31, 32, 33, 34, 35, 63, 64, 65, 66, 67, 1000, 1 << 16}
	for _, n := range lengths {
		for _, o := range lengths {
			for _, c := range []struct{ from, to string }{{"a", "b"}, {"b", "a"}, {"a", "a"}, {"\x00", "\xff"}, {"\xff", "\x00"}, {"\x00", "\x00"}, {"\xff", "\xff"}} {
				s := span(strings.Repeat(c.from, n), strings.Repeat(c.to, o))
				answers(t, fmt.Sprintf("Check of %d and %d bytes", n, o), spans.Check(s), fault(s))
			}
		}
	}
	// Bytes are counted, not letters.
	answers(t, "16 letters", spans.Check(span("a", strings.Repeat("é", 16)+"x")), api.OK)
	answers(t, "17 letters", spans.Check(span("a", strings.Repeat("é", 17))), api.ErrLimit)
	answers(t, "17 letters", spans.Check(span(strings.Repeat("é", 17), "\xff")), api.ErrLimit)
}

// P16.1: Has of keys at the ends, around them and far from them.
func TestHas(t *testing.T) {
	for _, c := range []struct {
		s    api.Span
		key  string
		want bool
	}{
		{span("b", "d"), "", false}, {span("b", "d"), "a", false}, {span("b", "d"), "a\xff\xff", false}, {span("b", "d"), "b", true}, {span("b", "d"), "b\x00", true}, {span("b", "d"), "c", true}, {span("b", "d"), "c\xff\xff", true}, {span("b", "d"), "d", false}, {span("b", "d"), "d\x00", false}, {span("b", "d"), "z", false}, {span("b", "d"), "\xff", false},
		{span("", "a"), "", true}, {span("", "\x00"), "", true}, {span("", "\x00"), "\x00", false}, {span("\x00", "a"), "", false}, {span("\x00", "a"), "\x00", true}, {span("a", "b"), "", false},
		{span("a", "b"), "a" + fill(32), true}, {span("a", "b"), "a" + fill(1000), true}, {span("a", "b"), "b" + fill(1000), false}, {span("", fill(33)), fill(32), true}, {span("", fill(33)), fill(33), false}, {span("", fill(33)), fill(34), false}, {span(fill(33), "y"), fill(34), true}, {span(fill(33), "y"), fill(33), true}, {span(fill(33), "y"), fill(32), false},
		{span("\x7f", "\x81"), "\x80", true}, {span("\xfe", "\xff"), "\xfe\xff", true}, {span("\xfe", "\xff"), "\xff", false}, {span("a", "a\x00"), "a", true}, {span("a", "a\x00"), "a\x00", false},
		{span("d", "b"), "c", false}, {span("d", "b"), "b", false}, {span("d", "b"), "d", false}, {span("c", "c"), "c", false}, {span("", ""), "", false},
	} {
		tells(t, fmt.Sprintf("Has(%.40q, %.40q)", c.s, c.key), spans.Has(c.s, c.key), c.want)
	}
	for _, s := range mayBe {
		for _, key := range asked(mayBe) {
			tells(t, fmt.Sprintf("Has(%q, %q)", s, key), spans.Has(s, key), has(s, key))
		}
	}
}

// P16.1: a span that may not be has nothing, though a key lies between its ends.
func TestSpansThatMayNotBeHaveNothing(t *testing.T) {
	for _, c := range mayNotBe {
		for _, key := range asked(mayBe, []api.Span{c.s}) {
			tells(t, fmt.Sprintf("Has(%.40q, %.40q)", c.s, key), spans.Has(c.s, key), false)
			tells(t, fmt.Sprintf("In of %.40q, %.40q", c.s, key), spans.In([]api.Span{c.s}, key), false)
		}
		for _, s := range slices.Concat(mayBe, []api.Span{c.s}) {
			tells(t, fmt.Sprintf("Meets(%.40q, %.40q)", s, c.s), spans.Meets(s, c.s), false)
			tells(t, fmt.Sprintf("Meets(%.40q, %.40q)", c.s, s), spans.Meets(c.s, s), false)
		}
		for _, other := range mayNotBe {
			tells(t, fmt.Sprintf("Meets(%.40q, %.40q)", c.s, other.s), spans.Meets(c.s, other.s), false)
		}
	}
}

// P16.1: Meets in each way in which two spans can lie to each other, either one ahead.
func TestMeets(t *testing.T) {
	long := strings.Repeat("\xff", 33)
	for _, c := range []struct {
		way  string
		a, b api.Span
		want bool
	}{
		{"apart", span("a", "b"), span("c", "d"), false}, {"touching", span("a", "b"), span("b", "c"), false}, {"one text between", span("a", "b"), span("b\x00", "c"), false},
		{"one text over", span("a", "b\x00"), span("b", "c"), true}, {"one byte over", span("a", "c"), span("b", "d"), true}, {"over by many", span("a", "m"), span("b", "z"), true},
		{"within", span("a", "d"), span("b", "c"), true}, {"the same", span("b", "c"), span("b", "c"), true}, {"the same From", span("a", "b"), span("a", "c"), true}, {"the same To", span("a", "c"), span("b", "c"), true},
		{"one key", span("a", "a\x00"), span("a", "a\x00"), true}, {"one key at the beginning", span("a", "a\x00"), span("a", "b"), true}, {"one key at the end", span("b", "b\x00"), span("a", "b"), false}, {"one key just below the end", span("a\xff", "a\xff\x00"), span("a", "b"), true},
		{"no bytes alone", span("", "\x00"), span("", "a"), true}, {"no bytes, and behind them", span("", "\x00"), span("\x00", "a"), false},
		{"only a longer text than a key", span("a"+fill(32), "b"), span("a", "a"+fill(31)+"y"), true}, {"33 bytes", span("a", long), span(long[1:], long), true}, {"33 bytes, touching", span("a", fill(33)), span(fill(33), long), false},
		{"bytes above 127", span("a", "\x80"), span("\x7f", "\xff"), true}, {"bytes above 127, apart", span("a", "\x7f"), span("\x80", "\xff"), false},
	} {
		tells(t, c.way, spans.Meets(c.a, c.b), c.want)
		tells(t, c.way+", the other way round", spans.Meets(c.b, c.a), c.want)
		tells(t, "the words: "+c.way, meets(c.a, c.b), c.want)
	}
}

// P16.1: Of keys of 0 to 32 bytes, with bytes 0 and 255, and of longer ones.
func TestOf(t *testing.T) {
	for _, n := range []int{0, 1, 2, 31, 32, 33, 34, 64, 65, 1000, 1 << 16} {
		for _, c := range []string{"x", "\x00", "\xff", "\x80", "a"} {
			key := strings.Repeat(c, n)
			s, e := spans.Of(key)
			if n > 32 {
				if e != api.ErrLimit || s != (api.Span{}) {
					t.Errorf("Of %d bytes %q: %q, %d", n, c, s, e)
				}
				continue
			}
			if e != api.OK || s != span(key, key+"\x00") {
				t.Errorf("Of(%q): %q, %d", key, s, e)
			}
		}
	}
	// Bytes are counted, not letters.
	if s, e := spans.Of(strings.Repeat("é", 16)); e != api.OK || s.From != strings.Repeat("é", 16) {
		t.Errorf("Of 16 letters: %q, %d", s, e)
	}
	_, e := spans.Of(strings.Repeat("é", 17))
	answers(t, "Of 17 letters", e, api.ErrLimit)
}

// P16.1: what Of answers has that key alone.
func TestOfHasOneKey(t *testing.T) {
	keys := []string{"", "\x00", "\x00\x00", "\x01", "a", "a\x00", "a\x01", "aa", "a\xff", "b", fill(31), fill(32), fill(31) + "\x00", fill(31) + "\xff", "\xff", "\xff\x00", "\xff\xff", strings.Repeat("\x00", 32), strings.Repeat("\xff", 32)}
	for _, key := range keys {
		s, e := spans.Of(key)
		answers(t, "Of", e, api.OK)
		answers(t, "Check of what Of answers", spans.Check(s), api.OK)
		for _, other := range append(slices.Clone(keys), asked([]api.Span{s})...) {
			tells(t, fmt.Sprintf("Of(%q) has %q", key, other), spans.Has(s, other), key == other)
		}
		for _, other := range keys {
			o, _ := spans.Of(other)
			tells(t, fmt.Sprintf("Of(%q) meets Of(%q)", key, other), spans.Meets(s, o), key == other)
		}
	}
}

// P16.2: In of lists that are not in order, that have spans that may not be, and of none.
func TestIn(t *testing.T) {
	tells(t, "In of nil", spans.In(nil, "a"), false)
	tells(t, "In of none", spans.In([]api.Span{}, ""), false)
	lists := [][]api.Span{
		list("a", "b"), list("c", "d", "a", "b"), list("a", "c", "b", "d"), list("a", "z", "c", "d"), list("b", "c", "a", "b"), list("a", "b", "a", "b", "a", "b"),
		list("d", "b", "e", "e", "c", "d"), list("a", fill(34), "c", "d"), list("c", "d", "a", fill(34)), list("d", "b"), list("", ""), list("z", "a", "a", "z", "z", "a"), list("", "\x00", "\xff", "\xff\xff"), {},
		mayBe, nil,
	}
	for _, c := range mayNotBe {
		lists = append(lists, []api.Span{c.s, span("c", "d")}, []api.Span{span("c", "d"), c.s})
	}
	for _, l := range lists {
		for _, key := range asked(l, list("b", "c", "d", "e")) {
			tells(t, fmt.Sprintf("In(%s, %.40q)", listed(l), key), spans.In(l, key), in(l, key))
		}
	}
}

// P16.2: In of lists of more than 1000, at each place of them.
func TestInLongLists(t *testing.T) {
	for _, n := range []int{999, 1000, 1001, 5000} {
		l := numbered(n)
		for i := range l {
			key := l[i].From
			tells(t, fmt.Sprint("the one at ", i), spans.In(l, key), true)
			tells(t, fmt.Sprint("just below the one at ", i), spans.In(l, below(key)), false)
			tells(t, fmt.Sprint("just below the end of the one at ", i), spans.In(l, below(l[i].To)), true)
			tells(t, fmt.Sprint("behind the one at ", i), spans.In(l, l[i].To), false)
		}
		l = append(l, span("b", "a"), span("a", fill(34)), span("n", "o"))
		tells(t, "the last one", spans.In(l, "n"), true)
		tells(t, "of those that may not be", spans.In(l, "b"), false)
		slices.Reverse(l)
		tells(t, "the first one", spans.In(l, "n"), true)
		tells(t, "of those that may not be", spans.In(l, "b"), false)
	}
}

// numbered are so many spans in order, of digits alone.
func numbered(n int) []api.Span {
	var l []api.Span
	for i := range n {
		l = append(l, span(number(4*i), number(4*i+3)))
	}
	return l
}

// number is one as a text; they stand in their order.
func number(n int) string { return fmt.Sprintf("%06d", n) }

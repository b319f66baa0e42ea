package sweep_test

import (
	"fmt"
	"math"
	"strings"
	"testing"

	"scriptorium/api"
	"scriptorium/sweep"
	"scriptorium/table"
)

// example is what the chapter's examples begin with.
func example() *shelf {
	return with("a", version{at: wall(10), value: "x"}, version{at: wall(20), value: "y"}, gone(30), version{at: wall(40), value: "z"}).add("b", version{at: wall(10), value: "x"})
}

// P15.1: the chapter's examples, and what is beside them.
func TestExamples(t *testing.T) {
	m := example()
	x := m.table(t)
	for _, c := range []struct {
		to   int
		want []api.Op
	}{
		{25, going("a", 10)}, {20, going("a", 10)}, {9, nil},
		{30, going("a", 30, 20, 10)}, {35, going("a", 30, 20, 10)}, {40, going("a", 30, 20, 10)},
		{0, nil}, {10, nil}, {19, nil}, {29, going("a", 10)}, {1 << 40, going("a", 30, 20, 10)},
	} {
		l, e := sweep.Sweep(x, all, wall(c.to))
		answers(t, fmt.Sprint("to ", c.to), e, api.OK)
		areOps(t, fmt.Sprint("to ", c.to), l, c.want)
		sweeps(t, x, m, all, wall(c.to))
	}
}

// P15.1: a table that is nil, or a zero one, is looked for ahead of all else.
func TestOfNoTable(t *testing.T) {
	for i, x := range []*table.Table{nil, {}} {
		for _, s := range []api.Span{all, {}, {From: "b", To: "a"}, {From: fill(34), To: fill(35)}, {From: "a", To: fill(34)}} {
			for _, to := range []api.Stamp{wall(20), {}, stampOf(-1, 0), stampOf(0, 1<<20)} {
				l, e := sweep.Sweep(x, s, to)
				answers(t, fmt.Sprint("of none ", i), e, api.ErrNil)
				areOps(t, fmt.Sprint("of none ", i), l, nil)
			}
		}
	}
}

// P15.1: a table without keys is one.
func TestOfAnEmptyTable(t *testing.T) {
	x, m := table.New(0), newShelf()
	for _, s := range []api.Span{all, point("a"), {From: "", To: "\x00"}} {
		for _, to := range []api.Stamp{{}, wall(20), greatest} {
			l, e := sweeps(t, x, m, s, to)
			answers(t, "Sweep", e, api.OK)
			areOps(t, "Sweep", l, nil)
		}
	}
	if x.Len() != 0 {
		t.Errorf("the table has %d rows", x.Len())
	}
}

// everyKey is a shelf of all odd keys, with versions of which some go.
func everyKey() *shelf {
	m := newShelf()
	for i, key := range oddKeys {
		m.add(key, kept(10), gone(20), kept(30+i%2))
	}
	return m
}

// P15.1: the ends of a span may have up to 33 bytes, each.
func TestLengthsOfEnds(t *testing.T) {
	m := everyKey()
	x := m.table(t)
	lengths := []int{1, 2, 30, 31, 32, 33, 34, 35, 64, 65, 66, 1000, 1001, 1 << 16}
	for _, n := range append(lengths, 0) {
		for _, o := range lengths {
			for _, s := range []api.Span{{From: strings.Repeat("a", n), To: strings.Repeat("b", o)}, {From: strings.Repeat("\x00", n), To: strings.Repeat("\xff", o)}, {From: strings.Repeat("w", n), To: strings.Repeat("x", o)}} {
				want := api.OK
				if n > 33 || o > 33 {
					want = api.ErrLimit
				}
				_, e := sweeps(t, x, m, s, wall(30))
				answers(t, fmt.Sprintf("%d and %d bytes", n, o), e, want)
			}
		}
	}
	// Bytes are counted, not letters.
	for _, c := range []struct {
		end  string
		want api.Errno
	}{{strings.Repeat("é", 16), api.OK}, {strings.Repeat("é", 16) + "x", api.OK}, {strings.Repeat("é", 17), api.ErrLimit}, {strings.Repeat("é", 32), api.ErrLimit}} {
		_, e := sweeps(t, x, m, api.Span{From: "a", To: c.end}, wall(30))
		answers(t, c.end, e, c.want)
		_, e = sweeps(t, x, m, api.Span{From: c.end, To: "\xff"}, wall(30))
		answers(t, c.end, e, c.want)
	}
}

// P15.1: From below To, the same, and above it.
func TestFromAndTo(t *testing.T) {
	m := everyKey()
	x := m.table(t)
	for _, c := range []struct {
		from, to string
		may      bool
	}{
		{"", "", false}, {"a", "a", false}, {"b", "a", false}, {"a", "", false}, {"\x00", "", false}, {"a\x00", "a", false}, {"aa", "a", false}, {"\xff", "\x00", false},
		{fill(32), fill(32), false}, {fill(33), fill(33), false}, {fill(33), fill(32), false}, {fill(32) + "y", fill(33), false}, {all.To, all.To, false}, {all.To, "", false},
		{"", "\x00", true}, {"", "a", true}, {"a", "a\x00", true}, {"a", "aa", true}, {"a", "b", true}, {"\x00", "\xff", true}, {fill(32), fill(33), true}, {fill(33), fill(32) + "y", true}, {"", all.To, true}, {all.To[1:], all.To, true},
	} {
		want := api.ErrArg
		if c.may {
			want = api.OK
		}
		for _, to := range []api.Stamp{wall(0), wall(25), greatest} {
			_, e := sweeps(t, x, m, api.Span{From: c.from, To: c.to}, to)
			answers(t, fmt.Sprintf("%q to %q", c.from, c.to), e, want)
		}
	}
}

// ends are stamps that may be and that may not, at their ends and beyond.
var ends = []struct {
	at  api.Stamp
	may bool
}{
	{stampOf(0, 0), true}, {stampOf(1, 0), true}, {stampOf(0, 1), true}, {stampOf(0, 1<<20-2), true}, {stampOf(0, 1<<20-1), true}, {stampOf(16, 0), true}, {stampOf(16, 1<<20-1), true},
	{stampOf(1<<40-1, 0), true}, {stampOf(1<<40-1, 1<<20-1), true}, {stampOf(1<<40, 0), true}, {stampOf(1<<40, 1<<20-2), true}, {stampOf(1<<40, 1<<20-1), true},
	{stampOf(-1, 0), false}, {stampOf(-1, 1<<20-1), false}, {stampOf(0, -1), false}, {stampOf(-1, -1), false}, {stampOf(0, 1<<20), false}, {stampOf(16, -1), false}, {stampOf(16, 1<<20), false}, {stampOf(16, math.MaxInt), false}, {stampOf(16, math.MinInt), false},
	{stampOf(1<<40, -1), false}, {stampOf(1<<40, 1<<20), false}, {stampOf(1<<40+1, 0), false}, {stampOf(1<<40+1, -1), false}, {stampOf(1<<41, 0), false}, {stampOf(math.MaxInt, 0), false}, {stampOf(math.MinInt, 0), false},
}

// P15.1: a to with Wall and Logic at their least and greatest that may be, and beyond: what may not be is ErrArg.
func TestStampsThatMayNotBe(t *testing.T) {
	edges := newShelf()
	for _, c := range ends {
		if c.may {
			edges.add("a", keptAt(c.at))
		}
	}
	for _, m := range []*shelf{newShelf(), everyKey(), edges, edges.copied().add("b", goneAt(stampOf(0, 0)), goneAt(greatest))} {
		x := m.table(t)
		for _, c := range ends {
			want := api.ErrArg
			if c.may {
				want = api.OK
			}
			for _, s := range []api.Span{all, point("a"), {From: "x", To: "y"}} {
				_, e := sweeps(t, x, m, s, c.at)
				answers(t, fmt.Sprint("to ", c.at), e, want)
			}
		}
	}
}

// P15.1: of several errors that are due ErrLimit is told: a span that is too long, though it is none, and though the stamp may not be.
func TestWhichErrorComesFirst(t *testing.T) {
	long := fill(34)
	spans := []struct {
		s    api.Span
		want api.Errno
	}{
		{all, api.OK}, {point("a"), api.OK},
		{api.Span{}, api.ErrArg}, {api.Span{From: "b", To: "a"}, api.ErrArg}, {api.Span{From: "a", To: "a"}, api.ErrArg}, {api.Span{From: fill(33), To: fill(33)}, api.ErrArg},
		{api.Span{From: long, To: long}, api.ErrLimit}, {api.Span{From: long}, api.ErrLimit}, {api.Span{From: long, To: "a"}, api.ErrLimit}, {api.Span{From: "y", To: long}, api.ErrLimit}, {api.Span{From: long + "x", To: long}, api.ErrLimit},
		{api.Span{From: long, To: "y"}, api.ErrLimit}, {api.Span{From: "a", To: long}, api.ErrLimit}, {api.Span{From: long, To: long + "x"}, api.ErrLimit},
	}
	for _, m := range []*shelf{newShelf(), everyKey()} {
		x := m.table(t)
		for _, c := range spans {
			for _, end := range ends {
				want := c.want
				if want == api.OK && !end.may {
					want = api.ErrArg
				}
				l, e := sweep.Sweep(x, c.s, end.at)
				answers(t, fmt.Sprintf("Sweep(%.40q, %v)", c.s, end.at), e, want)
				if e != api.OK {
					areOps(t, "beside an error", l, nil)
				}
				sweeps(t, x, m, c.s, end.at)
			}
		}
	}
}

package settle_test

import (
	"fmt"
	"math"
	"slices"
	"strings"
	"testing"

	"scriptorium/api"
	"scriptorium/settle"
	"scriptorium/table"
)

// example is what the chapter's examples begin with.
func example() *shelf {
	return with("a", version{at: wall(10), value: "x"}).way("a", api.Intent{Id: 7, Priority: 5, Anchor: "a", Stamp: wall(15), L: []api.Change{change(4, "z")}})
}

// P14.1: the chapter's examples of Resolve.
func TestExamplesOfResolve(t *testing.T) {
	m := example()
	x := m.table(t)
	y := m.intents["a"]
	y.Stamp = wall(18)
	for _, c := range []struct {
		what  string
		id    int
		epoch int
		at    int
		state int
		want  settled
	}{
		{"committed at 20", 7, 0, 20, api.StatusCommitted, settled{version: &version{at: wall(20), value: "z"}, goes: true}},
		{"committed at 14", 7, 0, 14, api.StatusCommitted, settled{goes: true}},
		{"committed, of the epoch 1", 7, 1, 20, api.StatusCommitted, settled{goes: true}},
		{"pending at 18", 7, 0, 18, api.StatusPending, settled{intent: &y}},
		{"8 committed", 8, 0, 20, api.StatusCommitted, settled{}},
	} {
		r := record(c.state, wall(c.at))
		r.Id, r.Epoch = c.id, c.epoch
		l, e := settle.Resolve(x, "a", r)
		answers(t, c.what, e, api.OK)
		areOps(t, c.what, l, c.want.ops("a"))
		resolves(t, x, m, "a", r)
	}
}

// P14.2, P14.3: the chapter's examples of Refresh and Query.
func TestExamplesOfRefreshAndQuery(t *testing.T) {
	m := example()
	x := m.table(t)
	for _, c := range []struct {
		read, to int
		want     api.Errno
		way      api.Intent
	}{
		{12, 14, api.OK, api.Intent{}},
		{12, 15, api.ErrWait, m.intents["a"]},
		{10, 14, api.ErrRetry, api.Intent{}},
		{10, 15, api.ErrRetry, api.Intent{}},
	} {
		txn := reader(wall(c.read))
		txn.Id = 9
		what := fmt.Sprint("who read at ", c.read, ", to ", c.to)
		y, e := settle.Refresh(x, point("a"), txn, wall(c.to), wall(5))
		answers(t, what, e, c.want)
		isWay(t, what, y, c.way)
		refreshes(t, x, m, all, txn, wall(c.to), wall(5))
	}
	for _, c := range []struct {
		at   int
		want bool
	}{{15, true}, {14, false}} {
		r := record(api.StatusStaging, wall(c.at))
		r.Epoch = 0
		is, e := settle.Query(x, "a", 4, r)
		answers(t, "Query", e, api.OK)
		if is != c.want {
			t.Errorf("staged at %d: %t", c.at, is)
		}
	}
}

// P14.1, P14.2, P14.3: a table that is nil, or a zero one, is looked for ahead of all else.
func TestOfNoTable(t *testing.T) {
	for i, x := range []*table.Table{nil, {}} {
		what := fmt.Sprint("of none ", i)
		for _, key := range []string{"a", "", fill(33)} {
			for _, r := range []api.Record{record(api.StatusCommitted, wall(20)), record(api.StatusPending, wall(20)), {}} {
				l, e := settle.Resolve(x, key, r)
				answers(t, what, e, api.ErrNil)
				areOps(t, what, l, nil)
				for _, seq := range []int{1, 0, math.MaxInt} {
					is, e := settle.Query(x, key, seq, r)
					answers(t, what, e, api.ErrNil)
					if is {
						t.Errorf("Query %s: true", what)
					}
				}
			}
		}
		for _, s := range []api.Span{all, {}, {From: "b", To: "a"}} {
			for _, txn := range []api.Txn{reader(wall(15)), {}} {
				for _, to := range []api.Stamp{wall(20), wall(1), stampOf(-1, 0)} {
					for _, low := range []api.Stamp{wall(5), wall(50), stampOf(0, -1)} {
						y, e := settle.Refresh(x, s, txn, to, low)
						answers(t, what, e, api.ErrNil)
						isWay(t, what, y, api.Intent{})
					}
				}
			}
		}
	}
}

// P14.1, P14.2, P14.3: a table without keys is one.
func TestOfAnEmptyTable(t *testing.T) {
	x, m := table.New(0), newShelf()
	for _, status := range statuses {
		l, e := resolves(t, x, m, "a", record(status, wall(20)))
		answers(t, "Resolve", e, api.OK)
		areOps(t, "Resolve", l, nil)
		is, e := queries(t, x, m, "a", 4, record(status, wall(20)))
		answers(t, "Query", e, api.OK)
		if is {
			t.Error("Query: true")
		}
	}
	_, e := refreshes(t, x, m, all, reader(wall(15)), wall(20), wall(5))
	answers(t, "Refresh", e, api.OK)
	if x.Len() != 0 {
		t.Errorf("the table has %d rows", x.Len())
	}
}

var goodKeys = []string{"\x00", "k", "\xff", fill(31), fill(32), strings.Repeat("\x00", 32), strings.Repeat("\xff", 32), strings.Repeat("é", 16)}

var badKeys = []string{"", fill(33), fill(34), fill(64), fill(65), fill(300), fill(1000), fill(1001), fill(1 << 16), strings.Repeat("\x00", 33), strings.Repeat("\xff", 33), strings.Repeat("é", 17)}

// P14.1, P14.3: keys without bytes, of one and of the greatest length, and longer ones.
func TestKeys(t *testing.T) {
	m := newShelf()
	for _, key := range goodKeys {
		m.add(key, kept(10)).way(key, own(3, wall(15), change(4, "z")))
	}
	x := m.table(t)
	for _, key := range slices.Concat(goodKeys, []string{"unknown", fill(30)}) {
		for _, status := range statuses {
			_, e := resolves(t, x, m, key, record(status, wall(20)))
			answers(t, key, e, api.OK)
			is, e := queries(t, x, m, key, 4, record(status, wall(20)))
			answers(t, key, e, api.OK)
			if is != slices.Contains(goodKeys, key) {
				t.Errorf("Query of %q: %t", key, is)
			}
		}
	}
	for _, key := range badKeys {
		for _, status := range statuses {
			_, e := resolves(t, x, m, key, record(status, wall(20)))
			answers(t, fmt.Sprintf("%.10q", key), e, api.ErrArg)
			_, e = queries(t, x, m, key, 4, record(status, wall(20)))
			answers(t, fmt.Sprintf("%.10q", key), e, api.ErrArg)
		}
	}
}

// oneOf is a record, or a transaction, made by a change of one that may be, and whether it may be, too.
type oneOf[T any] struct {
	what string
	x    T
	may  bool
}

// numbersOf are those whose number is at both ends of what it may be, and beyond.
func numbersOf[T any](what string, least, most int, made func() T, set func(*T, int)) []oneOf[T] {
	var l []oneOf[T]
	for _, n := range []int{math.MinInt, -1 << 53, -1, least - 1, least, least + 1, most - 1, most, most + 1, 1 << 55, math.MaxInt} {
		x := made()
		set(&x, n)
		l = append(l, oneOf[T]{fmt.Sprint(what, " is ", n), x, n >= least && n <= most})
	}
	return l
}

// stampsOf are numbersOf both parts of a stamp, also where the other part is at an end.
func stampsOf[T any](what string, made func() T, of func(*T) *api.Stamp) []oneOf[T] {
	return slices.Concat(
		numbersOf(what+".Wall", 0, 1<<40, made, func(x *T, n int) { *of(x) = stampOf(n, 1) }),
		numbersOf(what+".Wall with the greatest Logic", 0, 1<<40, made, func(x *T, n int) { *of(x) = stampOf(n, 1<<20-1) }),
		numbersOf(what+".Logic", 0, 1<<20-1, made, func(x *T, n int) { *of(x) = stampOf(14, n) }),
		numbersOf(what+".Logic at the greatest Wall", 0, 1<<20-1, made, func(x *T, n int) { *of(x) = stampOf(1<<40, n) }),
		numbersOf(what+".Logic at the least Wall", 0, 1<<20-1, made, func(x *T, n int) { *of(x) = stampOf(0, n) }),
	)
}

// keysOf are those whose key is one, or none.
func keysOf[T any](what string, made func() T, set func(*T, string)) []oneOf[T] {
	var l []oneOf[T]
	for _, key := range slices.Concat(goodKeys, badKeys) {
		x := made()
		set(&x, key)
		l = append(l, oneOf[T]{fmt.Sprintf("%s is %.20q (%d bytes)", what, key, len(key)), x, mayKey(key)})
	}
	return l
}

// writesTo are so many writes, of rising keys.
func writesTo(n int) []api.Write {
	var l []api.Write
	for i := range n {
		l = append(l, api.Write{Key: fmt.Sprintf("k%02d", i), Seq: 100 - i})
	}
	return l
}

// writesAt have such keys.
func writesAt(l ...string) []api.Write {
	var w []api.Write
	for _, key := range l {
		w = append(w, api.Write{Key: key, Seq: 1})
	}
	return w
}

// staged is a record with writes.
func staged() api.Record {
	r := record(api.StatusStaging, wall(20))
	r.Writes = writesTo(3)
	return r
}

// records are such as may be, and such as may not be.
func records() []oneOf[api.Record] {
	ended := func() api.Record { return record(api.StatusCommitted, wall(20)) }
	var l []oneOf[api.Record]
	for _, made := range []func() api.Record{ended, staged, func() api.Record { return record(api.StatusPending, wall(20)) }} {
		l = slices.Concat(l,
			numbersOf("Id", 1, 1<<53-1, made, func(x *api.Record, n int) { x.Id = n }),
			numbersOf("Epoch", 0, 1<<53-1, made, func(x *api.Record, n int) { x.Epoch = n }),
			numbersOf("Priority", 1, 1000, made, func(x *api.Record, n int) { x.Priority = n }),
			keysOf("Anchor", made, func(x *api.Record, s string) { x.Anchor = s }),
			stampsOf("Stamp", made, func(x *api.Record) *api.Stamp { return &x.Stamp }),
			stampsOf("Beat", made, func(x *api.Record) *api.Stamp { return &x.Beat }),
		)
	}
	l = slices.Concat(l,
		numbersOf("Status", 1, 4, ended, func(x *api.Record, n int) { x.Status = n }),
		numbersOf("Status, with Writes", 2, 2, staged, func(x *api.Record, n int) { x.Status = n }),
		keysOf("the only Key", staged, func(x *api.Record, s string) { x.Writes = writesAt(s) }),
		keysOf("the last Key", staged, func(x *api.Record, s string) { x.Writes = writesAt("\x00", s) })[1:],
	)
	for i := range 3 {
		l = append(l, numbersOf(fmt.Sprint("Seq ", i), 1, 1<<53-1, staged, func(x *api.Record, n int) { x.Writes[i].Seq = n })...)
	}
	add := func(what string, may bool, set func(x *api.Record)) {
		x := staged()
		set(&x)
		l = append(l, oneOf[api.Record]{what, x, may})
	}
	for status := -1; status <= 6; status++ {
		for _, n := range []int{0, 1, 2, 31, 32, 33, 64} {
			may := n == 0 && status >= 1 && status <= 4 || status == 2 && n <= 32
			add(fmt.Sprint("Status ", status, ", ", n, " Writes"), may, func(x *api.Record) { x.Status, x.Writes = status, writesTo(n) })
		}
		add(fmt.Sprint("Status ", status, ", no Writes, and a list"), status >= 1 && status <= 4, func(x *api.Record) { x.Status, x.Writes = status, []api.Write{} })
	}
	add("Keys that are the same", false, func(x *api.Record) { x.Writes = writesAt("a", "a") })
	add("Keys that fall", false, func(x *api.Record) { x.Writes = writesAt("a", "c", "b") })
	add("all is zero", false, func(x *api.Record) { *x = api.Record{} })
	add("all is the least", true, func(x *api.Record) { *x = api.Record{Id: 1, Status: 1, Priority: 1, Anchor: "\x00"} })
	return l
}

// P14.1, P14.3: a record with each field at its least and greatest, one below and one above.
func TestRecords(t *testing.T) {
	for i, m := range []*shelf{
		newShelf(),
		with("a", kept(10)).way("a", own(3, wall(15), change(4, "z"))),
		with("a", kept(10)).way("a", own(3, greatest, change(4, "z"))),
		with("a", kept(10)).way("a", own(0, wall(0), change(4, "z"))),
		with("a", kept(10)).way("a", others(wall(15))),
	} {
		x := m.table(t)
		for _, c := range records() {
			if mayRecord(c.x) != c.may {
				t.Fatalf("%s: the words' own say %t", c.what, !c.may)
			}
			_, e := resolves(t, x, m, "a", c.x)
			_, f := queries(t, x, m, "a", 4, c.x)
			if (e == api.OK) != c.may || (e == api.ErrArg) == c.may || f != e {
				t.Errorf("%d, %s: Resolve %d, Query %d", i, c.what, e, f)
			}
		}
	}
}

// P14.3: a seq of 0, 1, MaxNumber and above, and below 0.
func TestSeqs(t *testing.T) {
	m := with("a", kept(10)).way("a", own(3, wall(15), change(1, "y"), change(2, ""), del(1<<53-1)))
	x := m.table(t)
	for _, c := range []struct {
		seq  int
		is   bool
		want api.Errno
	}{
		{math.MinInt, false, api.ErrArg}, {-1, false, api.ErrArg}, {0, false, api.ErrArg}, {1, true, api.OK}, {2, true, api.OK}, {3, false, api.OK},
		{1<<53 - 2, false, api.OK}, {1<<53 - 1, true, api.OK}, {1 << 53, false, api.ErrArg}, {1<<53 + 1, false, api.ErrArg}, {1 << 55, false, api.ErrArg}, {math.MaxInt, false, api.ErrArg},
	} {
		for _, status := range statuses {
			is, e := queries(t, x, m, "a", c.seq, record(status, wall(20)))
			answers(t, fmt.Sprint("Query of ", c.seq), e, c.want)
			if is != c.is {
				t.Errorf("Query of %d: %t", c.seq, is)
			}
			_, e = queries(t, x, m, "b", c.seq, record(status, wall(20)))
			answers(t, fmt.Sprint("Query of ", c.seq, ", no intent"), e, c.want)
		}
	}
}

// P14.2: spans whose From is at, below and above their To.
func TestSpans(t *testing.T) {
	m := with("a", kept(10)).way("b", others(wall(9)))
	x := m.table(t)
	long := fill(1 << 12)
	for _, c := range []struct {
		s   api.Span
		may bool
	}{
		{api.Span{}, false}, {api.Span{From: "a", To: "a"}, false}, {api.Span{From: "b", To: "a"}, false}, {api.Span{From: "a"}, false}, {api.Span{From: "a\x00", To: "a"}, false}, {api.Span{From: "\xff", To: "\x00"}, false},
		{api.Span{From: long, To: long}, false}, {api.Span{From: long, To: long[1:]}, false}, {api.Span{From: fill(33), To: fill(32)}, false}, {api.Span{From: "\x00", To: ""}, false},
		{api.Span{To: "\x00"}, true}, {api.Span{From: "", To: "a"}, true}, {api.Span{From: "a", To: "a\x00"}, true}, {api.Span{From: "a", To: "b"}, true}, {api.Span{From: "\x00", To: "\xff"}, true},
		{api.Span{From: long[1:], To: long}, true}, {api.Span{From: fill(32), To: fill(33)}, true}, {api.Span{From: "", To: long}, true}, {all, true}, {api.Span{From: strings.Repeat("\xff", 33), To: strings.Repeat("\xff", 34)}, true},
	} {
		for _, txn := range []api.Txn{reader(wall(8)), reader(wall(11)), reader(wall(2))} {
			_, e := refreshes(t, x, m, c.s, txn, wall(20), wall(1))
			if (e == api.ErrArg) == c.may {
				t.Errorf("%.40q: %d", c.s, e)
			}
		}
	}
}

// P14.2: who may read: each field at its least and greatest, one below and one above.
func TestTransactionsThatMayRead(t *testing.T) {
	made := func() api.Txn { return reader(wall(15)) }
	for _, m := range []*shelf{newShelf(), with("a", kept(10)).add("b", kept(15)), with("a", kept(10)).way("a", others(wall(13)))} {
		x := m.table(t)
		for _, c := range slices.Concat(
			numbersOf("Id", 1, 1<<53-1, made, func(x *api.Txn, n int) { x.Id = n }),
			numbersOf("Epoch", 0, 1<<53-1, made, func(x *api.Txn, n int) { x.Epoch = n }),
			stampsOf("Read", made, func(x *api.Txn) *api.Stamp { return &x.Read }),
			stampsOf("Limit", made, func(x *api.Txn) *api.Stamp { return &x.Limit }),
		) {
			if mayRead(c.x) != c.may {
				t.Fatalf("%s: the words' own say %t", c.what, !c.may)
			}
			for _, low := range []api.Stamp{wall(0), wall(5)} {
				_, e := refreshes(t, x, m, all, c.x, greatest, low)
				if (e == api.ErrArg) == c.may {
					t.Errorf("%s: %d", c.what, e)
				}
			}
		}
	}
}

// P14.2: Priority, Anchor, Write and Beat don't matter, whatever they are, nor does a Limit that may be.
func TestOtherFieldsOfTheTransaction(t *testing.T) {
	for _, m := range []*shelf{newShelf(), with("a", kept(10), kept(16), kept(30)), with("a", kept(10)).way("a", others(wall(16))), with("a", kept(10)).way("a", others(wall(25)))} {
		x := m.table(t)
		want, wantE := settle.Refresh(x, all, reader(wall(12)), wall(20), wall(5))
		for _, n := range []int{math.MinInt, -1, 0, 1, 12, 15, 17, 25, 1001, math.MaxInt} {
			for _, set := range []func(x *api.Txn){
				func(x *api.Txn) { x.Priority = n },
				func(x *api.Txn) { x.Write = stampOf(n, 0) },
				func(x *api.Txn) { x.Write = stampOf(15, n) },
				func(x *api.Txn) { x.Beat = stampOf(n, 0) },
				func(x *api.Txn) { x.Beat = stampOf(15, n) },
				func(x *api.Txn) { x.Anchor = fill(max(n, 0) % 2000) },
				func(x *api.Txn) { x.Limit = stampOf(max(n, 0)%(1<<20), max(n, 0)%7) },
				func(x *api.Txn) { x.Epoch = max(n, 0) % (1 << 53) },
			} {
				txn := reader(wall(12))
				set(&txn)
				y, e := refreshes(t, x, m, all, txn, wall(20), wall(5))
				answers(t, "Refresh", e, wantE)
				isWay(t, "Refresh", y, want)
			}
		}
	}
}

// ends are stamps that may be and that may not, at their ends and beyond.
var ends = []struct {
	at  api.Stamp
	may bool
}{
	{stampOf(0, 0), true}, {stampOf(-1, 0), false}, {stampOf(0, -1), false}, {stampOf(-1, -1), false}, {stampOf(0, 1<<20-1), true}, {stampOf(0, 1<<20), false}, {stampOf(15, math.MaxInt), false}, {stampOf(15, math.MinInt), false}, {stampOf(16, -1), false}, {stampOf(16, 1<<20), false},
	{stampOf(1<<40, 0), true}, {stampOf(1<<40, 1<<20-2), true}, {greatest, true}, {stampOf(1<<40+1, 0), false}, {stampOf(1<<40, 1<<20), false}, {stampOf(1<<40, -1), false}, {stampOf(math.MaxInt, 0), false}, {stampOf(math.MinInt, 0), false},
}

// P14.2: a to, and a low, that may not be.
func TestStampsThatMayNotBe(t *testing.T) {
	for _, m := range []*shelf{newShelf(), with("a", kept(15)), with("a", kept(10)).way("a", others(wall(9)))} {
		x := m.table(t)
		for _, c := range ends {
			if mayStamp(c.at) != c.may {
				t.Fatalf("%v: the words' own say %t", c.at, !c.may)
			}
			for _, read := range []api.Stamp{wall(0), stampOf(0, 1), wall(15), greatest} {
				_, e := refreshes(t, x, m, all, reader(read), c.at, wall(0))
				if isBelow := place(c.at) < place(read); (e == api.ErrArg) != (!c.may || isBelow) {
					t.Errorf("to %v, Read %v: %d", c.at, read, e)
				}
				_, e = refreshes(t, x, m, all, reader(read), greatest, c.at)
				if (e == api.ErrArg) == c.may {
					t.Errorf("low %v, Read %v: %d", c.at, read, e)
				}
			}
		}
	}
}

// P14.2: a to below, at and above Read, and a Read below, at and above low.
func TestToAndLow(t *testing.T) {
	for _, m := range []*shelf{newShelf(), with("a", kept(3)).way("a", own(3, wall(9), change(1, "mine")))} {
		x := m.table(t)
		for _, read := range []api.Stamp{stampOf(4, 9), stampOf(4, 1<<20-1), wall(5), stampOf(5, 1), wall(1 << 40), atPlace(place(greatest) - 2)} {
			for d := -3; d <= 2; d++ {
				to := atPlace(place(read) + d)
				for f := -3; f <= 2; f++ {
					low := atPlace(place(read) + f)
					want := api.OK
					if f >= 0 {
						want = api.ErrOld
					}
					if d < 0 {
						want = api.ErrArg
					}
					_, e := refreshes(t, x, m, all, reader(read), to, low)
					answers(t, fmt.Sprintf("Read %v, to %v, low %v", read, to, low), e, want)
				}
			}
		}
		for _, c := range []struct {
			to   api.Stamp
			want api.Errno
		}{{stampOf(8, 9), api.ErrArg}, {stampOf(9, 6), api.ErrArg}, {stampOf(9, 7), api.OK}, {stampOf(9, 8), api.OK}, {wall(10), api.OK}, {stampOf(8, 1<<20-1), api.ErrArg}} {
			_, e := refreshes(t, x, m, all, reader(stampOf(9, 7)), c.to, stampOf(9, 6))
			answers(t, fmt.Sprint("to ", c.to), e, c.want)
		}
	}
}

// P14.2: of several errors that are due the first one is told: ErrArg, ErrOld, ErrRetry, ErrWait.
func TestWhichErrorOfRefreshComesFirst(t *testing.T) {
	type in = func(s *api.Span, x *api.Txn, to, low *api.Stamp)
	wrong := []in{
		func(s *api.Span, _ *api.Txn, _, _ *api.Stamp) { s.To = s.From },
		func(s *api.Span, _ *api.Txn, _, _ *api.Stamp) { s.To, s.From = "a", "z" },
		func(_ *api.Span, x *api.Txn, _, _ *api.Stamp) { x.Id = 0 },
		func(_ *api.Span, x *api.Txn, _, _ *api.Stamp) { x.Epoch = -1 },
		func(_ *api.Span, x *api.Txn, _, _ *api.Stamp) { x.Read.Logic = -1 },
		func(_ *api.Span, x *api.Txn, _, _ *api.Stamp) { x.Limit.Wall = -1 },
		func(_ *api.Span, _ *api.Txn, to, _ *api.Stamp) { to.Wall = 1<<40 + 1 },
		func(_ *api.Span, _ *api.Txn, to, _ *api.Stamp) { to.Logic = -1 },
		func(_ *api.Span, _ *api.Txn, _, low *api.Stamp) { low.Wall = -1 },
		func(_ *api.Span, _ *api.Txn, _, low *api.Stamp) { low.Wall = 1<<40 + 1 },
		func(_ *api.Span, x *api.Txn, to, _ *api.Stamp) { *to = atPlace(place(wall(12)) - 1) },
	}
	old := func(_ *api.Span, x *api.Txn, _, low *api.Stamp) { *low = wall(12) }
	older := func(_ *api.Span, x *api.Txn, _, low *api.Stamp) { *low = greatest }
	m := with("a", kept(10), kept(13)).way("a", others(wall(11))).add("b", kept(14)).way("b", others(wall(3)))
	for _, m := range []*shelf{newShelf(), m, with("a", kept(13)), with("a").way("a", others(wall(13)))} {
		x := m.table(t)
		asked := func(want api.Errno, l ...in) {
			t.Helper()
			s, txn, to, low := all, reader(wall(12)), wall(20), wall(5)
			for _, set := range l {
				set(&s, &txn, &to, &low)
			}
			_, e := refreshes(t, x, m, s, txn, to, low)
			answers(t, fmt.Sprintf("%.40q, %+v, %v, %v", s, txn, to, low), e, want)
		}
		for i, one := range wrong {
			asked(api.ErrArg, one)
			asked(api.ErrArg, old, one)
			asked(api.ErrArg, older, one)
			for _, two := range wrong[i:] {
				asked(api.ErrArg, one, two)
			}
		}
		asked(api.ErrOld, old)
		asked(api.ErrOld, older)
	}
	x := m.table(t)
	_, e := refreshes(t, x, m, all, reader(wall(12)), wall(20), wall(5))
	answers(t, "a version and intents", e, api.ErrRetry)
	_, e = refreshes(t, x, m, all, reader(wall(15)), wall(20), wall(5))
	answers(t, "intents alone", e, api.ErrWait)
}

// P14.1, P14.3: what is handed in is looked at ahead of all that stands in the table: one thing that may not be, or two, is ErrArg.
func TestWhatMayNotBeComesFirst(t *testing.T) {
	type in = func(key *string, seq *int, r *api.Record)
	wrong := []in{
		func(key *string, _ *int, _ *api.Record) { *key = "" },
		func(key *string, _ *int, _ *api.Record) { *key = fill(33) },
		func(_ *string, _ *int, r *api.Record) { r.Id = 0 },
		func(_ *string, _ *int, r *api.Record) { r.Epoch = -1 },
		func(_ *string, _ *int, r *api.Record) { r.Status = 0 },
		func(_ *string, _ *int, r *api.Record) { r.Status = 5 },
		func(_ *string, _ *int, r *api.Record) { r.Anchor = "" },
		func(_ *string, _ *int, r *api.Record) { r.Stamp.Logic = 1 << 20 },
		func(_ *string, _ *int, r *api.Record) { r.Beat.Wall = -1 },
		func(_ *string, _ *int, r *api.Record) { r.Writes = writesAt("") },
	}
	seqs := []in{
		func(_ *string, seq *int, _ *api.Record) { *seq = 0 },
		func(_ *string, seq *int, _ *api.Record) { *seq = 1 << 53 },
	}
	for _, m := range []*shelf{newShelf(), with("a", kept(10)).way("a", others(wall(9))), with("a", kept(10)).way("a", own(3, wall(9), change(4, "z"))), with("a").way("a", own(4, wall(9), change(4, "z")))} {
		x := m.table(t)
		for i, one := range slices.Concat(wrong, seqs) {
			for j, two := range slices.Concat(wrong, seqs) {
				for _, status := range statuses {
					key, seq, r := "a", 4, record(status, wall(20))
					one(&key, &seq, &r)
					two(&key, &seq, &r)
					_, e := queries(t, x, m, key, seq, r)
					answers(t, fmt.Sprintf("Query(%.40q, %d, %+v)", key, seq, r), e, api.ErrArg)
					if i < len(wrong) || j < len(wrong) {
						_, e = resolves(t, x, m, key, r)
						answers(t, fmt.Sprintf("Resolve(%.40q, %+v)", key, r), e, api.ErrArg)
					}
				}
			}
		}
	}
}

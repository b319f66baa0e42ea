package table_test

import (
	"fmt"
	"maps"
	"math"
	"slices"
	"strings"
	"testing"
	"unsafe"

	"scriptorium/api"
	"scriptorium/table"
)

// oddKeys rise, in the order of their bytes; of some one is the beginning of the next one.
var oddKeys = []string{
	"\x00", "\x00\x00", "\x00\xff", "\x01", " ", "10", "9", "A", "Z", "a", "a\x00", "a\x00\x00", "a\x00a", "a\x01", "aa", "ab", "a\xff", "a\xff\xff", "b", "z",
	"\x80", "é", "é\x00", "é\xff", "�", "\U0001F600", "\xff", "\xff\x00", "\xff\xff", "\xff\xff\xff",
}

var seeds = []int{0, 1, -1, 2, 7, -7, 1 << 32, -1 << 32, math.MaxInt32, math.MinInt32, math.MaxInt, math.MaxInt - 1, math.MinInt, math.MinInt + 1}

// plain does what the words say: it is a map, and its keys are put in order whenever it is asked.
type plain map[string]string

func (m plain) apply(l []api.Op) api.Errno {
	if len(l) > 128 {
		return api.ErrLimit
	}
	for _, op := range l {
		if len(op.Key) == 0 || op.Del && len(op.Value) > 0 {
			return api.ErrArg
		}
	}
	for _, op := range l {
		if op.Del {
			delete(m, op.Key)
		} else {
			m[op.Key] = op.Value
		}
	}
	return api.OK
}

func (m plain) within(from, to string) []api.Row {
	var l []api.Row
	for _, key := range slices.Sorted(maps.Keys(m)) {
		if key >= from && (key < to || to == "") {
			l = append(l, api.Row{Key: key, Value: m[key]})
		}
	}
	return l
}

func put(key, value string) api.Op { return api.Op{Key: key, Value: value} }

func gone(key string) api.Op { return api.Op{Key: key, Del: true} }

func ops(l ...api.Op) []api.Op { return l }

// many are so many changes, each of a key of its own.
func many(n int) []api.Op {
	var l []api.Op
	for i := range n {
		l = append(l, put(fmt.Sprintf("k%03d", i), fmt.Sprint(i)))
	}
	return l
}

// rowsOf are keys and values in turn.
func rowsOf(l ...string) []api.Row {
	var rows []api.Row
	for i := 0; i < len(l); i += 2 {
		rows = append(rows, api.Row{Key: l[i], Value: l[i+1]})
	}
	return rows
}

// keysOf tells keys by one text.
func keysOf(rows []api.Row) string {
	var keys []string
	for _, r := range rows {
		keys = append(keys, r.Key)
	}
	return strings.Join(keys, " ")
}

// told is all that a function tells, if that has an end.
func told(each func(func(string, string) bool)) []api.Row {
	var rows []api.Row
	for key, value := range each {
		rows = append(rows, api.Row{Key: key, Value: value})
		if len(rows) > 10000 {
			panic("it does not end")
		}
	}
	return rows
}

func reversed(rows []api.Row) []api.Row {
	rows = slices.Clone(rows)
	slices.Reverse(rows)
	return rows
}

func answers(t *testing.T, got, want api.Errno) {
	t.Helper()
	if got != want {
		t.Fatalf("error %d; want %d", got, want)
	}
}

func equal(t *testing.T, what string, got, want []api.Row) {
	t.Helper()
	if !slices.Equal(got, want) {
		t.Fatalf("%s: %.300q; want %.300q", what, got, want)
	}
}

// has asks for all rows, by each call that tells them.
func has(t *testing.T, x *table.Table, want []api.Row) {
	t.Helper()
	if n := x.Len(); n != len(want) {
		t.Fatalf("Len: %d; want %d", n, len(want))
	}
	equal(t, "All", told(x.All("", "")), want)
	equal(t, "Back", told(x.Back("", "")), reversed(want))
	equal(t, "Rows", x.Rows(), want)
}

// knows asks for one key's value.
func knows(t *testing.T, x *table.Table, m plain, key string) {
	t.Helper()
	want, is := m[key]
	if value, ok := x.Get(key); value != want || ok != is {
		t.Fatalf("Get(%.40q): %.40q, %v; want %.40q, %v", key, value, ok, want, is)
	}
}

// is asks a table for all that it tells of such keys, and of those that it has.
func is(t *testing.T, x *table.Table, m plain, asked ...string) {
	t.Helper()
	has(t, x, m.within("", ""))
	knows(t, x, m, "")
	for key := range m {
		knows(t, x, m, key)
	}
	for _, key := range asked {
		knows(t, x, m, key)
	}
}

// applies does a batch with a table and with a map.
func applies(t *testing.T, x *table.Table, m plain, l ...api.Op) api.Errno {
	t.Helper()
	want := m.apply(l)
	if got := x.Apply(l); got != want {
		t.Fatalf("Apply of %d changes: error %d; want %d", len(l), got, want)
	}
	return want
}

// done does a batch that may be.
func done(t *testing.T, x *table.Table, m plain, l ...api.Op) {
	t.Helper()
	answers(t, applies(t, x, m, l...), api.OK)
}

// made is a table, and the map beside it, with such keys; their values tell the keys.
func made(t *testing.T, seed int, keys ...string) (*table.Table, plain) {
	t.Helper()
	x, m := table.New(seed), plain{}
	for _, key := range keys {
		done(t, x, m, put(key, "of "+key))
	}
	return x, m
}

// P10.1 to P10.3: the chapter's examples.
func TestExamples(t *testing.T) {
	x := table.New(1)
	answers(t, x.Apply(ops(put("a", "1"), put("b", "2"), put("d", "4"))), api.OK)
	if value, ok := x.Get("b"); value != "2" || !ok {
		t.Errorf("Get(b): %q, %v", value, ok)
	}
	if value, ok := x.Get("c"); value != "" || ok {
		t.Errorf("Get(c): %q, %v", value, ok)
	}
	if n := x.Len(); n != 3 {
		t.Errorf("Len: %d", n)
	}
	for _, c := range [][3]string{{"", "", "a b d"}, {"b", "d", "b"}, {"bb", "", "d"}, {"d", "b", ""}} {
		if got := keysOf(told(x.All(c[0], c[1]))); got != c[2] {
			t.Errorf("All(%s, %s): %s", c[0], c[1], got)
		}
	}
	for _, c := range [][3]string{{"", "", "d b a"}, {"a", "d", "b a"}} {
		if got := keysOf(told(x.Back(c[0], c[1]))); got != c[2] {
			t.Errorf("Back(%s, %s): %s", c[0], c[1], got)
		}
	}
	answers(t, x.Apply(ops(gone("a"), put("c", "3"), put("c", "5"))), api.OK)
	equal(t, "Rows", x.Rows(), rowsOf("b", "2", "c", "5", "d", "4"))
	answers(t, x.Apply(ops(put("e", "1"), put("", ""))), api.ErrArg)
	if n := x.Len(); n != 3 {
		t.Errorf("Len: %d", n)
	}
}

// P10.1: a table that New made has no keys, each time anew.
func TestNew(t *testing.T) {
	for _, seed := range seeds {
		for range 2 {
			x := table.New(seed)
			if x == nil {
				t.Fatal("nil")
			}
			is(t, x, plain{}, oddKeys...)
			done(t, x, plain{}, put("a", "1"))
			has(t, x, rowsOf("a", "1"))
		}
	}
}

// P10.1: a table that is nil, or that New or Copy did not make, answers ErrNil, false, 0, nothing; its copies, too.
func TestOfNone(t *testing.T) {
	var zero table.Table
	for _, x := range []*table.Table{nil, &zero, new(table.Table), {}} {
		isNone(t, x)
		other := x.Copy()
		isNone(t, other)
		isNone(t, other.Copy())
		isNone(t, x)
	}
}

func isNone(t *testing.T, x *table.Table) {
	t.Helper()
	for range 2 {
		for _, l := range [][]api.Op{nil, {}, ops(put("a", "1")), ops(gone("a")), many(128), many(129), ops(put("", "")), ops(api.Op{Key: "a", Value: "1", Del: true})} {
			answers(t, x.Apply(l), api.ErrNil)
		}
		is(t, x, plain{}, append(oddKeys, "k000")...)
		for _, from := range []string{"", "a", "\xff"} {
			for _, to := range []string{"", "a", "\xff"} {
				equal(t, "All", told(x.All(from, to)), nil)
				equal(t, "Back", told(x.Back(from, to)), nil)
			}
		}
	}
}

// P10.2: at most 128 changes are done, none too.
func TestCounts(t *testing.T) {
	for _, n := range []int{0, 1, 2, 3, 64, 127, 128, 129, 130, 255, 256, 257, 1000} {
		x, m := made(t, n, "a", "k001", "z")
		want := api.OK
		if n > 128 {
			want = api.ErrLimit
		}
		answers(t, applies(t, x, m, many(n)...), want)
		is(t, x, m, "k000", "k126", "k127", "k128")
		// The count of a batch is that of its changes, not that of its keys.
		same := slices.Repeat(ops(put("same", "1"), gone("same")), n)[:n]
		answers(t, applies(t, x, m, same...), want)
		is(t, x, m, "same")
	}
	x, m := made(t, 3, "a")
	answers(t, x.Apply(nil), api.OK)
	answers(t, x.Apply([]api.Op{}), api.OK)
	is(t, x, m)
}

// wrongs are changes that may not be.
var wrongs = []api.Op{
	{}, {Value: "1"}, {Del: true}, {Value: "1", Del: true},
	{Key: "a", Value: "1", Del: true}, {Key: "new", Value: "\x00", Del: true}, {Key: "\x00", Value: "1", Del: true},
}

// P10.2, P10.6: a change that may not be, at whichever place, leaves all changes undone.
func TestWrongChanges(t *testing.T) {
	for _, wrong := range wrongs {
		for _, n := range []int{1, 2, 3, 10, 127, 128} {
			for _, at := range []int{0, 1, n / 2, n - 1} {
				x, m := made(t, n, "a", "b", "k000")
				l := many(n)
				l[at%n] = wrong
				answers(t, applies(t, x, m, l...), api.ErrArg)
				is(t, x, m, "k001", "k002", "k126", "k127", "new", "\x00")
				has(t, x, rowsOf("a", "of a", "b", "of b", "k000", "of k000"))
			}
		}
	}
	// Also where all ahead of it, or behind it, go.
	x, m := made(t, 1, "a", "b", "c")
	for _, wrong := range wrongs {
		for _, l := range [][]api.Op{
			{gone("a"), gone("b"), gone("c"), wrong},
			{wrong, gone("a"), gone("b"), gone("c")},
			{put("a", "2"), wrong, put("b", "2")},
			{wrong, wrong},
		} {
			answers(t, applies(t, x, m, l...), api.ErrArg)
			is(t, x, m)
		}
	}
	has(t, x, rowsOf("a", "of a", "b", "of b", "c", "of c"))
}

// P10.2: the count comes first, and both kinds of wrong changes have one error.
func TestErrorsTogether(t *testing.T) {
	noKey, withValue := put("", "1"), api.Op{Key: "a", Value: "1", Del: true}
	x, m := made(t, 2, "a", "b")
	for _, l := range [][]api.Op{{noKey, withValue}, {withValue, noKey}, {noKey, put("c", ""), withValue}, {gone("b"), withValue, noKey, gone("a")}} {
		answers(t, applies(t, x, m, l...), api.ErrArg)
		is(t, x, m, "c")
	}
	for _, at := range []int{0, 64, 127, 128} {
		for _, wrong := range wrongs {
			l := many(129)
			l[at] = wrong
			answers(t, applies(t, x, m, l...), api.ErrLimit)
			l = slices.Repeat(ops(wrong), 129)
			answers(t, applies(t, x, m, l...), api.ErrLimit)
			is(t, x, m, "k000")
		}
	}
	has(t, x, rowsOf("a", "of a", "b", "of b"))
}

// P10.2: the changes of one key, in one batch, are done one behind the other: the last one holds.
func TestSameKey(t *testing.T) {
	one, two, three, del := put("k", "1"), put("k", "2"), put("k", "3"), gone("k")
	for _, c := range []struct {
		l    []api.Op
		want []api.Row
	}{
		{ops(one, two), rowsOf("k", "2")}, {ops(two, one), rowsOf("k", "1")}, {ops(one, one), rowsOf("k", "1")},
		{ops(one, del), nil}, {ops(del, one), rowsOf("k", "1")}, {ops(del, del), nil},
		{ops(one, two, three), rowsOf("k", "3")}, {ops(three, two, one), rowsOf("k", "1")},
		{ops(one, del, two), rowsOf("k", "2")}, {ops(del, one, del), nil}, {ops(one, two, del), nil},
		{ops(del, one, two), rowsOf("k", "2")}, {ops(del, del, three), rowsOf("k", "3")}, {ops(one, del, del), nil},
		{ops(one, two, put("k", "")), rowsOf("k", "")},
	} {
		for _, there := range []bool{false, true} {
			x, m := made(t, 5, "a", "z")
			if there {
				done(t, x, m, put("k", "old"))
			}
			done(t, x, m, c.l...)
			is(t, x, m, "k")
			equal(t, "All", told(x.All("k", "l")), c.want)
			// With other keys' changes between.
			x, m = made(t, 6)
			var l []api.Op
			for i, op := range c.l {
				l = append(l, put(fmt.Sprint("j", i), ""), op, put(fmt.Sprint("l", i), ""))
			}
			done(t, x, m, l...)
			is(t, x, m, "k")
			equal(t, "All", told(x.All("k", "l")), c.want)
		}
	}
}

// P10.2: what is not there may go, and nothing comes of it.
func TestGoneThatIsNotThere(t *testing.T) {
	x, m := made(t, 4)
	done(t, x, m, gone("a"))
	is(t, x, m, "a")
	x, m = made(t, 4, "b", "d")
	for _, key := range []string{"a", "aa", "b\x00", "c", "d\x00", "e", "\x00", "\xff", "B"} {
		done(t, x, m, gone(key))
		done(t, x, m, gone(key), gone(key), put("d", key))
		is(t, x, m, key)
	}
}

// P10.2: a value may be any text; one without bytes is there.
func TestValues(t *testing.T) {
	x, m := made(t, 8, "a", "b", "c")
	for _, value := range []string{"", "\x00", "\xff", "a", "é", "\x80\x00\xff", " ", strings.Repeat("v", 4096), strings.Repeat("\x00", 4097), strings.Repeat("w", 1<<20)} {
		done(t, x, m, put("b", value))
		if got, ok := x.Get("b"); got != value || !ok {
			t.Fatalf("Get: %.40q, %v; want %.40q", got, ok, value)
		}
		is(t, x, m)
		done(t, x, m, put("new", value))
		is(t, x, m, "new")
		done(t, x, m, gone("new"))
		is(t, x, m, "new")
	}
}

// P10.2, P10.3: any texts with bytes are keys, in the order of their bytes, whatever the order in which they come.
func TestOddKeys(t *testing.T) {
	if !slices.IsSorted(oddKeys) || len(slices.Compact(slices.Clone(oddKeys))) != len(oddKeys) {
		t.Fatal("oddKeys do not rise")
	}
	falling := slices.Clone(oddKeys)
	slices.Reverse(falling)
	var mixed []string
	for i := range oddKeys {
		mixed = append(mixed, oddKeys[i*7%len(oddKeys)])
	}
	for _, order := range [][]string{oddKeys, falling, mixed} {
		x, m := made(t, len(order[0]))
		for _, key := range order {
			done(t, x, m, put(key, "1"+key))
			is(t, x, m, oddKeys...)
		}
		if got := keysOf(x.Rows()); got != strings.Join(oddKeys, " ") {
			t.Fatalf("%q", got)
		}
		for _, key := range order {
			done(t, x, m, gone(key))
			is(t, x, m, oddKeys...)
		}
	}
}

// P10.2, P10.3: keys of 4096 bytes, and longer ones, that differ in their last byte, or of which one is the beginning of the other.
func TestLongKeys(t *testing.T) {
	x, m := made(t, 9)
	var keys []string
	for _, n := range []int{31, 32, 33, 4095, 4096, 4097, 1 << 16, 1<<20 + 1} {
		for _, end := range []string{"", "\x00", "k", "l", "\xff"} {
			keys = append(keys, strings.Repeat("k", n)+end)
		}
	}
	for _, key := range keys {
		done(t, x, m, put(key, key[:5]))
	}
	is(t, x, m, strings.Repeat("k", 4096)+"j", strings.Repeat("k", 1<<20), "k", "l")
	whole(t, x, m, strings.Repeat("k", 4096), strings.Repeat("k", 1<<16))
	for i, key := range keys {
		if i%2 == 0 {
			done(t, x, m, gone(key))
		}
	}
	is(t, x, m, keys...)
}

// P10.2: Get of keys that are there, that are not, that went, that came again; Len and Rows behind each call.
func TestGet(t *testing.T) {
	x, m := made(t, 10)
	for i, l := range [][]api.Op{
		ops(put("b", "1")), ops(put("a", "2"), put("c", "3")), ops(put("b", "4")), nil, ops(gone("b")), ops(gone("b")),
		ops(put("b", "5")), ops(put("", "6")), ops(gone("a"), gone("b"), gone("c")), ops(put("c", ""), put("a", "7")),
		ops(gone("")), ops(put("b", "8")), ops(put("d", "9"), put("", "")), many(129), ops(gone("b"), put("b", "10")),
		ops(put("b", "11"), gone("b")), ops(gone("c")), ops(gone("a")), ops(put("a", "12")),
	} {
		e := applies(t, x, m, l...)
		is(t, x, m, "a", "b", "c", "d", "aa", "a\x00", "A", "k000")
		if value, ok := x.Get(""); value != "" || ok {
			t.Fatalf("behind %d, error %d: the key without bytes is there: %q", i, e, value)
		}
	}
	has(t, x, rowsOf("a", "12"))
}

// P10.1, P10.6: tables of several seeds answer the same.
func TestSeeds(t *testing.T) {
	var tables []*table.Table
	m := plain{}
	for _, seed := range seeds {
		tables = append(tables, table.New(seed))
	}
	for i := range 60 {
		var l []api.Op
		for j := range i * 5 % 140 {
			key := oddKeys[(i*31+j*j*7)%len(oddKeys)]
			l = append(l, api.Op{Key: key, Value: fmt.Sprint(i, j), Del: (i+j)%3 == 0})
			if l[j].Del {
				l[j].Value = ""
			}
		}
		if i%20 == 19 {
			l = append(l, wrongs[i%len(wrongs)])
		}
		want := m.apply(l)
		from, to := oddKeys[i%len(oddKeys)], oddKeys[(i*11+5)%len(oddKeys)]
		for _, x := range tables {
			answers(t, x.Apply(l), want)
			is(t, x, m, oddKeys...)
			whole(t, x, m, from, to)
			is(t, x.Copy(), m, oddKeys...)
		}
	}
}

// P10.4: what is done to a table, or to its copy, changes nothing of the other one.
func TestCopy(t *testing.T) {
	for _, seed := range seeds {
		x, m := made(t, seed, oddKeys...)
		y, n := x.Copy(), maps.Clone(m)
		z, o := y.Copy(), maps.Clone(m)
		all := func() {
			t.Helper()
			is(t, x, m, oddKeys...)
			is(t, y, n, oddKeys...)
			is(t, z, o, oddKeys...)
		}
		all()
		for i, key := range oddKeys {
			switch i % 4 {
			case 0:
				done(t, x, m, gone(key))
			case 1:
				done(t, y, n, gone(key), put(key+"y", "y"))
			case 2:
				done(t, z, o, put(key, "z"))
				done(t, x, m, put(key, "x"), put(key+"x", "x"))
			case 3:
				answers(t, applies(t, y, n, gone(key), put("", "")), api.ErrArg)
				done(t, z, o, put(key+"z", "z"), gone(key))
			}
			all()
		}
		for key := range maps.Clone(m) {
			done(t, x, m, gone(key))
		}
		all()
		is(t, x.Copy(), plain{})
		is(t, y.Copy(), n)
		for key := range maps.Clone(n) {
			done(t, y, n, gone(key))
			done(t, x, m, put(key, "again"))
		}
		all()
	}
}

// P10.4: of a table without keys there is a copy without keys, which takes its own.
func TestCopyOfEmpty(t *testing.T) {
	x := table.New(3)
	y := x.Copy()
	if y == nil || y == x {
		t.Fatal("no copy")
	}
	has(t, y, nil)
	answers(t, y.Apply(ops(put("a", "1"))), api.OK)
	has(t, x, nil)
	has(t, y, rowsOf("a", "1"))
	answers(t, x.Apply(ops(put("b", "2"))), api.OK)
	has(t, x, rowsOf("b", "2"))
	has(t, y, rowsOf("a", "1"))
}

// R2: what is only asked changes nothing, Copy among it, and two tables do not touch one another.
func TestTwoTables(t *testing.T) {
	x, m := made(t, 1)
	y, n := made(t, 1)
	for i, key := range oddKeys {
		done(t, x, m, put(key, fmt.Sprint(i)))
		is(t, y, n, oddKeys...)
		if i%2 == 0 {
			done(t, y, n, put(key, fmt.Sprint(-i)))
		}
		x.Copy()
		is(t, x, m, oddKeys...)
	}
	for i, key := range oddKeys {
		if i%3 > 0 {
			done(t, y, n, gone(key))
		}
		is(t, x, m, oddKeys...)
		is(t, y, n, oddKeys...)
	}
}

// P10.5: the changes are only read, their spare room, too, and are not kept: they are written over behind the call.
func TestWhatIsHandedIn(t *testing.T) {
	for _, e := range []api.Errno{api.OK, api.ErrArg, api.ErrLimit} {
		x, m := made(t, 11, "a", "b")
		room := slices.Repeat(ops(put("spare", "spare")), 300)
		copy(room, ops(put("c", "1"), gone("a"), put("b", "2"), put("c", "3")))
		count := 4
		switch e {
		case api.ErrArg:
			room[3] = put("", "3")
		case api.ErrLimit:
			count = 129
		}
		before := slices.Clone(room)
		answers(t, applies(t, x, m, room[:count]...), e)
		answers(t, x.Apply(room[:count]), e)
		if !slices.Equal(room, before) {
			t.Fatalf("the changes, or the room behind them, are others: %.300v", room)
		}
		for i := range room {
			room[i] = api.Op{Key: "written over", Value: "written over", Del: i%2 == 0}
		}
		is(t, x, m, "written over", "spare", "c")
	}
}

// P10.5: of the texts of the changes nothing is kept either: their bytes are written over behind the call.
func TestTextsThatAreHandedIn(t *testing.T) {
	x, m := made(t, 13, "b")
	bytes := []byte("key of the one, its value, and more behind it")
	text := func(from, to int) string { return unsafe.String(&bytes[from], to-from) }
	answers(t, x.Apply(ops(put(text(0, 3), text(4, 14)), put("b", text(16, 25)), put(text(7, 14), ""))), api.OK)
	m.apply(ops(put("key", "of the one"), put("b", "its value"), put("the one", "")))
	for i := range bytes {
		bytes[i] = 'x'
	}
	is(t, x, m, "xxx", "xxxxxxx")
	has(t, x, rowsOf("b", "its value", "key", "of the one", "the one", ""))
	is(t, x.Copy(), m)
}

// P10.5: the rows are new memory: they are written over, their spare room, too, and the table stays as it was; nor do they change with the table.
func TestWhatIsAnswered(t *testing.T) {
	x, m := made(t, 12, oddKeys...)
	want := m.within("", "")
	one, two := x.Rows(), x.Rows()
	room := one[:cap(one)]
	for i := range room {
		room[i] = api.Row{Key: "written over", Value: "written over"}
	}
	_ = append(one, room...)
	equal(t, "Rows", two, want)
	slices.Reverse(two)
	is(t, x, m, "written over")
	three := x.Rows()
	for _, key := range oddKeys {
		done(t, x, m, put(key, "new"), put(key+"x", "new"))
		done(t, x, m, gone(key))
	}
	equal(t, "Rows from ahead of the changes", three, want)
	is(t, x, m, oddKeys...)
}

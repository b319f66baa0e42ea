package cell_test

import (
	"fmt"
	"math"
	"reflect"
	"slices"
	"strings"
	"testing"

	"scriptorium/api"
	"scriptorium/cell"
)

func answers(t *testing.T, got, want api.Errno) {
	t.Helper()
	if got != want {
		t.Fatalf("error %d; want %d", got, want)
	}
}

func fill(n int) string { return strings.Repeat("x", n) }

func stampOf(wall, logic int) api.Stamp { return api.Stamp{Wall: wall, Logic: logic} }

func anIntent() api.Intent {
	return api.Intent{Id: 7, Epoch: 1, Priority: 5, Anchor: "a", Stamp: stampOf(10, 3), Beat: stampOf(20, 4), L: []api.Change{{Seq: 2, Value: "x"}, {Seq: 4, Del: true}, {Seq: 5, Value: "yz"}}}
}

// aRecord is staged.
func aRecord() api.Record {
	return api.Record{Id: 7, Epoch: 1, Status: api.StatusStaging, Priority: 5, Anchor: "a", Stamp: stampOf(10, 3), Beat: stampOf(20, 4), Writes: []api.Write{{Key: "a", Seq: 4}, {Key: "b", Seq: 2}, {Key: "c", Seq: 9}}}
}

// oneOf is an intent, or a record, made by a change of one that may be, and whether it may be, too.
type oneOf[T any] struct {
	what string
	x    T
	may  bool
}

// numbersOf are those whose number is at each end of what it may be, and below and above it.
func numbersOf[T any](what string, least, most int, made func() T, set func(*T, int)) []oneOf[T] {
	var l []oneOf[T]
	for _, n := range []int{math.MinInt, math.MinInt + 1, -1 << 32, -1, least - 1, least, least + 1, most - 1, most, most + 1, 1 << 55, 1 << 56, math.MaxInt - 1, math.MaxInt} {
		x := made()
		set(&x, n)
		l = append(l, oneOf[T]{fmt.Sprint(what, " is ", n), x, n >= least && n <= most})
	}
	return l
}

// stampsOf are those whose stamp is at each end of what it may be.
func stampsOf[T any](what string, made func() T, at func(*T) *api.Stamp) []oneOf[T] {
	return slices.Concat(
		numbersOf(what+".Wall", 0, 1<<40, made, func(x *T, n int) { at(x).Wall = n }),
		numbersOf(what+".Logic", 0, 1<<20-1, made, func(x *T, n int) { at(x).Logic = n }),
		numbersOf(what+".Logic at the greatest Wall", 0, 1<<20-1, made, func(x *T, n int) { *at(x) = stampOf(1<<40, n) }),
	)
}

// keysOf are those whose key is one, or none.
func keysOf[T any](what string, made func() T, set func(*T, string)) []oneOf[T] {
	var l []oneOf[T]
	for _, c := range []struct {
		key string
		may bool
	}{
		{"", false}, {"k", true}, {"\x00", true}, {"\x01", true}, {"\xff", true}, {"\x00\x00", true}, {"a\x00", true}, {"é\x01\xff", true},
		{fill(31), true}, {fill(32), true}, {fill(33), false}, {fill(64), false}, {fill(65), false}, {fill(300), false}, {fill(1001), false}, {fill(1 << 16), false},
		{strings.Repeat("\x00", 32), true}, {strings.Repeat("\x00", 33), false}, {strings.Repeat("\xff", 32), true}, {strings.Repeat("é", 16), true}, {strings.Repeat("é", 17), false},
	} {
		x := made()
		set(&x, c.key)
		l = append(l, oneOf[T]{fmt.Sprintf("%s is %.20q (%d bytes)", what, c.key, len(c.key)), x, c.may})
	}
	return l
}

// changesTo are so many changes, numbered from 1 on.
func changesTo(n int) []api.Change {
	var l []api.Change
	for i := range n {
		l = append(l, api.Change{Seq: i + 1, Value: fmt.Sprint(i)})
	}
	return l
}

// longChanges are so many, as long as can be.
func longChanges(n int) []api.Change {
	var l []api.Change
	for i := range n {
		l = append(l, api.Change{Seq: api.MaxNumber - n + 1 + i, Value: fill(64)})
	}
	return l
}

// changesAt have such Seqs.
func changesAt(l ...int) []api.Change {
	var c []api.Change
	for i, n := range l {
		c = append(c, api.Change{Seq: n, Value: fmt.Sprint(i)})
	}
	return c
}

// writesTo are so many writes, of rising keys.
func writesTo(n int) []api.Write {
	var l []api.Write
	for i := range n {
		l = append(l, api.Write{Key: fmt.Sprintf("k%02d", i), Seq: 100 - i})
	}
	return l
}

// longWrites are so many, as long as can be.
func longWrites(n int) []api.Write {
	var l []api.Write
	for i := range n {
		l = append(l, api.Write{Key: fill(30) + fmt.Sprintf("%02d", i), Seq: api.MaxNumber})
	}
	return l
}

// writesAt have such keys.
func writesAt(l ...string) []api.Write {
	var w []api.Write
	for _, key := range l {
		w = append(w, api.Write{Key: key, Seq: 1})
	}
	return w
}

func greatestIntent() api.Intent {
	s := stampOf(1<<40, 1<<20-1)
	return api.Intent{Id: api.MaxNumber, Epoch: api.MaxNumber, Priority: 1000, Anchor: strings.Repeat("\xff", 32), Stamp: s, Beat: s, L: longChanges(16)}
}

func greatestRecord() api.Record {
	s := stampOf(1<<40, 1<<20-1)
	return api.Record{Id: api.MaxNumber, Epoch: api.MaxNumber, Status: api.StatusStaging, Priority: 1000, Anchor: strings.Repeat("\xff", 32), Stamp: s, Beat: s, Writes: longWrites(32)}
}

// intents are such as may be, and such as may not be.
func intents() []oneOf[api.Intent] {
	l := slices.Concat(
		numbersOf("Id", 1, 1<<53-1, anIntent, func(x *api.Intent, n int) { x.Id = n }),
		numbersOf("Epoch", 0, 1<<53-1, anIntent, func(x *api.Intent, n int) { x.Epoch = n }),
		numbersOf("Priority", 1, 1000, anIntent, func(x *api.Intent, n int) { x.Priority = n }),
		keysOf("Anchor", anIntent, func(x *api.Intent, s string) { x.Anchor = s }),
		stampsOf("Stamp", anIntent, func(x *api.Intent) *api.Stamp { return &x.Stamp }),
		stampsOf("Beat", anIntent, func(x *api.Intent) *api.Stamp { return &x.Beat }),
		numbersOf("the only Seq", 1, 1<<53-1, anIntent, func(x *api.Intent, n int) { x.L = changesAt(n) }),
		numbersOf("the first Seq", 1, 3, anIntent, func(x *api.Intent, n int) { x.L[0].Seq = n }),
		numbersOf("the second Seq", 3, 4, anIntent, func(x *api.Intent, n int) { x.L[1].Seq = n }),
		numbersOf("the last Seq", 5, 1<<53-1, anIntent, func(x *api.Intent, n int) { x.L[2].Seq = n }),
	)
	add := func(what string, may bool, set func(x *api.Intent)) {
		x := anIntent()
		set(&x)
		l = append(l, oneOf[api.Intent]{what, x, may})
	}
	for _, n := range []int{0, 1, 2, 15, 16, 17, 18, 32, 300} {
		add(fmt.Sprint(n, " changes"), n >= 1 && n <= 16, func(x *api.Intent) { x.L = changesTo(n) })
		add(fmt.Sprint(n, " long changes"), n >= 1 && n <= 16, func(x *api.Intent) { x.L = longChanges(n) })
	}
	add("no changes, and a list", false, func(x *api.Intent) { x.L = []api.Change{} })
	for _, c := range []struct {
		seqs []int
		may  bool
	}{
		{[]int{0}, false}, {[]int{1}, true}, {[]int{1, 2, 3}, true}, {[]int{0, 1, 2}, false}, {[]int{1, 1}, false}, {[]int{2, 1}, false}, {[]int{1, 3, 2}, false}, {[]int{1, 2, 2}, false}, {[]int{2, 2, 3}, false},
		{[]int{5, 6, 4}, false}, {[]int{3, 1, 2}, false}, {[]int{-1, 1}, false}, {[]int{-2, -1}, false}, {[]int{1, -1}, false}, {[]int{1, 0, 2}, false},
		{[]int{1, api.MaxNumber}, true}, {[]int{api.MaxNumber - 1, api.MaxNumber}, true}, {[]int{api.MaxNumber, api.MaxNumber}, false}, {[]int{1, api.MaxNumber + 1}, false}, {[]int{api.MaxNumber, api.MaxNumber + 1}, false}, {[]int{api.MaxNumber + 1, api.MaxNumber + 2}, false}, {[]int{api.MaxNumber + 1, 1}, false},
	} {
		add(fmt.Sprint("Seqs ", c.seqs), c.may, func(x *api.Intent) { x.L = changesAt(c.seqs...) })
	}
	for i := range 3 {
		for _, n := range []int{0, 1, 32, 33, 63, 64, 65, 66, 255, 256, 1 << 16} {
			add(fmt.Sprint("change ", i, ", a value of ", n), n <= 64, func(x *api.Intent) { x.L[i].Value, x.L[i].Del = fill(n), false })
			add(fmt.Sprint("change ", i, ", Del, a value of ", n), n == 0, func(x *api.Intent) { x.L[i].Value, x.L[i].Del = fill(n), true })
		}
		add(fmt.Sprint("change ", i, ", odd bytes"), true, func(x *api.Intent) { x.L[i].Value, x.L[i].Del = "\x00\x01\xff\x00", false })
		add(fmt.Sprint("change ", i, ", many noughts"), true, func(x *api.Intent) { x.L[i].Value, x.L[i].Del = strings.Repeat("\x00", 64), false })
		add(fmt.Sprint("change ", i, ", Del, a nought"), false, func(x *api.Intent) { x.L[i].Value, x.L[i].Del = "\x00", true })
	}
	add("Epoch is 0, and its only change Del", true, func(x *api.Intent) { x.Epoch, x.L = 0, []api.Change{{Seq: 1, Del: true}} })
	add("all is the least", true, func(x *api.Intent) {
		*x = api.Intent{Id: 1, Priority: 1, Anchor: "\x00", L: []api.Change{{Seq: 1}}}
	})
	add("all is the greatest", true, func(x *api.Intent) { *x = greatestIntent() })
	add("all is zero", false, func(x *api.Intent) { *x = api.Intent{} })
	add("Stamp is behind Beat", true, func(x *api.Intent) { x.Stamp, x.Beat = x.Beat, x.Stamp })
	return l
}

// records are such as may be, and such as may not be.
func records() []oneOf[api.Record] {
	bare := func() api.Record {
		x := aRecord()
		x.Writes = nil
		return x
	}
	l := slices.Concat(
		numbersOf("Id", 1, 1<<53-1, aRecord, func(x *api.Record, n int) { x.Id = n }),
		numbersOf("Epoch", 0, 1<<53-1, aRecord, func(x *api.Record, n int) { x.Epoch = n }),
		numbersOf("Status", 1, 4, bare, func(x *api.Record, n int) { x.Status = n }),
		numbersOf("Status, with Writes", 2, 2, aRecord, func(x *api.Record, n int) { x.Status = n }),
		numbersOf("Priority", 1, 1000, aRecord, func(x *api.Record, n int) { x.Priority = n }),
		keysOf("Anchor", aRecord, func(x *api.Record, s string) { x.Anchor = s }),
		stampsOf("Stamp", aRecord, func(x *api.Record) *api.Stamp { return &x.Stamp }),
		stampsOf("Beat", aRecord, func(x *api.Record) *api.Stamp { return &x.Beat }),
		keysOf("the only Key", aRecord, func(x *api.Record, s string) { x.Writes = writesAt(s) }),
	)
	add := func(what string, may bool, set func(x *api.Record)) {
		x := aRecord()
		set(&x)
		l = append(l, oneOf[api.Record]{what, x, may})
	}
	for i := range 3 {
		l = append(l, numbersOf(fmt.Sprint("Seq ", i), 1, 1<<53-1, aRecord, func(x *api.Record, n int) { x.Writes[i].Seq = n })...)
	}
	for status := -1; status <= 6; status++ {
		for _, n := range []int{0, 1, 2, 31, 32, 33, 34, 64, 300} {
			may := n == 0 && status >= 1 && status <= 4 || status == 2 && n <= 32
			add(fmt.Sprint("Status ", status, ", ", n, " Writes"), may, func(x *api.Record) { x.Status, x.Writes = status, writesTo(n) })
			add(fmt.Sprint("Status ", status, ", ", n, " long Writes"), may, func(x *api.Record) { x.Status, x.Writes = status, longWrites(n) })
		}
		add(fmt.Sprint("Status ", status, ", no Writes, and a list"), status >= 1 && status <= 4, func(x *api.Record) { x.Status, x.Writes = status, []api.Write{} })
	}
	for _, c := range []struct {
		keys []string
		may  bool
	}{
		{[]string{"a", "b", "c"}, true}, {[]string{"a", "a"}, false}, {[]string{"b", "a"}, false}, {[]string{"a", "c", "b"}, false}, {[]string{"a", "b", "b"}, false}, {[]string{"a", "a", "b"}, false}, {[]string{"c", "a", "b"}, false}, {[]string{"b", "c", "a"}, false},
		{[]string{"a", "aa", "ab"}, true}, {[]string{"aa", "a"}, false}, {[]string{"a", "a\x00"}, true}, {[]string{"a\x00", "a"}, false}, {[]string{"\x00", "\x00\x00", "\x00\x01", "\x01", "\xff"}, true}, {[]string{"\xff", "\x00"}, false}, {[]string{"B", "a"}, true}, {[]string{"10", "9"}, true}, {[]string{"9", "10"}, false},
		{[]string{""}, false}, {[]string{"", "a"}, false}, {[]string{"a", ""}, false}, {[]string{"", ""}, false}, {[]string{"a", "b", fill(33)}, false}, {[]string{"a", "b", fill(32)}, true}, {[]string{fill(32), fill(33)}, false}, {[]string{fill(33), "y"}, false}, {[]string{fill(31), fill(32)}, true},
	} {
		add(fmt.Sprintf("Keys %.20q", c.keys), c.may, func(x *api.Record) { x.Writes = writesAt(c.keys...) })
	}
	add("the same Seq thrice", true, func(x *api.Record) { x.Writes = writesAt("a", "b", "c") })
	add("all is the least", true, func(x *api.Record) { *x = api.Record{Id: 1, Status: 1, Priority: 1, Anchor: "\x00"} })
	add("all is the greatest", true, func(x *api.Record) { *x = greatestRecord() })
	add("all is zero", false, func(x *api.Record) { *x = api.Record{} })
	add("Stamp is behind Beat", true, func(x *api.Record) { x.Stamp, x.Beat = x.Beat, x.Stamp })
	return l
}

// P11.1: an intent with each field at both ends of what it may be, and beyond.
func TestCheckIntent(t *testing.T) {
	for _, c := range intents() {
		want := api.ErrArg
		if c.may {
			want = api.OK
		}
		if e := cell.CheckIntent(c.x); e != want {
			t.Errorf("%s: %d; want %d", c.what, e, want)
		}
		if mayIntent(c.x) != c.may {
			t.Errorf("%s: the words' own say %t", c.what, !c.may)
		}
	}
}

// P11.1: a record with each field at both ends of what it may be, and beyond.
func TestCheckRecord(t *testing.T) {
	for _, c := range records() {
		want := api.ErrArg
		if c.may {
			want = api.OK
		}
		if e := cell.CheckRecord(c.x); e != want {
			t.Errorf("%s: %d; want %d", c.what, e, want)
		}
		if mayRecord(c.x) != c.may {
			t.Errorf("%s: the words' own say %t", c.what, !c.may)
		}
	}
}

// plainIntent and plainRecord have nil for a list without elements.
func plainIntent(x api.Intent) api.Intent {
	if len(x.L) == 0 {
		x.L = nil
	}
	return x
}

func plainRecord(x api.Record) api.Record {
	if len(x.Writes) == 0 {
		x.Writes = nil
	}
	return x
}

// otherIntents are those that differ from one with three changes in one thing alone.
func otherIntents(made func() api.Intent) []api.Intent {
	var l []api.Intent
	for _, set := range []func(x *api.Intent){
		func(x *api.Intent) { x.Id++ },
		func(x *api.Intent) { x.Epoch++ },
		func(x *api.Intent) { x.Priority++ },
		func(x *api.Intent) { x.Anchor += "\x00" },
		func(x *api.Intent) { x.Anchor = x.Anchor[1:] },
		func(x *api.Intent) { x.Stamp.Wall++ },
		func(x *api.Intent) { x.Stamp.Logic++ },
		func(x *api.Intent) { x.Beat.Wall++ },
		func(x *api.Intent) { x.Beat.Logic++ },
		func(x *api.Intent) { x.L[0].Seq-- },
		func(x *api.Intent) { x.L[0].Value += "\x00" },
		func(x *api.Intent) { x.L[0].Del = !x.L[0].Del },
		func(x *api.Intent) { x.L[1].Seq-- },
		func(x *api.Intent) { x.L[1].Value += "v" },
		func(x *api.Intent) { x.L[1].Del = !x.L[1].Del },
		func(x *api.Intent) { x.L[2].Seq++ },
		func(x *api.Intent) { x.L[2].Value = "yy" },
		func(x *api.Intent) { x.L[2].Del = !x.L[2].Del },
		func(x *api.Intent) { x.L = x.L[:2] },
		func(x *api.Intent) { x.L = x.L[1:] },
		func(x *api.Intent) { x.L = append(x.L, x.L[2]) },
		func(x *api.Intent) { x.L = append(x.L, api.Change{}) },
		func(x *api.Intent) { x.L = nil },
		func(x *api.Intent) { x.L[0], x.L[2] = x.L[2], x.L[0] },
	} {
		x := made()
		set(&x)
		l = append(l, x)
	}
	return l
}

// otherRecords are those that differ from one with three writes in one thing alone.
func otherRecords(made func() api.Record) []api.Record {
	var l []api.Record
	for _, set := range []func(x *api.Record){
		func(x *api.Record) { x.Id++ },
		func(x *api.Record) { x.Epoch++ },
		func(x *api.Record) { x.Status++ },
		func(x *api.Record) { x.Priority++ },
		func(x *api.Record) { x.Anchor += "\x00" },
		func(x *api.Record) { x.Anchor = x.Anchor[1:] },
		func(x *api.Record) { x.Stamp.Wall++ },
		func(x *api.Record) { x.Stamp.Logic++ },
		func(x *api.Record) { x.Beat.Wall++ },
		func(x *api.Record) { x.Beat.Logic++ },
		func(x *api.Record) { x.Writes[0].Key += "\x00" },
		func(x *api.Record) { x.Writes[0].Seq++ },
		func(x *api.Record) { x.Writes[1].Key = "bb" },
		func(x *api.Record) { x.Writes[1].Seq++ },
		func(x *api.Record) { x.Writes[2].Key = "d" },
		func(x *api.Record) { x.Writes[2].Seq-- },
		func(x *api.Record) { x.Writes = x.Writes[:2] },
		func(x *api.Record) { x.Writes = x.Writes[1:] },
		func(x *api.Record) { x.Writes = append(x.Writes, x.Writes[2]) },
		func(x *api.Record) { x.Writes = append(x.Writes, api.Write{}) },
		func(x *api.Record) { x.Writes = nil },
		func(x *api.Record) { x.Writes[0], x.Writes[2] = x.Writes[2], x.Writes[0] },
	} {
		x := made()
		set(&x)
		l = append(l, x)
	}
	return l
}

// P11.1: two intents that differ in one thing alone are not the same, whether they may be or not.
func TestSameDiffers(t *testing.T) {
	wrong := func() api.Intent {
		x := anIntent()
		x.Id, x.Priority, x.Stamp.Wall, x.L[1].Value = -7, 2000, -1, fill(99)
		return x
	}
	for _, made := range []func() api.Intent{anIntent, wrong} {
		if !cell.Same(made(), made()) {
			t.Error("the same one is not the same")
		}
		for i, x := range otherIntents(made) {
			if cell.Same(made(), x) || cell.Same(x, made()) {
				t.Errorf("%d: %v is %v", i, x, made())
			}
			if !cell.Same(x, x) {
				t.Errorf("%d: %v is not itself", i, x)
			}
		}
	}
}

// P11.1: two records that differ in one thing alone are not the same, whether they may be or not.
func TestSameRecordDiffers(t *testing.T) {
	wrong := func() api.Record {
		x := aRecord()
		x.Id, x.Status, x.Beat.Logic, x.Writes[1].Seq = -7, 9, -1, -5
		return x
	}
	ended := func() api.Record {
		x := aRecord()
		x.Status = api.StatusCommitted
		return x
	}
	for _, made := range []func() api.Record{aRecord, wrong, ended} {
		if !cell.SameRecord(made(), made()) {
			t.Error("the same one is not the same")
		}
		for i, x := range otherRecords(made) {
			if cell.SameRecord(made(), x) || cell.SameRecord(x, made()) {
				t.Errorf("%d: %v is %v", i, x, made())
			}
			if !cell.SameRecord(x, x) {
				t.Errorf("%d: %v is not itself", i, x)
			}
		}
	}
}

// P11.1: lists without elements are alike.
func TestSameWithoutElements(t *testing.T) {
	lists := [][]api.Change{nil, {}, make([]api.Change, 0, 4), anIntent().L[:0]}
	writes := [][]api.Write{nil, {}, make([]api.Write, 0, 4), aRecord().Writes[:0]}
	for i := range lists {
		for j := range lists {
			a, b := anIntent(), anIntent()
			a.L, b.L = lists[i], lists[j]
			if !cell.Same(a, b) || !cell.Same(api.Intent{L: lists[i]}, api.Intent{L: lists[j]}) {
				t.Errorf("changes %d and %d differ", i, j)
			}
			c, d := aRecord(), aRecord()
			c.Writes, d.Writes = writes[i], writes[j]
			if !cell.SameRecord(c, d) || !cell.SameRecord(api.Record{Writes: writes[i]}, api.Record{Writes: writes[j]}) {
				t.Errorf("writes %d and %d differ", i, j)
			}
		}
	}
}

// P11.1: each two of many intents, and of many records.
func TestSameOfAll(t *testing.T) {
	var xs []api.Intent
	for _, c := range intents() {
		xs = append(xs, c.x)
	}
	for _, a := range xs {
		for _, b := range xs {
			if got, want := cell.Same(a, b), reflect.DeepEqual(plainIntent(a), plainIntent(b)); got != want {
				t.Fatalf("Same(%v, %v): %t", a, b, got)
			}
		}
	}
	var rs []api.Record
	for _, c := range records() {
		rs = append(rs, c.x)
	}
	for _, a := range rs {
		for _, b := range rs {
			if got, want := cell.SameRecord(a, b), reflect.DeepEqual(plainRecord(a), plainRecord(b)); got != want {
				t.Fatalf("SameRecord(%v, %v): %t", a, b, got)
			}
		}
	}
}

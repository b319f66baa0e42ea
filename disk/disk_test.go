package disk

import (
	"bytes"
	"cmp"
	"fmt"
	"math"
	"reflect"
	"slices"
	"strconv"
	"strings"
	"testing"

	"scriptorium/api"
)

const mostBytes = 1 << 22

var (
	name40    = strings.Repeat("n", 40)
	name41    = strings.Repeat("n", 41)
	mayBe     = []string{"a", "\x00", "\xff", " ", "a/b", name40, strings.Repeat("\xff", 40), strings.Repeat("é", 20)}
	mayNotBe  = []string{"", name41, name40 + name40, strings.Repeat("é", 21), strings.Repeat("\x00", 41)}
	belowZero = []int{-1, -2, -3, math.MinInt + 1, math.MinInt}
)

// shownFile and shown are all that a disk has, its marks and what it was told to fail by, too.
type shownFile struct {
	name, bytes string
	mark        int
}

type shown struct {
	files   []shownFile
	dead    bool
	failing bool
	left    int
	keep    []int
}

func show(d *Disk) shown {
	s := shown{dead: d.dead}
	for _, name := range d.names() {
		f := d.files[name]
		s.files = append(s.files, shownFile{name, string(f.bytes), f.mark})
	}
	if d.failure != nil {
		s.failing, s.left, s.keep = true, d.failure.left, slices.Clone(d.failure.keep)
	}
	return s
}

// String leaves out most of what is long.
func (s shown) String() string {
	var text strings.Builder
	for _, f := range s.files {
		fmt.Fprintf(&text, "%q: %.60q of %d, %d synced; ", f.name, f.bytes, len(f.bytes), f.mark)
	}
	fmt.Fprintf(&text, "dead %v, to fail %v behind %d by %v", s.dead, s.failing, s.left, s.keep)
	return text.String()
}

func (s shown) is(t shown) bool {
	return slices.Equal(s.files, t.files) && s.dead == t.dead &&
		s.failing == t.failing && s.left == t.left && slices.Equal(s.keep, t.keep)
}

// calls are all that answer an error and take a name, with arguments that are good if the name may be and has a byte.
var calls = []struct {
	name string
	do   func(d *Disk, name string) api.Errno
}{
	{"Append", func(d *Disk, name string) api.Errno { return d.Append(name, []byte("x")) }},
	{"Sync", (*Disk).Sync},
	{"Cut", func(d *Disk, name string) api.Errno { return d.Cut(name, 0) }},
	{"Rename from", func(d *Disk, name string) api.Errno { return d.Rename(name, "to") }},
	{"Remove", (*Disk).Remove},
	{"Read", func(d *Disk, name string) api.Errno { _, e := d.Read(name); return e }},
	{"Size", func(d *Disk, name string) api.Errno { _, e := d.Size(name); return e }},
	{"Turn", func(d *Disk, name string) api.Errno { return d.Turn(name, 0, 0) }},
}

func answers(t *testing.T, got, want api.Errno) {
	t.Helper()
	if got != want {
		t.Errorf("error %d; want %d", got, want)
	}
}

func well(t *testing.T, e api.Errno) {
	t.Helper()
	if e != api.OK {
		t.Fatalf("error %d; want none", e)
	}
}

// put appends s, of which the first bytes, as many as synced tells, are synced.
func put(t *testing.T, d *Disk, name, s string, synced int) {
	t.Helper()
	well(t, d.Append(name, []byte(s[:synced])))
	well(t, d.Sync(name))
	well(t, d.Append(name, []byte(s[synced:])))
}

func has(t *testing.T, d *Disk, name, want string) {
	t.Helper()
	b, e := d.Read(name)
	if string(b) != want || e != api.OK {
		t.Errorf("Read(%q): %.60q, %d; want %.60q", name, b, e, want)
	}
	if n, e := d.Size(name); n != len(want) || e != api.OK {
		t.Errorf("Size(%q): %d, %d; want %d", name, n, e, len(want))
	}
}

func hasNot(t *testing.T, d *Disk, name string) {
	t.Helper()
	if b, e := d.Read(name); len(b) != 0 || e != api.ErrName {
		t.Errorf("Read(%q): %.60q, %d; want ErrName", name, b, e)
	}
	if n, e := d.Size(name); n != 0 || e != api.ErrName {
		t.Errorf("Size(%q): %d, %d; want ErrName", name, n, e)
	}
}

func namesAre(t *testing.T, d *Disk, want ...string) {
	t.Helper()
	if l := d.Names(); !slices.Equal(l, want) {
		t.Errorf("Names: %q; want %q", l, want)
	}
}

// refuses asks for a call that must answer an error, and asks whether it changed anything.
func refuses(t *testing.T, d *Disk, want api.Errno, call func() api.Errno) {
	t.Helper()
	before := show(d)
	answers(t, call(), want)
	if after := show(d); !after.is(before) {
		t.Errorf("an error has made %v of %v", after, before)
	}
}

// again takes the power away, and brings it back.
func again(t *testing.T, d *Disk, keep ...int) {
	t.Helper()
	d.Crash(keep)
	if !d.Dead() {
		t.Error("alive behind Crash")
	}
	d.Boot()
	if d.Dead() {
		t.Error("dead behind Boot")
	}
}

// P7.1 to P7.4: the errors are the words' own.
func TestErrors(t *testing.T) {
	l := []api.Errno{api.OK, api.ErrNil, api.ErrFull, api.ErrRange, api.ErrName, api.ErrDead}
	if !slices.Equal(l, []api.Errno{0, 1, 7, 9, 70, 71}) {
		t.Errorf("%d", l)
	}
}

// P7.2 to P7.4: the chapter's examples.
func TestExamples(t *testing.T) {
	d := New()
	well(t, d.Append("a", []byte{1, 2, 3}))
	well(t, d.Sync("a"))
	well(t, d.Append("a", []byte{4, 5, 6}))
	d.Crash([]int{2})
	d.Boot()
	has(t, d, "a", "\x01\x02\x03\x04\x05")

	d = New()
	well(t, d.Append("a", []byte{1}))
	d.Crash(nil)
	b, e := d.Read("a")
	if len(b) != 0 || e != api.ErrDead {
		t.Errorf("Read of a dead disk: %v, %d", b, e)
	}
	d.Boot()
	has(t, d, "a", "")

	d = New()
	d.Fail(1, nil)
	well(t, d.Append("a", []byte{1}))
	answers(t, d.Sync("a"), api.ErrDead)
	if !d.Dead() {
		t.Error("alive")
	}
	d.Boot()
	has(t, d, "a", "")

	d = New()
	well(t, d.Append("a", []byte{1, 2}))
	well(t, d.Cut("a", 1))
	well(t, d.Rename("a", "b"))
	has(t, d, "b", "\x01")
	hasNot(t, d, "a")
}

// P7.1: a new disk is alive, and has no files.
func TestNew(t *testing.T) {
	d := New()
	if d == nil || d.Dead() {
		t.Fatal("none, or dead")
	}
	namesAre(t, d)
	for _, name := range mayBe {
		hasNot(t, d, name)
	}
}

// P7.1: of a disk that is none: ErrNil ahead of all other errors, nothing, false; nothing is done, and it stays none.
func TestOfNone(t *testing.T) {
	var zero Disk
	for i, d := range []*Disk{nil, {}, new(Disk), &zero} {
		for range 2 {
			for _, name := range slices.Concat(mayBe, mayNotBe) {
				for _, c := range calls {
					if e := c.do(d, name); e != api.ErrNil {
						t.Errorf("%d: %s(%q): %d", i, c.name, name, e)
					}
				}
				answers(t, d.Append(name, nil), api.ErrNil)
				answers(t, d.Append(name, make([]byte, mostBytes+1)), api.ErrNil)
				answers(t, d.Cut(name, -1), api.ErrNil)
				answers(t, d.Rename("a", name), api.ErrNil)
				answers(t, d.Turn(name, -1, 8), api.ErrNil)
				if b, e := d.Read(name); len(b) != 0 || e != api.ErrNil {
					t.Errorf("%d: Read: %v, %d", i, b, e)
				}
				if n, e := d.Size(name); n != 0 || e != api.ErrNil {
					t.Errorf("%d: Size: %d, %d", i, n, e)
				}
			}
			if l := d.Names(); len(l) != 0 || d.Dead() {
				t.Errorf("%d: %q, dead is %v", i, l, d.Dead())
			}
			d.Fail(0, []int{1})
			d.Fail(-1, nil)
			d.Fail(3, nil)
			d.Crash(nil)
			d.Crash([]int{1, 2})
			if d.Dead() {
				t.Errorf("%d: dead behind Crash", i)
			}
			d.Boot()
		}
	}
	if !reflect.DeepEqual(zero, Disk{}) {
		t.Errorf("the zero disk has become %v", zero)
	}
}

// P7.1: of a dead disk all that answer an error answer ErrDead, ahead of all others but ErrNil; Names nothing; and nothing changes.
func TestOfDead(t *testing.T) {
	die := []struct {
		name string
		do   func(d *Disk)
	}{
		{"Crash", func(d *Disk) { d.Crash(nil) }},
		{"Crash twice", func(d *Disk) { d.Crash(nil); d.Crash([]int{9, 9, 9}) }},
		{"Fail", func(d *Disk) { d.Fail(0, nil); answers(t, d.Sync("b"), api.ErrDead) }},
	}
	for _, by := range die {
		d := New()
		put(t, d, "a", "12345", 3)
		put(t, d, "b", "", 0)
		by.do(d)
		for _, name := range slices.Concat([]string{"a", "b", "c"}, mayBe, mayNotBe) {
			for _, c := range calls {
				refuses(t, d, api.ErrDead, func() api.Errno { return c.do(d, name) })
			}
			refuses(t, d, api.ErrDead, func() api.Errno { return d.Append(name, nil) })
			refuses(t, d, api.ErrDead, func() api.Errno { return d.Append(name, make([]byte, mostBytes+1)) })
			refuses(t, d, api.ErrDead, func() api.Errno { return d.Cut(name, -1) })
			refuses(t, d, api.ErrDead, func() api.Errno { return d.Cut(name, 99) })
			refuses(t, d, api.ErrDead, func() api.Errno { return d.Rename("a", name) })
			refuses(t, d, api.ErrDead, func() api.Errno { return d.Turn(name, -1, 8) })
			if b, e := d.Read(name); len(b) != 0 || e != api.ErrDead {
				t.Errorf("%s: Read(%q): %.60q, %d", by.name, name, b, e)
			}
			if n, e := d.Size(name); n != 0 || e != api.ErrDead {
				t.Errorf("%s: Size(%q): %d, %d", by.name, name, n, e)
			}
		}
		if l := d.Names(); len(l) != 0 {
			t.Errorf("%s: Names: %q", by.name, l)
		}
		if !d.Dead() {
			t.Errorf("%s: alive", by.name)
		}
		d.Boot()
		namesAre(t, d, "a", "b")
		has(t, d, "a", "123")
		has(t, d, "b", "")
	}
}

// P7.2, P7.3, P7.4: names of no bytes and of more than 40 no call takes; it is bytes that count.
func TestNamesThatMayNotBe(t *testing.T) {
	for _, d := range []*Disk{New(), withFiles(t, "a", "b")} {
		for _, name := range mayNotBe {
			for _, c := range calls {
				refuses(t, d, api.ErrName, func() api.Errno { return c.do(d, name) })
			}
			refuses(t, d, api.ErrName, func() api.Errno { return d.Append(name, nil) })
			refuses(t, d, api.ErrName, func() api.Errno { return d.Rename(name, "a") })
			refuses(t, d, api.ErrName, func() api.Errno { return d.Rename(name, name) })
			refuses(t, d, api.ErrName, func() api.Errno { return d.Rename("a", name) })
			refuses(t, d, api.ErrName, func() api.Errno { return d.Rename("no", name) })
		}
	}
}

// withFiles is a disk with such files, each with its name in it, of which one byte is synced.
func withFiles(t *testing.T, names ...string) *Disk {
	t.Helper()
	d := New()
	for _, name := range names {
		put(t, d, name, name, min(1, len(name)))
	}
	return d
}

// P7.2, P7.3, P7.4: names of 1 and of 40 bytes, whatever these are, each call takes.
func TestNamesThatMayBe(t *testing.T) {
	for _, name := range mayBe {
		for _, c := range calls {
			answers(t, c.do(withFiles(t, name), name), api.OK)
		}
		d := withFiles(t, name)
		has(t, d, name, name)
		namesAre(t, d, name)
		if name != "a" {
			well(t, d.Append("a", []byte("old")))
			well(t, d.Rename("a", name))
			has(t, d, name, "old")
			namesAre(t, d, name)
		}
		well(t, d.Rename(name, "z"))
		hasNot(t, d, name)
		namesAre(t, d, "z")
	}
}

// P7.2, P7.3, P7.4: but for Append, each call asks for a file that is there.
func TestOfNoFile(t *testing.T) {
	for _, d := range []*Disk{New(), withFiles(t, "a", "c")} {
		for _, c := range calls {
			if c.name != "Append" {
				refuses(t, d, api.ErrName, func() api.Errno { return c.do(d, "b") })
			}
		}
		refuses(t, d, api.ErrName, func() api.Errno { return d.Rename("b", "a") })
		refuses(t, d, api.ErrName, func() api.Errno { return d.Rename("b", "b") })
		hasNot(t, d, "b")
	}
}

// P7.2: Append to a new file and to one that is there, of no bytes, of one and of more; each file has its own.
func TestAppend(t *testing.T) {
	d := New()
	well(t, d.Append("a", nil))
	has(t, d, "a", "")
	namesAre(t, d, "a")
	well(t, d.Append("a", []byte{}))
	has(t, d, "a", "")
	well(t, d.Append("b", []byte{}))
	namesAre(t, d, "a", "b")
	well(t, d.Append("a", []byte("1")))
	has(t, d, "a", "1")
	has(t, d, "b", "")
	well(t, d.Append("a", nil))
	has(t, d, "a", "1")
	well(t, d.Append("b", []byte("xyz")))
	well(t, d.Append("a", []byte("23")))
	has(t, d, "a", "123")
	has(t, d, "b", "xyz")
	well(t, d.Append("c", []byte{0, 255, 0}))
	has(t, d, "c", "\x00\xff\x00")
	namesAre(t, d, "a", "b", "c")
}

// P7.2, P7.7: a file's bytes are all that were appended, in their order.
func TestAppendMany(t *testing.T) {
	d := New()
	var want []byte
	for i := range 2000 {
		b := bytes.Repeat([]byte{byte(i)}, i%7)
		want = append(want, b...)
		well(t, d.Append("a", b))
	}
	has(t, d, "a", string(want))
}

func fileNames(count int) []string {
	var l []string
	for i := range count {
		l = append(l, "f"+strconv.Itoa(10+i))
	}
	return l
}

// P7.2: the 20th file, and one more; what goes makes room.
func TestFullOfFiles(t *testing.T) {
	names := fileNames(20)
	d := New()
	for i, name := range names {
		well(t, d.Append(name, []byte(name)))
		namesAre(t, d, names[:i+1]...)
	}
	full := func() {
		t.Helper()
		for _, b := range [][]byte{nil, {}, {1}} {
			refuses(t, d, api.ErrFull, func() api.Errno { return d.Append("more", b) })
		}
		hasNot(t, d, "more")
	}
	full()
	well(t, d.Append(names[19], []byte("+")))
	has(t, d, names[19], names[19]+"+")
	well(t, d.Append(names[0], nil))
	well(t, d.Cut(names[0], 0))
	full()
	well(t, d.Rename(names[3], "g"))
	well(t, d.Rename("g", "g"))
	full()
	again(t, d)
	full()

	well(t, d.Rename("g", names[4]))
	well(t, d.Append("h", nil))
	full()
	well(t, d.Remove("h"))
	well(t, d.Append("h", []byte("h")))
	full()
	if len(d.Names()) != 20 {
		t.Errorf("%q", d.Names())
	}
}

// P7.2: 2^22 bytes in all, and one more: in one file and in several, at once and bit by bit.
func TestFullOfBytes(t *testing.T) {
	for _, parts := range [][]int{
		{mostBytes},
		{mostBytes - 1, 1},
		{1, mostBytes - 1},
		{0, mostBytes, 0},
		{1 << 20, 1 << 20, 1 << 20, 1 << 20},
		{1<<22 - 7, 3, 0, 4},
	} {
		for _, names := range [][]string{{"a", "a", "a", "a"}, {"a", "b", "c", "d"}} {
			d := New()
			for i, n := range parts {
				well(t, d.Append(names[i], make([]byte, n)))
			}
			for _, name := range []string{"a", "b", "new"} {
				for _, n := range []int{1, 2, mostBytes, mostBytes + 1} {
					refuses(t, d, api.ErrFull, func() api.Errno { return d.Append(name, make([]byte, n)) })
				}
			}
			hasNot(t, d, "new")
			well(t, d.Append("a", nil))
			well(t, d.Append("new", nil))
			has(t, d, "new", "")
		}
	}
	d := New()
	refuses(t, d, api.ErrFull, func() api.Errno { return d.Append("a", make([]byte, mostBytes+1)) })
	namesAre(t, d)
}

// P7.2: bytes that are cut, removed, renamed over or lost make room, just as many.
func TestRoomForBytes(t *testing.T) {
	for _, free := range []struct {
		name string
		by   func(d *Disk)
		room int
	}{
		{"Cut", func(d *Disk) { well(t, d.Cut("a", 93)) }, 7},
		{"Cut of none", func(d *Disk) { well(t, d.Cut("a", 100)) }, 0},
		{"Remove", func(d *Disk) { well(t, d.Remove("a")) }, 100},
		{"Rename onto", func(d *Disk) { well(t, d.Rename("b", "a")) }, 100},
		{"Rename onto the other one", func(d *Disk) { well(t, d.Rename("a", "b")) }, mostBytes - 100},
		{"Rename", func(d *Disk) { well(t, d.Rename("a", "c")) }, 0},
		{"Crash", func(d *Disk) { again(t, d, 10) }, mostBytes - 60},
		{"Turn", func(d *Disk) { well(t, d.Turn("a", 0, 0)) }, 0},
		{"Sync", func(d *Disk) { well(t, d.Sync("a")) }, 0},
	} {
		d := New()
		well(t, d.Append("a", make([]byte, 50)))
		well(t, d.Sync("a"))
		well(t, d.Append("a", make([]byte, 50)))
		well(t, d.Append("b", make([]byte, mostBytes-100)))
		free.by(d)
		name := d.Names()[0]
		refuses(t, d, api.ErrFull, func() api.Errno { return d.Append(name, make([]byte, free.room+1)) })
		if e := d.Append(name, make([]byte, free.room)); e != api.OK {
			t.Errorf("%s makes room for less than %d", free.name, free.room)
		}
		refuses(t, d, api.ErrFull, func() api.Errno { return d.Append(name, []byte{1}) })
	}
}

// P7.2, P7.6: where the mark is behind each work: what stays when nothing is kept of what is behind it.
func TestMarks(t *testing.T) {
	for _, c := range []struct {
		name string
		do   func(d *Disk)
		want []shownFile
	}{
		{"a new file", func(d *Disk) {
			well(t, d.Append("a", []byte("12")))
		}, []shownFile{{"a", "", 0}}},
		{"a new file of no bytes", func(d *Disk) {
			well(t, d.Append("a", nil))
			well(t, d.Append("a", []byte("1")))
		}, []shownFile{{"a", "", 0}}},
		{"Append leaves it", func(d *Disk) {
			put(t, d, "a", "123", 2)
			well(t, d.Append("a", []byte("4")))
		}, []shownFile{{"a", "12", 2}}},
		{"Sync brings it to the end", func(d *Disk) {
			put(t, d, "a", "123", 2)
			well(t, d.Sync("a"))
		}, []shownFile{{"a", "123", 3}}},
		{"Sync twice", func(d *Disk) {
			put(t, d, "a", "123", 2)
			well(t, d.Sync("a"))
			well(t, d.Sync("a"))
			well(t, d.Append("a", []byte("4")))
		}, []shownFile{{"a", "123", 3}}},
		{"Sync of one file leaves the others", func(d *Disk) {
			put(t, d, "a", "123", 2)
			put(t, d, "b", "456", 1)
			well(t, d.Sync("b"))
		}, []shownFile{{"a", "12", 2}, {"b", "456", 3}}},
		{"Cut behind it", func(d *Disk) {
			put(t, d, "a", "12345", 2)
			well(t, d.Cut("a", 3))
		}, []shownFile{{"a", "12", 2}}},
		{"Cut at it", func(d *Disk) {
			put(t, d, "a", "12345", 2)
			well(t, d.Cut("a", 2))
			well(t, d.Append("a", []byte("x")))
		}, []shownFile{{"a", "12", 2}}},
		{"Cut ahead of it", func(d *Disk) {
			put(t, d, "a", "12345", 2)
			well(t, d.Cut("a", 1))
			well(t, d.Append("a", []byte("xyz")))
		}, []shownFile{{"a", "1", 1}}},
		{"Cut to nothing", func(d *Disk) {
			put(t, d, "a", "12345", 2)
			well(t, d.Cut("a", 0))
			well(t, d.Append("a", []byte("xyz")))
		}, []shownFile{{"a", "", 0}}},
		{"Cut to all", func(d *Disk) {
			put(t, d, "a", "12345", 2)
			well(t, d.Cut("a", 5))
		}, []shownFile{{"a", "12", 2}}},
		{"Rename takes it along", func(d *Disk) {
			put(t, d, "a", "12345", 2)
			well(t, d.Rename("a", "b"))
		}, []shownFile{{"b", "12", 2}}},
		{"Rename onto one with another mark", func(d *Disk) {
			put(t, d, "a", "12345", 2)
			put(t, d, "b", "67890", 4)
			well(t, d.Rename("a", "b"))
		}, []shownFile{{"b", "12", 2}}},
		{"Rename onto itself leaves it", func(d *Disk) {
			put(t, d, "a", "12345", 2)
			well(t, d.Rename("a", "a"))
		}, []shownFile{{"a", "12", 2}}},
		{"the same name anew begins anew", func(d *Disk) {
			put(t, d, "a", "12345", 5)
			well(t, d.Remove("a"))
			well(t, d.Append("a", []byte("xyzuvw")))
		}, []shownFile{{"a", "", 0}}},
		{"a fall brings it to the end", func(d *Disk) {
			put(t, d, "a", "12345", 2)
			again(t, d, 2)
			well(t, d.Append("a", []byte("x")))
		}, []shownFile{{"a", "1234", 4}}},
		{"Turn leaves it", func(d *Disk) {
			put(t, d, "a", "12345", 2)
			well(t, d.Turn("a", 0, 0))
			well(t, d.Turn("a", 4, 0))
		}, []shownFile{{"a", "02", 2}}},
		{"Read, Size and Names leave it", func(d *Disk) {
			put(t, d, "a", "12345", 2)
			has(t, d, "a", "12345")
			namesAre(t, d, "a")
		}, []shownFile{{"a", "12", 2}}},
		{"Boot of one that is alive leaves it", func(d *Disk) {
			put(t, d, "a", "12345", 2)
			d.Boot()
			has(t, d, "a", "12345")
		}, []shownFile{{"a", "12", 2}}},
	} {
		d := New()
		c.do(d)
		again(t, d)
		if s := show(d); !slices.Equal(s.files, c.want) {
			t.Errorf("%s: %v; want %v", c.name, s, shown{files: c.want})
		}
	}
}

// P7.2: Cut to nothing, to less, to all; not to one more, nor to below 0.
func TestCut(t *testing.T) {
	const all = "12345"
	for size := range len(all) + 1 {
		for synced := range len(all) + 1 {
			d := New()
			put(t, d, "a", all, synced)
			put(t, d, "b", "other", 2)
			well(t, d.Cut("a", size))
			has(t, d, "a", all[:size])
			has(t, d, "b", "other")
			for _, beyond := range slices.Concat(belowZero, []int{size + 1, size + 2, len(all) + 1, math.MaxInt}) {
				refuses(t, d, api.ErrRange, func() api.Errno { return d.Cut("a", beyond) })
			}
			well(t, d.Append("a", []byte("xy")))
			has(t, d, "a", all[:size]+"xy")
		}
	}
	d := New()
	well(t, d.Append("a", nil))
	well(t, d.Cut("a", 0))
	has(t, d, "a", "")
	refuses(t, d, api.ErrRange, func() api.Errno { return d.Cut("a", 1) })
	refuses(t, d, api.ErrRange, func() api.Errno { return d.Cut("a", -1) })
}

// P7.2: Rename to a free name, onto another file, and onto itself.
func TestRename(t *testing.T) {
	d := withFiles(t, "aa", "bb", "cc")
	well(t, d.Rename("bb", "dd"))
	namesAre(t, d, "aa", "cc", "dd")
	has(t, d, "dd", "bb")
	hasNot(t, d, "bb")

	well(t, d.Rename("dd", "aa"))
	namesAre(t, d, "aa", "cc")
	has(t, d, "aa", "bb")
	has(t, d, "cc", "cc")
	hasNot(t, d, "dd")

	before := show(d)
	well(t, d.Rename("aa", "aa"))
	if after := show(d); !after.is(before) {
		t.Errorf("Rename onto itself has made %v of %v", after, before)
	}

	well(t, d.Append("aa", []byte("+")))
	well(t, d.Append("dd", []byte("new")))
	has(t, d, "aa", "bb+")
	has(t, d, "dd", "new")
}

// P7.2: Remove, and the same name anew.
func TestRemove(t *testing.T) {
	d := withFiles(t, "aa", "bb", "cc")
	well(t, d.Remove("bb"))
	namesAre(t, d, "aa", "cc")
	hasNot(t, d, "bb")
	refuses(t, d, api.ErrName, func() api.Errno { return d.Remove("bb") })
	has(t, d, "aa", "aa")
	has(t, d, "cc", "cc")
	well(t, d.Append("bb", []byte("new")))
	has(t, d, "bb", "new")
	for _, name := range []string{"aa", "bb", "cc"} {
		well(t, d.Remove(name))
	}
	namesAre(t, d)
}

// P7.3: Names of none, of one, and of many, rising by their bytes, however they came.
func TestNames(t *testing.T) {
	d := New()
	namesAre(t, d)
	came := []string{"b", "a", "\xff", "B", "aa", "\x00", "é", "a\x00", name40, "10", "9"}
	for i, name := range came {
		well(t, d.Append(name, nil))
		want := slices.Clone(came[:i+1])
		slices.SortFunc(want, func(s, t string) int { return bytes.Compare([]byte(s), []byte(t)) })
		namesAre(t, d, want...)
	}
	namesAre(t, d, "\x00", "10", "9", "B", "a", "a\x00", "aa", "b", name40, "é", "\xff")
}

// P7.4: of a disk that is to fail behind n works, just as many are done; the next one is not, and answers ErrDead.
func TestFail(t *testing.T) {
	works := []struct {
		name string
		do   func(d *Disk) api.Errno
	}{
		{"Append", func(d *Disk) api.Errno { return d.Append("a", []byte("x")) }},
		{"Append of no bytes", func(d *Disk) api.Errno { return d.Append("a", nil) }},
		{"Append to a new file", func(d *Disk) api.Errno { return d.Append("new", []byte("x")) }},
		{"Sync", func(d *Disk) api.Errno { return d.Sync("a") }},
		{"Sync of what is synced", func(d *Disk) api.Errno { return d.Sync("c") }},
		{"Cut", func(d *Disk) api.Errno { return d.Cut("a", 1) }},
		{"Cut to all", func(d *Disk) api.Errno { return d.Cut("c", 3) }},
		{"Rename", func(d *Disk) api.Errno { return d.Rename("a", "new") }},
		{"Rename onto another", func(d *Disk) api.Errno { return d.Rename("a", "b") }},
		{"Rename onto itself", func(d *Disk) api.Errno { return d.Rename("a", "a") }},
		{"Remove", func(d *Disk) api.Errno { return d.Remove("a") }},
	}
	fresh := func() *Disk {
		d := New()
		put(t, d, "a", "12345", 2)
		put(t, d, "b", "678", 0)
		put(t, d, "c", "90-", 3)
		return d
	}
	for _, w := range works {
		for n := range 4 {
			d, like := fresh(), fresh()
			d.Fail(n, []int{1, 2})
			for range n {
				well(t, d.Append("b", []byte("y")))
				well(t, like.Append("b", []byte("y")))
			}
			answers(t, w.do(d), api.ErrDead)
			if !d.Dead() {
				t.Errorf("%s behind %d: alive", w.name, n)
			}
			d.Boot()
			again(t, like, 1, 2)
			if !show(d).is(show(like)) {
				t.Errorf("%s behind %d: %v; want %v", w.name, n, show(d), show(like))
			}
			// Once is enough.
			for range 5 {
				well(t, d.Sync("b"))
			}
		}
		// The work is one of those that are counted.
		d := fresh()
		d.Fail(1, nil)
		if e := w.do(d); e != api.OK || d.Dead() {
			t.Errorf("%s: %d, dead is %v", w.name, e, d.Dead())
		}
		if e := d.Sync("c"); e != api.ErrDead || !d.Dead() {
			t.Errorf("%s does not count: %d", w.name, e)
		}
	}
}

// P7.4: with n below 0 the disk does not fail, and one that is to fail does not, either.
func TestFailBelowZero(t *testing.T) {
	for _, n := range belowZero {
		for _, ahead := range []int{-1, 0, 1} {
			d := New()
			d.Fail(ahead, nil)
			d.Fail(n, []int{1})
			for range 10 {
				well(t, d.Append("a", []byte("x")))
			}
			has(t, d, "a", "xxxxxxxxxx")
		}
	}
	d := New()
	d.Fail(math.MaxInt, nil)
	for range 100 {
		well(t, d.Append("a", []byte("x")))
	}
}

// P7.4: what answers an error, Turn, and what only reads is no work.
func TestWhatIsNoWork(t *testing.T) {
	for _, n := range []int{0, 1, 2} {
		d := withFiles(t, fileNames(20)...)
		d.Fail(n, []int{1})
		for range 4 {
			name := "f10"
			refuses(t, d, api.ErrName, func() api.Errno { return d.Append("", nil) })
			refuses(t, d, api.ErrFull, func() api.Errno { return d.Append("more", nil) })
			refuses(t, d, api.ErrFull, func() api.Errno { return d.Append(name, make([]byte, mostBytes)) })
			refuses(t, d, api.ErrName, func() api.Errno { return d.Sync("no") })
			refuses(t, d, api.ErrName, func() api.Errno { return d.Cut("no", 0) })
			refuses(t, d, api.ErrRange, func() api.Errno { return d.Cut(name, -1) })
			refuses(t, d, api.ErrRange, func() api.Errno { return d.Cut(name, 99) })
			refuses(t, d, api.ErrName, func() api.Errno { return d.Rename("no", "more") })
			refuses(t, d, api.ErrName, func() api.Errno { return d.Rename(name, "") })
			refuses(t, d, api.ErrName, func() api.Errno { return d.Remove("no") })
			refuses(t, d, api.ErrName, func() api.Errno { return d.Turn("no", 0, 0) })
			refuses(t, d, api.ErrRange, func() api.Errno { return d.Turn(name, 0, 8) })
			well(t, d.Turn(name, 0, 0))
			well(t, d.Turn(name, 0, 0))
			has(t, d, name, name)
			hasNot(t, d, "no")
			namesAre(t, d, fileNames(20)...)
			if d.Dead() {
				t.Error("dead")
			}
		}
		for range n {
			well(t, d.Sync("f29"))
		}
		answers(t, d.Sync("f29"), api.ErrDead)
	}
}

// P7.4: told to fail anew, the works are counted anew, and it is the newer numbers that are kept by.
func TestFailAnew(t *testing.T) {
	d := New()
	put(t, d, "a", "12345", 0)
	d.Fail(2, []int{1})
	well(t, d.Append("b", nil))
	d.Fail(2, []int{3})
	well(t, d.Append("b", nil))
	well(t, d.Append("b", nil))
	answers(t, d.Append("b", nil), api.ErrDead)
	d.Boot()
	has(t, d, "a", "123")

	put(t, d, "c", "12345", 0)
	d.Fail(5, []int{1})
	d.Fail(0, nil)
	answers(t, d.Sync("c"), api.ErrDead)
	d.Boot()
	has(t, d, "c", "")
}

// P7.4: Boot ends that a disk is to fail, be it alive, or dead by Crash; what a dead one is told, Boot ends, too.
func TestBootEndsFail(t *testing.T) {
	for _, c := range []struct {
		name string
		do   func(d *Disk)
	}{
		{"alive", func(d *Disk) { d.Fail(0, nil); d.Boot() }},
		{"alive, some works on", func(d *Disk) { d.Fail(1, nil); well(t, d.Sync("a")); d.Boot() }},
		{"dead", func(d *Disk) { d.Fail(0, nil); d.Crash(nil); d.Boot() }},
		{"told when it is dead", func(d *Disk) { d.Crash(nil); d.Fail(0, nil); d.Boot() }},
		{"asked when it is dead", func(d *Disk) {
			d.Crash(nil)
			d.Fail(0, nil)
			answers(t, d.Sync("a"), api.ErrDead)
			d.Boot()
		}},
	} {
		d := withFiles(t, "a")
		c.do(d)
		if d.Dead() {
			t.Errorf("%s: dead", c.name)
		}
		for range 3 {
			if e := d.Append("a", []byte("x")); e != api.OK {
				t.Errorf("%s: %d", c.name, e)
			}
		}
		has(t, d, "a", "axxx")
	}
}

// P7.4: Boot of a disk that is alive leaves it as it is.
func TestBootOfAlive(t *testing.T) {
	d := withFiles(t, "aaaa", "bb")
	before := show(d)
	for range 3 {
		d.Boot()
		if d.Dead() || !show(d).is(before) {
			t.Errorf("%v; want %v", show(d), before)
		}
	}
}

// P7.4: Crash, file by file, by rising names, however the files came; fewer numbers than files, as many, and more.
func TestCrash(t *testing.T) {
	for _, c := range []struct {
		keep []int
		want [4]string
	}{
		{nil, [4]string{"", "1", "12", "123"}},
		{[]int{}, [4]string{"", "1", "12", "123"}},
		{[]int{0, 0, 0, 0}, [4]string{"", "1", "12", "123"}},
		{[]int{1}, [4]string{"1", "1", "12", "123"}},
		{[]int{0, 1}, [4]string{"", "12", "12", "123"}},
		{[]int{0, 0, 2}, [4]string{"", "1", "1234", "123"}},
		{[]int{3, 4, 1, 2}, [4]string{"123", "12345", "123", "12345"}},
		{[]int{5, 4, 3, 2}, [4]string{"12345", "12345", "12345", "12345"}},
		{[]int{5, 4, 3, 2, 9, 9}, [4]string{"12345", "12345", "12345", "12345"}},
		{[]int{6, 5, 4, 3}, [4]string{"", "1", "12", "123"}},
		{[]int{7, 6, 5, 4}, [4]string{"1", "12", "123", "1234"}},
		{[]int{-1, -1, -1, -1}, [4]string{"12345", "12345", "12345", "12345"}},
		{[]int{-2, -2, -2, -2}, [4]string{"1234", "1234", "1234", "1234"}},
		{[]int{-6, -5, -4, -3}, [4]string{"", "1", "12", "123"}},
	} {
		d := New()
		// They come in another order than their names'.
		put(t, d, "c", "12345", 2)
		put(t, d, "a", "12345", 0)
		put(t, d, "d", "12345", 3)
		put(t, d, "b", "12345", 1)
		d.Crash(c.keep)
		if !d.Dead() || len(d.Names()) != 0 {
			t.Errorf("Crash(%v): alive", c.keep)
		}
		d.Boot()
		namesAre(t, d, "a", "b", "c", "d")
		for i, name := range []string{"a", "b", "c", "d"} {
			has(t, d, name, c.want[i])
		}
		// All that stayed is synced.
		again(t, d)
		for i, name := range []string{"a", "b", "c", "d"} {
			has(t, d, name, c.want[i])
		}
	}
}

// P7.4: it is the names at that time by which the files are put in order.
func TestCrashByNamesAtThatTime(t *testing.T) {
	d := New()
	put(t, d, "a", "AAAAA", 0)
	put(t, d, "b", "BBBBB", 0)
	put(t, d, "c", "CCCCC", 0)
	well(t, d.Rename("a", "z"))
	well(t, d.Remove("b"))
	put(t, d, "y", "YYYYY", 0)
	again(t, d, 1, 2, 3, 4)
	namesAre(t, d, "c", "y", "z")
	has(t, d, "c", "C")
	has(t, d, "y", "YY")
	has(t, d, "z", "AAA")
}

// P7.4: a number is brought to be from 0 to how many bytes there are: by its remainder, which is never below 0; at all ends of what numbers there are.
func TestKeepAnyNumber(t *testing.T) {
	for loose := range 6 {
		for _, synced := range []int{0, 1, 3} {
			for k := -20; k <= 20; k++ {
				want := k
				for want < 0 {
					want += loose + 1
				}
				for want > loose {
					want -= loose + 1
				}
				for _, fail := range []bool{false, true} {
					d := New()
					all := "123456789"[:synced+loose]
					put(t, d, "a", all, synced)
					if fail {
						d.Fail(0, []int{k})
						answers(t, d.Sync("a"), api.ErrDead)
					} else {
						d.Crash([]int{k})
					}
					d.Boot()
					has(t, d, "a", all[:synced+want])
				}
			}
		}
	}
	for _, c := range []struct {
		keep int
		want string
	}{
		{math.MaxInt, "123"},
		{math.MaxInt - 3, ""},
		{math.MinInt, ""},
		{math.MinInt + 1, "1"},
		{math.MinInt + 3, "123"},
		{1 << 62, ""},
		{1<<62 + 2, "12"},
		{-1 << 62, ""},
		{-1<<62 - 1, "123"},
		{math.MaxInt32 + 1, ""},
		{math.MinInt32 - 1, "123"},
		{math.MaxUint32, "123"},
		{math.MaxUint32 + 2, "1"},
		{-math.MaxUint32 - 1, ""},
		{-math.MaxUint32 - 2, "123"},
	} {
		d := New()
		put(t, d, "a", "123", 0)
		again(t, d, c.keep)
		has(t, d, "a", c.want)
		d = New()
		put(t, d, "a", "123", 3)
		again(t, d, c.keep)
		has(t, d, "a", "123")
	}
}

// P7.4: Crash of a dead disk takes nothing more.
func TestCrashOfDead(t *testing.T) {
	d := New()
	put(t, d, "a", "12345", 2)
	d.Crash([]int{2})
	d.Crash([]int{1})
	d.Crash(nil)
	d.Boot()
	has(t, d, "a", "1234")
	again(t, d, 7)
	has(t, d, "a", "1234")
}

// P7.4, P7.6: of 20 files each has its own number.
func TestCrashOfMany(t *testing.T) {
	names := fileNames(20)
	for _, fail := range []bool{false, true} {
		d := New()
		var keep []int
		for i, name := range names {
			put(t, d, name, "0123456789abcdefghijklmnopqrstuvwxyz"[:i+8], 3)
			keep = append(keep, i/2)
		}
		keep = append(keep, 3, 3, 3)
		if fail {
			d.Fail(0, keep)
			answers(t, d.Remove(names[0]), api.ErrDead)
		} else {
			d.Crash(keep)
		}
		d.Boot()
		namesAre(t, d, names...)
		for i, name := range names {
			has(t, d, name, "0123456789abcdefghijklmnopqrstuvwxyz"[:3+i/2])
		}
	}
}

// P7.4: Turn of each bit, once and twice; at both ends of a file, and just beyond them.
func TestTurn(t *testing.T) {
	const all = "\x00\xff\x55\x80"
	for synced := range len(all) + 1 {
		for at := range len(all) {
			for bit := range 8 {
				d := New()
				put(t, d, "a", all, synced)
				put(t, d, "b", all, 1)
				want := []byte(all)
				if want[at]>>bit&1 == 1 {
					want[at] -= 1 << bit
				} else {
					want[at] += 1 << bit
				}
				well(t, d.Turn("a", at, bit))
				has(t, d, "a", string(want))
				has(t, d, "b", all)
				well(t, d.Turn("a", at, bit))
				has(t, d, "a", all)
			}
		}
	}
	d := withFiles(t, "abc")
	well(t, d.Append("none", nil))
	for _, at := range slices.Concat(belowZero, []int{3, 4, math.MaxInt}) {
		for _, bit := range []int{0, 7, 8, -1} {
			refuses(t, d, api.ErrRange, func() api.Errno { return d.Turn("abc", at, bit) })
		}
	}
	for _, bit := range slices.Concat(belowZero, []int{8, 9, 63, 64, math.MaxInt}) {
		for _, at := range []int{0, 2, 3, -1} {
			refuses(t, d, api.ErrRange, func() api.Errno { return d.Turn("abc", at, bit) })
		}
	}
	for _, at := range []int{-1, 0, 1} {
		refuses(t, d, api.ErrRange, func() api.Errno { return d.Turn("none", at, 0) })
	}
	well(t, d.Cut("abc", 2))
	refuses(t, d, api.ErrRange, func() api.Errno { return d.Turn("abc", 2, 0) })
	well(t, d.Turn("abc", 1, 0))
}

// P7.1 to P7.4: where two errors would do: ErrDead ahead of ErrName, and that ahead of ErrFull and ErrRange.
func TestOrderOfErrors(t *testing.T) {
	full := withFiles(t, fileNames(20)...)
	heavy := New()
	well(t, heavy.Append("a", make([]byte, mostBytes)))
	for _, d := range []*Disk{full, heavy} {
		for _, name := range mayNotBe {
			refuses(t, d, api.ErrName, func() api.Errno { return d.Append(name, nil) })
			refuses(t, d, api.ErrName, func() api.Errno { return d.Append(name, make([]byte, mostBytes+1)) })
		}
		for _, name := range append(slices.Clone(mayNotBe), "no") {
			refuses(t, d, api.ErrName, func() api.Errno { return d.Cut(name, -1) })
			refuses(t, d, api.ErrName, func() api.Errno { return d.Cut(name, math.MaxInt) })
			refuses(t, d, api.ErrName, func() api.Errno { return d.Turn(name, -1, 0) })
			refuses(t, d, api.ErrName, func() api.Errno { return d.Turn(name, 0, 8) })
		}
	}
	// An error comes ahead of the fall that the disk was told of.
	full.Fail(0, nil)
	refuses(t, full, api.ErrName, func() api.Errno { return full.Append("", nil) })
	refuses(t, full, api.ErrFull, func() api.Errno { return full.Append("more", nil) })
	refuses(t, full, api.ErrRange, func() api.Errno { return full.Cut("f10", 99) })
	answers(t, full.Append("f10", nil), api.ErrDead)
	refuses(t, full, api.ErrDead, func() api.Errno { return full.Append("", nil) })
	refuses(t, full, api.ErrDead, func() api.Errno { return full.Append("more", nil) })
	refuses(t, full, api.ErrDead, func() api.Errno { return full.Cut("f10", 99) })
}

// P7.5: what is handed to Append is only read, its spare room neither written nor kept.
func TestAppendKeepsNothing(t *testing.T) {
	room := []byte("123456789")
	for range 2 {
		d := New()
		given := room[:3]
		well(t, d.Append("a", given))
		well(t, d.Append("a", []byte("xyz")))
		well(t, d.Append("b", given[:0]))
		well(t, d.Append("b", []byte("uvw")))
		well(t, d.Turn("a", 0, 7))
		well(t, d.Turn("a", 0, 7))
		if string(room) != "123456789" {
			t.Fatalf("what was handed in has become %q", room)
		}
		given[0], given[2] = '-', '-'
		has(t, d, "a", "123xyz")
		has(t, d, "b", "uvw")
		copy(room, "123456789")
		well(t, d.Turn("a", 0, 0))
		if string(room) != "123456789" {
			t.Fatalf("what was handed in has become %q", room)
		}
	}
}

// P7.5: the numbers to keep by, likewise.
func TestKeepIsNotKept(t *testing.T) {
	d := New()
	put(t, d, "a", "12345", 0)
	put(t, d, "b", "12345", 0)
	keep := []int{1, 22, 3}
	d.Fail(0, keep)
	keep[0], keep[1] = 5, 5
	answers(t, d.Sync("a"), api.ErrDead)
	d.Boot()
	has(t, d, "a", "1")
	has(t, d, "b", "1234")
	if !slices.Equal(keep, []int{5, 5, 3}) {
		t.Errorf("what was handed in has become %v", keep)
	}

	d = New()
	put(t, d, "a", "12345", 0)
	keep = []int{-3, 9, 9}
	again(t, d, keep[:1]...)
	has(t, d, "a", "123")
	if !slices.Equal(keep, []int{-3, 9, 9}) {
		t.Errorf("what was handed in has become %v", keep)
	}
}

// P7.5: what is answered is new memory: each time, and its spare room, too.
func TestAnswersAreNew(t *testing.T) {
	d := New()
	put(t, d, "a", "12345", 2)
	put(t, d, "b", "67", 1)
	well(t, d.Cut("a", 3))
	spoil := func(b []byte) {
		b = b[:cap(b)]
		for i := range b {
			b[i] = '-'
		}
	}
	first, _ := d.Read("a")
	second, _ := d.Read("a")
	spoil(first)
	if string(second) != "123" {
		t.Errorf("the second answer has become %q", second)
	}
	has(t, d, "a", "123")
	well(t, d.Append("a", []byte("45")))
	spoil(first)
	has(t, d, "a", "12345")
	if string(second) != "123" {
		t.Errorf("the second answer has become %q", second)
	}
	well(t, d.Turn("a", 0, 0))
	if string(second) != "123" {
		t.Errorf("the second answer has become %q", second)
	}

	names := d.Names()
	names = names[:cap(names)]
	for i := range names {
		names[i] = "-"
	}
	namesAre(t, d, "a", "b")

	// What is answered may be handed in.
	third, _ := d.Read("b")
	well(t, d.Append("b", third))
	spoil(third)
	has(t, d, "b", "6767")
}

// R2: disks do not hang on each other.
func TestDisksApart(t *testing.T) {
	a, b := New(), New()
	well(t, a.Append("x", []byte("12")))
	namesAre(t, b)
	well(t, b.Append("x", []byte("34")))
	well(t, b.Sync("x"))
	b.Fail(0, nil)
	well(t, a.Append("x", []byte("5")))
	b.Boot()
	a.Crash(nil)
	if b.Dead() {
		t.Error("dead by another one's Crash")
	}
	has(t, b, "x", "34")
	a.Boot()
	has(t, a, "x", "")
}

// modelFile and model are a disk of the chapter's words: its files in a list by rising names, each in two parts.
type modelFile struct {
	name          string
	synced, loose string
}

type model struct {
	files   []modelFile
	dead    bool
	failing bool
	left    int
	keep    []int
}

func (f modelFile) all() string { return f.synced + f.loose }

// split is a file with all those bytes, as many of them synced as it had, at most.
func (f modelFile) split(all string) modelFile {
	n := min(len(f.synced), len(all))
	return modelFile{f.name, all[:n], all[n:]}
}

func (m *model) place(name string) int {
	return slices.IndexFunc(m.files, func(f modelFile) bool { return f.name == name })
}

func (m *model) powerGoes(keep []int) {
	for i, f := range m.files {
		k := 0
		if i < len(keep) {
			n := len(f.loose) + 1
			k = (keep[i]%n + n) % n
		}
		m.files[i] = modelFile{f.name, f.synced + f.loose[:k], ""}
	}
	m.dead = true
}

// work does to the files what do answers, or lets the power go.
func (m *model) work(do func(files []modelFile) ([]modelFile, api.Errno)) api.Errno {
	if m.dead {
		return api.ErrDead
	}
	files, e := do(slices.Clone(m.files))
	if e != api.OK {
		return e
	}
	if m.failing && m.left == 0 {
		m.powerGoes(m.keep)
		m.failing = false
		return api.ErrDead
	}
	m.left--
	slices.SortFunc(files, func(f, g modelFile) int { return cmp.Compare(f.name, g.name) })
	m.files = files
	return api.OK
}

func wrongName(name string) bool { return name == "" || len(name) > 40 }

func (m *model) append(name string, b []byte) api.Errno {
	return m.work(func(files []modelFile) ([]modelFile, api.Errno) {
		if wrongName(name) {
			return nil, api.ErrName
		}
		i, sum := m.place(name), len(b)
		for _, f := range files {
			sum += len(f.all())
		}
		if i < 0 && len(files) >= 20 || sum > mostBytes {
			return nil, api.ErrFull
		}
		if i < 0 {
			return append(files, modelFile{name, "", string(b)}), api.OK
		}
		files[i].loose += string(b)
		return files, api.OK
	})
}

// change makes of a file what do makes of it.
func (m *model) change(name string, do func(f modelFile) (modelFile, api.Errno)) api.Errno {
	return m.work(func(files []modelFile) ([]modelFile, api.Errno) {
		i := m.place(name)
		if i < 0 {
			return nil, api.ErrName
		}
		f, e := do(files[i])
		files[i] = f
		return files, e
	})
}

func (m *model) sync(name string) api.Errno {
	return m.change(name, func(f modelFile) (modelFile, api.Errno) {
		return modelFile{f.name, f.all(), ""}, api.OK
	})
}

func (m *model) cut(name string, size int) api.Errno {
	return m.change(name, func(f modelFile) (modelFile, api.Errno) {
		if size < 0 || size > len(f.all()) {
			return f, api.ErrRange
		}
		return f.split(f.all()[:size]), api.OK
	})
}

func (m *model) rename(from, to string) api.Errno {
	return m.work(func(files []modelFile) ([]modelFile, api.Errno) {
		i := m.place(from)
		if i < 0 || wrongName(to) {
			return nil, api.ErrName
		}
		if from == to {
			return files, api.OK
		}
		files[i].name = "" // no name that may be
		files = slices.DeleteFunc(files, func(f modelFile) bool { return f.name == to })
		for i := range files {
			if files[i].name == "" {
				files[i].name = to
			}
		}
		return files, api.OK
	})
}

func (m *model) remove(name string) api.Errno {
	return m.work(func(files []modelFile) ([]modelFile, api.Errno) {
		i := m.place(name)
		if i < 0 {
			return nil, api.ErrName
		}
		return slices.Delete(files, i, i+1), api.OK
	})
}

func (m *model) turn(name string, at, bit int) api.Errno {
	i := m.place(name)
	switch {
	case m.dead:
		return api.ErrDead
	case i < 0:
		return api.ErrName
	case at < 0 || at >= len(m.files[i].all()) || bit < 0 || bit > 7:
		return api.ErrRange
	}
	b := []byte(m.files[i].all())
	b[at] ^= []byte{1, 2, 4, 8, 16, 32, 64, 128}[bit]
	m.files[i] = m.files[i].split(string(b))
	return api.OK
}

func (m *model) show() shown {
	s := shown{dead: m.dead, failing: m.failing}
	for _, f := range m.files {
		s.files = append(s.files, shownFile{f.name, f.all(), len(f.synced)})
	}
	if m.failing {
		s.left, s.keep = m.left, m.keep[:min(20, len(m.keep))]
	}
	return s
}

// readsAs asks for all that the disk tells of its files.
func (m *model) readsAs(t *testing.T, d *Disk) {
	t.Helper()
	var names []string
	for _, f := range m.files {
		names = append(names, f.name)
		b, e := d.Read(f.name)
		n, ne := d.Size(f.name)
		if m.dead && (len(b) != 0 || e != api.ErrDead || n != 0 || ne != api.ErrDead) {
			t.Fatalf("of a dead disk: %q, %d, %d, %d", b, e, n, ne)
		}
		if !m.dead && (string(b) != f.all() || e != api.OK || n != len(b) || ne != api.OK) {
			t.Fatalf("%q: %q, %d, %d, %d; want %q", f.name, b, e, n, ne, f.all())
		}
	}
	if m.dead {
		names = nil
	}
	if l := d.Names(); !slices.Equal(l, names) || d.Dead() != m.dead {
		t.Fatalf("Names: %q, dead is %v; want %q, %v", l, d.Dead(), names, m.dead)
	}
}

// numbers is a row of numbers that always is the same one.
type numbers uint64

func (n *numbers) below(count int) int {
	*n = *n*6364136223846793005 + 1442695040888963407
	return int(uint64(*n)>>33) % count
}

func (n *numbers) bytes(count int) []byte {
	b := make([]byte, count)
	for i := range b {
		b[i] = byte(n.below(256))
	}
	return b
}

func (n *numbers) keep() []int {
	var keep []int
	for range n.below(25) {
		keep = append(keep, n.below(40)-15)
	}
	return keep
}

// P7.1 to P7.7: disks on long ways, held against the model.
func TestLongWays(t *testing.T) {
	for way := range 150 {
		n := numbers(way)
		d, m := New(), &model{left: math.MaxInt}
		names := slices.Concat(fileNames(2+n.below(24)), []string{"", name40, name41})
		some := func() string { return names[n.below(len(names))] }
		for range 400 {
			name := some()
			var e, want api.Errno
			switch n.below(16) {
			case 0, 1, 2, 3, 4:
				b := n.bytes(n.below(9))
				e, want = d.Append(name, b), m.append(name, b)
			case 5, 6:
				e, want = d.Sync(name), m.sync(name)
			case 7:
				size := n.below(20) - 2
				e, want = d.Cut(name, size), m.cut(name, size)
			case 8:
				to := some()
				e, want = d.Rename(name, to), m.rename(name, to)
			case 9:
				e, want = d.Remove(name), m.remove(name)
			case 10, 11:
				at, bit := n.below(20)-2, n.below(11)-1
				e, want = d.Turn(name, at, bit), m.turn(name, at, bit)
			case 12:
				keep := n.keep()
				d.Crash(keep)
				m.powerGoes(keep)
			case 13:
				left, keep := n.below(20)-3, n.keep()
				d.Fail(left, keep)
				m.failing, m.left, m.keep = left >= 0, left, keep
			default:
				if m.dead || n.below(6) == 0 {
					d.Boot()
					m.dead, m.failing = false, false
				}
			}
			if e != want {
				t.Fatalf("way %d: error %d; want %d", way, e, want)
			}
			if !show(d).is(m.show()) {
				t.Fatalf("way %d: %v; want %v", way, show(d), m.show())
			}
			m.readsAs(t, d)
		}
	}
}

// told is what is known of a file whose bytes were appended, and perhaps synced, but not cut.
type told struct {
	all    string // appended since what stayed behind the last fall, with that
	synced int
}

// P7.6: wherever the power goes, and whatever stays: what was synced is there, and behind it a beginning of what was appended since; names stay.
func TestWhatStays(t *testing.T) {
	names := fileNames(6)
	for way := range 60 {
		n := numbers(5000 + way)
		d := New()
		files := map[string]told{}
		for range 30 {
			keep := n.keep()
			d.Fail(n.below(30), keep)
			for !d.Dead() {
				name := names[n.below(len(names))]
				f := files[name]
				if _, there := files[name]; there && n.below(3) == 0 {
					if d.Sync(name) == api.OK {
						files[name] = told{f.all, len(f.all)}
					}
					continue
				}
				b := n.bytes(n.below(6))
				if d.Append(name, b) == api.OK {
					files[name] = told{f.all + string(b), f.synced}
				}
			}
			d.Boot()
			if len(d.Names()) != len(files) {
				t.Fatalf("%q of %d files", d.Names(), len(files))
			}
			for name, f := range files {
				b, e := d.Read(name)
				if e != api.OK || len(b) < f.synced || !strings.HasPrefix(f.all, string(b)) {
					t.Fatalf("%q: %q, %d; of %q %d bytes were synced", name, b, e, f.all, f.synced)
				}
				files[name] = told{string(b), len(b)}
			}
		}
	}
}

// P7.6: what was synced stays, though all numbers to keep by are 0, at each work that the power may go at.
func TestSyncedStaysAtEachWork(t *testing.T) {
	works := []func(d *Disk) api.Errno{
		func(d *Disk) api.Errno { return d.Append("a", []byte("12")) },
		func(d *Disk) api.Errno { return d.Append("a", []byte("3")) },
		func(d *Disk) api.Errno { return d.Sync("a") },
		func(d *Disk) api.Errno { return d.Append("a", []byte("45")) },
		func(d *Disk) api.Errno { return d.Rename("a", "b") },
		func(d *Disk) api.Errno { return d.Append("b", []byte("6")) },
		func(d *Disk) api.Errno { return d.Sync("b") },
		func(d *Disk) api.Errno { return d.Cut("b", 2) },
		func(d *Disk) api.Errno { return d.Append("b", []byte("7")) },
		func(d *Disk) api.Errno { return d.Remove("b") },
	}
	for _, c := range []struct {
		keep []int
		want []string // ahead of each work, and behind all: the file's name, and what it has
	}{
		{nil, []string{"", "a", "a", "a123", "a123", "b123", "b123", "b123456", "b12", "b12", ""}},
		{[]int{1}, []string{"", "a1", "a1", "a123", "a1234", "b1234", "b1234", "b123456", "b12", "b127", ""}},
		{[]int{-1}, []string{"", "a12", "a123", "a123", "a12345", "b12345", "b123456", "b123456", "b12", "b127", ""}},
	} {
		for n := range len(works) + 1 {
			d := New()
			d.Fail(n, c.keep)
			for i, work := range works {
				want := api.OK
				if i >= n {
					want = api.ErrDead
				}
				answers(t, work(d), want)
			}
			if d.Dead() != (n < len(works)) {
				t.Errorf("behind %d works: dead is %v", n, d.Dead())
			}
			d.Boot()
			if c.want[n] == "" {
				namesAre(t, d)
				continue
			}
			namesAre(t, d, c.want[n][:1])
			has(t, d, c.want[n][:1], c.want[n][1:])
		}
	}
}

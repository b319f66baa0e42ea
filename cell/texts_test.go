package cell_test

import (
	"fmt"
	"math"
	"math/rand"
	"reflect"
	"slices"
	"strings"
	"testing"
	"unsafe"

	"scriptorium/api"
	"scriptorium/cell"
)

func intentOf(t *testing.T, x api.Intent) string {
	t.Helper()
	s, e := cell.Intent(x)
	answers(t, e, api.OK)
	return s
}

func recordOf(t *testing.T, x api.Record) string {
	t.Helper()
	s, e := cell.Record(x)
	answers(t, e, api.OK)
	return s
}

// The chapter's examples of texts.
func TestTextExamples(t *testing.T) {
	s, e := cell.Version("x", true)
	is(t, "Version(x, true)", s, e, "\x01\x01\x01\x01x")
	s, e = cell.Version("x", false)
	refused(t, "Version(x, false)", s, e)
	s, e = cell.Version("", false)
	is(t, "Version of one that is gone", s, e, "\x00")
	if value, there, e := cell.TakeVersion(s); value != "" || there || e != api.OK {
		t.Errorf("TakeVersion of one that is gone: %q, %t, %d", value, there, e)
	}
}

// P11.3: some texts, byte by byte.
func TestTextsByBytes(t *testing.T) {
	s, e := cell.Number(258)
	is(t, "Number", s, e, "\x02\x01\x02")
	s, e = cell.Stamp(api.Stamp{Wall: 256, Logic: 3})
	is(t, "Stamp", s, e, "\x02\x01\x00\x01\x03")
	s, e = cell.Intent(api.Intent{Id: 7, Epoch: 0, Priority: 5, Anchor: "a", Stamp: api.Stamp{Wall: 10, Logic: 1}, Beat: api.Stamp{Wall: 20}, L: []api.Change{{Seq: 1, Value: "z"}, {Seq: 3, Del: true}}})
	is(t, "Intent", s, e, "\x01\x07\x00\x01\x05\x01\x01a\x01\x0a\x01\x01\x01\x14\x00\x01\x02\x01\x01\x00\x01\x01z\x01\x03\x01\x01\x00")
	s, e = cell.Record(api.Record{Id: 7, Epoch: 9, Status: api.StatusStaging, Priority: 1000, Anchor: "a\x00", Stamp: api.Stamp{Wall: 10, Logic: 1}, Beat: api.Stamp{Wall: 20}, Writes: []api.Write{{Key: "b", Seq: 4}, {Key: "c", Seq: 2}}})
	is(t, "Record", s, e, "\x01\x07\x01\x09\x01\x02\x02\x03\xe8\x01\x02a\x00\x01\x0a\x01\x01\x01\x14\x00\x01\x02\x01\x01b\x01\x04\x01\x01c\x01\x02")
	s, e = cell.Record(api.Record{Id: 1, Status: api.StatusAborted, Priority: 1, Anchor: "a"})
	is(t, "Record, aborted", s, e, "\x01\x01\x00\x01\x04\x01\x01\x01\x01a\x00\x00\x00\x00\x00")
}

// took holds what a Take answers of a text against the words.
func took(t *testing.T, what, s string, got, want, zero any, e api.Errno, may bool) {
	t.Helper()
	wanted := api.OK
	if !may {
		wanted, want = api.ErrSyntax, zero
	}
	if e != wanted || !reflect.DeepEqual(got, want) {
		t.Fatalf("%s(%.300q): %v, %d; want %v, %d", what, s, got, e, want, wanted)
	}
}

// takeAll hands a text to all calls that begin with Take; it tells which of them took it, in the order number, stamp, version, intent, record.
func takeAll(t *testing.T, s string) (by [5]bool) {
	t.Helper()
	n, e := cell.TakeNumber(s)
	m, may := readNumber(s)
	took(t, "TakeNumber", s, n, m, 0, e, may)
	by[0] = may
	at, e := cell.TakeStamp(s)
	wantAt, may := readStamp(s)
	took(t, "TakeStamp", s, at, wantAt, api.Stamp{}, e, may)
	by[1] = may
	value, there, e := cell.TakeVersion(s)
	v, may := readVersion(s)
	took(t, "TakeVersion", s, version{value, there}, v, version{}, e, may)
	by[2] = may
	x, e := cell.TakeIntent(s)
	wantX, may := readIntent(s)
	took(t, "TakeIntent", s, plainIntent(x), wantX, api.Intent{}, e, may)
	by[3] = may
	r, e := cell.TakeRecord(s)
	wantR, may := readRecord(s)
	took(t, "TakeRecord", s, plainRecord(r), wantR, api.Record{}, e, may)
	by[4] = may
	return by
}

// noneTakes asks that no call takes a text.
func noneTakes(t *testing.T, s string) {
	t.Helper()
	if by := takeAll(t, s); by != [5]bool{} {
		t.Errorf("%.200q is taken: %v", s, by)
	}
}

// P11.3, P11.5: a number's text, and back.
func TestNumber(t *testing.T) {
	for _, n := range []int{0, 1, 2, 127, 128, 255, 256, 257, 1<<16 - 1, 1 << 16, 1<<31 - 1, 1 << 31, 1 << 32, 1 << 40, 1<<48 - 1, 1 << 48, 1<<53 - 2, 1<<53 - 1} {
		s, e := cell.Number(n)
		is(t, fmt.Sprint("Number ", n), s, e, num(n))
		if back, e := cell.TakeNumber(s); back != n || e != api.OK {
			t.Errorf("TakeNumber(%q): %d, %d; want %d", s, back, e, n)
		}
	}
	for _, n := range []int{-1, -2, -256, 1 << 53, 1<<53 + 1, 1 << 55, 1 << 56, math.MaxInt, math.MinInt, math.MinInt + 1} {
		s, e := cell.Number(n)
		refused(t, fmt.Sprint("Number ", n), s, e)
		takeAll(t, num(n))
	}
}

// P11.3, P11.5: a stamp's text, and back.
func TestStamp(t *testing.T) {
	for _, at := range oddStamps {
		s, e := cell.Stamp(at)
		is(t, fmt.Sprint("Stamp ", at), s, e, nums(at.Wall, at.Logic))
		if back, e := cell.TakeStamp(s); back != at || e != api.OK {
			t.Errorf("TakeStamp(%q): %v, %d; want %v", s, back, e, at)
		}
	}
	for _, at := range noStamps {
		s, e := cell.Stamp(at)
		refused(t, fmt.Sprint("Stamp ", at), s, e)
		if by := takeAll(t, nums(at.Wall, at.Logic)); by[1] {
			t.Errorf("the stamp %v is taken", at)
		}
	}
}

// P11.3, P11.5: a version's text, with a value and without, and back.
func TestVersion(t *testing.T) {
	values := slices.Concat(oddKeys, []string{"", fill(63), fill(64), strings.Repeat("\x00", 64), strings.Repeat("\xff", 64)})
	for _, value := range values {
		s, e := cell.Version(value, true)
		is(t, fmt.Sprintf("Version(%q, true)", value), s, e, num(1)+str(value))
		if back, there, e := cell.TakeVersion(s); back != value || !there || e != api.OK {
			t.Errorf("TakeVersion(%q): %q, %t, %d; want %q", s, back, there, e, value)
		}
		if value == "" {
			continue
		}
		s, e = cell.Version(value, false)
		refused(t, fmt.Sprintf("Version(%q, false)", value), s, e)
		noneTakes(t, num(0)+str(value))
	}
	for _, n := range []int{65, 66, 127, 128, 255, 256, 1 << 16, 1 << 20} {
		for _, there := range []bool{false, true} {
			s, e := cell.Version(fill(n), there)
			refused(t, fmt.Sprint("Version of ", n, " bytes ", there), s, e)
			noneTakes(t, num(flag(there))+str(fill(n)))
		}
	}
	if by := takeAll(t, nums(0, 0)); by != [5]bool{1: true} {
		t.Errorf("gone, and a text without bytes: %v", by)
	}
	for _, n := range []int{2, 3, 255, 256, 257, 1 << 32, api.MaxNumber} {
		if by := takeAll(t, num(n)+str("x")); by[2] {
			t.Errorf("the number %d, and a value, are a version", n)
		}
		if by := takeAll(t, num(n)); by[2] {
			t.Errorf("the number %d is a version", n)
		}
	}
}

// P11.3, P11.5: the text of each intent that may be, and back; none of one that may not be, nor is its text read.
func TestIntent(t *testing.T) {
	for _, c := range intents() {
		s, e := cell.Intent(c.x)
		if !c.may {
			refused(t, c.what, s, e)
		} else {
			is(t, c.what, s, e, intentText(c.x))
		}
		back, e := cell.TakeIntent(intentText(c.x))
		if c.may && (e != api.OK || !reflect.DeepEqual(back, c.x) || !cell.Same(back, c.x)) {
			t.Errorf("%s: taken as %v, %d; want %v", c.what, back, e, c.x)
		}
		if !c.may && (e != api.ErrSyntax || !reflect.DeepEqual(plainIntent(back), api.Intent{})) {
			t.Errorf("%s: taken as %v, %d", c.what, back, e)
		}
		takeAll(t, intentText(c.x))
	}
}

// P11.3, P11.5: the text of each record that may be, and back; none of one that may not be, nor is its text read.
func TestRecord(t *testing.T) {
	for _, c := range records() {
		s, e := cell.Record(c.x)
		if !c.may {
			refused(t, c.what, s, e)
		} else {
			is(t, c.what, s, e, recordText(c.x))
		}
		back, e := cell.TakeRecord(recordText(c.x))
		if c.may && (e != api.OK || !reflect.DeepEqual(plainRecord(back), plainRecord(c.x)) || !cell.SameRecord(back, c.x)) {
			t.Errorf("%s: taken as %v, %d; want %v", c.what, back, e, c.x)
		}
		if !c.may && (e != api.ErrSyntax || !reflect.DeepEqual(plainRecord(back), api.Record{})) {
			t.Errorf("%s: taken as %v, %d", c.what, back, e)
		}
		takeAll(t, recordText(c.x))
	}
}

// someParts are the parts of some texts of each kind.
func someParts() [][]string {
	least := api.Intent{Id: 1, Priority: 1, Anchor: "\x00", L: []api.Change{{Seq: 1}}}
	gone := anIntent()
	gone.L = []api.Change{{Seq: 1, Del: true}}
	pending := aRecord()
	pending.Status, pending.Writes = api.StatusPending, nil
	ended := greatestRecord()
	ended.Status, ended.Writes = api.StatusCommitted, nil
	bare := aRecord()
	bare.Writes = nil
	return [][]string{
		{num(0)}, {num(1)}, {num(2)}, {num(256)}, {num(api.MaxNumber)},
		stampParts(api.Stamp{}), stampParts(stampOf(1, 0)), stampParts(stampOf(300, 70000)), stampParts(stampOf(1<<40, 1<<20-1)),
		versionParts("", true), versionParts("", false), versionParts("x\x00", true), versionParts(fill(64), true),
		intentParts(anIntent()), intentParts(least), intentParts(gone),
		recordParts(aRecord()), recordParts(pending), recordParts(ended), recordParts(bare),
	}
}

// greatParts are those of the longest texts.
func greatParts() [][]string {
	return [][]string{intentParts(greatestIntent()), recordParts(greatestRecord())}
}

// P11.3: texts are taken by those that take that kind; a number of 0 says that a key is gone, too.
func TestTakeEachKind(t *testing.T) {
	for i, c := range []struct {
		s  string
		by [5]bool
	}{
		{num(0), [5]bool{0: true, 2: true}},
		{num(1), [5]bool{0: true}},
		{num(7), [5]bool{0: true}},
		{nums(0, 0), [5]bool{1: true}},
		{nums(7, 8), [5]bool{1: true}},
		{nums(1, 0), [5]bool{1: true, 2: true}}, // a stamp, or a value without bytes
		{num(1) + str("x"), [5]bool{2: true}},
		{intentText(anIntent()), [5]bool{3: true}},
		{intentText(greatestIntent()), [5]bool{3: true}},
		{recordText(aRecord()), [5]bool{4: true}},
		{recordText(greatestRecord()), [5]bool{4: true}},
		{"", [5]bool{}},
	} {
		if by := takeAll(t, c.s); by != c.by {
			t.Errorf("%d: %v; want %v", i, by, c.by)
		}
	}
}

// P11.3: a text that is cut anywhere, or has something behind it.
func TestTakeCut(t *testing.T) {
	for _, parts := range slices.Concat(someParts(), greatParts()) {
		s := joined(parts)
		by := takeAll(t, s)
		for size := range len(s) {
			if cut := takeAll(t, s[:size]); cut[0] && by[0] || cut[1] && by[1] || cut[2] && by[2] || cut[3] || cut[4] {
				t.Errorf("%q, of %q, is taken: %v", s[:size], s, cut)
			}
		}
		for c := range 256 {
			more := takeAll(t, s+string([]byte{byte(c)}))
			if more[0] && by[0] || more[1] && by[1] || more[2] && by[2] || more[3] || more[4] {
				t.Errorf("%q, and the byte %d behind it, are taken: %v", s, c, more)
			}
		}
		for _, other := range someParts() {
			takeAll(t, s+joined(other))
		}
	}
}

// P11.3, P11.5: a text of which a byte is altered says another thing, or nothing.
func TestTakeAltered(t *testing.T) {
	for _, parts := range someParts() {
		b := []byte(joined(parts))
		for i, was := range b {
			for c := range 256 {
				b[i] = byte(c)
				takeAll(t, string(b))
			}
			b[i] = was
		}
	}
	for _, parts := range greatParts() {
		b := []byte(joined(parts))
		for i, was := range b {
			for _, c := range []byte{0, 1, was - 1, was + 1, was ^ 0x80, 255} {
				b[i] = c
				takeAll(t, string(b))
			}
			b[i] = was
		}
	}
}

// P11.3: a number that is written longer than it need be, anywhere.
func TestTakeLongNumbers(t *testing.T) {
	for _, parts := range slices.Concat(someParts(), greatParts()) {
		for i, part := range parts {
			longer := slices.Clone(parts)
			longer[i] = string([]byte{part[0] + 1, 0}) + part[1:]
			noneTakes(t, joined(longer))
		}
	}
}

// P11.3: what is in the place of each part is another one: a number for a text, a greater one, none.
func TestTakeOtherParts(t *testing.T) {
	others := []string{"", num(0), num(1), num(2), num(3), num(4), num(5), num(16), num(17), num(32), num(33), num(1000), num(1001), num(1 << 40), num(1<<40 + 1), num(api.MaxNumber), num(api.MaxNumber + 1), num(-1), str("a"), str("b"), str(fill(33)), str(fill(65))}
	for _, parts := range slices.Concat(someParts(), greatParts()) {
		for i := range parts {
			for _, other := range others {
				changed := slices.Clone(parts)
				changed[i] = other
				takeAll(t, joined(changed))
			}
			twice := slices.Insert(slices.Clone(parts), i, parts[i])
			takeAll(t, joined(twice))
		}
	}
}

// P11.3: a flag of a change is 0 or 1.
func TestTakeFlag(t *testing.T) {
	ahead := nums(7, 0, 5) + str("a") + nums(10, 0, 20, 0, 1, 1)
	for n, may := range map[int]bool{0: true, 1: true, 2: false, 3: false, 255: false, 256: false, 257: false, 1 << 32: false, api.MaxNumber: false} {
		x, e := cell.TakeIntent(ahead + num(n) + str(""))
		if may != (e == api.OK) || may && x.L[0].Del != (n == 1) || !may && (e != api.ErrSyntax || x.Id != 0 || len(x.L) > 0) {
			t.Errorf("the flag %d: %v, %d", n, x, e)
		}
	}
}

// P11.3, W6: a text says that there are more changes, or writes, than there can be.
func TestTakeCounts(t *testing.T) {
	x, r := anIntent(), aRecord()
	x.L, r.Writes = nil, nil
	intent, record := intentText(x), recordText(r)
	intent, record = intent[:len(intent)-1], record[:len(record)-1]
	for _, n := range []int{1, 2, 3, 15, 16, 17, 32, 33, 255, 256, 1 << 20, 1 << 31, 1 << 32, api.MaxNumber - 1, api.MaxNumber, api.MaxNumber + 1, -1} {
		noneTakes(t, intent+num(n))
		noneTakes(t, record+num(n))
		takeAll(t, intent+num(n)+nums(1, 0)+str("a"))
		takeAll(t, record+num(n)+str("a")+num(1))
	}
	many := strings.Repeat(nums(0, 0, 0), 1<<18)
	for _, n := range []int{16, 32, 1 << 18, api.MaxNumber} {
		noneTakes(t, intent+num(n)+many)
		noneTakes(t, record+num(n)+many)
	}
}

// P11.3, W6: long texts are none.
func TestTakeLong(t *testing.T) {
	for _, parts := range slices.Concat(someParts(), greatParts()) {
		for _, n := range []int{512, 1024, 2048, 4096, 1 << 20} {
			noneTakes(t, joined(parts)+strings.Repeat("\x00", n))
		}
	}
	for _, c := range []string{"\x00", "\x01", "\x07", "\x08", "\xff"} {
		noneTakes(t, strings.Repeat(c, 1<<22))
	}
}

// P11.3, W6: texts of which several parts are altered, cut, taken out, or put in.
func TestTakeDrawn(t *testing.T) {
	r := rand.New(rand.NewSource(3))
	all := slices.Concat(someParts(), greatParts())
	var pool []string
	for _, parts := range all {
		pool = append(pool, parts...)
	}
	var count [5]int
	for range 60000 {
		parts := slices.Clone(all[r.Intn(len(all))])
		for range r.Intn(4) {
			i := r.Intn(len(parts) + 1)
			switch r.Intn(4) {
			case 0:
				parts = slices.Insert(parts, i, pool[r.Intn(len(pool))])
			case 1:
				if i < len(parts) {
					parts = slices.Delete(parts, i, i+1)
				}
			default:
				if i < len(parts) {
					parts[i] = pool[r.Intn(len(pool))]
				}
			}
		}
		b := []byte(joined(parts))
		if len(b) > 0 && r.Intn(4) == 0 {
			b[r.Intn(len(b))] ^= 1 << r.Intn(8)
		}
		for i, taken := range takeAll(t, string(b)) {
			if taken {
				count[i]++
			}
		}
	}
	for i, n := range count {
		if n < 1000 {
			t.Errorf("of the kind %d only %d were taken", i, n)
		}
	}
}

// drawnText has few bytes of few kinds.
func drawnText(r *rand.Rand, least, most int) string {
	b := make([]byte, least+r.Intn(most-least+1))
	for i := range b {
		b[i] = "\x00\x01ab\xff"[r.Intn(5)]
	}
	return string(b)
}

func drawnNumber(r *rand.Rand, least, most int) int {
	if r.Intn(3) == 0 {
		return []int{least, most, least + 1, most - 1}[r.Intn(4)]
	}
	return least + r.Intn(most-least+1)>>r.Intn(50)
}

func drawnStamp(r *rand.Rand) api.Stamp {
	return api.Stamp{Wall: drawnNumber(r, 0, api.MaxWall), Logic: drawnNumber(r, 0, api.MaxLogic)}
}

func drawnIntent(r *rand.Rand) api.Intent {
	x := api.Intent{Id: drawnNumber(r, 1, api.MaxNumber), Epoch: drawnNumber(r, 0, api.MaxNumber), Priority: 1 + r.Intn(1000), Anchor: drawnText(r, 1, 32), Stamp: drawnStamp(r), Beat: drawnStamp(r)}
	seq := 0
	for range 1 + r.Intn(16) {
		seq += 1 + r.Intn(1000)>>r.Intn(10)
		c := api.Change{Seq: seq, Del: r.Intn(3) == 0}
		if !c.Del {
			c.Value = drawnText(r, 0, 64)
		}
		x.L = append(x.L, c)
	}
	return x
}

func drawnRecord(r *rand.Rand) api.Record {
	x := api.Record{Id: drawnNumber(r, 1, api.MaxNumber), Epoch: drawnNumber(r, 0, api.MaxNumber), Status: 1 + r.Intn(4), Priority: 1 + r.Intn(1000), Anchor: drawnText(r, 1, 32), Stamp: drawnStamp(r), Beat: drawnStamp(r)}
	if x.Status != api.StatusStaging {
		return x
	}
	var keys []string
	for range r.Intn(33) {
		keys = append(keys, drawnText(r, 1, 32))
	}
	slices.Sort(keys)
	for _, key := range slices.Compact(keys) {
		x.Writes = append(x.Writes, api.Write{Key: key, Seq: drawnNumber(r, 1, api.MaxNumber)})
	}
	return x
}

// P11.1, P11.3, P11.5: drawn intents and records are written as the words say, and read as they were.
func TestDrawnThings(t *testing.T) {
	r := rand.New(rand.NewSource(5))
	for range 20000 {
		x := drawnIntent(r)
		answers(t, cell.CheckIntent(x), api.OK)
		s := intentOf(t, x)
		back, e := cell.TakeIntent(s)
		if s != intentText(x) || e != api.OK || !reflect.DeepEqual(back, x) {
			t.Fatalf("%v is written %q, and read as %v, %d", x, s, back, e)
		}
		y := drawnRecord(r)
		answers(t, cell.CheckRecord(y), api.OK)
		s = recordOf(t, y)
		again, e := cell.TakeRecord(s)
		if s != recordText(y) || e != api.OK || !reflect.DeepEqual(plainRecord(again), y) {
			t.Fatalf("%v is written %q, and read as %v, %d", y, s, again, e)
		}
	}
}

// P11.5: two things of a kind that differ have texts that differ.
func TestTextsDiffer(t *testing.T) {
	written := map[string]api.Intent{}
	for _, c := range intents() {
		if !c.may {
			continue
		}
		s := intentOf(t, c.x)
		if other, has := written[s]; has && !reflect.DeepEqual(other, c.x) {
			t.Errorf("%v and %v are both %q", other, c.x, s)
		}
		written[s] = c.x
	}
	kept := map[string]api.Record{}
	for _, c := range records() {
		if !c.may {
			continue
		}
		s := recordOf(t, c.x)
		if other, has := kept[s]; has && !reflect.DeepEqual(other, plainRecord(c.x)) {
			t.Errorf("%v and %v are both %q", other, c.x, s)
		}
		kept[s] = plainRecord(c.x)
	}
	for i, x := range otherIntents(anIntent) {
		if s, e := cell.Intent(x); e == api.OK && s == intentOf(t, anIntent()) {
			t.Errorf("%d: %v has the text of %v", i, x, anIntent())
		}
	}
	for i, x := range otherRecords(aRecord) {
		if s, e := cell.Record(x); e == api.OK && s == recordOf(t, aRecord()) {
			t.Errorf("%d: %v has the text of %v", i, x, aRecord())
		}
	}
	stamps := map[string]api.Stamp{}
	for _, at := range oddStamps {
		s, e := cell.Stamp(at)
		answers(t, e, api.OK)
		if other, has := stamps[s]; has {
			t.Errorf("%v and %v are both %q", other, at, s)
		}
		stamps[s] = at
	}
}

// spare is a list with room behind it, in which something stands.
func spare[E any](l []E, behind ...E) []E {
	return slices.Concat(l, behind)[: len(l) : len(l)+len(behind)]
}

// P11.4: no call changes what it is handed, its spare room neither.
func TestHandedInIsOnlyRead(t *testing.T) {
	for _, c := range intents() {
		x, y := c.x, c.x
		x.L = spare(c.x.L, api.Change{Seq: 99, Value: "spare"}, api.Change{Seq: 98})
		y.L = spare(c.x.L, api.Change{Seq: 97, Value: "room"}, api.Change{Seq: 96})
		cell.CheckIntent(x)
		cell.Same(x, y)
		cell.Intent(x)
		want := spare(c.x.L, api.Change{Seq: 99, Value: "spare"}, api.Change{Seq: 98})
		if !slices.Equal(x.L[:cap(x.L)], want[:cap(want)]) || y.L[:cap(y.L)][len(y.L)].Value != "room" {
			t.Errorf("%s: the list became %v", c.what, x.L[:cap(x.L)])
		}
	}
	for _, c := range records() {
		x, y := c.x, c.x
		x.Writes = spare(c.x.Writes, api.Write{Key: "spare", Seq: 99}, api.Write{Key: "room"})
		y.Writes = spare(c.x.Writes, api.Write{Key: "other", Seq: 97})
		cell.CheckRecord(x)
		cell.SameRecord(x, y)
		cell.Record(x)
		want := spare(c.x.Writes, api.Write{Key: "spare", Seq: 99}, api.Write{Key: "room"})
		if !slices.Equal(x.Writes[:cap(x.Writes)], want[:cap(want)]) || y.Writes[:cap(y.Writes)][len(y.Writes)].Key != "other" {
			t.Errorf("%s: the list became %v", c.what, x.Writes[:cap(x.Writes)])
		}
	}
}

// P11.4: what is answered is written over, its spare room, too, and neither what was handed in nor what else was answered changes.
func TestAnsweredIsNew(t *testing.T) {
	x, s := anIntent(), intentText(anIntent())
	a, _ := cell.TakeIntent(s)
	b, _ := cell.TakeIntent(s)
	for i := range a.L[:cap(a.L)] {
		a.L[:cap(a.L)][i] = api.Change{Seq: 99, Value: "over"}
	}
	c, _ := cell.TakeIntent(s)
	if !reflect.DeepEqual(b, x) || !reflect.DeepEqual(c, x) || s != intentText(anIntent()) {
		t.Errorf("%v, %v", b, c)
	}
	y, s := aRecord(), recordText(aRecord())
	d, _ := cell.TakeRecord(s)
	e, _ := cell.TakeRecord(s)
	for i := range d.Writes[:cap(d.Writes)] {
		d.Writes[:cap(d.Writes)][i] = api.Write{Key: "over", Seq: 99}
	}
	f, _ := cell.TakeRecord(s)
	if !reflect.DeepEqual(e, y) || !reflect.DeepEqual(f, y) || s != recordText(aRecord()) {
		t.Errorf("%v, %v", e, f)
	}
}

// P11.4: what was handed in is written over, and what was answered stays.
func TestAnsweredStays(t *testing.T) {
	x := anIntent()
	s := intentOf(t, x)
	for i := range x.L {
		x.L[i] = api.Change{Seq: 99, Value: "over"}
	}
	y := aRecord()
	r := recordOf(t, y)
	for i := range y.Writes {
		y.Writes[i] = api.Write{Key: "over", Seq: 99}
	}
	if s != intentText(anIntent()) || r != recordText(aRecord()) {
		t.Errorf("the texts became %q, %q", s, r)
	}
}

// loose is a text whose bytes can be written over.
type loose []byte

func (b loose) text() string { return unsafe.String(&b[0], len(b)) }

func (b loose) over() {
	for i := range b {
		b[i] = 'x'
	}
}

// P11.4: the bytes of a text that was handed in are written over, and what was answered stays.
func TestAnsweredSharesNoText(t *testing.T) {
	b := loose(intentText(anIntent()))
	x, e := cell.TakeIntent(b.text())
	if b.over(); e != api.OK || !reflect.DeepEqual(x, anIntent()) {
		t.Errorf("TakeIntent: %v, %d", x, e)
	}
	b = loose(recordText(aRecord()))
	y, e := cell.TakeRecord(b.text())
	if b.over(); e != api.OK || !reflect.DeepEqual(y, aRecord()) {
		t.Errorf("TakeRecord: %v, %d", y, e)
	}
	b = loose(num(1) + str("value"))
	value, _, e := cell.TakeVersion(b.text())
	if b.over(); e != api.OK || value != "value" {
		t.Errorf("TakeVersion: %q, %d", value, e)
	}
	b = loose("vkey\x00\x00" + down(stampOf(7, 8)))
	key, _, e := cell.ReadVersion(b.text())
	if b.over(); e != api.OK || key != "key" {
		t.Errorf("ReadVersion: %q, %d", key, e)
	}
	b = loose("ikey\x00\x00")
	key, e = cell.ReadIntent(b.text())
	if b.over(); e != api.OK || key != "key" {
		t.Errorf("ReadIntent: %q, %d", key, e)
	}
	b = loose("tkey\x00\x00" + eight(7))
	key, _, e = cell.ReadRecord(b.text())
	if b.over(); e != api.OK || key != "key" {
		t.Errorf("ReadRecord: %q, %d", key, e)
	}
}

// P11.4: the bytes of a key, an anchor, or a value that was handed in are written over, and what was answered stays.
func TestWrittenSharesNoText(t *testing.T) {
	b := loose("key")
	i, _ := cell.IntentKey(b.text())
	r, _ := cell.RecordKey(b.text(), 7)
	v, _ := cell.VersionKey(b.text(), stampOf(7, 8))
	s, _ := cell.Version(b.text(), true)
	x := api.Intent{Id: 1, Priority: 1, Anchor: b.text(), L: []api.Change{{Seq: 1, Value: b.text()}}}
	y := api.Record{Id: 1, Status: api.StatusStaging, Priority: 1, Anchor: b.text(), Writes: []api.Write{{Key: b.text(), Seq: 1}}}
	intent, record := intentText(x), recordText(y)
	gotIntent, gotRecord := intentOf(t, x), recordOf(t, y)
	b.over()
	if i != "ikey\x00\x00" || r != "tkey\x00\x00"+eight(7) || v != "vkey\x00\x00"+down(stampOf(7, 8)) || s != num(1)+str("key") || gotIntent != intent || gotRecord != record {
		t.Errorf("%q, %q, %q, %q, %q, %q", i, r, v, s, gotIntent, gotRecord)
	}
}

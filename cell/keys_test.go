package cell_test

import (
	"cmp"
	"fmt"
	"math"
	"math/rand"
	"slices"
	"strings"
	"testing"

	"scriptorium/api"
	"scriptorium/cell"
)

// oddKeys rise, in the order of their bytes; of some one is the beginning of the next one.
var oddKeys = []string{
	"\x00", "\x00\x00", "\x00\x00\x00", "\x00\x00\x01", "\x00\x01", "\x00\x01\x00", "\x00\x02", "\x00\xff", "\x01", "\x01\x00", "\x01\x01", " ", "10", "9", "A", "Z",
	"a", "a\x00", "a\x00\x00", "a\x00\x01", "a\x00a", "a\x00\xff", "a\x01", "a\x01\x00", "aa", "aa\x00", "ab", "a\xff", "a\xff\xff", "b", "g", "i", "t", "v",
	strings.Repeat("x", 31), strings.Repeat("x", 31) + "\x00", strings.Repeat("x", 32), "z", "é", "é\x00", "\xff", "\xff\x00", "\xff\x01", "\xff\xff", "\xff\xff\xff",
}

var noKeys = []string{"", fill(33), fill(34), strings.Repeat("\x00", 33), strings.Repeat("\xff", 33), fill(500), fill(1000), fill(1001), strings.Repeat("\x00", 1001), fill(1 << 16)}

// oddStamps rise.
var oddStamps = []api.Stamp{
	{}, {Logic: 1}, {Logic: 255}, {Logic: 256}, {Logic: 1<<20 - 1}, {Wall: 1}, {Wall: 1, Logic: 1}, {Wall: 255}, {Wall: 256}, {Wall: 256, Logic: 1 << 16},
	{Wall: 1 << 24}, {Wall: 1<<32 - 1, Logic: 1<<20 - 1}, {Wall: 1 << 32}, {Wall: 1<<40 - 1}, {Wall: 1<<40 - 1, Logic: 1<<20 - 1}, {Wall: 1 << 40}, {Wall: 1 << 40, Logic: 1<<20 - 2}, {Wall: 1 << 40, Logic: 1<<20 - 1},
}

var noStamps = []api.Stamp{
	{Wall: -1}, {Logic: -1}, {Wall: -1, Logic: -1}, {Wall: 1<<40 + 1}, {Logic: 1 << 20}, {Wall: 1 << 40, Logic: 1 << 20}, {Wall: 1 << 48}, {Logic: 1 << 24},
	{Wall: math.MinInt}, {Wall: math.MaxInt}, {Logic: math.MinInt}, {Logic: math.MaxInt}, {Wall: 1<<40 - 1<<48}, {Logic: 1<<20 - 1<<24},
}

// oddIds rise.
var oddIds = []int{1, 2, 255, 256, 257, 1 << 16, 1 << 31, 1<<32 - 1, 1 << 32, 1 << 48, 1<<52 + 1, 1<<53 - 2, 1<<53 - 1}

var noIds = []int{0, -1, -2, 1 << 53, 1<<53 + 1, 1 << 55, 1 << 56, 1<<56 + 1, math.MaxInt, math.MinInt, math.MinInt + 1}

func is(t *testing.T, what, got string, e api.Errno, want string) {
	t.Helper()
	if got != want || e != api.OK {
		t.Errorf("%s: %q, %d; want %q", what, got, e, want)
	}
}

func refused(t *testing.T, what, got string, e api.Errno) {
	t.Helper()
	if got != "" || e != api.ErrArg {
		t.Errorf("%s: %q, %d; want ErrArg alone", what, got, e)
	}
}

// The chapter's examples of keys.
func TestKeyExamples(t *testing.T) {
	if cell.Bound() != "b" {
		t.Errorf("Bound: %q", cell.Bound())
	}
	k, e := cell.Threshold(2)
	is(t, "Threshold(2)", k, e, "g\x02")
	k, e = cell.Threshold(7)
	refused(t, "Threshold(7)", k, e)
	k, e = cell.IntentKey("a")
	is(t, "IntentKey(a)", k, e, "ia\x00\x00")
	k, e = cell.ReadIntent(k)
	is(t, "ReadIntent of that", k, e, "a")
}

// P11.2: some keys, byte by byte.
func TestKeysByBytes(t *testing.T) {
	k, e := cell.RecordKey("a\x00b", 7)
	is(t, "RecordKey", k, e, "ta\x00\x01b\x00\x00\x00\x00\x00\x00\x00\x00\x00\x07")
	k, e = cell.RecordKey("\xff", 1<<53-1)
	is(t, "RecordKey of the greatest id", k, e, "t\xff\x00\x00\x00\x1f\xff\xff\xff\xff\xff\xff")
	k, e = cell.RecordKey("\x01", 0x010203040506)
	is(t, "RecordKey of six bytes", k, e, "t\x01\x00\x00\x00\x00\x01\x02\x03\x04\x05\x06")
	k, e = cell.VersionKey("\x00", api.Stamp{Wall: 1 << 40, Logic: 1<<20 - 1})
	is(t, "VersionKey at the greatest stamp", k, e, "v\x00\x01\x00\x00\x00\x00\x00\x00\x00\x00\x00\x00\x00")
	k, e = cell.VersionKey("a", api.Stamp{})
	is(t, "VersionKey at the least stamp", k, e, "va\x00\x00\x01\x00\x00\x00\x00\x00\x0f\xff\xff")
	k, e = cell.VersionKey("a", api.Stamp{Wall: 1<<40 - 1, Logic: 1<<20 - 3})
	is(t, "VersionKey", k, e, "va\x00\x00\x00\x00\x00\x00\x00\x01\x00\x00\x02")
}

// P11.2: Threshold of each number that may be, and of others.
func TestThreshold(t *testing.T) {
	for n := 1; n <= 6; n++ {
		k, e := cell.Threshold(n)
		is(t, fmt.Sprint("Threshold ", n), k, e, "g"+string([]byte{byte(n)}))
	}
	for _, n := range []int{0, 7, 8, -1, -6, 255, 256, 257, 258, 1<<32 + 1, -255, math.MaxInt, math.MinInt, math.MinInt + 1} {
		k, e := cell.Threshold(n)
		refused(t, fmt.Sprint("Threshold ", n), k, e)
	}
}

// P11.2, P11.5: an intent's key of each key, and back.
func TestIntentKey(t *testing.T) {
	for _, key := range oddKeys {
		k, e := cell.IntentKey(key)
		is(t, fmt.Sprintf("IntentKey(%q)", key), k, e, "i"+ordered(key))
		back, e := cell.ReadIntent(k)
		is(t, fmt.Sprintf("ReadIntent(%q)", k), back, e, key)
	}
	for _, key := range noKeys {
		k, e := cell.IntentKey(key)
		refused(t, fmt.Sprintf("IntentKey(%.40q)", key), k, e)
	}
}

// P11.2, P11.5: a record's key of each anchor and id, and back.
func TestRecordKey(t *testing.T) {
	for _, anchor := range oddKeys {
		for _, id := range oddIds {
			k, e := cell.RecordKey(anchor, id)
			is(t, fmt.Sprintf("RecordKey(%q, %d)", anchor, id), k, e, "t"+ordered(anchor)+eight(id))
			back, n, e := cell.ReadRecord(k)
			is(t, fmt.Sprintf("ReadRecord(%q)", k), back, e, anchor)
			if n != id {
				t.Errorf("ReadRecord(%q): the id %d; want %d", k, n, id)
			}
		}
		for _, id := range noIds {
			k, e := cell.RecordKey(anchor, id)
			refused(t, fmt.Sprintf("RecordKey(%q, %d)", anchor, id), k, e)
		}
	}
	for _, anchor := range noKeys {
		for _, id := range slices.Concat(oddIds, noIds) {
			k, e := cell.RecordKey(anchor, id)
			refused(t, fmt.Sprintf("RecordKey(%.40q, %d)", anchor, id), k, e)
		}
	}
}

// P11.2, P11.5: a version's key of each key and stamp, and back.
func TestVersionKey(t *testing.T) {
	for _, key := range oddKeys {
		for _, s := range oddStamps {
			k, e := cell.VersionKey(key, s)
			is(t, fmt.Sprintf("VersionKey(%q, %v)", key, s), k, e, "v"+ordered(key)+down(s))
			back, at, e := cell.ReadVersion(k)
			is(t, fmt.Sprintf("ReadVersion(%q)", k), back, e, key)
			if at != s {
				t.Errorf("ReadVersion(%q): %v; want %v", k, at, s)
			}
		}
		for _, s := range noStamps {
			k, e := cell.VersionKey(key, s)
			refused(t, fmt.Sprintf("VersionKey(%q, %v)", key, s), k, e)
		}
	}
	for _, key := range noKeys {
		for _, s := range slices.Concat(oddStamps, noStamps) {
			k, e := cell.VersionKey(key, s)
			refused(t, fmt.Sprintf("VersionKey(%.40q, %v)", key, s), k, e)
		}
	}
}

// readAll hands a text to all three that read keys, and holds what they answer against the words; it tells how many of them read it.
func readAll(t *testing.T, k string) int {
	t.Helper()
	count := 0
	check := func(what string, got, want any, e api.Errno, may bool) {
		t.Helper()
		wanted := api.ErrSyntax
		if may {
			count++
			wanted = api.OK
		}
		if e != wanted || got != want {
			t.Fatalf("%s(%.200q): %v, %d; want %v, %d", what, k, got, e, want, wanted)
		}
	}
	type owner struct {
		key string
		id  int
		s   api.Stamp
	}
	key, e := cell.ReadIntent(k)
	name, behind, may := ofKey('i', k)
	if may = may && behind == ""; !may {
		name = ""
	}
	check("ReadIntent", key, name, e, may)

	key, id, e := cell.ReadRecord(k)
	want := owner{}
	name, behind, may = ofKey('t', k)
	if may = may && len(behind) == 8; may {
		n := 0
		for i := range 8 {
			n = n*256 + int(behind[i])
		}
		if may = mayId(n) && eight(n) == behind; may {
			want = owner{key: name, id: n}
		}
	}
	check("ReadRecord", owner{key: key, id: id}, want, e, may)

	key, s, e := cell.ReadVersion(k)
	want = owner{}
	name, behind, may = ofKey('v', k)
	if may = may && len(behind) == 9; may {
		at := api.Stamp{Wall: 1 << 40, Logic: 1<<20 - 1}
		for i := range 6 {
			at.Wall -= int(behind[i]) << (40 - 8*i)
		}
		for i := range 3 {
			at.Logic -= int(behind[6+i]) << (16 - 8*i)
		}
		if may = mayStamp(at); may {
			want = owner{key: name, s: at}
		}
	}
	check("ReadVersion", owner{key: key, s: s}, want, e, may)
	return count
}

// eachKind has keys of each kind, two and more of each.
func eachKind(t *testing.T) []string {
	t.Helper()
	l := []string{cell.Bound()}
	add := func(k string, e api.Errno) {
		t.Helper()
		answers(t, e, api.OK)
		l = append(l, k)
	}
	for n := 1; n <= 6; n++ {
		add(cell.Threshold(n))
	}
	for i, key := range []string{"a", "\x00", "a\x00\x01", "\xff", strings.Repeat("\x00", 32), fill(32)} {
		add(cell.IntentKey(key))
		add(cell.RecordKey(key, oddIds[i]))
		add(cell.RecordKey(key, api.MaxNumber))
		add(cell.VersionKey(key, oddStamps[i]))
		add(cell.VersionKey(key, oddStamps[len(oddStamps)-1-i]))
	}
	return l
}

// P11.2: keys of each kind are read by the one that reads that kind alone.
func TestReadEachKind(t *testing.T) {
	for _, k := range eachKind(t) {
		want := 1
		if k[0] == 'b' || k[0] == 'g' {
			want = 0
		}
		if n := readAll(t, k); n != want {
			t.Errorf("%q is read by %d", k, n)
		}
	}
}

// P11.2: a key that is cut anywhere, one with a byte more behind it, or ahead, and one that begins with another letter.
func TestReadAlmostKeys(t *testing.T) {
	for _, k := range eachKind(t) {
		for size := range len(k) {
			if n := readAll(t, k[:size]); n > 0 {
				t.Errorf("%q, of %q, is read by %d", k[:size], k, n)
			}
		}
		for c := range 256 {
			b := string([]byte{byte(c)})
			if n := readAll(t, k+b); n > 0 {
				t.Errorf("%q is read by %d", k+b, n)
			}
			readAll(t, b+k)
			if n := readAll(t, b+k[1:]); n > 0 && !strings.Contains("itv", b) {
				t.Errorf("%q is read by %d", b+k[1:], n)
			}
		}
		readAll(t, k+"\x00\x00")
		readAll(t, k+k)
		readAll(t, strings.ToUpper(k[:1])+k[1:])
	}
}

// P11.2, P11.5: a key of which a byte is altered is read as another one's, or not at all.
func TestReadAlteredKeys(t *testing.T) {
	for _, k := range eachKind(t) {
		b := []byte(k)
		for i := range b {
			for c := range 256 {
				b[i] = byte(c)
				readAll(t, string(b))
			}
			b[i] = k[i]
		}
	}
}

// P11.2: texts of the right form, of what may not be.
func TestReadOfNone(t *testing.T) {
	zero, nine := strings.Repeat("\x00", 8), strings.Repeat("\x00", 9)
	for _, k := range []string{
		"", "i", "t", "v", "x", "I", "ia", "ia\x00", "ia\x00\x02", "i\x00\x00", "t\x00\x00" + eight(1), "v\x00\x00" + nine,
		"ta\x00\x00" + zero, "ta\x00\x00" + eight(1<<53), "ta\x00\x00" + eight(1<<53+1), "ta\x00\x00" + eight(1<<56+1), "ta\x00\x00" + eight(-1), "ta\x00\x00" + eight(math.MinInt), "ta\x00\x00" + eight(math.MinInt+1), "ta\x00\x00" + eight(math.MaxInt),
		"ta\x00\x00\x00" + eight(1), "ta\x00\x00" + eight(1)[1:], "ta" + eight(1), "a\x00\x00", "a\x00\x00" + eight(1), "a\x00\x00" + nine,
		"va\x00\x00\x01\x00\x00\x00\x00\x01\x00\x00\x00", "va\x00\x00\xff\x00\x00\x00\x00\x00\x00\x00\x00", "va\x00\x00\x00\x00\x00\x00\x00\x00\x10\x00\x00", "va\x00\x00\x00\x00\x00\x00\x00\x00\xff\xff\xff",
		"va\x00\x00" + nine + "\x00", "va\x00\x00" + nine[1:], "va" + nine,
	} {
		if n := readAll(t, k); n > 0 {
			t.Errorf("%q is read by %d", k, n)
		}
	}
	for _, key := range noKeys {
		for _, k := range []string{"i" + ordered(key), "t" + ordered(key) + eight(7), "v" + ordered(key) + nine} {
			if n := readAll(t, k); n > 0 {
				t.Errorf("%.50q is read by %d", k, n)
			}
		}
	}
	long := strings.Repeat("x", 1<<20)
	for _, letter := range []string{"i", "t", "v"} {
		for _, k := range []string{long, "a\x00\x00" + long, strings.Repeat("\x00\x01", 1<<19), strings.Repeat("\x00", 1<<20)} {
			if n := readAll(t, letter+k); n > 0 {
				t.Errorf("a long key of %s is read", letter)
			}
		}
	}
}

// P11.2, W6: drawn texts of few bytes, some of which are keys.
func TestReadDrawnKeys(t *testing.T) {
	r := rand.New(rand.NewSource(11))
	count := 0
	for range 300000 {
		b := make([]byte, 1+r.Intn(16))
		for i := range b {
			b[i] = "\x00\x00\x00\x01a\xff"[r.Intn(6)]
		}
		b[0] = "bgitv"[r.Intn(5)]
		count += readAll(t, string(b))
	}
	if count < 1000 {
		t.Errorf("only %d were keys", count)
	}
}

// place is where a key stands, as the words say.
type place struct {
	text  string
	kind  int // by the letters' order
	key   string
	stamp api.Stamp
	shard int
	id    int
}

// asSaid orders by the kinds, the keys, then the greater stamp first.
func asSaid(a, b place) int {
	return cmp.Or(
		cmp.Compare(a.kind, b.kind),
		cmp.Compare(a.shard, b.shard),
		cmp.Compare(a.key, b.key),
		cmp.Compare(a.id, b.id),
		cmp.Compare(b.stamp.Wall, a.stamp.Wall),
		cmp.Compare(b.stamp.Logic, a.stamp.Logic),
	)
}

// P11.6: many keys of all kinds, sorted by their bytes.
func TestOrder(t *testing.T) {
	l := []place{{text: cell.Bound()}}
	add := func(x place, text string, e api.Errno) {
		t.Helper()
		answers(t, e, api.OK)
		x.text = text
		l = append(l, x)
	}
	for n := 1; n <= 6; n++ {
		k, e := cell.Threshold(n)
		add(place{kind: 1, shard: n}, k, e)
	}
	for _, key := range oddKeys {
		k, e := cell.IntentKey(key)
		add(place{kind: 2, key: key}, k, e)
		for _, id := range oddIds {
			k, e := cell.RecordKey(key, id)
			add(place{kind: 3, key: key, id: id}, k, e)
		}
		for _, s := range oddStamps {
			k, e := cell.VersionKey(key, s)
			add(place{kind: 4, key: key, stamp: s}, k, e)
		}
	}
	r := rand.New(rand.NewSource(6))
	r.Shuffle(len(l), func(i, j int) { l[i], l[j] = l[j], l[i] })
	slices.SortFunc(l, func(a, b place) int { return strings.Compare(a.text, b.text) })
	for i := 1; i < len(l); i++ {
		if asSaid(l[i-1], l[i]) >= 0 {
			t.Errorf("%+v stands ahead of %+v", l[i-1], l[i])
		}
	}
}

// P11.6: of drawn keys and stamps, by pairs.
func TestOrderOfPairs(t *testing.T) {
	r := rand.New(rand.NewSource(7))
	drawn := func() string {
		b := make([]byte, 1+r.Intn(4))
		for i := range b {
			b[i] = "\x00\x01\x02a\xff"[r.Intn(5)]
		}
		return string(b)
	}
	at := func() api.Stamp {
		return api.Stamp{Wall: r.Intn(3) << (8 * r.Intn(5)), Logic: r.Intn(3) << (8 * r.Intn(3))}
	}
	for range 100000 {
		a, b := place{key: drawn(), stamp: at()}, place{key: drawn(), stamp: at()}
		i, e := cell.VersionKey(a.key, a.stamp)
		j, f := cell.VersionKey(b.key, b.stamp)
		if e != api.OK || f != api.OK || strings.Compare(i, j) != asSaid(a, b) {
			t.Fatalf("versions %v and %v: %q, %q", a, b, i, j)
		}
		a.stamp, b.stamp = api.Stamp{}, api.Stamp{}
		i, e = cell.IntentKey(a.key)
		j, f = cell.IntentKey(b.key)
		if e != api.OK || f != api.OK || strings.Compare(i, j) != asSaid(a, b) {
			t.Fatalf("intents %v and %v: %q, %q", a, b, i, j)
		}
		a.id, b.id = 1+r.Intn(3)<<(8*r.Intn(6)), 1+r.Intn(3)<<(8*r.Intn(6))
		i, e = cell.RecordKey(a.key, a.id)
		j, f = cell.RecordKey(b.key, b.id)
		if e != api.OK || f != api.OK || strings.Compare(i, j) != asSaid(a, b) {
			t.Fatalf("records %v and %v: %q, %q", a, b, i, j)
		}
	}
}

package wal

import (
	"fmt"
	"reflect"
	"slices"
	"strings"
	"testing"

	"scriptorium/api"
	"scriptorium/disk"
	"scriptorium/frame"
)

// What follows makes a log's bytes from the words, apart from wal's own.

func num(n int) string {
	var b []byte
	for ; n > 0; n /= 256 {
		b = append([]byte{byte(n % 256)}, b...)
	}
	return string(append([]byte{byte(len(b))}, b...))
}

func nums(l ...int) string {
	var s string
	for _, n := range l {
		s += num(n)
	}
	return s
}

func text(s string) string {
	return num(len(s)) + s
}

func rec(s string) string {
	b, e := frame.Frame([]byte(s))
	if e != api.OK {
		panic(e)
	}
	return string(b)
}

func row(r api.Row) string {
	return rec(text(r.Key) + text(r.Value))
}

// inBatch is what is in a batch's record.
func inBatch(number int, l ...api.Op) string {
	var s strings.Builder
	s.WriteString(nums(number, len(l)))
	for _, op := range l {
		flag := 0
		if op.Del {
			flag = 1
		}
		s.WriteString(num(flag) + text(op.Key) + text(op.Value))
	}
	return s.String()
}

func head(turn, last int) string {
	return rec(nums(turn, last))
}

func baseOf(turn, last int, rows ...api.Row) string {
	var s strings.Builder
	s.WriteString(rec(nums(turn, last, len(rows))))
	for _, r := range rows {
		s.WriteString(row(r))
	}
	return s.String()
}

func logOf(turn, last int, batches ...[]api.Op) string {
	s := head(turn, last)
	for i, l := range batches {
		s += rec(inBatch(last+1+i, l...))
	}
	return s
}

// fill is so many bytes.
func fill(n int) string {
	return strings.Repeat("x", n)
}

func put1(key, value string) api.Op { return api.Op{Key: key, Value: value} }

func gone(key string) api.Op { return api.Op{Key: key, Del: true} }

func ops(l ...api.Op) []api.Op { return l }

// many are so many small changes.
func many(n int) []api.Op {
	var l []api.Op
	for i := range n {
		l = append(l, put1(fmt.Sprint(i), ""))
	}
	return l
}

// rowsTo are so many rows.
func rowsTo(n int) []api.Row {
	var l []api.Row
	for i := range n {
		l = append(l, api.Row{Key: fmt.Sprintf("%05d", i), Value: fmt.Sprint(i)})
	}
	return l
}

// numbered are some batches that differ.
func numbered(n int) [][]api.Op {
	var l [][]api.Op
	for i := range n {
		l = append(l, ops(put1(fmt.Sprint("k", i), fmt.Sprint(i)), gone("g")))
	}
	return l
}

func answers(t *testing.T, got, want api.Errno) {
	t.Helper()
	if got != want {
		t.Errorf("error %d; want %d", got, want)
	}
}

func well(t *testing.T, e api.Errno) {
	t.Helper()
	if e != api.OK {
		t.Fatalf("error %d; want none", e)
	}
}

// diskOf has such files, all synced: a name, its bytes, and so on.
func diskOf(t *testing.T, l ...string) *disk.Disk {
	t.Helper()
	d := disk.New()
	for i := 0; i < len(l); i += 2 {
		write(t, d, l[i], l[i+1])
	}
	return d
}

func write(t *testing.T, d *disk.Disk, name, s string) {
	t.Helper()
	well(t, d.Append(name, []byte(s)))
	well(t, d.Sync(name))
}

// files are all that a disk has.
func files(d *disk.Disk) []string {
	var l []string
	for _, name := range d.Names() {
		b, _ := d.Read(name)
		l = append(l, name, string(b))
	}
	return l
}

// has asks whether a disk has such files, and no more.
func has(t *testing.T, d *disk.Disk, want ...string) {
	t.Helper()
	if got := files(d); !slices.Equal(got, want) {
		t.Errorf("the disk has %.300q; want %.300q", got, want)
	}
}

// keeps asks which bytes stay if the power goes: those that are synced.
func keeps(t *testing.T, d *disk.Disk, want ...string) {
	t.Helper()
	d.Crash(nil)
	d.Boot()
	has(t, d, want...)
}

func isKept(t *testing.T, k Kept, rows []api.Row, batches ...[]api.Op) {
	t.Helper()
	if !slices.Equal(k.Rows, rows) {
		t.Errorf("rows %.300v; want %.300v", k.Rows, rows)
	}
	if !slices.EqualFunc(k.Batches, batches, slices.Equal[[]api.Op]) {
		t.Errorf("batches %.300v; want %.300v", k.Batches, batches)
	}
}

func counts(t *testing.T, w *Wal, last, synced int) {
	t.Helper()
	if w.Last() != last || w.Synced() != synced {
		t.Errorf("Last %d, Synced %d; want %d, %d", w.Last(), w.Synced(), last, synced)
	}
}

// opens opens a log that must have such rows and batches, of which the last one has that number.
func opens(t *testing.T, d *disk.Disk, last int, rows []api.Row, batches ...[]api.Op) *Wal {
	t.Helper()
	w, k, e := Open(d)
	well(t, e)
	isKept(t, k, rows, batches...)
	counts(t, w, last, last)
	return w
}

// refuses opens what must answer an error, and no log.
func refuses(t *testing.T, d *disk.Disk, want api.Errno) {
	t.Helper()
	w, k, e := Open(d)
	if w != nil || len(k.Rows) != 0 || len(k.Batches) != 0 || e != want {
		t.Errorf("Open: %v, %.300v, %d; want %d alone", w, k, e, want)
	}
}

func fresh(t *testing.T) (*disk.Disk, *Wal) {
	t.Helper()
	d := disk.New()
	return d, opens(t, d, 0, nil)
}

func adds(t *testing.T, w *Wal, want int, l ...api.Op) {
	t.Helper()
	n, e := w.Add(l)
	if n != want || e != api.OK {
		t.Fatalf("Add: %d, %d; want %d", n, e, want)
	}
}

// asksAll asks each call, which must answer that error, or 0.
func asksAll(t *testing.T, w *Wal, want api.Errno) {
	t.Helper()
	for range 2 {
		for _, l := range [][]api.Op{nil, many(1), many(128), many(129), ops(put1("", "")), ops(put1(fill(4097), ""))} {
			if n, e := w.Add(l); n != 0 || e != want {
				t.Errorf("Add: %d, %d; want %d", n, e, want)
			}
		}
		answers(t, w.Sync(), want)
		for _, l := range [][]api.Row{nil, rowsTo(1), rowsTo(10001), {{Key: ""}}} {
			answers(t, w.Checkpoint(l), want)
		}
		counts(t, w, 0, 0)
	}
}

// P8.1 to P8.4: the errors are the words' own.
func TestErrors(t *testing.T) {
	l := []api.Errno{api.OK, api.ErrNil, api.ErrArg, api.ErrLimit, api.ErrDead, api.ErrCorrupt}
	if !slices.Equal(l, []api.Errno{0, 1, 2, 5, 71, 80}) {
		t.Errorf("%d", l)
	}
}

// P8.1 to P8.4: the chapter's examples.
func TestExamples(t *testing.T) {
	d := disk.New()
	w := opens(t, d, 0, nil)
	counts(t, w, 0, 0)

	adds(t, w, 1, put1("a", "1"))
	adds(t, w, 2, put1("b", "2"), gone("a"))
	well(t, w.Sync())
	adds(t, w, 3, put1("c", "3"))
	d.Crash(nil)
	d.Boot()
	opens(t, d, 2, nil, ops(put1("a", "1")), ops(put1("b", "2"), gone("a")))

	d = disk.New()
	w = opens(t, d, 0, nil)
	adds(t, w, 1, put1("a", "1"))
	well(t, w.Checkpoint([]api.Row{{Key: "a", Value: "1"}}))
	adds(t, w, 2, put1("b", "2"))
	well(t, w.Sync())
	opens(t, d, 2, []api.Row{{Key: "a", Value: "1"}}, ops(put1("b", "2")))
}

// P8.1, P8.3, P8.4: the files have just the bytes that the words tell; the sums were reckoned apart from crc.
func TestBytes(t *testing.T) {
	const (
		head1  = "\x01\x03\x01\x01\x00\x42\x54\xfc\xdb"
		batch1 = "\x01\x0b\x01\x01\x01\x01\x00\x01\x01\x61\x01\x01\x31\xf8\x77\x2f\x70"
		batch2 = "\x01\x11\x01\x02\x01\x02\x00\x01\x01\x62\x01\x01\x32\x01\x01\x01\x01\x61\x00\x6b\x47\xd2\x79"
		base2  = "\x01\x06\x01\x02\x01\x02\x01\x01\xea\x5e\x28\x0d"
		row2   = "\x01\x06\x01\x01\x62\x01\x01\x32\xb1\xdc\x5a\x90"
		head2  = "\x01\x04\x01\x02\x01\x02\xfa\x1e\xf4\x7d"
	)
	d, w := fresh(t)
	has(t, d, "log", head1)
	adds(t, w, 1, put1("a", "1"))
	has(t, d, "log", head1+batch1)
	adds(t, w, 2, put1("b", "2"), gone("a"))
	has(t, d, "log", head1+batch1+batch2)
	well(t, w.Checkpoint([]api.Row{{Key: "b", Value: "2"}}))
	has(t, d, "base", base2+row2, "log", head2)

	d = diskOf(t, "base", base2+row2, "log", head2)
	opens(t, d, 2, []api.Row{{Key: "b", Value: "2"}})
	opens(t, diskOf(t, "log", head1+batch1+batch2), 2, nil, ops(put1("a", "1")), ops(put1("b", "2"), gone("a")))
}

// P8.1: a disk that is nil, that New did not make, or that is dead.
func TestOpenOfNone(t *testing.T) {
	refuses(t, nil, api.ErrNil)
	var zero disk.Disk
	refuses(t, &zero, api.ErrNil)
	refuses(t, new(disk.Disk), api.ErrNil)
	if !reflect.DeepEqual(zero, disk.Disk{}) {
		t.Error("a zero disk has changed")
	}
	for _, l := range [][]string{nil, {"base", "x"}, {"log", "x"}, {"next", "x"}, {"base", baseOf(2, 0), "log", head(2, 0), "next", ""}} {
		d := diskOf(t, l...)
		d.Crash(nil)
		refuses(t, d, api.ErrDead)
		refuses(t, d, api.ErrDead)
		d.Boot()
		has(t, d, l...)
	}
}

// P8.1: of an empty disk a log of the turn 1, with no batch ahead, which is synced; other files stay.
func TestOpenOfEmpty(t *testing.T) {
	d, _ := fresh(t)
	keeps(t, d, "log", head(1, 0))
	opens(t, d, 0, nil)

	d = diskOf(t, "a", "1", "logs", "2", "Base", "3")
	opens(t, d, 0, nil)
	keeps(t, d, "Base", "3", "a", "1", "log", head(1, 0), "logs", "2")
}

// P8.1: the file "next" is removed, alone and beside the others, whatever it has; also if an error is found behind that.
func TestOpenWithNext(t *testing.T) {
	next := []string{"", "x", baseOf(2, 0), baseOf(3, 9, rowsTo(2)...), head(1, 0)}
	for _, s := range next {
		d := diskOf(t, "next", s)
		opens(t, d, 0, nil)
		keeps(t, d, "log", head(1, 0))

		base, log := baseOf(2, 5, rowsTo(3)...), logOf(2, 5, numbered(2)...)
		d = diskOf(t, "base", base, "log", log, "next", s)
		opens(t, d, 7, rowsTo(3), numbered(2)...)
		keeps(t, d, "base", base, "log", log)

		d = diskOf(t, "log", logOf(1, 0, numbered(2)...), "next", s)
		opens(t, d, 2, nil, numbered(2)...)
		keeps(t, d, "log", logOf(1, 0, numbered(2)...))

		d = diskOf(t, "base", base, "next", s)
		opens(t, d, 5, rowsTo(3))
		keeps(t, d, "base", base, "log", head(2, 5))

		d = diskOf(t, "base", "x", "next", s)
		refuses(t, d, api.ErrCorrupt)
		keeps(t, d, "base", "x")
	}
}

// P8.1: a base that is whole tells its turn, its last batch's number, its rows; a log behind it goes on.
func TestOpenOfBase(t *testing.T) {
	long := []api.Row{{Key: "\x00", Value: ""}, {Key: "a", Value: fill(4096)}, {Key: "a\x00", Value: "\x00"}, {Key: "b\xff", Value: "\xff"}, {Key: fill(4096), Value: fill(4096)}}
	for _, rows := range [][]api.Row{nil, rowsTo(1), rowsTo(300), long, rowsTo(10000)} {
		for _, c := range []struct{ turn, last int }{{1, 0}, {1, 7}, {2, 0}, {2, 255}, {3, 256}, {1 << 40, 1 << 50}, {api.MaxNumber, api.MaxNumber}} {
			base := baseOf(c.turn, c.last, rows...)
			d := diskOf(t, "base", base)
			w := opens(t, d, c.last, rows)
			keeps(t, d, "base", base, "log", head(c.turn, c.last))
			w = opens(t, d, c.last, rows)
			if c.last < api.MaxNumber-1 {
				adds(t, w, c.last+1, put1("a", "1"))
				has(t, d, "base", base, "log", logOf(c.turn, c.last, ops(put1("a", "1"))))
				opens(t, d, c.last+1, rows, ops(put1("a", "1")))
			}
		}
	}
}

// P8.1: ErrCorrupt, unless a base is whole; nothing of it, nor of a log, changes.
func TestOpenOfBaseThatIsNotWhole(t *testing.T) {
	two := rowsTo(2)
	whole := baseOf(2, 5, two...)
	behind := row(two[0]) + row(two[1])
	bad := []string{
		"", "\x00", "\x08", "x",
		rec(""), rec(nums(2)), rec(nums(2, 5)), // no head
		rec(nums(2, 5, 2, 0)) + behind, rec(nums(2, 5, 2)+"\x01") + behind, rec(nums(2, 5)+"\x01") + behind,
		rec("\x01\x00"+nums(5, 2)) + behind, rec("\x08"+nums(5, 2)) + behind, rec(nums(2)+"\x07\x20\x00\x00\x00\x00\x00\x00"+num(2)) + behind,
		rec(nums(0, 5, 2)) + behind, rec(nums(0, 0, 0)), // the turns begin with 1
		rec(nums(2, 5, 1)) + behind, rec(nums(2, 5, 3)) + behind, rec(nums(2, 5, 0)) + behind, rec(nums(2, 5, api.MaxNumber)) + behind,
		behind, row(two[0]), // no head, but rows
		head(2, 5), head(2, 5) + behind,
		rec(nums(2, 5, 1)), rec(nums(2, 5, 1)) + rec(text("")+text("v")), // keys that may not be
		rec(nums(2, 5, 1)) + rec(text(fill(4097))+text("")), rec(nums(2, 5, 1)) + rec(text("k")+text(fill(4097))),
		rec(nums(2, 5, 1)) + rec(text("k")), rec(nums(2, 5, 1)) + rec(text("k")+"\x01"), rec(nums(2, 5, 1)) + rec(""),
		rec(nums(2, 5, 1)) + rec(text("k")+text("v")+"\x00"), rec(nums(2, 5, 1)) + rec(text("k")+"\x02\x01\x00v"), rec(nums(2, 5, 1)) + rec("\x09k"+text("v")),
		baseOf(2, 5, two[1], two[0]), baseOf(2, 5, two[0], two[0]), baseOf(2, 5, two[0], api.Row{Key: two[0].Key, Value: "other"}),
		baseOf(2, 5, api.Row{Key: "a\x00"}, api.Row{Key: "a"}), baseOf(2, 5, api.Row{Key: "\xff"}, api.Row{Key: "a"}),
		baseOf(2, 5, two[0], two[1], api.Row{Key: "00000a"}),
		baseOf(2, 5, rowsTo(10001)...),
		whole + "\x00", whole + "x", whole + "\x01", whole + "\x08", whole + row(api.Row{Key: "z"}), whole + head(2, 5), whole + whole,
	}
	for n := range whole { // cut anywhere
		bad = append(bad, whole[:n])
	}
	for _, s := range bad {
		d := diskOf(t, "base", s)
		refuses(t, d, api.ErrCorrupt)
		keeps(t, d, "base", s)
		for _, log := range []string{logOf(2, 5, numbered(1)...), head(1, 0), head(2, 5), "", head(2, 5)[:3]} {
			d := diskOf(t, "base", s, "log", log)
			refuses(t, d, api.ErrCorrupt)
			keeps(t, d, "base", s, "log", log)
		}
	}
	opens(t, diskOf(t, "base", whole), 5, two)
}

// P8.1: a log of the base's turn and number goes on; one of a turn below gives way to a new one, whatever stands in it; one of a turn above is refused.
func TestOpenByTurns(t *testing.T) {
	rows := rowsTo(2)
	base := baseOf(5, 7, rows...)
	for _, n := range []int{0, 1, 20} {
		log := logOf(5, 7, numbered(n)...)
		d := diskOf(t, "base", base, "log", log)
		opens(t, d, 7+n, rows, numbered(n)...)
		keeps(t, d, "base", base, "log", log)
	}
	for _, turn := range []int{1, 2, 4} {
		for _, last := range []int{0, 6, 7, 8, api.MaxNumber} {
			for _, behind := range []string{"", "x", "\x08", rec(inBatch(last+1, many(1)...)), rec(inBatch(3, many(1)...)), rec("x"), rec(""), rec(inBatch(last+1, many(1)...))[:5], head(5, 7)} {
				d := diskOf(t, "base", base, "log", head(turn, last)+behind)
				opens(t, d, 7, rows)
				keeps(t, d, "base", base, "log", head(5, 7))
			}
		}
	}
	for _, turn := range []int{6, 7, 256, api.MaxNumber} {
		for _, last := range []int{0, 7, 8} {
			for _, behind := range []string{"", rec(inBatch(last+1, many(1)...)), "\x01"} {
				d := diskOf(t, "base", base, "log", head(turn, last)+behind)
				refuses(t, d, api.ErrCorrupt)
				keeps(t, d, "base", base, "log", head(turn, last)+behind)
			}
		}
	}
	for _, last := range []int{0, 1, 6, 8, 9, api.MaxNumber} {
		for _, behind := range []string{"", rec(inBatch(last+1, many(1)...)), rec(inBatch(8, many(1)...)), "\x01"} {
			d := diskOf(t, "base", base, "log", head(5, last)+behind)
			refuses(t, d, api.ErrCorrupt)
			keeps(t, d, "base", base, "log", head(5, last)+behind)
		}
	}
}

// P8.1: without a base the turn is 1, and no batch is ahead.
func TestOpenOfLogAlone(t *testing.T) {
	opens(t, diskOf(t, "log", head(1, 0)), 0, nil)
	opens(t, diskOf(t, "log", logOf(1, 0, numbered(3)...)), 3, nil, numbered(3)...)
	for _, log := range []string{head(2, 0), head(1, 1), head(2, 2), head(api.MaxNumber, 0), logOf(2, 0, numbered(1)...), logOf(1, 1, numbered(1)...), head(0, 0)} {
		d := diskOf(t, "log", log)
		refuses(t, d, api.ErrCorrupt)
		keeps(t, d, "log", log)
	}
}

// P8.1: a head that is torn gives way to a new one; one that is neither whole nor torn is refused.
func TestOpenByHeads(t *testing.T) {
	rows := rowsTo(2)
	base := baseOf(300, 70000, rows...)
	torn := []string{"\x01", "\x07", "\x01\x03", "\x02\x01\x00\x01", "\x03\x01\x00\x00" + fill(70), "\x02\x00"}
	for _, s := range []string{head(300, 70000), head(299, 1), head(301, 70000), head(300, 1)} {
		for n := range s {
			torn = append(torn, s[:n])
		}
	}
	for _, s := range torn {
		d := diskOf(t, "base", base, "log", s)
		opens(t, d, 70000, rows)
		keeps(t, d, "base", base, "log", head(300, 70000))

		d = diskOf(t, "log", s)
		w := opens(t, d, 0, nil)
		adds(t, w, 1, many(1)...)
		has(t, d, "log", logOf(1, 0, many(1)))
	}
	whole := head(300, 70000)
	bad := []string{
		"\x08", "\x01\x00", "\xff", "x", "\x03\x01\x00\x01" + fill(70), // syntax, limits
		whole[:len(whole)-1] + "?", "\x01\x00" + whole, // sums
		rec(""), rec(nums(300)), rec(nums(300, 70000, 0)), rec(nums(300, 70000) + "\x01"), rec(nums(300) + "\x01"), rec("\x08"), rec(nums(300) + "\x02\x00\x01"),
		rec(nums(0, 70000)), rec(nums(0, 0)), // the turns begin with 1
		baseOf(300, 70000), rec(inBatch(70001, many(1)...)), rec(fill(70)),
	}
	for _, s := range bad {
		for _, behind := range []string{"", rec(inBatch(70001, many(1)...)), "\x01", fill(70)} {
			d := diskOf(t, "base", base, "log", s+behind)
			refuses(t, d, api.ErrCorrupt)
			keeps(t, d, "base", base, "log", s+behind)
			d = diskOf(t, "log", s+behind)
			refuses(t, d, api.ErrCorrupt)
			keeps(t, d, "log", s+behind)
		}
	}
}

// P8.1: batches are numbered on, one more each; ErrCorrupt, if a whole record is no such batch.
func TestOpenOfBatches(t *testing.T) {
	one := many(1)
	good := [][]api.Op{
		one, many(2), many(128), ops(gone("a")), ops(put1("a", "")), ops(put1(fill(4096), fill(4096)), gone(fill(4096))),
		ops(put1("a", "1"), gone("a"), put1("a", "2"), put1("a", "2")), ops(put1("z", ""), put1("a", "")), ops(put1("\x00", "\xff\x00")),
	}
	log := logOf(1, 0, good...)
	d := diskOf(t, "log", log)
	opens(t, d, len(good), nil, good...)
	keeps(t, d, "log", log)

	op := num(0) + text("k") + text("v")
	bad := []string{
		"", num(3), nums(3, 0), nums(3, 1), nums(3, 1, 0), nums(3, 1, 0) + text("k"), nums(3, 1) + text("k") + text("v"), // too short
		nums(3, 1) + op + "\x00", nums(3, 1) + op + op, nums(3, 2) + op, nums(3, 0) + op, // more or fewer than it tells
		inBatch(2, one...), inBatch(1, one...), inBatch(0, one...), inBatch(4, one...), inBatch(api.MaxNumber, one...), // numbers that repeat, skip
		inBatch(3, many(129)...), nums(3, api.MaxNumber) + op, nums(3, 128) + op, nums(3, 129) + strings.Repeat(op, 129),
		inBatch(3, put1("", "v")), inBatch(3, gone("")), inBatch(3, one[0], put1("", "")),
		inBatch(3, put1(fill(4097), "")), inBatch(3, put1("k", fill(4097))), inBatch(3, gone(fill(4097))),
		inBatch(3, api.Op{Key: "k", Value: "v", Del: true}), inBatch(3, one[0], api.Op{Key: "k", Value: "v", Del: true}),
		nums(3, 1, 2) + text("k") + text(""), nums(3, 1, 2) + text("k") + text("v"), nums(3, 1, 256) + text("k") + text(""), nums(3, 1, 257) + text("k") + text(""),
		"\x02\x00\x03" + num(1) + op, "\x08" + num(1) + op, num(3) + "\x01\x00" + op, nums(3, 1) + "\x01\x00" + text("k") + text("v"),
		nums(3, 1, 0) + "\x02\x00\x01k" + text("v"), nums(3, 1, 0) + text("k") + "\x01\x02v", nums(3, 1, 0) + "\x09" + "k" + text("v"),
		nums(1, 0), nums(1, 1), fill(9),
	}
	for _, s := range bad {
		for _, behind := range []string{"", rec(inBatch(3, one...)), rec(inBatch(4, one...)), "\x01"} {
			log := logOf(1, 0, one, many(2)) + rec(s) + behind
			d := diskOf(t, "log", log)
			refuses(t, d, api.ErrCorrupt)
			keeps(t, d, "log", log)
			base := baseOf(4, 0, rowsTo(1)...)
			log = logOf(4, 0, one, many(2)) + rec(s) + behind
			d = diskOf(t, "base", base, "log", log)
			refuses(t, d, api.ErrCorrupt)
			keeps(t, d, "base", base, "log", log)
		}
	}
	// The first one is held to it as well.
	for _, number := range []int{0, 1, 5, 7} {
		d := diskOf(t, "base", baseOf(4, 5), "log", head(4, 5)+rec(inBatch(number, one...)))
		refuses(t, d, api.ErrCorrupt)
	}
	opens(t, diskOf(t, "base", baseOf(4, 5), "log", head(4, 5)+rec(inBatch(6, one...))), 6, nil, one)
}

// P8.1: a torn end is cut off, and the file is synced; batches are added behind what is whole.
func TestOpenWithTornEnd(t *testing.T) {
	whole := logOf(1, 0, many(1), many(3))
	last := rec(inBatch(3, put1("key", "value"), gone("k")))
	ends := []string{"\x07", "\x02\xff", "\x03\x01\x00\x00" + fill(65535), "\x02\x01\x00" + last}
	for n := 1; n < len(last); n++ {
		ends = append(ends, last[:n])
	}
	for _, end := range ends {
		d := diskOf(t, "log", whole+end)
		w := opens(t, d, 2, nil, many(1), many(3))
		keeps(t, d, "log", whole)
		adds(t, w, 3, many(2)...)
		opens(t, d, 3, nil, many(1), many(3), many(2))
		has(t, d, "log", logOf(1, 0, many(1), many(3), many(2)))
	}
	for _, end := range ends {
		d := diskOf(t, "base", baseOf(2, 9), "log", head(2, 9)+end) // behind a head alone
		opens(t, d, 9, nil)
		keeps(t, d, "base", baseOf(2, 9), "log", head(2, 9))
	}
	d := diskOf(t, "log", whole+last)
	opens(t, d, 3, nil, many(1), many(3), ops(put1("key", "value"), gone("k")))
}

// P8.1: ErrCorrupt, if what stands behind the last whole record is neither nothing nor torn.
func TestOpenWithBadEnd(t *testing.T) {
	next := rec(inBatch(3, many(1)...))
	bad := []string{
		"\x08", "\xff", "x", "\x01\x00", "\x02\x00\x01", "\x07\x20\x00\x00\x00\x00\x00\x00", // syntax
		"\x03\x01\x00\x01", "\x03\x01\x00\x01" + fill(70), // more than a record may have
		"\x00\x00\x00\x00\x00", next[:len(next)-1] + "?", next[:4] + "?" + next[5:], next[:len(next)-1] + "?" + next, // sums
	}
	for _, end := range bad {
		for _, whole := range []string{head(1, 0), logOf(1, 0, many(1), many(3))} {
			d := diskOf(t, "log", whole+end)
			refuses(t, d, api.ErrCorrupt)
			keeps(t, d, "log", whole+end)
		}
	}
}

// P8.1: what was not synced, but stands there, is kept by Open.
func TestOpenSyncs(t *testing.T) {
	for _, torn := range []string{"", rec(inBatch(3, many(1)...))[:6]} {
		d := disk.New()
		whole := logOf(1, 0, many(1), many(2))
		well(t, d.Append("log", []byte(whole+torn)))
		opens(t, d, 2, nil, many(1), many(2))
		keeps(t, d, "log", whole)
	}
}

// P8.1: a log that was opened, opened again at once, and once more behind some batches.
func TestOpenAgain(t *testing.T) {
	d, _ := fresh(t)
	w := opens(t, d, 0, nil)
	has(t, d, "log", head(1, 0))
	adds(t, w, 1, many(1)...)
	adds(t, w, 2, many(2)...)
	counts(t, w, 2, 0)
	w = opens(t, d, 2, nil, many(1), many(2))
	w = opens(t, d, 2, nil, many(1), many(2))
	adds(t, w, 3, many(3)...)
	well(t, w.Checkpoint(rowsTo(4)))
	w = opens(t, d, 3, rowsTo(4))
	adds(t, w, 4, many(4)...)
	w = opens(t, d, 4, rowsTo(4), many(4))
	well(t, w.Checkpoint(rowsTo(5)))
	well(t, w.Checkpoint(rowsTo(6)))
	opens(t, d, 4, rowsTo(6))
	keeps(t, d, "base", baseOf(4, 4, rowsTo(6)...), "log", head(4, 4))
}

// P8.1: the disk's first error is answered, be it that there is no room.
func TestOpenWithoutRoom(t *testing.T) {
	d := disk.New()
	for i := range 20 {
		write(t, d, fmt.Sprint("f", i), "")
	}
	refuses(t, d, api.ErrFull)
	well(t, d.Remove("f7"))
	opens(t, d, 0, nil)

	d = diskOf(t, "f", fill(1<<22-len(head(1, 0))+1))
	refuses(t, d, api.ErrFull)
	d = diskOf(t, "f", fill(1<<22-len(head(1, 0))))
	opens(t, d, 0, nil)
}

// P8.2: of a log that is none: ErrNil, 0; nothing is done, and it stays none.
func TestOfNone(t *testing.T) {
	var zero Wal
	for _, w := range []*Wal{nil, {}, new(Wal), &zero} {
		asksAll(t, w, api.ErrNil)
	}
	if !reflect.DeepEqual(zero, Wal{}) {
		t.Errorf("a zero log has become %v", zero)
	}
}

// P8.2: a log whose disk has answered an error is broken, for good, also if that was no ErrDead, and when the disk is alive again.
func TestBroken(t *testing.T) {
	ways := map[string]func(d *disk.Disk, w *Wal) api.Errno{
		"Add, dead":         func(d *disk.Disk, w *Wal) api.Errno { d.Crash(nil); return addOne(w) },
		"Sync, dead":        func(d *disk.Disk, w *Wal) api.Errno { d.Crash(nil); return w.Sync() },
		"Checkpoint, dead":  func(d *disk.Disk, w *Wal) api.Errno { d.Crash(nil); return w.Checkpoint(nil) },
		"Add, fails":        func(d *disk.Disk, w *Wal) api.Errno { d.Fail(0, nil); return addOne(w) },
		"Sync, fails":       func(d *disk.Disk, w *Wal) api.Errno { d.Fail(0, nil); return w.Sync() },
		"Checkpoint, fails": func(d *disk.Disk, w *Wal) api.Errno { d.Fail(5, nil); return w.Checkpoint(nil) },
	}
	for name, way := range ways {
		d, w := fresh(t)
		adds(t, w, 1, many(1)...)
		well(t, w.Sync())
		if e := way(d, w); e != api.ErrDead {
			t.Errorf("%s: %d", name, e)
		}
		asksAll(t, w, api.ErrDead)
		d.Boot()
		before := files(d)
		asksAll(t, w, api.ErrDead)
		has(t, d, before...)
		if _, _, e := Open(d); e != api.OK {
			t.Errorf("%s: Open: %d", name, e)
		}
	}
	other := map[string]struct {
		way  func(d *disk.Disk, w *Wal) api.Errno
		want api.Errno
	}{
		"Add, full":           {func(d *disk.Disk, w *Wal) api.Errno { stuff(d); return addOne(w) }, api.ErrFull},
		"Checkpoint, full":    {func(d *disk.Disk, w *Wal) api.Errno { stuff(d); return w.Checkpoint(nil) }, api.ErrFull},
		"Sync, no log":        {func(d *disk.Disk, w *Wal) api.Errno { d.Remove("log"); return w.Sync() }, api.ErrName},
		"Checkpoint, no log":  {func(d *disk.Disk, w *Wal) api.Errno { d.Remove("log"); return w.Checkpoint(nil) }, api.ErrName},
		"Checkpoint, too big": {func(d *disk.Disk, w *Wal) api.Errno { return w.Checkpoint(hugeRows()) }, api.ErrFull},
	}
	for name, c := range other {
		d, w := fresh(t)
		adds(t, w, 1, many(1)...)
		if e := c.way(d, w); e != c.want {
			t.Errorf("%s: %d; want %d", name, e, c.want)
		}
		asksAll(t, w, api.ErrDead)
	}
}

func addOne(w *Wal) api.Errno {
	n, e := w.Add(many(1))
	if e != api.OK && n != 0 {
		return -1
	}
	return e
}

// stuff leaves no room on the disk.
func stuff(d *disk.Disk) {
	size := 0
	for _, name := range d.Names() {
		n, _ := d.Size(name)
		size += n
	}
	d.Append("stuff", make([]byte, 1<<22-size))
}

// hugeRows may be, but are more than a disk takes.
func hugeRows() []api.Row {
	var l []api.Row
	for i := range 1100 {
		l = append(l, api.Row{Key: fmt.Sprintf("%04096d", i), Value: fill(4096)})
	}
	return l
}

// P8.2: that the disk is dead, or lost something, the log does not know ahead of asking it.
func TestNotYetBroken(t *testing.T) {
	d, w := fresh(t)
	adds(t, w, 1, many(1)...)
	well(t, w.Sync())
	d.Crash(nil)
	if n, e := w.Add(nil); n != 0 || e != api.ErrArg {
		t.Errorf("%d, %d", n, e)
	}
	if n, e := w.Add(many(129)); n != 0 || e != api.ErrLimit {
		t.Errorf("%d, %d", n, e)
	}
	answers(t, w.Checkpoint([]api.Row{{}}), api.ErrArg)
	answers(t, w.Checkpoint(rowsTo(10001)), api.ErrLimit)
	counts(t, w, 1, 1)
	d.Boot()
	adds(t, w, 2, many(2)...)
	well(t, w.Sync())
	opens(t, d, 2, nil, many(1), many(2))
}

// P8.3: batches that may be are numbered on, and written at the file's end; Last, Synced behind each call.
func TestAdd(t *testing.T) {
	good := [][]api.Op{
		many(1), many(127), many(128), ops(gone("a")), ops(put1("a", "")), ops(put1("a", "1"), gone("a"), put1("a", "1"), put1("a", "1")),
		ops(put1("k", fill(4096))), ops(put1(fill(4096), "")), ops(put1(fill(4096), fill(4096)), gone(fill(4096))), ops(put1("z", "\x00\xff"), put1("\x00", "z")),
	}
	d, w := fresh(t)
	for i, l := range good {
		adds(t, w, i+1, l...)
		counts(t, w, i+1, 0)
		has(t, d, "log", logOf(1, 0, good[:i+1]...))
	}
	well(t, w.Sync())
	counts(t, w, len(good), len(good))
	keeps(t, d, "log", logOf(1, 0, good...))
	opens(t, d, len(good), nil, good...)
}

// P8.3: what may not be is refused, ErrLimit ahead of ErrArg; nothing changes.
func TestAddRefuses(t *testing.T) {
	keyTooLong, valueTooLong := put1(fill(4097), ""), put1("k", fill(4097))
	noKey, delWithValue := put1("", "v"), api.Op{Key: "k", Value: "v", Del: true}
	fine := put1("k", "v")
	cases := []struct {
		l    []api.Op
		want api.Errno
	}{
		{many(129), api.ErrLimit}, {many(1000), api.ErrLimit},
		{ops(keyTooLong), api.ErrLimit}, {ops(valueTooLong), api.ErrLimit}, {ops(gone(fill(4097))), api.ErrLimit}, {ops(put1(fill(9000), fill(9000))), api.ErrLimit},
		{ops(fine, fine, keyTooLong), api.ErrLimit}, {ops(fine, valueTooLong, fine), api.ErrLimit},
		{nil, api.ErrArg}, {ops(), api.ErrArg}, {ops(noKey), api.ErrArg}, {ops(put1("", "")), api.ErrArg}, {ops(gone("")), api.ErrArg}, {ops(delWithValue), api.ErrArg},
		{ops(fine, noKey), api.ErrArg}, {ops(fine, delWithValue, fine), api.ErrArg}, {append(many(127), noKey), api.ErrArg},
		// Two of them would do.
		{append(many(128), noKey), api.ErrLimit}, {append(many(128), delWithValue), api.ErrLimit},
		{ops(put1("", fill(4097))), api.ErrLimit}, {ops(api.Op{Key: fill(4097), Value: "v", Del: true}), api.ErrLimit}, {ops(api.Op{Key: "k", Value: fill(4097), Del: true}), api.ErrLimit},
		{ops(noKey, keyTooLong), api.ErrLimit}, {ops(noKey, valueTooLong), api.ErrLimit}, {ops(delWithValue, keyTooLong), api.ErrLimit}, {ops(keyTooLong, noKey), api.ErrLimit}, {ops(valueTooLong, delWithValue), api.ErrLimit},
		{append(slices.Repeat(ops(put1(fill(4096), fill(4096))), 20), noKey), api.ErrArg}, {append(slices.Repeat(ops(put1(fill(4096), fill(4096))), 20), delWithValue), api.ErrArg},
		{slices.Repeat(ops(put1(fill(4096), fill(4096))), 8), api.ErrLimit}, {slices.Repeat(ops(put1(fill(4096), fill(4096))), 128), api.ErrLimit},
	}
	d, w := fresh(t)
	adds(t, w, 1, fine)
	well(t, w.Sync())
	adds(t, w, 2, fine)
	before := files(d)
	for i, c := range cases {
		if n, e := w.Add(c.l); n != 0 || e != c.want {
			t.Errorf("%d: %d, %d; want %d", i, n, e, c.want)
		}
		counts(t, w, 2, 1)
		has(t, d, before...)
	}
	adds(t, w, 3, fine)
	opens(t, d, 3, nil, ops(fine), ops(fine), ops(fine))
}

// P8.3: a record has at most 65536 bytes in it.
func TestAddOfLongRecord(t *testing.T) {
	const whole = 4 + 7*(1+3+4096+3+4096) // of seven changes as long as may be, and what is ahead
	l := slices.Repeat(ops(put1(fill(4096), fill(4096))), 7)
	rest := 65536 - whole - (1 + 3 + 3) // in the text of one more
	full := append(slices.Clone(l), put1(fill(4090), fill(rest-4090)))
	over := append(slices.Clone(l), put1(fill(4090), fill(rest-4090+1)))
	for _, c := range []struct {
		l    []api.Op
		size int
	}{{full, 65536}, {over, 65537}} {
		if n := len(inBatch(1, c.l...)); n != c.size {
			t.Fatalf("%d bytes; want %d", n, c.size)
		}
	}
	d, w := fresh(t)
	if n, e := w.Add(over); n != 0 || e != api.ErrLimit {
		t.Errorf("%d, %d", n, e)
	}
	has(t, d, "log", head(1, 0))
	adds(t, w, 1, full...)
	opens(t, d, 1, nil, full)

	// The number counts, too: 255 has one byte, 256 has two.
	d = diskOf(t, "base", baseOf(2, 254))
	w = opens(t, d, 254, nil)
	adds(t, w, 255, full...)
	if n, e := w.Add(full); n != 0 || e != api.ErrLimit {
		t.Errorf("%d, %d", n, e)
	}
	adds(t, w, 256, many(1)...)
	opens(t, d, 256, nil, full, many(1))
}

// P8.3: no batch is written with the number 2^53 - 1, nor with one behind that; nothing changes.
func TestAddNearTheLastNumber(t *testing.T) {
	// So many can be added yet; behind 2^53 - 2, and behind 2^53 - 1, none.
	for _, c := range []struct{ ahead, left int }{{api.MaxNumber - 4, 3}, {api.MaxNumber - 3, 2}, {api.MaxNumber - 2, 1}, {api.MaxNumber - 1, 0}, {api.MaxNumber, 0}} {
		d := diskOf(t, "base", baseOf(2, c.ahead))
		w := opens(t, d, c.ahead, nil)
		for i := range c.left {
			adds(t, w, c.ahead+1+i, many(1)...)
		}
		last := c.ahead + c.left
		before := files(d)
		for _, synced := range []int{c.ahead, last} {
			refusesTheNumber(t, w)
			counts(t, w, last, synced)
			well(t, w.Sync())
		}
		has(t, d, before...)
		w = opens(t, d, last, nil, slices.Repeat([][]api.Op{many(1)}, c.left)...)
		refusesTheNumber(t, w)
		has(t, d, before...)
		well(t, w.Checkpoint(rowsTo(2)))
		refusesTheNumber(t, w)
		opens(t, d, last, rowsTo(2))
		keeps(t, d, "base", baseOf(3, last, rowsTo(2)...), "log", head(3, last))
	}
}

// refusesTheNumber asks whether Add refuses a batch by its number, behind what is wrong with its changes.
func refusesTheNumber(t *testing.T, w *Wal) {
	t.Helper()
	for _, c := range []struct {
		l    []api.Op
		want api.Errno
	}{{many(1), api.ErrLimit}, {many(128), api.ErrLimit}, {ops(gone("a")), api.ErrLimit}, {nil, api.ErrArg}, {ops(put1("", "")), api.ErrArg}, {many(129), api.ErrLimit}} {
		if n, e := w.Add(c.l); n != 0 || e != c.want {
			t.Errorf("%d, %d; want 0, %d", n, e, c.want)
		}
	}
}

// P8.1: what Open reads may have the number 2^53 - 1, in a head or of a batch, though Add writes none.
func TestOpenOfTheLastNumber(t *testing.T) {
	base, log := baseOf(2, api.MaxNumber-3, rowsTo(1)...), logOf(2, api.MaxNumber-3, numbered(3)...)
	d := diskOf(t, "base", base, "log", log)
	w := opens(t, d, api.MaxNumber, rowsTo(1), numbered(3)...)
	refusesTheNumber(t, w)
	keeps(t, d, "base", base, "log", log)
	w = opens(t, d, api.MaxNumber, rowsTo(1), numbered(3)...)
	well(t, w.Checkpoint(rowsTo(2)))
	w = opens(t, d, api.MaxNumber, rowsTo(2))
	refusesTheNumber(t, w)
	keeps(t, d, "base", baseOf(3, api.MaxNumber, rowsTo(2)...), "log", head(3, api.MaxNumber))
}

// P8.3: Sync keeps what was added, and can be asked again.
func TestSync(t *testing.T) {
	d, w := fresh(t)
	well(t, w.Sync())
	counts(t, w, 0, 0)
	for i := range 3 {
		adds(t, w, 2*i+1, many(1)...)
		counts(t, w, 2*i+1, 2*i)
		adds(t, w, 2*i+2, many(2)...)
		counts(t, w, 2*i+2, 2*i)
		well(t, w.Sync())
		counts(t, w, 2*i+2, 2*i+2)
		well(t, w.Sync())
		counts(t, w, 2*i+2, 2*i+2)
	}
	adds(t, w, 7, many(1)...)
	keeps(t, d, "log", logOf(1, 0, many(1), many(2), many(1), many(2), many(1), many(2)))
}

// P8.4: the base is the rows, the log has no batches, and all of it is synced; numbers and turns go on.
func TestCheckpoint(t *testing.T) {
	long := []api.Row{{Key: "\x00", Value: ""}, {Key: "a", Value: fill(4096)}, {Key: "a\x00", Value: "\x00"}, {Key: "b\xff", Value: "\xff"}, {Key: fill(4096), Value: fill(4096)}}
	d, w := fresh(t)
	last, turn := 0, 1
	for _, rows := range [][]api.Row{nil, {}, rowsTo(1), rowsTo(2), long, rowsTo(10000), nil} {
		for adding := range 3 {
			for range adding {
				last++
				adds(t, w, last, many(1)...)
			}
			well(t, w.Checkpoint(rows))
			turn++
			counts(t, w, last, last)
			keeps(t, d, "base", baseOf(turn, last, rows...), "log", head(turn, last))
			again := opens(t, d, last, rows)
			if adding == 1 {
				w = again
			}
		}
	}
	adds(t, w, last+1, many(1)...)
	counts(t, w, last+1, last)
	keeps(t, d, "base", baseOf(turn, last), "log", head(turn, last))
}

// P8.4: what may not be is refused, ErrLimit ahead of ErrArg; nothing changes.
func TestCheckpointRefuses(t *testing.T) {
	long := api.Row{Key: "l", Value: fill(4097)}
	cases := []struct {
		l    []api.Row
		want api.Errno
	}{
		{rowsTo(10001), api.ErrLimit}, {rowsTo(20000), api.ErrLimit}, {[]api.Row{long}, api.ErrLimit}, {[]api.Row{{Key: fill(4097)}}, api.ErrLimit}, {append(rowsTo(3), long), api.ErrLimit},
		{[]api.Row{{}}, api.ErrArg}, {[]api.Row{{Value: "v"}}, api.ErrArg}, {[]api.Row{{Key: "a"}, {}}, api.ErrArg},
		{[]api.Row{{Key: "b"}, {Key: "a"}}, api.ErrArg}, {[]api.Row{{Key: "a"}, {Key: "a"}}, api.ErrArg}, {[]api.Row{{Key: "a", Value: "1"}, {Key: "a", Value: "2"}}, api.ErrArg},
		{[]api.Row{{Key: "a\x00"}, {Key: "a"}}, api.ErrArg}, {[]api.Row{{Key: "\xff"}, {Key: "z"}}, api.ErrArg},
		{append(rowsTo(9999), api.Row{Key: "00000"}), api.ErrArg}, {[]api.Row{{Key: "a"}, {Key: "c"}, {Key: "b"}, {Key: "d"}}, api.ErrArg},
		// Two of them would do.
		{make([]api.Row, 10001), api.ErrLimit}, {[]api.Row{{}, long}, api.ErrLimit}, {[]api.Row{{Value: fill(4097)}}, api.ErrLimit},
		{[]api.Row{{Key: "z"}, long}, api.ErrLimit}, {[]api.Row{{Key: "l"}, long}, api.ErrLimit}, {[]api.Row{long, {}}, api.ErrLimit},
	}
	d, w := fresh(t)
	well(t, w.Checkpoint(rowsTo(1)))
	adds(t, w, 1, many(1)...)
	well(t, w.Sync())
	adds(t, w, 2, many(2)...)
	before := files(d)
	for i, c := range cases {
		if e := w.Checkpoint(c.l); e != c.want {
			t.Errorf("%d: %d; want %d", i, e, c.want)
		}
		counts(t, w, 2, 1)
		has(t, d, before...)
	}
	opens(t, d, 2, rowsTo(1), many(1), many(2))
}

// P8.4: a turn is a number; behind the greatest one there is none, so nothing is done.
func TestCheckpointNearTheLastTurn(t *testing.T) {
	d := diskOf(t, "base", baseOf(api.MaxNumber-1, 5))
	w := opens(t, d, 5, nil)
	well(t, w.Checkpoint(rowsTo(1)))
	keeps(t, d, "base", baseOf(api.MaxNumber, 5, rowsTo(1)...), "log", head(api.MaxNumber, 5))
	adds(t, w, 6, many(1)...)
	before := files(d)
	answers(t, w.Checkpoint(rowsTo(2)), api.ErrLimit)
	answers(t, w.Checkpoint([]api.Row{{}}), api.ErrArg)
	has(t, d, before...)
	counts(t, w, 6, 5)
	adds(t, w, 7, many(1)...)
	opens(t, d, 7, rowsTo(1), many(1), many(1))
}

// P8.1, P8.3, P8.4: the works of each call, one by one: what a disk has if it fails behind so many of them (by keep nothing stays that is not synced).
func TestWorks(t *testing.T) {
	base, two := baseOf(2, 5, rowsTo(1)...), logOf(2, 5, many(1), many(2))
	torn := two[:len(two)-3]
	one := logOf(2, 5, many(1))
	checkpoint := func(d *disk.Disk) api.Errno {
		return onLog(d, func(w *Wal) api.Errno { return w.Checkpoint(rowsTo(3)) })
	}
	next := baseOf(3, 7, rowsTo(3)...)
	cases := []struct {
		name   string
		before []string
		do     func(d *disk.Disk) api.Errno
		behind [][]string // so many works
	}{
		{"Open, empty", nil, openOnly, [][]string{nil, {"log", ""}, {"log", head(1, 0)}}},
		{"Open, next", []string{"next", "x"}, openOnly, [][]string{{"next", "x"}, nil, {"log", ""}, {"log", head(1, 0)}}},
		{"Open, as it was", []string{"base", base, "log", two}, openOnly, [][]string{{"base", base, "log", two}, {"base", base, "log", two}}},
		{"Open, torn", []string{"base", base, "log", torn}, openOnly, [][]string{{"base", base, "log", torn}, {"base", base, "log", one}, {"base", base, "log", one}}},
		{"Open, torn head", []string{"base", base, "log", two[:3]}, openOnly, [][]string{{"base", base, "log", two[:3]}, {"base", base}, {"base", base, "log", ""}, {"base", base, "log", head(2, 5)}}},
		{"Open, empty log", []string{"log", ""}, openOnly, [][]string{{"log", ""}, nil, {"log", ""}, {"log", head(1, 0)}}},
		{"Open, turn below", []string{"base", base, "log", logOf(1, 0, many(1))}, openOnly, [][]string{{"base", base, "log", logOf(1, 0, many(1))}, {"base", base}, {"base", base, "log", ""}, {"base", base, "log", head(2, 5)}}},
		{"Open, all", []string{"base", base, "log", torn, "next", "x"}, openOnly, [][]string{{"base", base, "log", torn, "next", "x"}, {"base", base, "log", torn}, {"base", base, "log", one}, {"base", base, "log", one}}},
		{"Add", []string{"base", base, "log", two}, func(d *disk.Disk) api.Errno { return onLog(d, addOne) }, [][]string{{"base", base, "log", two}, {"base", base, "log", two}}},
		{"Sync", []string{"base", base, "log", two}, func(d *disk.Disk) api.Errno { return onLog(d, (*Wal).Sync) }, [][]string{{"base", base, "log", two}, {"base", base, "log", two}}},
		{"Checkpoint", []string{"base", base, "log", two}, checkpoint, [][]string{
			{"base", base, "log", two}, {"base", base, "log", two, "next", ""}, {"base", base, "log", two, "next", next},
			{"base", next, "log", two}, {"base", next}, {"base", next, "log", ""}, {"base", next, "log", head(3, 7)}}},
	}
	for _, c := range cases {
		for n, want := range c.behind {
			d := diskOf(t, c.before...)
			d.Fail(n, nil)
			fails := n < len(c.behind)-1
			if e := c.do(d); fails != (e == api.ErrDead) || !fails && e != api.OK {
				t.Errorf("%s: %d behind %d works", c.name, e, n)
			}
			if d.Dead() != fails {
				t.Errorf("%s: dead is %v behind %d works", c.name, d.Dead(), n)
			}
			keeps(t, d, want...)
		}
	}
}

func openOnly(d *disk.Disk) api.Errno {
	w, _, e := Open(d)
	if (w == nil) != (e != api.OK) {
		return -1
	}
	return e
}

// onLog calls a log of base and log that is opened without works: those of Open are done on a copy of the disk.
func onLog(d *disk.Disk, call func(w *Wal) api.Errno) api.Errno {
	copied := disk.New()
	l := files(d)
	for i := 0; i < len(l); i += 2 {
		copied.Append(l[i], []byte(l[i+1]))
	}
	w, _, e := Open(copied)
	if e != api.OK {
		return e
	}
	w.disk = d
	e = call(w)
	if e != api.OK && (w.Last() != 0 || w.Synced() != 0 || w.Sync() != api.ErrDead) {
		return -1
	}
	return e
}

// P8.5: what is handed in is only read, its spare room, too, and not kept; what is answered is new memory.
func TestMemory(t *testing.T) {
	d, w := fresh(t)
	l := append(make([]api.Op, 0, 4), put1("a", "1"), gone("b"))
	spare := l[2:4]
	spare[0] = put1("spare", "room")
	copied := slices.Clone(l)
	adds(t, w, 1, l...)
	if !slices.Equal(l, copied) || spare[0] != put1("spare", "room") || spare[1] != (api.Op{}) {
		t.Errorf("%v, %v", l, spare)
	}
	l[0], l[1] = put1("z", "9"), put1("y", "8")
	rows := append(make([]api.Row, 0, 4), api.Row{Key: "a", Value: "1"}, api.Row{Key: "b"})
	copiedRows := slices.Clone(rows)
	well(t, w.Checkpoint(rows))
	if !slices.Equal(rows, copiedRows) || rows[:4][2] != (api.Row{}) {
		t.Errorf("%v", rows[:4])
	}
	rows[0] = api.Row{Key: "z"}
	adds(t, w, 2, copied...)
	adds(t, w, 3, copied...)
	well(t, w.Sync())

	_, first, e := Open(d)
	well(t, e)
	isKept(t, first, copiedRows, copied, copied)
	first.Rows[0] = api.Row{Key: "changed"}
	first.Batches[0][0] = put1("changed", "")
	_ = append(first.Batches[0], put1("changed", ""))
	if !slices.Equal(first.Batches[1], copied) {
		t.Errorf("%v", first.Batches)
	}
	first.Batches[1] = nil
	opens(t, d, 3, copiedRows, copied, copied)
}

// P8.7: any one bit that is turned in what was kept, behind the number ahead of a record's bytes, is told.
func TestTurnedBits(t *testing.T) {
	rows := append(rowsTo(2), api.Row{Key: "k", Value: fill(300)})
	d, w := fresh(t)
	well(t, w.Checkpoint(rows))
	adds(t, w, 1, put1("a", "1"))
	adds(t, w, 2, put1("b", fill(400)), gone("a"))
	adds(t, w, 3, gone("c"))
	well(t, w.Sync())
	before := files(d)
	for _, name := range []string{"base", "log"} {
		b, _ := d.Read(name)
		for at := 0; at < len(b); {
			_, size, e := frame.Next(b[at:])
			well(t, e)
			for i := at + 1 + int(b[at]); i < at+size; i++ {
				for bit := range 8 {
					well(t, d.Turn(name, i, bit))
					refuses(t, d, api.ErrCorrupt)
					well(t, d.Turn(name, i, bit))
				}
			}
			at += size
		}
	}
	has(t, d, before...)
	opens(t, d, 3, rows, ops(put1("a", "1")), ops(put1("b", fill(400)), gone("a")), ops(gone("c")))
}

// A log as long as a disk takes is opened without going over it again and again.
func TestLongLog(t *testing.T) {
	d, w := fresh(t)
	full := slices.Repeat(ops(put1(fill(400), fill(80))), 128)
	var all [][]api.Op
	for i := range 60 {
		adds(t, w, i+1, full...)
		all = append(all, full)
	}
	opens(t, d, 60, nil, all...)
}

package frame

import (
	"bytes"
	"runtime"
	"slices"
	"testing"

	"scriptorium/api"
	"scriptorium/crc"
	"scriptorium/quill"
)

// some is size bytes that do not repeat themselves soon.
func some(size int) []byte {
	b := make([]byte, size)
	for i := range b {
		b[i] = byte(i*7 + i>>8 + 1)
	}
	return b
}

// summed is b, and its sum's bytes behind it.
func summed(b ...byte) []byte {
	sum := crc.Of(b)
	for shift := 24; shift >= 0; shift -= 8 {
		b = append(b, byte(sum>>shift))
	}
	return b
}

// record is a record, as the words say it.
func record(t *testing.T, b []byte) []byte {
	t.Helper()
	num, e := quill.Num(len(b))
	if e != api.OK {
		t.Fatalf("Num(%d): %d", len(b), e)
	}
	return summed(append(num, b...)...)
}

func frame(t *testing.T, b []byte) []byte {
	t.Helper()
	r, e := Frame(b)
	if e != api.OK {
		t.Fatalf("Frame of %d bytes: %d", len(b), e)
	}
	return r
}

// roomy is b with spare room behind it that holds 0xEE, and all of its memory.
func roomy(b []byte) (piece, whole []byte) {
	whole = append(append([]byte{}, b...), bytes.Repeat([]byte{0xEE}, 80)...)
	return whole[:len(b)], whole
}

// told is all that All tells of b.
func told(b []byte) [][]byte {
	var l [][]byte
	for payload := range All(b) {
		l = append(l, payload)
	}
	return l
}

func same(a, b [][]byte) bool {
	return slices.EqualFunc(a, b, bytes.Equal)
}

// sizes are lengths at both ends of what may be, and of each count of bytes of their number.
var sizes = []int{0, 1, 2, 255, 256, 257, 4096, 65535, 65536}

// P4.1: Frame's records, byte by byte; the sums are not of package crc.
func TestFrame(t *testing.T) {
	for _, c := range []struct{ b, want []byte }{
		{nil, []byte{0, 0xB1, 0xF7, 0x40, 0x4B}},
		{[]byte{}, []byte{0, 0xB1, 0xF7, 0x40, 0x4B}},
		{[]byte{'a'}, []byte{1, 1, 'a', 0x33, 0x3E, 0x34, 0x84}},
		{[]byte{0, 0xFF}, []byte{1, 2, 0, 0xFF, 0x56, 0xD0, 0xA1, 0x89}},
		{make([]byte, 256), slices.Concat([]byte{2, 1, 0}, make([]byte, 256), []byte{0xD4, 0xD2, 0x8C, 0x54})},
		{make([]byte, 65536), slices.Concat([]byte{3, 1, 0, 0}, make([]byte, 65536), []byte{0xFB, 0x97, 0xB1, 0x7F})},
	} {
		if r, e := Frame(c.b); e != api.OK || !bytes.Equal(r, c.want) {
			t.Errorf("Frame of %d bytes: %x, %d", len(c.b), r[:min(len(r), 16)], e)
		}
	}
	for _, size := range sizes {
		b := some(size)
		if r, e := Frame(b); e != api.OK || !bytes.Equal(r, record(t, b)) {
			t.Errorf("Frame of %d bytes: %x, %d", size, r[:min(len(r), 16)], e)
		}
	}
}

// P4.1: Frame refuses more than 65536 bytes.
func TestFrameRefuses(t *testing.T) {
	for _, size := range []int{65537, 65538, 1 << 17, 1 << 20} {
		if r, e := Frame(some(size)); e != api.ErrLimit || len(r) > 0 {
			t.Errorf("Frame of %d bytes: %d bytes, %d", size, len(r), e)
		}
	}
}

// P4.2: what is in a record, and its size, whatever stands behind it.
func TestNext(t *testing.T) {
	for _, size := range sizes {
		b := some(size)
		r := record(t, b)
		for i, behind := range [][]byte{nil, {9}, {0}, r, bytes.Repeat([]byte{0xFF}, 300)} {
			payload, n, e := Next(slices.Concat(r, behind))
			if e != api.OK || n != len(r) || !bytes.Equal(payload, b) {
				t.Errorf("%d bytes, %d: %d bytes, %d, %d", size, i, len(payload), n, e)
			}
		}
	}
}

// P4.2: Next's errors, which one comes first, and that all else is zero then.
func TestNextRefuses(t *testing.T) {
	for i, c := range []struct {
		b []byte
		e api.Errno
	}{
		{nil, api.ErrTrunc},
		{[]byte{}, api.ErrTrunc},
		{[]byte{8}, api.ErrSyntax},
		{[]byte{255, 1, 1, 1, 1, 1, 1, 1, 1, 1, 1, 1}, api.ErrSyntax},
		{[]byte{1}, api.ErrTrunc},
		{[]byte{2, 1}, api.ErrTrunc},
		{[]byte{7, 1, 2, 3, 4, 5, 6}, api.ErrTrunc},
		{[]byte{2, 0}, api.ErrTrunc}, // cut, and a nought ahead
		{[]byte{1, 0}, api.ErrSyntax},
		{summed(1, 0), api.ErrSyntax},
		{summed(2, 0, 1, 'a'), api.ErrSyntax},
		{summed(3, 0, 0, 1, 'a'), api.ErrSyntax},
		{[]byte{7, 0x20, 0, 0, 0, 0, 0, 0}, api.ErrSyntax}, // above 65536, too
		{[]byte{3, 1, 0, 1}, api.ErrLimit},                 // cut, too
		{[]byte{3, 255, 255, 255}, api.ErrLimit},
		{[]byte{4, 1, 0, 0, 0, 0, 0, 0, 0, 0}, api.ErrLimit},
		{[]byte{7, 0x1F, 255, 255, 255, 255, 255, 255}, api.ErrLimit},
		{[]byte{7, 0x1F, 255, 255, 255, 255, 255, 255, 1, 2, 3, 4, 5, 6, 7, 8}, api.ErrLimit},
		{summed(append([]byte{3, 1, 0, 1}, some(65537)...)...), api.ErrLimit}, // a whole one, but too long
		{[]byte{3, 1, 0, 0}, api.ErrTrunc},
		{[]byte{0}, api.ErrTrunc},
		{[]byte{0, 0, 0, 0}, api.ErrTrunc}, // the sum is wrong, too
		{[]byte{0, 0, 0, 0, 0}, api.ErrSum},
		{[]byte{0, 0, 0, 0, 0, 0xB1, 0xF7, 0x40, 0x4B}, api.ErrSum},
		{[]byte{0, 0x4B, 0x40, 0xF7, 0xB1}, api.ErrSum}, // the lowest byte first
		{[]byte{1, 1, 'a', 0, 0, 0}, api.ErrTrunc},
		{[]byte{1, 1, 'a', 0, 0, 0, 0}, api.ErrSum},
		{append([]byte{1, 1, 'a'}, summed('a')[1:]...), api.ErrSum}, // of what is in it alone
	} {
		if payload, size, e := Next(c.b); len(payload) > 0 || size != 0 || e != c.e {
			t.Errorf("%d, %x: %x, %d, %d; want error %d", i, c.b[:min(len(c.b), 16)], payload, size, e, c.e)
		}
	}
}

// P4.2 and P4.5: a record that is cut.
func TestNextOfCut(t *testing.T) {
	for _, size := range []int{0, 1, 2, 255, 256, 300} {
		r := record(t, some(size))
		for end := range r {
			piece, _ := roomy(r[:end])
			for _, b := range [][]byte{r[:end], piece} { // room behind it counts for nothing
				if payload, n, e := Next(b); e != api.ErrTrunc || n != 0 || len(payload) > 0 {
					t.Errorf("%d bytes, cut at %d: %d, %d, %d", size, end, len(payload), n, e)
				}
			}
		}
	}
	r := record(t, some(65536))
	for _, end := range []int{0, 1, 2, 3, 4, 5, 65536, 65539, 65540, 65541, 65542, 65543} {
		if payload, n, e := Next(r[:end]); e != api.ErrTrunc || n != 0 || len(payload) > 0 {
			t.Errorf("cut at %d: %d, %d, %d", end, len(payload), n, e)
		}
	}
}

// P4.6: one bit of a record is turned.
func TestTurnedBit(t *testing.T) {
	for _, size := range []int{0, 1, 2, 3, 255, 256, 260} {
		r := record(t, some(size))
		for i := range 8 * len(r) {
			turned := bytes.Clone(r)
			turned[i/8] ^= 1 << (i % 8)
			if _, n, e := Next(turned); e == api.OK && n == len(r) {
				t.Errorf("%d bytes, bit %d: a record yet", size, i)
			}
		}
	}
	// Of a turned bit in the sum, or in what is in the record, the error is known.
	r := record(t, some(5))
	for i := 8 * 2; i < 8*len(r); i++ {
		turned := bytes.Clone(r)
		turned[i/8] ^= 1 << (i % 8)
		if payload, n, e := Next(turned); e != api.ErrSum || n != 0 || len(payload) > 0 {
			t.Errorf("bit %d: %x, %d, %d", i, payload, n, e)
		}
	}
	long := record(t, some(65536))
	for i := 0; i < 8*len(long); i = 2*i + 1 {
		for _, k := range []int{i, 8*len(long) - 1 - i} {
			turned := bytes.Clone(long)
			turned[k/8] ^= 1 << (k % 8)
			if _, n, e := Next(turned); e == api.OK && n == len(long) {
				t.Errorf("65536 bytes, bit %d: a record yet", k)
			}
		}
	}
}

// P4.3: All's records, up to the first place at which there is none.
func TestAll(t *testing.T) {
	a, b, none := []byte{'a'}, some(300), []byte{}
	wrong := record(t, b)
	wrong[len(wrong)-1] ^= 1
	for i, c := range []struct {
		l    [][]byte
		rest []byte
	}{
		{nil, nil},
		{[][]byte{a}, nil},
		{[][]byte{none}, nil},
		{[][]byte{a, b}, nil},
		{[][]byte{a, b}, []byte{0, 0}},
		{[][]byte{b, none, a, none, none, a}, nil},
		{[][]byte{b, a}, []byte{8}},
		{[][]byte{a, a, a}, []byte{1}},
		{[][]byte{some(65536), a, some(65535)}, []byte{3, 1, 0, 1, 0, 0, 0, 0, 0}},
		{nil, slices.Concat(wrong, record(t, a))}, // it does not go on behind an error
		{[][]byte{a}, slices.Concat(wrong, record(t, a))},
		{[][]byte{a}, slices.Concat(make([]byte, 5), record(t, a))},
		{[][]byte{a}, slices.Concat([]byte{8}, record(t, a))},
		{[][]byte{a}, slices.Concat([]byte{3, 1, 0, 1}, record(t, a))},
	} {
		var all []byte
		for _, payload := range c.l {
			all = append(all, record(t, payload)...)
		}
		all = append(all, c.rest...)
		if l := told(all); !same(l, c.l) {
			t.Errorf("%d: %d records, want %d", i, len(l), len(c.l))
		}
	}
	if l := told(nil); len(l) > 0 {
		t.Errorf("of nil: %x", l)
	}
}

// P4.3: All is ranged over twice, within itself, and left by a break.
func TestAllTwice(t *testing.T) {
	var b []byte
	want := [][]byte{{'a'}, {}, {'b', 'c'}, some(256)}
	for _, payload := range want {
		b = append(b, record(t, payload)...)
	}
	all := All(b)
	for count := range len(want) + 1 {
		var l [][]byte
		for payload := range all {
			if len(l) == count {
				break
			}
			l = append(l, payload)
		}
		if !same(l, want[:count]) {
			t.Errorf("left after %d: %x", count, l)
		}
	}
	for range 2 {
		outer := 0
		for range all {
			outer++
			inner := 0
			for payload := range all {
				if !bytes.Equal(payload, want[inner]) {
					t.Errorf("%d, %d: %x", outer, inner, payload)
				}
				inner++
			}
			if inner != len(want) {
				t.Errorf("%d: %d within", outer, inner)
			}
		}
		if outer != len(want) {
			t.Errorf("%d of %d", outer, len(want))
		}
	}
}

// P4.4: All reads what it was handed when it is ranged over.
func TestAllReadsLate(t *testing.T) {
	one, other := record(t, []byte{'a', 'b'}), record(t, []byte{'c', 'd'})
	b := bytes.Clone(one)
	all := All(b)
	copy(b, other)
	var l [][]byte
	for payload := range all {
		l = append(l, payload)
	}
	if !same(l, [][]byte{{'c', 'd'}}) {
		t.Errorf("after a change: %q", l)
	}
	b[0] = 8
	for payload := range all {
		t.Errorf("after another one: %q", payload)
	}
	copy(b, one)
	count := 0
	for payload := range all {
		count++
		if string(payload) != "ab" {
			t.Errorf("after a third one: %q", payload)
		}
	}
	if count != 1 {
		t.Errorf("after a third one: %d", count)
	}
}

// spoil writes into all of an answer, and behind it.
func spoil(b []byte) {
	for i := range b {
		b[i] ^= 0xAA
	}
	b = append(b, bytes.Repeat([]byte{0xAA}, 40)...)
	for i := range b[:cap(b)] {
		b[:cap(b)][i] = 0xAA
	}
}

// spoilRoom writes behind an answer alone.
func spoilRoom(b []byte) {
	_ = append(b, 0xAA)
	_ = append(b, bytes.Repeat([]byte{0xAA}, 40)...)
}

// P4.4: Frame only reads what it is handed, and its answer is new memory.
func TestFrameMemory(t *testing.T) {
	for _, size := range []int{0, 1, 2, 255, 256, 5000} {
		piece, whole := roomy(some(size))
		before := bytes.Clone(whole)
		r := frame(t, piece)
		want := record(t, some(size))
		spoilRoom(r)
		if !bytes.Equal(whole, before) || !bytes.Equal(r, want) {
			t.Errorf("%d bytes: Frame wrote to what it was handed", size)
		}
		for i := range whole {
			whole[i] = 0x55
		}
		if !bytes.Equal(r, want) {
			t.Errorf("%d bytes: the answer shares the argument's memory", size)
		}
		spoil(r)
		if again := frame(t, some(size)); !bytes.Equal(again, want) {
			t.Errorf("%d bytes: another answer shares the first one's memory", size)
		}
		if !bytes.Equal(whole, bytes.Repeat([]byte{0x55}, len(whole))) {
			t.Errorf("%d bytes: the argument shares the answer's memory", size)
		}
	}
}

// P4.4: Next only reads what it is handed, and its answer is new memory.
func TestNextMemory(t *testing.T) {
	for _, size := range []int{0, 1, 2, 255, 256, 5000} {
		for _, behind := range [][]byte{nil, {1, 1, 'a'}} {
			piece, whole := roomy(slices.Concat(record(t, some(size)), behind))
			before := bytes.Clone(whole)
			payload, _, e := Next(piece)
			if e != api.OK || !bytes.Equal(whole, before) {
				t.Fatalf("%d bytes: %d, or Next wrote to what it was handed", size, e)
			}
			spoilRoom(payload)
			if !bytes.Equal(whole, before) || !bytes.Equal(payload, some(size)) {
				t.Errorf("%d bytes: what is behind the answer is the argument's", size)
			}
			spoil(payload)
			if !bytes.Equal(whole, before) {
				t.Errorf("%d bytes: the argument shares the answer's memory", size)
			}
			payload, _, _ = Next(piece)
			clear(whole)
			if !bytes.Equal(payload, some(size)) {
				t.Errorf("%d bytes: the answer shares the argument's memory", size)
			}
		}
	}
	// With an error nothing is written, either.
	for _, b := range [][]byte{{0, 0, 0, 0, 0}, {8}, {3, 1, 0, 1}, {1, 1, 'a'}} {
		piece, whole := roomy(b)
		before := bytes.Clone(whole)
		if _, _, e := Next(piece); e == api.OK || !bytes.Equal(whole, before) {
			t.Errorf("%x: %d, %x", b, e, whole)
		}
	}
}

// P4.4: All only reads what it is handed, and all that it tells is memory of its own.
func TestAllMemory(t *testing.T) {
	want := [][]byte{some(3), {}, some(300), {'x'}}
	var b []byte
	for _, payload := range want {
		b = append(b, record(t, payload)...)
	}
	piece, whole := roomy(b)
	before := bytes.Clone(whole)
	all := All(piece)
	i := 0
	for payload := range all {
		if !bytes.Equal(payload, want[i]) {
			t.Errorf("%d: %x", i, payload)
		}
		spoilRoom(payload)
		spoil(payload)
		i++
	}
	if i != len(want) || !bytes.Equal(whole, before) {
		t.Errorf("%d records told, or the argument shares their memory", i)
	}
	l := told(piece)
	for _, payload := range l {
		spoilRoom(payload)
	}
	clear(whole)
	if !same(l, want) {
		t.Errorf("what was told shares memory: %x", l)
	}
}

// P4.5: records are told as they were put; cut anywhere, those that are whole are.
func TestManyRecords(t *testing.T) {
	var b []byte
	var ends []int
	var want [][]byte
	for _, size := range []int{3, 0, 1, 255, 0, 256, 2} {
		want = append(want, some(size))
		b = append(b, frame(t, some(size))...)
		ends = append(ends, len(b))
	}
	for end := range len(b) + 1 {
		whole, rest := 0, 0
		for whole < len(ends) && ends[whole] <= end {
			rest = ends[whole]
			whole++
		}
		piece := b[:end]
		if l := told(piece); !same(l, want[:whole]) {
			t.Errorf("cut at %d: %d records told, want %d", end, len(l), whole)
		}
		if payload, size, e := Next(piece[rest:]); e != api.ErrTrunc || size != 0 || len(payload) > 0 {
			t.Errorf("cut at %d, the rest: %x, %d, %d", end, payload, size, e)
		}
	}
}

// To go through a row of records does not copy all of the rest anew for each of them.
func TestLongRow(t *testing.T) {
	const count = 10_000
	row := bytes.Repeat(frame(t, []byte{'a'}), count)
	var before, after runtime.MemStats
	runtime.ReadMemStats(&before)
	got := 0
	for payload := range All(row) {
		got += len(payload)
	}
	runtime.ReadMemStats(&after)
	if got != count {
		t.Errorf("%d of %d", got, count)
	}
	if used := after.TotalAlloc - before.TotalAlloc; used > uint64(100*len(row)) {
		t.Errorf("%d bytes of memory for %d of records", used, len(row))
	}
}

package crc

import (
	"bytes"
	"testing"
)

const digits = "123456789"

// lengths are those of which lists of bytes are summed up here.
var lengths = []int{0, 1, 2, 3, 4, 5, 7, 8, 9, 31, 32, 33, 255, 256, 257, 1000, 1001, 4096, 70000}

// starts are sums to go on from.
var starts = []uint32{0, 1, 2, 0x7FFFFFFF, 0x80000000, 0x80000001, 0xFFFFFFFE, 0xFFFFFFFF, 0x04C11DB7, 0xFC891918, 0x12345678, 0xDEADBEEF}

// mixed is so many bytes of all values, in no plain order.
func mixed(size int, seed uint32) []byte {
	b := make([]byte, size)
	for i := range b {
		seed = seed*1664525 + 1013904223
		b[i] = byte(seed >> 24)
	}
	return b
}

// bitsOf is a number's bits, the highest one first.
func bitsOf(n uint64, size int) []bool {
	l := make([]bool, size)
	for i := range l {
		l[i] = n>>(size-1-i)&1 == 1
	}
	return l
}

// wordsSum goes on from a sum as the chapter's words say it, bit by bit, over
// lists of bits instead of shifts.
func wordsSum(sum uint32, b []byte) uint32 {
	polynomial := bitsOf(0x04C11DB7, 32)
	state := bitsOf(uint64(sum), 32)
	turn := func() {
		for i := range state {
			state[i] = !state[i]
		}
	}
	turn()
	for _, c := range b {
		for i, bit := range bitsOf(uint64(c), 8) {
			state[i] = state[i] != bit
		}
		for range 8 {
			fallen := state[0]
			state = append(state[1:32:32], false)
			for i := range state {
				state[i] = state[i] != (fallen && polynomial[i])
			}
		}
	}
	turn()
	answer := uint32(0)
	for _, bit := range state {
		answer <<= 1
		if bit {
			answer |= 1
		}
	}
	return answer
}

// P3.1: the chapter's examples, and other sums that are well known.
func TestExamples(t *testing.T) {
	for _, c := range []struct {
		b    []byte
		want uint32
	}{
		{nil, 0},
		{[]byte{}, 0},
		{[]byte(digits), 0xFC891918},
		{[]byte("a"), 0x19939B6B},
		{[]byte{0}, 0xB1F7404B},
		{[]byte{0, 0, 0, 0}, 0x38FB2284},
		{[]byte{0xFF, 0xFF, 0xFF, 0xFF}, 0xFFFFFFFF},
	} {
		if got := Of(c.b); got != c.want {
			t.Errorf("Of(%x): %08X, not %08X", c.b, got, c.want)
		}
	}
	if got := Add(0, []byte(digits)); got != 0xFC891918 {
		t.Errorf("Add(0, digits): %08X", got)
	}
	if got := Add(Of([]byte("1234")), []byte("56789")); got != 0xFC891918 {
		t.Errorf("Add(Of(1234), 56789): %08X", got)
	}
}

// P3.1: Of of one byte of each value.
func TestOneByte(t *testing.T) {
	seen := map[uint32]int{}
	for c := range 256 {
		b := []byte{byte(c)}
		got := Of(b)
		if want := wordsSum(0, b); got != want {
			t.Errorf("Of(%x): %08X, not %08X", b, got, want)
		}
		if other, ok := seen[got]; ok {
			t.Errorf("%x and %x have one sum", other, c)
		}
		seen[got] = c
	}
}

// P3.1: Of of noughts, of ones and of mixed bytes, of each length.
func TestLengths(t *testing.T) {
	for _, size := range lengths {
		for _, b := range [][]byte{make([]byte, size), bytes.Repeat([]byte{0xFF}, size), mixed(size, 7)} {
			if got, want := Of(b), wordsSum(0, b); got != want {
				t.Errorf("Of of %d bytes: %08X, not %08X", size, got, want)
			}
		}
	}
	seen := map[uint32]int{}
	for size := range 1100 {
		sum := Of(make([]byte, size))
		if other, ok := seen[sum]; ok {
			t.Errorf("%d and %d noughts have one sum", other, size)
		}
		seen[sum] = size
	}
}

// P3.1: Add goes on from any sum.
func TestAdd(t *testing.T) {
	for _, sum := range starts {
		for _, size := range lengths[:len(lengths)-2] {
			b := mixed(size, sum)
			if got, want := Add(sum, b), wordsSum(sum, b); got != want {
				t.Errorf("Add(%08X, %d bytes): %08X, not %08X", sum, size, got, want)
			}
		}
		for c := range 256 {
			b := []byte{byte(c)}
			if got, want := Add(sum, b), wordsSum(sum, b); got != want {
				t.Errorf("Add(%08X, %x): %08X, not %08X", sum, b, got, want)
			}
		}
	}
}

// P3.1: earlier calls change nothing of what later ones answer.
func TestSameAgain(t *testing.T) {
	first := Of([]byte(digits))
	for _, sum := range starts {
		once := Add(sum, mixed(50, 3))
		Of(mixed(60, sum))
		Add(^sum, nil)
		if again := Add(sum, mixed(50, 3)); again != once {
			t.Errorf("Add(%08X, b): first %08X, then %08X", sum, once, again)
		}
	}
	if again := Of([]byte(digits)); again != first {
		t.Errorf("Of(digits): first %08X, then %08X", first, again)
	}
}

// P3.2: what is handed in stays as it was, its spare room too.
func TestOnlyRead(t *testing.T) {
	for _, size := range lengths {
		room := mixed(size+40, 11)
		was := bytes.Clone(room)
		for _, b := range [][]byte{room[20 : 20+size], room[20 : 20+size : 20+size]} {
			Of(b)
			Add(0xFFFFFFFF, b)
			if !bytes.Equal(room, was) {
				t.Errorf("%d bytes: what was handed in has changed", size)
			}
		}
	}
}

// P3.2: what stands in the spare room is not summed up.
func TestSpareRoom(t *testing.T) {
	room := mixed(100, 13)
	for size := range room {
		short := bytes.Clone(room[:size])
		if Of(room[:size]) != Of(short) || Add(5, room[:size]) != Add(5, short) {
			t.Errorf("%d bytes: the spare room is in the sum", size)
		}
	}
}

// P3.3: bytes that are cut at each place have the sum of all.
func TestPieces(t *testing.T) {
	for _, b := range [][]byte{[]byte(digits), make([]byte, 40), mixed(300, 17), mixed(1000, 19)} {
		want := Of(b)
		for cut := range len(b) + 1 {
			if got := Add(Of(b[:cut]), b[cut:]); got != want {
				t.Errorf("%d bytes, cut at %d: %08X, not %08X", len(b), cut, got, want)
			}
		}
		for _, sum := range starts {
			want, got := Add(sum, b), sum
			for i := range b {
				got = Add(got, b[i:i+1])
			}
			if got != want {
				t.Errorf("%d bytes from %08X, one by one: %08X, not %08X", len(b), sum, got, want)
			}
		}
	}
}

// P3.3: no bytes change no sum.
func TestNone(t *testing.T) {
	for _, sum := range starts {
		if got := Add(sum, nil); got != sum {
			t.Errorf("Add(%08X, nil): %08X", sum, got)
		}
		if got := Add(sum, []byte{}); got != sum {
			t.Errorf("Add(%08X, none): %08X", sum, got)
		}
		if got := Add(sum, mixed(9, 2)[4:4]); got != sum {
			t.Errorf("Add(%08X, none with spare room): %08X", sum, got)
		}
	}
}

// turned is b with those bits of pattern turned, the pattern's highest one at bit first.
func turned(b []byte, pattern uint32, first int) []byte {
	b = bytes.Clone(b)
	for i := range 32 {
		if pattern>>(31-i)&1 == 1 {
			at := first + i
			b[at/8] ^= 0x80 >> (at % 8)
		}
	}
	return b
}

// width is how many bits there are from a pattern's first one on to its last.
func width(pattern uint32) int {
	size := 32
	for ; pattern&1 == 0; pattern >>= 1 {
		size--
	}
	return size
}

// P3.4: bits that are turned within 32 make another sum, wherever they stand.
func TestTurned(t *testing.T) {
	patterns := []uint32{0x80000000, 0xC0000000, 0xA0000000, 0xFF000000, 0x80800000, 0xFFFF0000, 0x80000001, 0xFFFFFFFF, 0x82608EDB, 0x84C11DB7, 0x98000004, 0x80010001}
	for i := range uint32(50) {
		patterns = append(patterns, 0x80000000|i*0x04C11DB7, 0x80000000|i*0x9E3779B9)
	}
	for _, b := range [][]byte{[]byte("a"), []byte(digits), make([]byte, 12), bytes.Repeat([]byte{0xFF}, 12), mixed(64, 23)} {
		sum := Of(b)
		for _, pattern := range patterns {
			for first := 0; first+width(pattern) <= 8*len(b); first++ {
				if Of(turned(b, pattern, first)) == sum {
					t.Errorf("%d bytes, %08X turned at bit %d: the same sum", len(b), pattern, first)
				}
			}
		}
		if Of(turned(b, 0, 0)) != sum {
			t.Errorf("%d bytes, none turned: another sum", len(b))
		}
	}
}

// P3.4: each single bit of 1000 bytes.
func TestOneBit(t *testing.T) {
	b := mixed(1000, 29)
	sum := Of(b)
	for at := range 8 * len(b) {
		b[at/8] ^= 0x80 >> (at % 8)
		if Of(b) == sum {
			t.Errorf("bit %d turned: the same sum", at)
		}
		b[at/8] ^= 0x80 >> (at % 8)
	}
	if Of(b) != sum {
		t.Error("none turned: another sum")
	}
}

// P3.5: of two that are as long, the exclusive or of their sums is that of the
// sums of their exclusive or, and of as many noughts.
func TestExclusiveOr(t *testing.T) {
	for _, size := range lengths {
		for seed := range uint32(5) {
			a, b := mixed(size, seed), mixed(size, seed+100)
			if seed == 0 {
				b = bytes.Clone(a)
			}
			both := make([]byte, size)
			for i := range both {
				both[i] = a[i] ^ b[i]
			}
			if got, want := Of(a)^Of(b), Of(both)^Of(make([]byte, size)); got != want {
				t.Errorf("two of %d bytes: %08X, not %08X", size, got, want)
			}
		}
	}
}

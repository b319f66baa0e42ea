package quill

import (
	"bytes"
	"math"
	"strings"
	"testing"

	"scriptorium/api"
)

// edges are numbers at both ends of what may be, and of each count of bytes; they rise.
func edges() []int {
	l := []int{0, 1, 2, 127, 128}
	for k := 8; k <= 48; k += 8 {
		l = append(l, 1<<k-1, 1<<k, 1<<k+1)
	}
	return append(l, api.MaxNumber-1, api.MaxNumber)
}

func num(t *testing.T, n int) []byte {
	t.Helper()
	b, e := Num(n)
	if e != api.OK {
		t.Fatalf("Num(%d): %d", n, e)
	}
	return b
}

func str(t *testing.T, s string, most int) []byte {
	t.Helper()
	b, e := Str(s, most)
	if e != api.OK {
		t.Fatalf("Str(%d bytes, %d): %d", len(s), most, e)
	}
	return b
}

// roomy is b with spare room behind it that holds 0xEE, and all of its memory.
func roomy(b []byte) (piece, whole []byte) {
	whole = append(append([]byte{}, b...), bytes.Repeat([]byte{0xEE}, 16)...)
	return whole[:len(b)], whole
}

// P1.1: Num's bytes, at both ends of what may be and at each count of bytes.
func TestNum(t *testing.T) {
	for _, c := range []struct {
		n    int
		want []byte
	}{
		{0, []byte{0}},
		{1, []byte{1, 1}},
		{255, []byte{1, 255}},
		{256, []byte{2, 1, 0}},
		{65535, []byte{2, 255, 255}},
		{65536, []byte{3, 1, 0, 0}},
		{0x01020304, []byte{4, 1, 2, 3, 4}},
		{0x0102030405, []byte{5, 1, 2, 3, 4, 5}},
		{1 << 40, []byte{6, 1, 0, 0, 0, 0, 0}},
		{1<<48 - 1, []byte{6, 255, 255, 255, 255, 255, 255}},
		{1 << 48, []byte{7, 1, 0, 0, 0, 0, 0, 0}},
		{1<<53 - 1, []byte{7, 0x1F, 255, 255, 255, 255, 255, 255}},
	} {
		if b, e := Num(c.n); e != api.OK || !bytes.Equal(b, c.want) {
			t.Errorf("Num(%d): %x, %d; want %x", c.n, b, e, c.want)
		}
	}
}

// P1.1: Num refuses what is not a number.
func TestNumRefuses(t *testing.T) {
	for _, n := range []int{-1, -256, math.MinInt, 1 << 53, 1<<53 + 1, 1 << 56, math.MaxInt} {
		if b, e := Num(n); e != api.ErrArg || len(b) > 0 {
			t.Errorf("Num(%d): %x, %d", n, b, e)
		}
	}
}

// P1.1: TakeNum's number, and what stands behind it.
func TestTakeNum(t *testing.T) {
	for _, c := range []struct {
		b    []byte
		n    int
		rest []byte
	}{
		{[]byte{0}, 0, nil},
		{[]byte{0, 0}, 0, []byte{0}},
		{[]byte{0, 8, 9}, 0, []byte{8, 9}},
		{[]byte{1, 1, 0x7F}, 1, []byte{0x7F}},
		{[]byte{1, 255}, 255, nil},
		{[]byte{2, 1, 0, 0}, 256, []byte{0}},
		{[]byte{4, 1, 2, 3, 4, 5}, 0x01020304, []byte{5}},
		{[]byte{7, 1, 0, 0, 0, 0, 0, 0}, 1 << 48, nil},
		{[]byte{7, 0x1F, 255, 255, 255, 255, 255, 255, 255}, 1<<53 - 1, []byte{255}},
	} {
		if n, rest, e := TakeNum(c.b); n != c.n || !bytes.Equal(rest, c.rest) || e != api.OK {
			t.Errorf("TakeNum(%x): %d, %x, %d; want %d, %x", c.b, n, rest, e, c.n, c.rest)
		}
	}
}

// P1.1: TakeNum's errors, which one comes first, and that all else is zero then.
func TestTakeNumRefuses(t *testing.T) {
	for _, c := range []struct {
		b []byte
		e api.Errno
	}{
		{nil, api.ErrTrunc},
		{[]byte{}, api.ErrTrunc},
		{[]byte{1}, api.ErrTrunc},
		{[]byte{2, 1}, api.ErrTrunc},
		{[]byte{7, 1, 2, 3, 4, 5, 6}, api.ErrTrunc},
		{[]byte{2, 0}, api.ErrTrunc},                            // cut, and a nought ahead
		{[]byte{7, 255, 255, 255, 255, 255, 255}, api.ErrTrunc}, // cut, and too great
		{[]byte{8}, api.ErrSyntax},                              // cut, and above 7
		{[]byte{255}, api.ErrSyntax},
		{[]byte{8, 1, 2, 3, 4, 5, 6, 7, 8}, api.ErrSyntax},
		{[]byte{1, 0}, api.ErrSyntax},
		{[]byte{2, 0, 1}, api.ErrSyntax},
		{[]byte{7, 0, 1, 2, 3, 4, 5, 6}, api.ErrSyntax},
		{[]byte{7, 0, 0, 0, 0, 0, 0, 0}, api.ErrSyntax},
		{[]byte{7, 0x20, 0, 0, 0, 0, 0, 0}, api.ErrSyntax},
		{[]byte{7, 0x20, 0, 0, 0, 0, 0, 0, 9}, api.ErrSyntax},
		{[]byte{7, 255, 255, 255, 255, 255, 255, 255}, api.ErrSyntax},
	} {
		if n, rest, e := TakeNum(c.b); n != 0 || len(rest) > 0 || e != c.e {
			t.Errorf("TakeNum(%x): %d, %x, %d; want error %d", c.b, n, rest, e, c.e)
		}
	}
	for first := 8; first < 256; first++ {
		b := append([]byte{byte(first)}, bytes.Repeat([]byte{1}, 300)...)
		for _, size := range []int{1, 2, len(b)} {
			if n, rest, e := TakeNum(b[:size]); n != 0 || len(rest) > 0 || e != api.ErrSyntax {
				t.Errorf("first byte %d of %d: %d, %x, %d", first, size, n, rest, e)
			}
		}
	}
}

// P1.2: Str's bytes, and its errors: a text of just most bytes may be, one of one more may not.
func TestStr(t *testing.T) {
	for _, c := range []struct {
		s    string
		most int
		want []byte
		e    api.Errno
	}{
		{"ab", 2, []byte{1, 2, 'a', 'b'}, api.OK},
		{"ab", 1, nil, api.ErrLimit},
		{"ab", 0, nil, api.ErrLimit},
		{"ab", math.MaxInt, []byte{1, 2, 'a', 'b'}, api.OK},
		{"", 0, []byte{0}, api.OK},
		{"", 5, []byte{0}, api.OK},
		{"a", 0, nil, api.ErrLimit},
		{"", -1, nil, api.ErrArg},
		{"ab", -1, nil, api.ErrArg}, // too long, too
		{"ab", math.MinInt, nil, api.ErrArg},
		{"\u00e9", 2, []byte{1, 2, 0xC3, 0xA9}, api.OK}, // bytes count, not runes
		{"\u00e9", 1, nil, api.ErrLimit},
		{"\xff\x00", 2, []byte{1, 2, 0xFF, 0}, api.OK},
	} {
		if b, e := Str(c.s, c.most); !bytes.Equal(b, c.want) || e != c.e {
			t.Errorf("Str(%q, %d): %x, %d; want %x, %d", c.s, c.most, b, e, c.want, c.e)
		}
	}
	for _, size := range []int{1, 255, 256, 65535, 65536} {
		s := strings.Repeat("x", size)
		b, e := Str(s, size)
		if e != api.OK || !bytes.Equal(b, append(num(t, size), s...)) {
			t.Errorf("Str of %d bytes: %d bytes, %d", size, len(b), e)
		}
		if b, e := Str(s, size-1); e != api.ErrLimit || len(b) > 0 {
			t.Errorf("Str of %d bytes, one too many: %d bytes, %d", size, len(b), e)
		}
	}
}

// P1.2: TakeStr's text, its errors, and which one comes first.
func TestTakeStr(t *testing.T) {
	for _, c := range []struct {
		b    []byte
		most int
		s    string
		rest []byte
		e    api.Errno
	}{
		{[]byte{1, 2, 'a', 'b', 'c'}, 2, "ab", []byte{'c'}, api.OK},
		{[]byte{1, 2, 'a', 'b'}, 2, "ab", nil, api.OK},
		{[]byte{1, 2, 'a', 'b'}, math.MaxInt, "ab", nil, api.OK},
		{[]byte{0}, 0, "", nil, api.OK},
		{[]byte{0, 7}, 0, "", []byte{7}, api.OK},
		{[]byte{1, 2, 0xFF, 0, 0}, 2, "\xff\x00", []byte{0}, api.OK},
		{[]byte{1, 2, 'a', 'b'}, -1, "", nil, api.ErrArg},
		{nil, -1, "", nil, api.ErrArg},
		{[]byte{8}, math.MinInt, "", nil, api.ErrArg},
		{nil, 0, "", nil, api.ErrTrunc},
		{[]byte{1}, 0, "", nil, api.ErrTrunc},
		{[]byte{8, 'a'}, 9, "", nil, api.ErrSyntax},
		{[]byte{1, 0}, 9, "", nil, api.ErrSyntax},
		{[]byte{2, 0, 1, 'a'}, 9, "", nil, api.ErrSyntax},
		{[]byte{7, 0x20, 0, 0, 0, 0, 0, 0}, 0, "", nil, api.ErrSyntax},
		{[]byte{1, 2, 'a', 'b'}, 1, "", nil, api.ErrLimit},
		{[]byte{1, 2, 'a'}, 1, "", nil, api.ErrLimit}, // cut, too
		{[]byte{1, 1}, 0, "", nil, api.ErrLimit},
		{[]byte{7, 0x1F, 255, 255, 255, 255, 255, 255}, 9, "", nil, api.ErrLimit},
		{[]byte{1, 2, 'a'}, 2, "", nil, api.ErrTrunc},
		{[]byte{1, 2}, 2, "", nil, api.ErrTrunc},
		{[]byte{7, 0x1F, 255, 255, 255, 255, 255, 255, 'a'}, api.MaxNumber, "", nil, api.ErrTrunc},
	} {
		s, rest, e := TakeStr(c.b, c.most)
		if s != c.s || !bytes.Equal(rest, c.rest) || e != c.e {
			t.Errorf("TakeStr(%x, %d): %q, %x, %d; want %q, %x, %d", c.b, c.most, s, rest, e, c.s, c.rest, c.e)
		}
	}
}

// P1.3: Join's bytes.
func TestJoin(t *testing.T) {
	a := []byte{1, 2}
	for i, c := range []struct {
		l    [][]byte
		want []byte
	}{
		{nil, nil},
		{[][]byte{nil}, nil},
		{[][]byte{{}, nil, {}}, nil},
		{[][]byte{a}, []byte{1, 2}},
		{[][]byte{a, {3}}, []byte{1, 2, 3}},
		{[][]byte{{3}, a}, []byte{3, 1, 2}},
		{[][]byte{nil, a, {}, a, {0, 255}, nil}, []byte{1, 2, 1, 2, 0, 255}},
	} {
		if b := Join(c.l...); !bytes.Equal(b, c.want) {
			t.Errorf("%d: %x, want %x", i, b, c.want)
		}
	}
}

// P1.3: what is handed to Join is only read, and what it answers is new memory.
func TestJoinMemory(t *testing.T) {
	for _, count := range []int{1, 2, 3} {
		piece, whole := roomy([]byte{1, 2, 3})
		before := bytes.Clone(whole)
		l := [][]byte{piece, {4}, {5}}[:count]
		b := Join(l...)
		want := bytes.Clone(b)
		if !bytes.Equal(whole, before) || len(l[0]) != 3 {
			t.Errorf("%d: Join wrote to what it was handed: %x", count, whole)
		}
		for i := range whole {
			whole[i] = 0x55
		}
		if !bytes.Equal(b, want) {
			t.Errorf("%d: the answer shares the argument's memory: %x", count, b)
		}
		for i := range b {
			b[i] = 0xAA
		}
		_ = append(b, 0xAA)
		if whole[0] != 0x55 || whole[3] != 0x55 {
			t.Errorf("%d: the argument shares the answer's memory: %x", count, whole)
		}
	}
}

// DOC.md, 'Memory': what the takers are handed stays as it is, and what they answer is new.
func TestTakersMemory(t *testing.T) {
	take := map[string]func(b []byte) []byte{
		"TakeNum": func(b []byte) []byte { _, rest, _ := TakeNum(b); return rest },
		"TakeStr": func(b []byte) []byte { _, rest, _ := TakeStr(b, 9); return rest },
	}
	for name, f := range take {
		piece, whole := roomy([]byte{1, 2, 'a', 'b', 'c', 'd'})
		before := bytes.Clone(whole)
		rest := f(piece)
		want := bytes.Clone(rest)
		if len(rest) == 0 || !bytes.Equal(whole, before) {
			t.Errorf("%s: %x, of %x", name, rest, whole)
		}
		for i := range rest {
			rest[i] = 0xAA
		}
		_ = append(rest, 0xAA)
		if !bytes.Equal(whole, before) {
			t.Errorf("%s: the argument shares the answer's memory: %x", name, whole)
		}
		rest = f(piece)
		for i := range whole {
			whole[i] = 0x55
		}
		if !bytes.Equal(rest, want) {
			t.Errorf("%s: the answer shares the argument's memory: %x", name, rest)
		}
	}
}

// DOC.md, 'Memory': two answers share nothing.
func TestAnswersAreNew(t *testing.T) {
	for _, n := range edges() {
		a, b := num(t, n), num(t, n)
		a[0] = 0xEE
		if b[0] == 0xEE || num(t, n)[0] == 0xEE {
			t.Errorf("two answers of Num(%d) share memory", n)
		}
	}
	a, b := str(t, "", 0), str(t, "", 0)
	a[0] = 0xEE
	if b[0] == 0xEE {
		t.Error("two answers of Str share memory")
	}
}

// P1.4: what was written is read as it was, and what stands behind it is left.
func TestWrittenIsRead(t *testing.T) {
	behind := [][]byte{nil, {0}, {9}, {255, 0, 1}, bytes.Repeat([]byte{7}, 20)}
	for _, rest := range behind {
		for _, n := range edges() {
			if m, r, e := TakeNum(Join(num(t, n), rest)); m != n || !bytes.Equal(r, rest) || e != api.OK {
				t.Errorf("%d and %x: %d, %x, %d", n, rest, m, r, e)
			}
		}
		for _, size := range []int{0, 1, 2, 255, 256, 300, 65535, 65536} {
			s := strings.Repeat("\x00\xfey", size/3+1)[:size]
			for _, most := range []int{size, size + 1, math.MaxInt} {
				if x, r, e := TakeStr(Join(str(t, s, most), rest), most); x != s || !bytes.Equal(r, rest) || e != api.OK {
					t.Errorf("%d bytes and %x: %d bytes, %x, %d", size, rest, len(x), r, e)
				}
			}
		}
	}
}

// P1.4: what can be read is written so: all beginnings of two bytes, and what may stand at the ends of the third and the last.
func TestReadIsWritten(t *testing.T) {
	for first := 0; first < 256; first++ {
		for second := 0; second < 256; second++ {
			for _, tail := range [][]byte{nil, {0}, {1}, {255}, {0, 0, 0, 0, 0, 0, 0}, {255, 255, 255, 255, 255, 255, 255}} {
				b := Join([]byte{byte(first), byte(second)}, tail)
				if n, rest, e := TakeNum(b); e == api.OK && !bytes.Equal(Join(num(t, n), rest), b) {
					t.Fatalf("TakeNum(%x): %d and %x", b, n, rest)
				}
				if s, rest, e := TakeStr(b, 300); e == api.OK && !bytes.Equal(Join(str(t, s, 300), rest), b) {
					t.Fatalf("TakeStr(%x): %q and %x", b, s, rest)
				}
			}
		}
	}
}

// P1.5: numbers stand as their bytes do; none's are the beginning of another one's.
func TestNumbersStandAsTheirBytes(t *testing.T) {
	l := edges()
	for i, m := range l {
		for j, n := range l {
			a, b := num(t, m), num(t, n)
			want := 0
			if i < j {
				want = -1
			} else if i > j {
				want = 1
			}
			if bytes.Compare(a, b) != want {
				t.Errorf("%d and %d stand as %x and %x", m, n, a, b)
			}
			if i != j && bytes.HasPrefix(b, a) {
				t.Errorf("%x begins %x", a, b)
			}
		}
	}
	for n := 1; n < 70000; n++ {
		if bytes.Compare(num(t, n-1), num(t, n)) >= 0 {
			t.Fatalf("%d does not stand behind %d", n, n-1)
		}
	}
}

// P1.5: no text's bytes are the beginning of another one's.
func TestTextsBeginNoOther(t *testing.T) {
	l := []string{"", "\x00", "\x01", "a", "aa", "ab", "a\x00", "b", "\x01a", "\x01\x01a"}
	for _, size := range []int{254, 255, 256, 257} {
		l = append(l, strings.Repeat("a", size), strings.Repeat("\x00", size))
	}
	for i, s := range l {
		for j, x := range l {
			if i != j && bytes.HasPrefix(str(t, x, 300), str(t, s, 300)) {
				t.Errorf("%q begins %q", s, x)
			}
		}
	}
}

// P1.6: what is cut, at each place, is told by ErrTrunc.
func TestCut(t *testing.T) {
	for _, n := range edges() {
		b := num(t, n)
		for size := range len(b) {
			if m, rest, e := TakeNum(b[:size]); m != 0 || len(rest) > 0 || e != api.ErrTrunc {
				t.Errorf("TakeNum(%x): %d, %x, %d", b[:size], m, rest, e)
			}
		}
	}
	for _, length := range []int{0, 1, 2, 255, 256, 300} {
		b := str(t, strings.Repeat("x", length), length)
		for size := range len(b) {
			if s, rest, e := TakeStr(b[:size], length); s != "" || len(rest) > 0 || e != api.ErrTrunc {
				t.Errorf("TakeStr of %d of %d bytes: %q, %x, %d", size, len(b), s, rest, e)
			}
		}
	}
}

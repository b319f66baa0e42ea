package ordkey

import (
	"cmp"
	"math"
	"strings"
	"testing"
	"unsafe"

	"scriptorium/api"
)

const tooLong = maxText + 1

func key(t *testing.T, s string) string {
	t.Helper()
	b, e := Key(s)
	if e != api.OK {
		t.Fatalf("Key of %d bytes: %d", len(s), e)
	}
	return b
}

func down(t *testing.T, s api.Stamp) string {
	t.Helper()
	b, e := Down(s)
	if e != api.OK {
		t.Fatalf("Down(%v): %d", s, e)
	}
	return b
}

// texts are all of up to three of the bytes that may be mixed up, and long ones.
func texts() []string {
	l := []string{""}
	for size, from := 1, 0; size <= 3; size++ {
		to := len(l)
		for ; from < to; from++ {
			for _, c := range []string{"\x00", "\x01", "\x02", "a", "\xff"} {
				l = append(l, l[from]+c)
			}
		}
	}
	for _, size := range []int{31, 32, 33, 999, 1000} {
		l = append(l, strings.Repeat("a", size), strings.Repeat("\x00", size), strings.Repeat("\x00", size-1)+"\x01")
	}
	return l
}

// stamps are those at both ends of what may be, and at each end of a byte; they rise.
func stamps() []api.Stamp {
	walls := []int{0, 1, 2, 3}
	logics := []int{0, 1, 254, 255, 256, 257, 65534, 65535, 65536, 65537, 1<<20 - 3, 1<<20 - 2, 1<<20 - 1}
	for bits := 8; bits < 40; bits += 8 {
		walls = append(walls, 1<<bits-1, 1<<bits, 1<<bits+1)
	}
	walls = append(walls, 1<<40-1<<32, 1<<40-1<<16, 1<<40-257, 1<<40-256, 1<<40-255, 1<<40-2, 1<<40-1, 1<<40)
	var l []api.Stamp
	for _, wall := range walls {
		for _, logic := range logics {
			l = append(l, api.Stamp{Wall: wall, Logic: logic})
		}
	}
	return l
}

// P2.1: Check of texts at both ends of what a key may be.
func TestCheck(t *testing.T) {
	for _, c := range []struct {
		s string
		e api.Errno
	}{
		{"", api.ErrArg},
		{"a", api.OK},
		{"\x00", api.OK},
		{"\xff\x00\xfe", api.OK},
		{strings.Repeat("k", 31), api.OK},
		{strings.Repeat("k", 32), api.OK},
		{strings.Repeat("\x00", 32), api.OK},
		{strings.Repeat("k", 33), api.ErrArg},
		{strings.Repeat("\u00e9", 16), api.OK}, // bytes count, not runes
		{strings.Repeat("\u00e9", 17), api.ErrArg},
		{strings.Repeat("k", tooLong), api.ErrArg},
		{strings.Repeat("k", 1<<16), api.ErrArg},
	} {
		if e := Check(c.s); e != c.e {
			t.Errorf("Check of %d bytes: %d, want %d", len(c.s), e, c.e)
		}
	}
}

// P2.1: Key's bytes.
func TestKey(t *testing.T) {
	for _, c := range []struct{ s, want string }{
		{"a", "a\x00\x00"},
		{"", "\x00\x00"},
		{"\x00\x01", "\x00\x01\x01\x00\x00"},
		{"\x00", "\x00\x01\x00\x00"},
		{"\x00\x00", "\x00\x01\x00\x01\x00\x00"},
		{"\x01", "\x01\x00\x00"},
		{"\x02\xff", "\x02\xff\x00\x00"},
		{"a\x00b", "a\x00\x01b\x00\x00"},
		{"ab\x00", "ab\x00\x01\x00\x00"},
		{"\u00e9", "\xc3\xa9\x00\x00"},
		{strings.Repeat("k", 33), strings.Repeat("k", 33) + "\x00\x00"}, // longer than a key
		{strings.Repeat("k", 1000), strings.Repeat("k", 1000) + "\x00\x00"},
		{strings.Repeat("\x00", 1000), strings.Repeat("\x00\x01", 1000) + "\x00\x00"},
	} {
		if b, e := Key(c.s); b != c.want || e != api.OK {
			t.Errorf("Key(%q): %q, %d; want %q", c.s, b, e, c.want)
		}
	}
}

// P2.1: Key refuses a text of more than 1000 bytes.
func TestKeyRefuses(t *testing.T) {
	for _, size := range []int{1001, 1002, 1 << 16} {
		for _, c := range []string{"a", "\x00"} {
			if b, e := Key(strings.Repeat(c, size)); b != "" || e != api.ErrLimit {
				t.Errorf("Key of %d times %q: %d bytes, %d", size, c, len(b), e)
			}
		}
	}
}

// P2.1: TakeKey's text, and what stands behind it.
func TestTakeKey(t *testing.T) {
	for _, c := range []struct{ t, s, rest string }{
		{"a\x00\x00\x05", "a", "\x05"},
		{"a\x00\x00", "a", ""},
		{"\x00\x00", "", ""},
		{"\x00\x00\x00", "", "\x00"},
		{"\x00\x00\x00\x00", "", "\x00\x00"},
		{"\x00\x00\x00\x02", "", "\x00\x02"},
		{"\x00\x01\x00\x00", "\x00", ""},
		{"\x00\x01\x01\x00\x00b", "\x00\x01", "b"},
		{"\x00\x01\x00\x01\x00\x00\x01", "\x00\x00", "\x01"},
		{"\x01\x00\x00\x01", "\x01", "\x01"},
		{"\xff\x02\x00\x00\xff", "\xff\x02", "\xff"},
		{"a\x00\x01b\x00\x00" + strings.Repeat("x", 2000), "a\x00b", strings.Repeat("x", 2000)},
		{strings.Repeat("a", 1000) + "\x00\x00a", strings.Repeat("a", 1000), "a"},
		{strings.Repeat("\x00\x01", 1000) + "\x00\x00", strings.Repeat("\x00", 1000), ""},
	} {
		if s, rest, e := TakeKey(c.t); s != c.s || rest != c.rest || e != api.OK {
			t.Errorf("TakeKey(%q): %q, %q, %d; want %q, %q", c.t, s, rest, e, c.s, c.rest)
		}
	}
}

// P2.1: TakeKey's errors, and that all else is zero then.
func TestTakeKeyRefuses(t *testing.T) {
	for _, c := range []struct {
		t string
		e api.Errno
	}{
		{"", api.ErrTrunc},
		{"a", api.ErrTrunc},
		{"\x01", api.ErrTrunc},
		{"\x00", api.ErrTrunc},
		{"a\x00", api.ErrTrunc},
		{"\x00\x01", api.ErrTrunc},
		{"\x00\x01\x00", api.ErrTrunc},
		{"\x00\x02", api.ErrSyntax},
		{"\x00\xff", api.ErrSyntax},
		{"a\x00\x02\x00\x00", api.ErrSyntax},
		{"\x00\x01\x00\x02", api.ErrSyntax},
		{"a\x00b\x00\x00", api.ErrSyntax},
		{strings.Repeat("a", 1000), api.ErrTrunc},
		{strings.Repeat("a", 1000) + "\x00", api.ErrTrunc},
		{strings.Repeat("a", 1001), api.ErrLimit},
		{strings.Repeat("a", 1001) + "\x00\x00", api.ErrLimit},
		{strings.Repeat("\x00\x01", 1001), api.ErrLimit},
		{strings.Repeat("\x00\x01", 1001) + "\x00\x00", api.ErrLimit},
		{strings.Repeat("a", 1<<16), api.ErrLimit},
	} {
		if s, rest, e := TakeKey(c.t); s != "" || rest != "" || e != c.e {
			t.Errorf("TakeKey(%q): %q, %q, %d; want error %d", c.t, s, rest, e, c.e)
		}
	}
	for second := 2; second < 256; second++ {
		b := "x\x00" + string([]byte{byte(second)}) + "\x00\x00"
		if s, rest, e := TakeKey(b); s != "" || rest != "" || e != api.ErrSyntax {
			t.Errorf("TakeKey(%q): %q, %q, %d", b, s, rest, e)
		}
	}
}

// P2.1: of two things that are wrong TakeKey tells the first one.
func TestTakeKeyFirstFault(t *testing.T) {
	full := strings.Repeat("a", 1000)
	zeros := strings.Repeat("\x00\x01", 1000)
	for _, c := range []struct {
		t string
		e api.Errno
	}{
		{"\x00\x02\x00", api.ErrSyntax},          // then cut
		{"\x00\x02" + full + "a", api.ErrSyntax}, // then too long
		{full[1:] + "\x00\x02a", api.ErrSyntax},
		{full + "\x00\x02", api.ErrSyntax}, // no further byte is read
		{zeros + "\x00\x02", api.ErrSyntax},
		{full + "a\x00\x02", api.ErrLimit}, // then a wrong byte
		{full + "\x00\x01\x00\x02", api.ErrLimit},
		{full + "a", api.ErrLimit}, // then cut
		{full + "a\x00", api.ErrLimit},
		{full + "\x00\x01", api.ErrLimit},
		{zeros + "\x00\x01\x00", api.ErrLimit},
		{zeros + "\x00", api.ErrTrunc},
		{zeros, api.ErrTrunc},
	} {
		if s, rest, e := TakeKey(c.t); s != "" || rest != "" || e != c.e {
			t.Errorf("TakeKey(.. %q): %q, %q, %d; want error %d", c.t[max(0, len(c.t)-5):], s, rest, e, c.e)
		}
	}
}

// P2.2: Down's bytes.
func TestDown(t *testing.T) {
	for _, c := range []struct {
		wall, logic int
		want        string
	}{
		{1 << 40, 1<<20 - 1, "\x00\x00\x00\x00\x00\x00\x00\x00\x00"},
		{1<<40 - 1, 0, "\x00\x00\x00\x00\x00\x01\x0f\xff\xff"},
		{0, 0, "\x01\x00\x00\x00\x00\x00\x0f\xff\xff"},
		{0, 1<<20 - 1, "\x01\x00\x00\x00\x00\x00\x00\x00\x00"},
		{1 << 40, 0, "\x00\x00\x00\x00\x00\x00\x0f\xff\xff"},
		{1, 1, "\x00\xff\xff\xff\xff\xff\x0f\xff\xfe"},
		{1<<40 - 0x0102030405, 1<<20 - 1 - 0x060708, "\x00\x01\x02\x03\x04\x05\x06\x07\x08"},
	} {
		if b, e := Down(api.Stamp{Wall: c.wall, Logic: c.logic}); b != c.want || e != api.OK {
			t.Errorf("Down(%d, %d): %x, %d; want %x", c.wall, c.logic, b, e, c.want)
		}
	}
}

// P2.2: Down refuses what may not be.
func TestDownRefuses(t *testing.T) {
	for _, c := range [][2]int{
		{-1, 0}, {0, -1}, {-1, -1}, {1<<40 + 1, 0}, {0, 1 << 20}, {1<<40 + 1, 1 << 20},
		{1 << 40, 1 << 20}, {1 << 40, -1}, {-1, 1<<20 - 1}, {1<<40 + 1, 1<<20 - 1}, {1 << 41, 5}, {5, 1 << 24}, {1 << 48, 0},
		{math.MinInt, 0}, {math.MaxInt, 0}, {0, math.MinInt}, {0, math.MaxInt}, {math.MinInt, math.MinInt}, {math.MaxInt, math.MaxInt},
	} {
		if b, e := Down(api.Stamp{Wall: c[0], Logic: c[1]}); b != "" || e != api.ErrArg {
			t.Errorf("Down(%d, %d): %x, %d", c[0], c[1], b, e)
		}
	}
}

// P2.2: TakeDown's stamp, and what stands behind it.
func TestTakeDown(t *testing.T) {
	for _, c := range []struct {
		t           string
		wall, logic int
		rest        string
	}{
		{"\x00\x00\x00\x00\x00\x00\x00\x00\x00", 1 << 40, 1<<20 - 1, ""},
		{"\x00\x00\x00\x00\x00\x01\x0f\xff\xff\x07", 1<<40 - 1, 0, "\x07"},
		{"\x01\x00\x00\x00\x00\x00\x0f\xff\xff", 0, 0, ""},
		{"\x01\x00\x00\x00\x00\x00\x00\x00\x00\x00\x00", 0, 1<<20 - 1, "\x00\x00"},
		{"\x00\x01\x02\x03\x04\x05\x06\x07\x08abc", 1<<40 - 0x0102030405, 1<<20 - 1 - 0x060708, "abc"},
		{"\x00\xff\xff\xff\xff\xff\x0f\xff\xfe\xff", 1, 1, "\xff"},
	} {
		want := api.Stamp{Wall: c.wall, Logic: c.logic}
		if s, rest, e := TakeDown(c.t); s != want || rest != c.rest || e != api.OK {
			t.Errorf("TakeDown(%x): %v, %x, %d; want %v, %x", c.t, s, rest, e, want, c.rest)
		}
	}
}

// P2.2: TakeDown's errors, and that all else is zero then.
func TestTakeDownRefuses(t *testing.T) {
	for _, c := range []struct {
		t string
		e api.Errno
	}{
		{"", api.ErrTrunc},
		{"\xff", api.ErrTrunc},
		{"\xff\xff\xff\xff\xff\xff\xff\xff", api.ErrTrunc}, // no stamp's, too
		{"\x01\x00\x00\x00\x00\x01\x00\x00", api.ErrTrunc},
		{"\x01\x00\x00\x00\x00\x01\x00\x00\x00", api.ErrSyntax}, // a Wall below 0
		{"\x01\x00\x00\x00\x00\x01\x0f\xff\xff\x05", api.ErrSyntax},
		{"\x01\x01\x00\x00\x00\x00\x00\x00\x00", api.ErrSyntax},
		{"\x02\x00\x00\x00\x00\x00\x00\x00\x00", api.ErrSyntax},
		{"\xff\xff\xff\xff\xff\xff\x00\x00\x00", api.ErrSyntax},
		{"\x00\x00\x00\x00\x00\x00\x10\x00\x00", api.ErrSyntax}, // a Logic below 0
		{"\x00\x00\x00\x00\x00\x01\x10\x00\x00\x05", api.ErrSyntax},
		{"\x00\x00\x00\x00\x00\x00\xff\xff\xff", api.ErrSyntax},
		{"\x01\x00\x00\x00\x00\x00\x80\x00\x00", api.ErrSyntax},
		{"\xff\xff\xff\xff\xff\xff\xff\xff\xff\xff", api.ErrSyntax}, // both
	} {
		if s, rest, e := TakeDown(c.t); s != (api.Stamp{}) || rest != "" || e != c.e {
			t.Errorf("TakeDown(%x): %v, %x, %d; want error %d", c.t, s, rest, e, c.e)
		}
	}
}

// P2.3: what was written is read as it was, and what stands behind it is left.
func TestWrittenIsRead(t *testing.T) {
	for _, rest := range []string{"", "\x00", "\x01", "\x02", "\xff", "\x00\x00", "\x00\x02", "a\x00\x00", strings.Repeat("x", 1001)} {
		for _, s := range texts() {
			if x, r, e := TakeKey(key(t, s) + rest); x != s || r != rest || e != api.OK {
				t.Errorf("%q and %q: %q, %q, %d", s, rest, x, r, e)
			}
		}
		for _, s := range stamps() {
			if x, r, e := TakeDown(down(t, s) + rest); x != s || r != rest || e != api.OK {
				t.Errorf("%v and %q: %v, %q, %d", s, rest, x, r, e)
			}
		}
	}
}

// P2.3: what can be read is written so.
func TestReadIsWritten(t *testing.T) {
	read := 0
	for _, head := range texts() {
		for _, tail := range texts() {
			b := head + tail
			if s, rest, e := TakeKey(b); e == api.OK {
				read++
				if key(t, s)+rest != b {
					t.Errorf("TakeKey(%q): %q and %q", b, s, rest)
				}
			}
		}
	}
	if read == 0 {
		t.Error("no text was read")
	}
}

// P2.3: what can be read as a stamp is written so: all pairs of first and last bytes of each part.
func TestReadStampIsWritten(t *testing.T) {
	read := 0
	for i := range 256 {
		for j := range 256 {
			for _, b := range [][]byte{
				{byte(i), byte(j), 0, 0, 0, 0, 0, 0, 0, 9},
				{0, byte(i), 7, 7, 7, byte(j), 1, 2, 3},
				{1, 0, 0, 0, byte(i), byte(j), 0, 0, 0},
				{0, 1, 2, 3, 4, 5, byte(i), byte(j), 255, 0},
				{0, 1, 2, 3, 4, 5, byte(i), 0, byte(j)},
			} {
				if s, rest, e := TakeDown(string(b)); e == api.OK {
					read++
					if down(t, s)+rest != string(b) {
						t.Fatalf("TakeDown(%x): %v and %x", b, s, rest)
					}
				}
			}
		}
	}
	if read == 0 {
		t.Error("no stamp was read")
	}
}

// P2.3: what is cut, at each place, is not read.
func TestCut(t *testing.T) {
	for _, s := range texts() {
		b := key(t, s)
		for size := range len(b) {
			if x, rest, e := TakeKey(b[:size]); x != "" || rest != "" || e != api.ErrTrunc {
				t.Fatalf("TakeKey(%q): %q, %q, %d", b[:size], x, rest, e)
			}
		}
	}
	for _, s := range stamps() {
		b := down(t, s)
		for size := range len(b) {
			if x, rest, e := TakeDown(b[:size]); x != (api.Stamp{}) || rest != "" || e != api.ErrTrunc {
				t.Fatalf("TakeDown(%x): %v, %x, %d", b[:size], x, rest, e)
			}
		}
	}
}

// P2.4: texts stand as their bytes do, and none's begin another one's.
func TestTextsStandAsTheirBytes(t *testing.T) {
	l := texts()
	for i, s := range l {
		a := key(t, s)
		for j, x := range l {
			b := key(t, x)
			if cmp.Compare(a, b) != cmp.Compare(s, x) {
				t.Errorf("%q and %q stand as %q and %q", s, x, a, b)
			}
			if i != j && strings.HasPrefix(b, a) {
				t.Errorf("%q begins %q", a, b)
			}
		}
	}
}

// P2.4: pairs of texts stand as the first ones do, then as the second ones; a stamp may be the second one.
func TestPairsStandAsTheirBytes(t *testing.T) {
	firsts := []string{"", "\x00", "\x00\x00", "\x00\x01", "\x01", "\x01\x00", "\x02", "a", "a\x00", "a\x01", "aa", "\xff"}
	for _, a := range firsts {
		for _, b := range firsts {
			for _, c := range firsts {
				for _, d := range firsts {
					want := cmp.Or(cmp.Compare(a, c), cmp.Compare(b, d))
					if cmp.Compare(key(t, a)+key(t, b), key(t, c)+key(t, d)) != want {
						t.Errorf("(%q, %q) and (%q, %q) do not stand as %d", a, b, c, d, want)
					}
				}
			}
			for _, d := range []api.Stamp{{}, {Wall: 1}, {Wall: api.MaxWall, Logic: api.MaxLogic}} {
				want := cmp.Compare(a, b)
				if want != 0 && cmp.Compare(key(t, a)+down(t, d), key(t, b)+down(t, api.Stamp{Wall: 7})) != want {
					t.Errorf("%q and %q with stamps do not stand as %d", a, b, want)
				}
			}
		}
	}
}

// P2.5: of stamps the greater one's bytes stand ahead; all have nine.
func TestGreaterStampsStandAhead(t *testing.T) {
	l := stamps()
	for i, s := range l {
		a := down(t, s)
		if len(a) != 9 {
			t.Errorf("Down(%v) has %d bytes", s, len(a))
		}
		for j, x := range l {
			if b := down(t, x); cmp.Compare(a, b) != cmp.Compare(j, i) {
				t.Errorf("%v and %v stand as %x and %x", s, x, a, b)
			}
		}
	}
}

// DOC.md, 'Memory': what is answered shares nothing with what was handed in.
func TestAnswersAreNew(t *testing.T) {
	arg := strings.Repeat("k", 20) + "\x00\x00" + strings.Repeat("r", 20)
	s, rest, e := TakeKey(arg)
	if e != api.OK || shares(arg, s) || shares(arg, rest) {
		t.Errorf("TakeKey answers %q, %q, %d of its argument's memory", s, rest, e)
	}
	arg = strings.Repeat("\x00", 9) + strings.Repeat("r", 20)
	_, rest, e = TakeDown(arg)
	if e != api.OK || shares(arg, rest) {
		t.Errorf("TakeDown answers %q, %d of its argument's memory", rest, e)
	}
	arg = strings.Repeat("k", 20)
	if b := key(t, arg); shares(arg, b) {
		t.Errorf("Key answers %q of its argument's memory", b)
	}
}

// shares tells whether s, which is not empty, begins within all's memory.
func shares(all, s string) bool {
	from, at := uintptr(unsafe.Pointer(unsafe.StringData(all))), uintptr(unsafe.Pointer(unsafe.StringData(s)))
	return at >= from && at < from+uintptr(len(all))
}

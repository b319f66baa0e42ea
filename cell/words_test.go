package cell_test

import (
	"encoding/hex"
	"fmt"
	"strings"

	"scriptorium/api"
)

// What follows makes and reads keys and texts from the words, and says what may be, apart from cell and from all that it stands on.

// num is written of any n, also of such as are no numbers.
func num(n int) string {
	var b []byte
	for u := uint64(n); u > 0; u /= 256 {
		b = append([]byte{byte(u % 256)}, b...)
	}
	return string(append([]byte{byte(len(b))}, b...))
}

func nums(l ...int) string {
	var s strings.Builder
	for _, n := range l {
		s.WriteString(num(n))
	}
	return s.String()
}

func str(s string) string { return num(len(s)) + s }

func flag(is bool) int {
	if is {
		return 1
	}
	return 0
}

// stampParts, intentParts and recordParts are a text's parts, one behind the other; each of them is a number, or begins with one.
func stampParts(s api.Stamp) []string { return []string{num(s.Wall), num(s.Logic)} }

func intentParts(x api.Intent) []string {
	l := []string{num(x.Id), num(x.Epoch), num(x.Priority), str(x.Anchor)}
	l = append(l, stampParts(x.Stamp)...)
	l = append(l, stampParts(x.Beat)...)
	l = append(l, num(len(x.L)))
	for _, c := range x.L {
		l = append(l, num(c.Seq), num(flag(c.Del)), str(c.Value))
	}
	return l
}

func recordParts(x api.Record) []string {
	l := []string{num(x.Id), num(x.Epoch), num(x.Status), num(x.Priority), str(x.Anchor)}
	l = append(l, stampParts(x.Stamp)...)
	l = append(l, stampParts(x.Beat)...)
	l = append(l, num(len(x.Writes)))
	for _, w := range x.Writes {
		l = append(l, str(w.Key), num(w.Seq))
	}
	return l
}

func versionParts(value string, is bool) []string {
	if is {
		return []string{num(1), str(value)}
	}
	return []string{num(0)}
}

func joined(l []string) string { return strings.Join(l, "") }

func intentText(x api.Intent) string { return joined(intentParts(x)) }

func recordText(x api.Record) string { return joined(recordParts(x)) }

// ordered is ordkey's: a text's bytes.
func ordered(s string) string {
	return strings.ReplaceAll(s, "\x00", "\x00\x01") + "\x00\x00"
}

func fromHex(s string) string {
	b, err := hex.DecodeString(s)
	if err != nil {
		panic(err)
	}
	return string(b)
}

// down is ordkey's: a stamp's bytes.
func down(s api.Stamp) string {
	return fromHex(fmt.Sprintf("%012x%06x", 1<<40-s.Wall, 1<<20-1-s.Logic))
}

func eight(id int) string { return fromHex(fmt.Sprintf("%016x", uint64(id))) }

// unordered takes an ordkey text off.
func unordered(t string) (s, rest string, is bool) {
	var b []byte
	for i := 0; i+1 < len(t); i++ {
		if t[i] != 0 {
			b = append(b, t[i])
			continue
		}
		i++
		switch t[i] {
		case 0:
			return string(b), t[i+1:], true
		case 1:
			b = append(b, 0)
		default:
			return "", "", false
		}
	}
	return "", "", false
}

// ofKey is a key of that letter, and what stands behind it.
func ofKey(letter byte, k string) (key, behind string, is bool) {
	if len(k) == 0 || k[0] != letter {
		return "", "", false
	}
	key, behind, is = unordered(k[1:])
	if !is || !mayKey(key) {
		return "", "", false
	}
	return key, behind, true
}

func mayNumber(n int) bool { return 0 <= n && n <= 1<<53-1 }

func mayId(n int) bool { return n != 0 && mayNumber(n) }

func mayKey(s string) bool { return 0 < len(s) && len(s) <= 32 }

func mayStamp(s api.Stamp) bool {
	return 0 <= s.Wall && s.Wall <= 1<<40 && 0 <= s.Logic && s.Logic < 1<<20
}

func mayOwner(id, epoch, priority int, anchor string, s, beat api.Stamp) bool {
	return mayId(id) && mayNumber(epoch) && 1 <= priority && priority <= 1000 && mayKey(anchor) && mayStamp(s) && mayStamp(beat)
}

func mayIntent(x api.Intent) bool {
	if !mayOwner(x.Id, x.Epoch, x.Priority, x.Anchor, x.Stamp, x.Beat) || len(x.L) == 0 || len(x.L) > 16 {
		return false
	}
	for i, c := range x.L {
		if !mayId(c.Seq) || i > 0 && x.L[i-1].Seq >= c.Seq || len(c.Value) > 64 || c.Del && len(c.Value) > 0 {
			return false
		}
	}
	return true
}

func mayRecord(x api.Record) bool {
	if !mayOwner(x.Id, x.Epoch, x.Priority, x.Anchor, x.Stamp, x.Beat) || x.Status < 1 || x.Status > 4 || x.Status != 2 && len(x.Writes) > 0 || len(x.Writes) > 32 {
		return false
	}
	for i, w := range x.Writes {
		if !mayId(w.Seq) || !mayKey(w.Key) || i > 0 && x.Writes[i-1].Key >= w.Key {
			return false
		}
	}
	return true
}

// look reads a text, one part behind the other.
type look struct {
	left string
	bad  bool
}

func (l *look) take(size int) string {
	if l.bad || size < 0 || size > len(l.left) {
		l.bad = true
		return ""
	}
	s := l.left[:size]
	l.left = l.left[size:]
	return s
}

func (l *look) num() int {
	n := 0
	count := l.take(1)
	if l.bad || count[0] > 7 {
		l.bad = true
		return 0
	}
	digits := l.take(int(count[0]))
	for i := range len(digits) {
		n = n*256 + int(digits[i])
	}
	if num(n) != count+digits || !mayNumber(n) {
		l.bad = true
	}
	return n
}

func (l *look) str() string { return l.take(l.num()) }

func (l *look) flag() bool {
	n := l.num()
	if n > 1 {
		l.bad = true
	}
	return n == 1
}

func (l *look) stamp() api.Stamp {
	wall := l.num()
	return api.Stamp{Wall: wall, Logic: l.num()}
}

func (l *look) whole() bool { return !l.bad && l.left == "" }

func readNumber(s string) (int, bool) {
	l := &look{left: s}
	n := l.num()
	return n, l.whole()
}

func readStamp(s string) (api.Stamp, bool) {
	l := &look{left: s}
	x := l.stamp()
	return x, l.whole() && mayStamp(x)
}

// version is what a Take of one answers.
type version struct {
	value string
	is    bool
}

func readVersion(s string) (version, bool) {
	l := &look{left: s}
	x := version{is: l.flag()}
	if x.is {
		x.value = l.str()
	}
	return x, l.whole() && len(x.value) <= 64
}

func readIntent(s string) (api.Intent, bool) {
	l := &look{left: s}
	x := api.Intent{Id: l.num()}
	x.Epoch = l.num()
	x.Priority = l.num()
	x.Anchor = l.str()
	x.Stamp = l.stamp()
	x.Beat = l.stamp()
	for n := l.num(); n > 0 && !l.bad; n-- {
		c := api.Change{Seq: l.num()}
		c.Del = l.flag()
		c.Value = l.str()
		x.L = append(x.L, c)
	}
	return x, l.whole() && mayIntent(x)
}

func readRecord(s string) (api.Record, bool) {
	l := &look{left: s}
	x := api.Record{Id: l.num()}
	x.Epoch = l.num()
	x.Status = l.num()
	x.Priority = l.num()
	x.Anchor = l.str()
	x.Stamp = l.stamp()
	x.Beat = l.stamp()
	for n := l.num(); n > 0 && !l.bad; n-- {
		w := api.Write{Key: l.str()}
		w.Seq = l.num()
		x.Writes = append(x.Writes, w)
	}
	return x, l.whole() && mayRecord(x)
}

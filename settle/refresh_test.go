package settle_test

import (
	"fmt"
	"slices"
	"strings"
	"testing"

	"scriptorium/api"
	"scriptorium/cell"
	"scriptorium/settle"
)

// P14.2: one version below, at and above Read, and below, at and above to; whether it is a value or that the key is gone.
func TestAVersionThatCame(t *testing.T) {
	for _, c := range []struct {
		at   api.Stamp
		want api.Errno
	}{
		{wall(0), api.OK}, {wall(10), api.OK}, {stampOf(11, 1<<20-1), api.OK},
		{wall(12), api.ErrRetry}, {stampOf(12, 1), api.ErrRetry}, {wall(15), api.ErrRetry}, {stampOf(19, 1<<20-1), api.ErrRetry}, {wall(20), api.ErrRetry},
		{stampOf(20, 1), api.OK}, {wall(21), api.OK}, {greatest, api.OK},
	} {
		for _, v := range []version{keptAt(c.at), gone(c.at), {at: c.at}} {
			for _, l := range [][]version{nil, {kept(3)}, {kept(40)}, {kept(3), gone(stampOf(11, 1<<20-2)), gone(stampOf(20, 2)), kept(40)}} {
				m := with("a", append(slices.Clone(l), v)...)
				x := m.table(t)
				y, e := settle.Refresh(x, point("a"), reader(wall(12)), wall(20), wall(5))
				answers(t, fmt.Sprint("a version at ", c.at), e, c.want)
				isWay(t, "Refresh", y, api.Intent{})
				for _, s := range []api.Span{all, {From: "a", To: "b"}, {From: "b", To: "c"}, {From: "", To: "a"}} {
					refreshes(t, x, m, s, reader(wall(12)), wall(20), wall(5))
				}
			}
		}
	}
}

// P14.2: one intent below, at and above Read, and below, at and above to, its own, of any epoch, and another one's.
func TestAnIntentThatCame(t *testing.T) {
	for _, c := range []struct {
		at   api.Stamp
		want api.Errno // of another one's
	}{
		{wall(0), api.ErrWait}, {wall(10), api.ErrWait}, {stampOf(11, 1<<20-1), api.ErrWait}, {wall(12), api.ErrWait}, {wall(15), api.ErrWait}, {stampOf(19, 1<<20-1), api.ErrWait}, {wall(20), api.ErrWait},
		{stampOf(20, 1), api.OK}, {wall(21), api.OK}, {greatest, api.OK},
	} {
		for _, id := range []int{1, 6, 7, 8, 1<<53 - 1} {
			for _, epoch := range []int{0, 2, 3, 4, 1<<53 - 1} {
				y := api.Intent{Id: id, Epoch: epoch, Priority: 2, Anchor: "elder", Stamp: c.at, Beat: wall(70), L: []api.Change{change(4, "z"), del(5)}}
				want, way := c.want, y
				if id == 7 {
					want = api.OK
				}
				if want == api.OK {
					way = api.Intent{}
				}
				for _, m := range []*shelf{newShelf().way("a", y), with("a", kept(10), kept(40)).way("a", y)} {
					x := m.table(t)
					got, e := settle.Refresh(x, point("a"), reader(wall(12)), wall(20), wall(5))
					answers(t, fmt.Sprintf("%+v", y), e, want)
					isWay(t, "Refresh", got, way)
					for _, s := range []api.Span{all, {From: "a", To: "b"}, {From: "b", To: "c"}, {From: "", To: "a"}} {
						refreshes(t, x, m, s, reader(wall(12)), wall(20), wall(5))
					}
				}
			}
		}
	}
}

// P14.2: Read and to at one stamp, and beside each other; versions and intents beside them, at the ends of all stamps, too.
func TestStampsOfRefresh(t *testing.T) {
	counts := map[api.Errno]int{}
	for _, from := range []int{place(stampOf(0, 2)), place(stampOf(14, 1<<20-3)), place(wall(15)), place(greatest) - 5} {
		for n := range 6 * 6 * 7 * 7 {
			read, to, v, y := n%6, n/6%6, n/36%7, n/252%7
			if to < read {
				continue
			}
			m := newShelf()
			if v < 6 {
				m.add("a", keptAt(atPlace(from+v)))
			}
			if y < 6 {
				m.way("a", others(atPlace(from+y)))
			}
			x := m.table(t)
			_, e := refreshes(t, x, m, point("a"), reader(atPlace(from+read)), atPlace(from+to), atPlace(from+read-1))
			counts[e]++
		}
	}
	for _, e := range []api.Errno{api.OK, api.ErrRetry, api.ErrWait} {
		if counts[e] < 200 {
			t.Errorf("%d only %d times", e, counts[e])
		}
	}
}

// P14.2: keys at the span's From, just below its To, at its To, and outside of it.
func TestKeysOfASpan(t *testing.T) {
	s := api.Span{From: "b", To: "d"}
	for _, c := range []struct {
		key  string
		isIn bool
	}{
		{"\x00", false}, {"a", false}, {"a\xff\xff", false}, {"B", false}, {"b", true}, {"b\x00", true}, {"bb", true}, {"c", true}, {"c\x00", true}, {"c\xff\xff", true}, {"c" + strings.Repeat("\xff", 31), true},
		{"d", false}, {"d\x00", false}, {"d\xff", false}, {"e", false}, {"\xff", false}, {strings.Repeat("\xff", 32), false},
	} {
		for _, m := range []*shelf{newShelf(), with("a", kept(15)).way("a", others(wall(15))).add("d", kept(15)).way("d", others(wall(15))), with("bc", kept(10), kept(30)).way("bc", own(3, wall(15), change(1, "mine")))} {
			late := m.copied().add(c.key, kept(16))
			waits := m.copied().way(c.key, others(wall(14)))
			for _, r := range []struct {
				m    *shelf
				want api.Errno
				way  api.Intent
			}{{late, api.ErrRetry, api.Intent{}}, {waits, api.ErrWait, others(wall(14))}} {
				if !c.isIn {
					r.want, r.way = api.OK, api.Intent{}
				}
				y, e := refreshes(t, r.m.table(t), r.m, s, reader(wall(12)), wall(20), wall(5))
				answers(t, fmt.Sprintf("%q", c.key), e, r.want)
				isWay(t, c.key, y, r.way)
			}
		}
	}
}

// P14.2: a version and an intent that both came, at one key and at two, whichever stands first: the version is told.
func TestBothCame(t *testing.T) {
	for _, c := range []struct{ what, version, intent string }{
		{"at one key", "b", "b"}, {"the version first", "a", "b"}, {"the intent first", "b", "a"}, {"far apart", "\x00", "\xff"}, {"far apart, the intent first", "\xff", "\x00"},
	} {
		for _, at := range []api.Stamp{wall(3), wall(12), wall(16), wall(20)} {
			for _, v := range []api.Stamp{wall(12), wall(16), wall(20)} {
				m := with(c.version, kept(10), keptAt(v)).way(c.intent, others(at))
				y, e := refreshes(t, m.table(t), m, all, reader(wall(12)), wall(20), wall(5))
				answers(t, c.what, e, api.ErrRetry)
				isWay(t, c.what, y, api.Intent{})
				// Each of them alone.
				if c.version != c.intent {
					_, e = refreshes(t, m.table(t), m, point(c.version), reader(wall(12)), wall(20), wall(5))
					answers(t, c.what+", the version alone", e, api.ErrRetry)
					y, e = refreshes(t, m.table(t), m, point(c.intent), reader(wall(12)), wall(20), wall(5))
					answers(t, c.what+", the intent alone", e, api.ErrWait)
					isWay(t, c.what, y, others(at))
				}
			}
		}
	}
}

// P14.2: of intents at several keys the least key's is told, whatever their stamps; those that did not come are passed over.
func TestTheLeastKeysIntent(t *testing.T) {
	numbered := func(i int, at api.Stamp) api.Intent {
		y := others(at)
		y.Id = 100 + i
		return y
	}
	m := newShelf()
	for i, key := range oddKeys {
		m.way(key, numbered(i, wall(19-i%10)))
	}
	x := m.table(t)
	for i, key := range oddKeys {
		y, e := refreshes(t, x, m, api.Span{From: key, To: all.To}, reader(wall(12)), wall(20), wall(5))
		answers(t, key, e, api.ErrWait)
		isWay(t, key, y, numbered(i, wall(19-i%10)))
	}
	// All but one, each in turn, are its own, or above to, or can't be read.
	for i, key := range oddKeys {
		n := newShelf()
		for j, k := range oddKeys {
			switch {
			case j == i:
				n.way(k, numbered(j, wall(20)))
			case j%3 == 0:
				n.way(k, own(j%5, wall(15), change(1, "mine")))
			case j%3 == 1:
				n.way(k, numbered(j, stampOf(20, 1)))
			default:
				n.and(put(intentKey(k), "junk"))
			}
		}
		y, e := refreshes(t, n.table(t), n, all, reader(wall(12)), wall(20), wall(5))
		answers(t, key, e, api.ErrWait)
		isWay(t, key, y, numbered(i, wall(20)))
		_, e = refreshes(t, n.table(t), n, api.Span{From: "", To: key}, reader(wall(12)), wall(20), wall(5))
		answers(t, key+" is To", e, api.OK)
		_, e = refreshes(t, n.table(t), n, api.Span{From: key + "\x00", To: all.To}, reader(wall(12)), wall(20), wall(5))
		answers(t, key+" is just below From", e, api.OK)
	}
}

// P14.2: each span of all pairs of many ends, also of such as are no keys: one key has a version, or an intent, each in turn.
func TestEndsOfSpans(t *testing.T) {
	texts := []string{"", fill(33), fill(31) + "y\x00", fill(32) + "\x00", fill(32) + "\xff", fill(40), fill(32) + fill(32), strings.Repeat("\x00", 33), strings.Repeat("\x00", 70), strings.Repeat("\xff", 33), strings.Repeat("\xff", 70), strings.Repeat("\xff", 32) + "\x00", strings.Repeat("\xff", 31) + "\x00\x00", "\xfe", "m", "a\x00a", fill(2000)}
	for _, key := range oddKeys {
		texts = append(texts, key, key+"\x00")
	}
	for i, key := range oddKeys {
		m := with(key, kept(15))
		if i%2 == 0 {
			m = newShelf().way(key, others(wall(15)))
		}
		for j, k := range oddKeys {
			switch {
			case j != i && j%2 == 0:
				m.add(k, kept(11), kept(21))
			case j != i:
				m.way(k, own(j%5, wall(15), change(1, "mine")))
			}
		}
		x := m.table(t)
		for _, from := range texts {
			for _, to := range texts {
				y, e := settle.Refresh(x, api.Span{From: from, To: to}, reader(wall(12)), wall(20), wall(5))
				want, way := api.OK, api.Intent{}
				switch {
				case from >= to:
					want = api.ErrArg
				case from <= key && key < to && i%2 == 0:
					want, way = api.ErrWait, others(wall(15))
				case from <= key && key < to:
					want = api.ErrRetry
				}
				answers(t, fmt.Sprintf("%q to %q, %q", from, to, key), e, want)
				isWay(t, key, y, way)
			}
		}
	}
}

// P14.2: a span between two keys that stand beside each other has none of them.
func TestSpansWithoutKeys(t *testing.T) {
	m := newShelf()
	for _, key := range []string{"a", "c", fill(32), strings.Repeat("\xff", 32)} {
		m.add(key, kept(15)).way(key, others(wall(15)))
	}
	x := m.table(t)
	for _, s := range []api.Span{{From: "a\x00", To: "c"}, {From: "b", To: "c"}, {From: "", To: "a"}, {From: "\x00", To: "a"}, {From: fill(33), To: fill(34)}, {From: fill(32) + "\x00", To: "y"}, {From: fill(31), To: fill(32)}, {From: strings.Repeat("\xff", 33), To: strings.Repeat("\xff", 34)}, {From: "c\x00", To: fill(31)}} {
		_, e := refreshes(t, x, m, s, reader(wall(12)), wall(20), wall(5))
		answers(t, fmt.Sprintf("%q", s), e, api.OK)
	}
}

// P14.2: texts that can't be read, of versions and of intents, don't count, wherever they stand.
func TestTextsThatCantBeRead(t *testing.T) {
	versions := append(unreadable(), must(cell.Intent(others(wall(1)))))
	intents := append(unreadable(), versionText(kept(1)), versionText(gone(wall(1))))
	for i, text := range versions {
		if _, _, e := cell.TakeVersion(text); e != api.ErrSyntax {
			t.Fatalf("%q is a version", text)
		}
		m := newShelf()
		for _, key := range []string{"\x00", "a", "b", "\xff"} {
			for _, at := range []api.Stamp{wall(12), wall(15), wall(20)} {
				m.and(put(versionKey(key, at), text))
			}
			m.and(put(intentKey(key), intents[i]))
		}
		_, e := refreshes(t, m.table(t), m, all, reader(wall(12)), wall(20), wall(5))
		answers(t, fmt.Sprintf("%.20q", text), e, api.OK)
		// Beside them, one that can be read.
		m.way("a\x00", others(wall(15)))
		y, e := refreshes(t, m.table(t), m, all, reader(wall(12)), wall(20), wall(5))
		answers(t, fmt.Sprintf("%.20q, and an intent", text), e, api.ErrWait)
		isWay(t, "Refresh", y, others(wall(15)))
		m.add("b", kept(16))
		_, e = refreshes(t, m.table(t), m, all, reader(wall(12)), wall(20), wall(5))
		answers(t, fmt.Sprintf("%.20q, and a version", text), e, api.ErrRetry)
	}
}

// P14.2: rows of other kinds, and such as can't be read, don't count, wherever they stand.
func TestKeysOfOtherKinds(t *testing.T) {
	for _, key := range []string{"a", "\x00", "\xff", "b\x00c", fill(31), fill(32), strings.Repeat("\xff", 32)} {
		isBeside(t, beside(key))
		for _, m := range []*shelf{newShelf(), with(key, kept(10), kept(30)).way(key, own(3, wall(15), change(1, "mine"))), with(key, kept(16)), newShelf().way(key, others(wall(15)))} {
			n := m.copied().and(beside(key)...)
			for _, s := range []api.Span{all, point(key), {From: "", To: key}, {From: key + "\x00", To: all.To}, {From: "\x00", To: "\xff"}} {
				if s.From >= s.To {
					continue
				}
				y, e := refreshes(t, m.table(t), m, s, reader(wall(12)), wall(20), wall(5))
				z, f := refreshes(t, n.table(t), n, s, reader(wall(12)), wall(20), wall(5))
				answers(t, "with more beside it", f, e)
				isWay(t, "with more beside it", z, y)
			}
		}
		// Each of them alone, too.
		for _, o := range beside(key) {
			m := newShelf().and(o)
			_, e := refreshes(t, m.table(t), m, all, reader(wall(12)), wall(20), wall(5))
			answers(t, fmt.Sprintf("beside %q", o.Key), e, api.OK)
		}
	}
}

// P14.2: of many versions one alone came, of the first key, a middle one, or the last one; and of many intents one.
func TestManyKeys(t *testing.T) {
	m := newShelf()
	for i := range 200 {
		key := fmt.Sprintf("k%03d", i)
		m.add(key, kept(1), kept(5), kept(11), kept(21), gone(wall(30)))
		if i%2 == 0 {
			m.way(key, others(wall(40)))
		}
	}
	_, e := refreshes(t, m.table(t), m, all, reader(wall(12)), wall(20), wall(4))
	answers(t, "none came", e, api.OK)
	for _, i := range []int{0, 1, 99, 100, 198, 199} {
		key := fmt.Sprintf("k%03d", i)
		late, waits := m.copied().add(key, gone(wall(12))), m.copied().way(key, others(wall(20)))
		for _, s := range []api.Span{all, point(key), {From: "k000", To: "k199\x00"}, {From: "", To: key + "\x00"}, {From: key, To: "l"}} {
			_, e := refreshes(t, late.table(t), late, s, reader(wall(12)), wall(20), wall(4))
			answers(t, key, e, api.ErrRetry)
			y, e := refreshes(t, waits.table(t), waits, s, reader(wall(12)), wall(20), wall(4))
			answers(t, key, e, api.ErrWait)
			isWay(t, key, y, others(wall(20)))
		}
		for _, s := range []api.Span{{From: "", To: key}, {From: key + "\x00", To: all.To}} {
			_, e := refreshes(t, late.table(t), late, s, reader(wall(12)), wall(20), wall(4))
			answers(t, "outside of "+key, e, api.OK)
			_, e = refreshes(t, waits.table(t), waits, s, reader(wall(12)), wall(20), wall(4))
			answers(t, "outside of "+key, e, api.OK)
		}
	}
}

package peek_test

import (
	"fmt"
	"slices"
	"strings"
	"testing"

	"scriptorium/api"
	"scriptorium/peek"
)

// P12.3: spans whose From is at, above and just below To; ends without bytes, or longer than a key may be.
func TestSpansOfScan(t *testing.T) {
	m := with("a", kept(10, "x")).add("a\x00", kept(10, "y")).add("b", kept(10, "z"))
	x := m.table(t)
	txn := me(wall(15), wall(15))
	for _, c := range []struct {
		s   api.Span
		may bool
	}{
		{api.Span{}, false}, {api.Span{From: "a", To: "a"}, false}, {api.Span{From: "b", To: "a"}, false}, {api.Span{From: "a\x00", To: "a"}, false}, {api.Span{From: "a"}, false}, {api.Span{From: "\x00"}, false}, {api.Span{From: "\xff", To: "\x00"}, false}, {api.Span{From: "B", To: "A"}, false}, {api.Span{From: "9", To: "10"}, false},
		{api.Span{To: "\x00"}, true}, {api.Span{To: "a"}, true}, {api.Span{To: "\xff"}, true}, {api.Span{From: "a", To: "a\x00"}, true}, {api.Span{From: "a", To: "b"}, true}, {api.Span{From: "10", To: "9"}, true}, {api.Span{From: "B", To: "a"}, true}, {api.Span{From: "\x7f", To: "\x80"}, true},
		{api.Span{From: fill(32), To: fill(33)}, true}, {api.Span{From: fill(33), To: fill(34)}, true}, {api.Span{From: fill(33), To: fill(33)}, false}, {api.Span{From: fill(34), To: fill(33)}, false}, {api.Span{From: fill(1000), To: fill(5000)}, true}, {api.Span{From: fill(5000), To: fill(1000)}, false}, {api.Span{To: fill(1 << 16)}, true}, {api.Span{From: fill(1 << 16), To: "y"}, true},
		{api.Span{From: fill(1 << 16), To: fill(1 << 16)}, false}, {api.Span{From: fill(1<<16 - 1), To: fill(1 << 16)}, true},
	} {
		want := api.ErrArg
		if c.may {
			want = api.OK
		}
		answers(t, fmt.Sprintf("%.20q", c.s), scans(t, x, m, c.s, txn, wall(5)), want)
	}
}

// P12.3: each span of all pairs of many ends, held against the words: From is told, and To is not.
func TestEndsOfScan(t *testing.T) {
	m := newShelf()
	for i, key := range oddKeys {
		switch i % 4 {
		case 0, 1:
			m.add(key, kept(10, fmt.Sprint("of ", i)))
		case 2:
			m.way(key, own(3, wall(12), change(1, fmt.Sprint("mine ", i))))
		case 3:
			m.way(key, own(2, wall(12), change(1, "past"))).add(key, kept(9, "elder"), kept(14, fmt.Sprint("of ", i)))
		}
	}
	x := m.table(t)
	ends := []string{"", fill(33), fill(31) + "y\x00", fill(32) + "\x00", fill(32) + "\xff", fill(40), fill(32) + fill(32), strings.Repeat("\x00", 33), strings.Repeat("\x00", 70), strings.Repeat("\xff", 33), strings.Repeat("\xff", 70), strings.Repeat("\xff", 32) + "\x00", strings.Repeat("\xff", 31) + "\x00\x00", "\xfe", "m", "a\x00a", fill(2000)}
	for _, key := range oddKeys {
		ends = append(ends, key, key+"\x00", key+"\xff")
	}
	for _, from := range ends {
		for _, to := range ends {
			scans(t, x, m, api.Span{From: from, To: to}, me(wall(15), wall(15)), wall(5))
		}
	}
	waits := m.copied()
	for _, key := range []string{"a\x00b", fill(32), strings.Repeat("\xff", 32)} {
		waits.way(key, others(wall(15)))
	}
	x = waits.table(t)
	for _, from := range ends {
		for _, to := range ends {
			scans(t, x, waits, api.Span{From: from, To: to}, me(wall(15), wall(15)), wall(5))
		}
	}
}

// P12.3: what is told of a few keys, in plain words.
func TestRowsOfScan(t *testing.T) {
	m := with("b", kept(10, "x")).add("a", kept(11, "y"), kept(20, "later")).add("c", gone(12)).add("d", kept(13, "")).
		way("e", own(3, wall(90), change(1, "mine"))).
		way("f", own(3, wall(90), del(1))).add("f", kept(10, "hidden")).
		way("g", others(wall(16))).add("g", kept(10, "behind")).
		way("h", own(2, wall(12), change(1, "past"))).
		way("i", others(wall(16)))
	x := m.table(t)
	want := []api.Row{{Key: "a", Value: "y"}, {Key: "b", Value: "x"}, {Key: "d", Value: ""}, {Key: "e", Value: "mine"}, {Key: "g", Value: "behind"}}
	for _, c := range []struct {
		from, to string
		want     []api.Row
	}{
		{"", "z", want}, {"a", "j", want}, {"a", "g\x00", want}, {"a", "g", want[:4]}, {"a\x00", "z", want[1:]}, {"b", "e", want[1:3]}, {"b", "e\x00", want[1:4]}, {"c", "d", nil}, {"f", "g", nil}, {"h", "z", nil}, {"", "a", nil}, {"j", "z", nil}, {"d", "d\x00", want[2:3]},
	} {
		what := c.from + " to " + c.to
		rows, f, e := peek.Scan(x, api.Span{From: c.from, To: c.to}, me(wall(15), wall(15)), wall(5))
		answers(t, what, e, api.OK)
		found(t, what, f, peek.Found{})
		told(t, what, rows, c.want)
		scans(t, x, m, api.Span{From: c.from, To: c.to}, me(wall(15), wall(15)), wall(5))
	}
}

// P12.3: spans without keys, with only such as are gone, and with own intents on keys that have no version.
func TestScansThatTellNothing(t *testing.T) {
	gones, dels := newShelf(), newShelf()
	for i := range 100 {
		gones.add(fmt.Sprintf("k%02d", i), kept(10, "was"), gone(11))
		dels.way(fmt.Sprintf("k%02d", i), own(3, wall(9), change(1, "was"), del(2)))
	}
	for _, m := range []*shelf{newShelf(), gones, dels} {
		answers(t, "Scan", scans(t, m.table(t), m, all, me(wall(15), wall(15)), wall(5)), api.OK)
		rows, _, _ := peek.Scan(m.table(t), all, me(wall(15), wall(15)), wall(5))
		told(t, "Scan", rows, nil)
	}
	mine := newShelf()
	for i := range 64 {
		mine.way(fmt.Sprintf("k%02d", i*7%64), own(3, wall(100+i), change(1, "elder"), change(2, fmt.Sprint("mine ", i))))
	}
	x := mine.table(t)
	answers(t, "Scan of own intents", scans(t, x, mine, all, me(wall(15), wall(15)), wall(5)), api.OK)
	rows, _, _ := peek.Scan(x, all, me(wall(15), wall(15)), wall(5))
	if len(rows) != 64 || !slices.IsSortedFunc(rows, func(a, b api.Row) int { return strings.Compare(a.Key, b.Key) }) {
		t.Fatalf("%d rows: %q", len(rows), rows)
	}
}

// many is a shelf of so many keys: k000, k010, k020 and so on; most have a version, each third one an own intent.
func many(n int) *shelf {
	m := newShelf()
	for i := range n {
		key := fmt.Sprintf("k%02d0", i)
		if i%3 == 2 {
			m.way(key, own(3, wall(7), change(1, fmt.Sprint("mine ", i))))
		} else {
			m.add(key, kept(10, fmt.Sprint("of ", i)))
		}
	}
	return m
}

// P12.3: 63, 64, 65 rows and more, with keys between that have none.
func TestMostRows(t *testing.T) {
	txn := me(wall(15), wall(15))
	for _, n := range []int{1, 2, 62, 63, 64, 65, 66, 90} {
		for _, between := range []int{0, 1, 30} {
			m := many(n)
			for i := range between {
				m.add(fmt.Sprintf("k%02d5", i*2), gone(10)).way(fmt.Sprintf("k%02d6", i*2), others(wall(99)))
			}
			m.add("z", gone(10))
			x := m.table(t)
			want := api.OK
			if n > 64 {
				want = api.ErrLimit
			}
			answers(t, fmt.Sprint(n, " rows"), scans(t, x, m, all, txn, wall(5)), want)
			rows, f, _ := peek.Scan(x, all, txn, wall(5))
			found(t, fmt.Sprint(n, " rows"), f, peek.Found{})
			if n <= 64 && len(rows) != n || n > 64 && len(rows) != 0 {
				t.Fatalf("%d rows of %d", len(rows), n)
			}
			// Any 64 keys that stand together are told, and any 65 are not.
			for i := 0; i+65 <= n; i++ {
				from := fmt.Sprintf("k%02d0", i)
				answers(t, from, scans(t, x, m, api.Span{From: from, To: fmt.Sprintf("k%02d0", i+64)}, txn, wall(5)), api.OK)
				answers(t, from, scans(t, x, m, api.Span{From: from, To: fmt.Sprintf("k%02d1", i+64)}, txn, wall(5)), api.ErrLimit)
			}
		}
	}
}

// failing puts what has that error under a key.
func failing(m *shelf, key string, e api.Errno) *shelf {
	switch e {
	case api.ErrWait:
		m.way(key, others(wall(14)))
	case api.ErrUnsure:
		m.add(key, kept(16, "unsure"))
	case api.ErrStale:
		m.way(key, own(4, wall(14), change(1, "late")))
	}
	return m
}

// P12.3: an error of a key ahead of the 65-th row is told, one behind it is not.
func TestErrorsAndTheMostRows(t *testing.T) {
	txn := me(wall(15), wall(20))
	for _, e := range []api.Errno{api.ErrWait, api.ErrUnsure, api.ErrStale} {
		for _, n := range []int{63, 64, 65, 66, 80} {
			for _, c := range []struct {
				key  string
				want api.Errno // of 65 rows or more
			}{
				{"a", e}, {"k001", e}, {"k311", e}, {"k625", e}, {"k629", e}, {"k631", e}, {"k639", e}, {"k641", api.ErrLimit}, {"k645", api.ErrLimit}, {"k700", api.ErrLimit}, {"z", api.ErrLimit},
			} {
				m := failing(many(n), c.key, e)
				want := e
				if n > 64 {
					want = c.want
				}
				answers(t, fmt.Sprint(n, " rows, an error at ", c.key), scans(t, m.table(t), m, all, txn, wall(5)), want)
			}
		}
		// The key that would have the 65-th row has the error itself.
		m := many(65)
		delete(m.versions, "k640")
		delete(m.intents, "k640")
		failing(m, "k640", e)
		m.add("k700", kept(10, "the 65-th"))
		answers(t, "in the place of the 65-th row", scans(t, m.table(t), m, all, txn, wall(5)), e)
	}
}

// P12.3: of several errors the first one by the keys is told, with its Found.
func TestFirstErrorOfSeveral(t *testing.T) {
	errors := []api.Errno{api.ErrWait, api.ErrUnsure, api.ErrStale}
	txn := me(wall(15), wall(20))
	for _, first := range errors {
		for _, second := range errors {
			for _, third := range errors {
				for _, keys := range [][]string{{"b", "c", "d"}, {"b", "b\x00", "b\x00\x00"}, {"\x00", "b", "\xff"}, {fill(30), fill(31), fill(32)}} {
					m := with("a", kept(10, "x")).add("e", kept(10, "x"))
					failing(failing(failing(m, keys[2], third), keys[1], second), keys[0], first)
					x := m.table(t)
					answers(t, "Scan of all", holds(t, x, m, txn, wall(5)), first)
					f, _ := peek.Get(x, keys[0], txn, wall(5))
					_, g, _ := peek.Scan(x, all, txn, wall(5))
					found(t, "Scan of all", g, f)
					if first != api.ErrStale && g.Key != keys[0] {
						t.Fatalf("%q is found", g.Key)
					}
					answers(t, "behind the first one", scans(t, x, m, api.Span{From: keys[0] + "\x00", To: all.To}, txn, wall(5)), second)
					answers(t, "behind the second one", scans(t, x, m, api.Span{From: keys[1] + "\x00", To: all.To}, txn, wall(5)), third)
					if e := scans(t, x, m, api.Span{To: keys[0]}, txn, wall(5)); keys[0] != "\x00" {
						answers(t, "ahead of the first one", e, api.OK)
					}
				}
			}
		}
	}
}

// P12.3: of a key that has an intent and versions there is one row.
func TestOneRowAKey(t *testing.T) {
	m := newShelf()
	for i := range 60 {
		key := fmt.Sprintf("k%02d", i)
		m.add(key, kept(10, "x"), kept(11, "y"), gone(12), kept(13, fmt.Sprint("of ", i)), kept(30, "later"))
		if i%2 == 0 {
			m.way(key, own(3, wall(14), change(1, "mine")))
		}
	}
	x := m.table(t)
	answers(t, "Scan", holds(t, x, m, me(wall(15), wall(15)), wall(5)), api.OK)
	rows, _, _ := peek.Scan(x, all, me(wall(15), wall(15)), wall(5))
	if len(rows) != 60 {
		t.Fatalf("%d rows", len(rows))
	}
}

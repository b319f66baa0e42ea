package table_test

import (
	"fmt"
	"iter"
	"maps"
	"slices"
	"testing"

	"scriptorium/api"
	"scriptorium/table"
)

// whole asks for a range, both ways, and what is ahead of it and behind it.
func whole(t *testing.T, x *table.Table, m plain, from, to string) {
	t.Helper()
	want := m.within(from, to)
	equal(t, fmt.Sprintf("All(%.40q, %.40q)", from, to), told(x.All(from, to)), want)
	equal(t, fmt.Sprintf("Back(%.40q, %.40q)", from, to), told(x.Back(from, to)), reversed(want))
}

// stops asks for a range that ends behind so many keys.
func stops(t *testing.T, each iter.Seq2[string, string], count int, want []api.Row) {
	t.Helper()
	var got []api.Row
	for key, value := range each {
		got = append(got, api.Row{Key: key, Value: value})
		if len(got) == count {
			break
		}
	}
	equal(t, fmt.Sprintf("stopped behind %d", count), got, want[:count])
}

// bounds are keys of a table, texts between them, ahead of all, behind all, and the one without bytes.
var bounds = []string{"", "\x00", "A", "b", "b\x00", "ba", "c", "d", "d\x00", "d\x00\x00", "dd", "e", "f", "f\xff", "g", "h", "\xff", "\xff\xff", "\xff\xff\xff"}

var boundKeys = []string{"b", "d", "d\x00", "f", "f\xff", "g", "\xff\xff"}

// P10.3, P10.7: All and Back, with each pair of bounds, of each choice of some keys; stopped at the first, a middle, the last key.
func TestBounds(t *testing.T) {
	for choice := range 1 << len(boundKeys) {
		x, m := made(t, choice)
		for i, key := range boundKeys {
			if choice>>i&1 == 1 {
				done(t, x, m, put(key, fmt.Sprint(i)))
			}
		}
		for _, from := range bounds {
			for _, to := range bounds {
				whole(t, x, m, from, to)
			}
		}
		for _, from := range bounds {
			want := m.within(from, "")
			for count := 1; count <= len(want); count++ {
				stops(t, x.All(from, ""), count, want)
				stops(t, x.Back(from, ""), count, reversed(want))
			}
		}
	}
}

// P10.7: all from one key on, up to another one, and from there on, are all from the first one on.
func TestRangesThatTouch(t *testing.T) {
	x, _ := made(t, 2, boundKeys...)
	y, _ := made(t, 3)
	for _, x := range []*table.Table{x, y} {
		for i, from := range bounds {
			for j, mid := range bounds[i:] {
				if mid == "" { // that would be no end
					continue
				}
				for _, to := range append([]string{""}, bounds[i+j:]...) {
					if to != "" && to < mid {
						continue
					}
					rising := slices.Concat(told(x.All(from, mid)), told(x.All(mid, to)))
					equal(t, fmt.Sprintf("All(%q, %q, %q)", from, mid, to), rising, told(x.All(from, to)))
					falling := slices.Concat(told(x.Back(mid, to)), told(x.Back(from, mid)))
					equal(t, fmt.Sprintf("Back(%q, %q, %q)", from, mid, to), falling, told(x.Back(from, to)))
				}
			}
		}
	}
}

// P10.3: a function that was ranged over, to its end or not, begins anew.
func TestRangedOverTwice(t *testing.T) {
	x, m := made(t, 4, boundKeys...)
	rising, falling := x.All("b\x00", "g"), x.Back("b\x00", "g")
	want := m.within("b\x00", "g")
	for count := 1; count <= len(want); count++ {
		for range 2 {
			stops(t, rising, count, want)
			stops(t, falling, count, reversed(want))
			equal(t, "All", told(rising), want)
			equal(t, "Back", told(falling), reversed(want))
		}
	}
}

// P10.3: two ranges at once, of the same function or of others, one within the other.
func TestRangeWithinRange(t *testing.T) {
	x, m := made(t, 5, boundKeys...)
	want := m.within("", "")
	ways := []iter.Seq2[string, string]{x.All("", ""), x.Back("", "")}
	for i, outer := range ways {
		for j, inner := range ways {
			var got []api.Row
			for key, value := range outer {
				got = append(got, api.Row{Key: key, Value: value})
				equal(t, "the inner one", told(inner), told(ways[j]))
				stops(t, inner, len(got), [][]api.Row{want, reversed(want)}[j])
				whole(t, x, m, key, "")
				whole(t, x, m, "", key)
				has(t, x, want)
				has(t, x.Copy(), want)
			}
			equal(t, "the outer one", got, [][]api.Row{want, reversed(want)}[i])
		}
	}
}

// walk is a range that is held, key by key, against what the map has when each is asked for.
type walk struct {
	from, to string
	falling  bool
}

func (w walk) seq(x *table.Table) iter.Seq2[string, string] {
	if w.falling {
		return x.Back(w.from, w.to)
	}
	return x.All(w.from, w.to)
}

// next is what comes behind a key; of "" the first one.
func (w walk) next(m plain, key string) (api.Row, bool) {
	var left []api.Row
	for _, r := range m.within(w.from, w.to) {
		if key == "" || w.falling && r.Key < key || !w.falling && r.Key > key {
			left = append(left, r)
		}
	}
	if len(left) == 0 {
		return api.Row{}, false
	}
	if w.falling {
		return left[len(left)-1], true
	}
	return left[0], true
}

// holds ranges over each, with what is done at each key.
func (w walk) holds(t *testing.T, each iter.Seq2[string, string], m plain, during func(i int, key string)) string {
	t.Helper()
	i, at, got := 0, "", ""
	for key, value := range each {
		want, ok := w.next(m, at)
		if !ok || want.Key != key || want.Value != value {
			t.Fatalf("%v: behind %q comes %q: %q; want %q, %v", w, at, key, value, want, ok)
		}
		at, got = key, got+key
		during(i, key)
		i++
		if i > 10000 {
			t.Fatal("it does not end")
		}
	}
	if want, ok := w.next(m, at); ok {
		t.Fatalf("%v: behind %q comes nothing; want %q", w, at, want)
	}
	return got
}

// P10.3: each next key is looked for in the table as it is then: rising and falling, by what is done at the key c of a to e.
func TestChangedWhileRangedOver(t *testing.T) {
	for i, c := range []struct {
		what            []api.Op
		rising, falling string
	}{
		{nil, "abcde", "edcba"},
		// At the place.
		{ops(put("c", "new")), "abcde", "edcba"},
		{ops(gone("c")), "abcde", "edcba"},
		{ops(gone("c"), put("c", "new")), "abcde", "edcba"},
		// On the one side of it.
		{ops(put("bb", "1")), "abcde", "edcbbba"},
		{ops(gone("b")), "abcde", "edca"},
		{ops(gone("b"), gone("a")), "abcde", "edc"},
		{ops(put("b", "new"), put("a", "new")), "abcde", "edcba"},
		{ops(put("A", "1")), "abcde", "edcbaA"},
		// On the other one.
		{ops(put("cc", "1")), "abcccde", "edcba"},
		{ops(put("c\x00", "1")), "abcc\x00de", "edcba"},
		{ops(put("c\x00", "1"), put("c\x00\x00", "1")), "abcc\x00c\x00\x00de", "edcba"},
		{ops(gone("d")), "abce", "edcba"},
		{ops(gone("d"), gone("e")), "abc", "edcba"},
		{ops(put("d", "new"), put("e", "new")), "abcde", "edcba"},
		{ops(put("z", "1")), "abcdez", "edcba"},
		// On both, all of them, and none.
		{ops(gone("a"), gone("b"), gone("c"), gone("d"), gone("e")), "abc", "edc"},
		{ops(gone("c"), put("bb", "1"), put("cc", "1")), "abcccde", "edcbbba"},
		{ops(gone("b"), gone("c"), gone("d")), "abce", "edca"},
		{ops(gone("b"), put("b", "new"), gone("d"), put("d", "new")), "abcde", "edcba"},
		{ops(gone("d"), put("", "")), "abcde", "edcba"},
	} {
		for _, falling := range []bool{false, true} {
			x, m := made(t, i, "a", "b", "c", "d", "e")
			w := walk{falling: falling}
			got := w.holds(t, w.seq(x), m, func(_ int, key string) {
				if key == "c" {
					applies(t, x, m, c.what...)
				}
			})
			if want := map[bool]string{false: c.rising, true: c.falling}[falling]; got != want {
				t.Errorf("%d: %q; want %q", i, got, want)
			}
			is(t, x, m)
		}
	}
}

// P10.3: the same at the first key, and at the last one, with bounds: what is put without them is not told.
func TestChangedAtTheEnds(t *testing.T) {
	changes := [][]api.Op{
		ops(gone("b")), ops(gone("c")), ops(gone("d")), ops(put("a", "1")), ops(put("bb", "1")), ops(put("cc", "1")), ops(put("dd", "1")), ops(put("e", "1")), ops(put("z", "1")),
		ops(put("b\x00", "1")), ops(put("d\x00", "1")), ops(gone("b"), gone("c"), gone("d")), ops(gone("c"), put("c", "2")), ops(put("b", "2"), put("d", "2")),
	}
	for i, l := range changes {
		for _, at := range []string{"b", "c", "d"} {
			for _, w := range []walk{{"", "", false}, {"b", "e", false}, {"b", "d", false}, {"b\x00", "dd", false}, {"a", "z", false}, {"", "d\x00", false}} {
				for _, falling := range []bool{false, true} {
					x, m := made(t, i, "b", "c", "d")
					w.falling = falling
					w.holds(t, w.seq(x), m, func(_ int, key string) {
						if key == at {
							done(t, x, m, l...)
						}
					})
					is(t, x, m, "a", "e", "z")
				}
			}
		}
	}
}

// P10.3: what is put just ahead of the place, at each key, is told up to the end that is given.
func TestPutWhileRangedOver(t *testing.T) {
	x, m := made(t, 6, "a", "z")
	w := walk{to: "b"}
	if got := w.holds(t, w.seq(x), m, func(i int, key string) {
		if i < 50 {
			done(t, x, m, put(key+"a", "1"), gone(key))
		} else {
			done(t, x, m, put("b", "1"), put("c", "1"))
		}
	}); len(got) != 51*52/2 {
		t.Errorf("%d bytes of keys", len(got))
	}
	x, m = made(t, 7, "z")
	w = walk{from: "b", falling: true}
	w.holds(t, w.seq(x), m, func(i int, key string) {
		done(t, x, m, put(fmt.Sprintf("%c", key[0]-1), "1"), gone(key))
	})
	has(t, x, rowsOf("a", "1"))
}

// P10.3: the first key is looked for when it is asked for: a function that was taken ahead of changes tells what is there behind them.
func TestTakenAheadOfChanges(t *testing.T) {
	x, m := made(t, 8)
	var walks []walk
	var each []iter.Seq2[string, string]
	for _, from := range []string{"", "b", "d"} {
		for _, to := range []string{"", "b", "d"} {
			for _, falling := range []bool{false, true} {
				walks = append(walks, walk{from, to, falling})
				each = append(each, walks[len(walks)-1].seq(x))
			}
		}
	}
	for i, l := range [][]api.Op{
		nil, ops(put("b", "1")), ops(put("a", "2"), put("c", "3"), put("e", "4")), ops(put("b", "5")), ops(gone("b")),
		ops(gone("a"), put("aa", "6")), ops(gone("aa"), gone("c"), gone("e")), ops(put("d", "7"), put("\x00", "8"), put("\xff", "9")),
	} {
		done(t, x, m, l...)
		for j, w := range walks {
			want := m.within(w.from, w.to)
			if w.falling {
				want = reversed(want)
			}
			equal(t, fmt.Sprint(i, w), told(each[j]), want)
		}
	}
}

// P10.4: a table, or its copy, is changed while one of the two is ranged over, or copied.
func TestCopyWhileRangedOver(t *testing.T) {
	for _, falling := range []bool{false, true} {
		for _, changed := range []bool{false, true} {
			x, m := made(t, 9, boundKeys...)
			y, n := x.Copy(), maps.Clone(m)
			w := walk{falling: falling}
			w.holds(t, w.seq(x), m, func(i int, key string) {
				if changed {
					done(t, x, m, gone(key), put(key+"x", "x"))
				}
				done(t, y, n, gone(boundKeys[(i+3)%len(boundKeys)]), put(key+"y", "y"))
				if i > 20 && !falling { // else it would put ahead of the place without an end
					changed = false
				}
				is(t, x.Copy(), m)
				is(t, y.Copy(), n)
			})
			is(t, x, m)
			is(t, y, n)
			w.holds(t, w.seq(y), n, func(i int, key string) {
				done(t, x, m, put(key, "again"))
				z := y.Copy()
				is(t, z, n)
				answers(t, z.Apply(ops(gone(key), put("z", "z"))), api.OK)
			})
			is(t, x, m)
			is(t, y, n)
		}
	}
}

// P10.3: a loop that is left by a panic of its own leaves the table as it was.
func TestRangeThatPanics(t *testing.T) {
	x, m := made(t, 10, boundKeys...)
	for _, each := range []iter.Seq2[string, string]{x.All("", ""), x.Back("", "")} {
		func() {
			defer func() {
				if recover() != "left" {
					t.Error("another panic")
				}
			}()
			for range each {
				panic("left")
			}
		}()
		is(t, x, m)
		whole(t, x, m, "b", "g")
	}
}

package table_test

import (
	"fmt"
	"maps"
	"math/rand"
	"slices"
	"testing"

	"scriptorium/api"
	"scriptorium/table"
)

// P10.2, P10.3, P10.6: each way of two batches of at most two changes of three keys, and of some of a third one, each table asked for all that it tells.
func TestEveryShortWay(t *testing.T) {
	keys := []string{"a", "a\x00", "b"}
	var changes []api.Op
	for _, key := range keys {
		changes = append(changes, put(key, "1"), put(key, ""), gone(key))
	}
	batches := [][]api.Op{nil}
	for _, one := range changes {
		batches = append(batches, ops(one))
		for _, two := range changes {
			batches = append(batches, ops(one, two))
		}
	}
	for i, one := range batches {
		x, m := made(t, i)
		done(t, x, m, one...)
		is(t, x, m, keys...)
		for j, two := range batches {
			y, n := x.Copy(), maps.Clone(m)
			done(t, y, n, two...)
			has(t, y, n.within("", ""))
			done(t, y, n, batches[(i*7+j*11)%len(batches)]...)
			is(t, y, n, keys...)
		}
		is(t, x, m, keys...)
	}
}

// drawnKey is one of a few texts, so that many of them are there; now and then the one without bytes.
func drawnKey(r *rand.Rand) string {
	b := make([]byte, r.Intn(4))
	if len(b) == 0 && r.Intn(8) > 0 {
		b = []byte{'m'}
	}
	for i := range b {
		b[i] = "\x00ab\xff"[r.Intn(4)]
	}
	return string(b)
}

// drawnBatch is mostly one that may be.
func drawnBatch(r *rand.Rand) []api.Op {
	n := r.Intn(6)
	if r.Intn(30) == 0 {
		n = 120 + r.Intn(20)
	}
	var l []api.Op
	for range n {
		op := api.Op{Key: drawnKey(r), Value: fmt.Sprint(r.Intn(1000)), Del: r.Intn(3) == 0}
		if op.Del && r.Intn(100) > 0 {
			op.Value = ""
		}
		if op.Key == "" && r.Intn(4) > 0 {
			op.Key = "m"
		}
		l = append(l, op)
	}
	return l
}

// P10.2 to P10.7: long ways of batches and copies are as on plain maps, with ranges between that are changed on their way.
func TestLongWays(t *testing.T) {
	answered := map[api.Errno]int{}
	for seed := range 80 {
		r := rand.New(rand.NewSource(int64(seed)))
		tables, models := []*table.Table{table.New(seed)}, []plain{{}}
		for range 200 {
			i := r.Intn(len(tables))
			x, m := tables[i], models[i]
			switch r.Intn(12) {
			case 0:
				if len(tables) == 5 { // this one goes on alone
					tables, models = []*table.Table{x}, []plain{m}
				}
				tables, models = append(tables, x.Copy()), append(models, maps.Clone(m))
			case 1:
				w := walk{from: drawnKey(r), to: drawnKey(r), falling: r.Intn(2) == 0}
				if r.Intn(2) == 0 {
					w.from, w.to = "", ""
				}
				left := 20
				w.holds(t, w.seq(x), m, func(int, string) {
					if left--; left > 0 {
						answered[applies(t, x, m, drawnBatch(r)...)]++
					}
				})
			case 2:
				whole(t, x, m, drawnKey(r), drawnKey(r))
			default:
				answered[applies(t, x, m, drawnBatch(r)...)]++
			}
			is(t, x, m, drawnKey(r), drawnKey(r))
		}
		for i, x := range tables {
			is(t, x, models[i], oddKeys...)
		}
	}
	for _, e := range []api.Errno{api.OK, api.ErrArg, api.ErrLimit} {
		if answered[e] < 50 {
			t.Errorf("only %d batches were answered by %d", answered[e], e)
		}
	}
}

// P10.2 to P10.4, P10.7: thousands of keys, put in several orders, then some gone, and in the end all.
func TestManyKeys(t *testing.T) {
	const count = 6000
	var keys []string
	for i := range count {
		keys = append(keys, fmt.Sprintf("%x", i*7919))
	}
	slices.Sort(keys)
	falling := slices.Clone(keys)
	slices.Reverse(falling)
	r := rand.New(rand.NewSource(10))
	mixed := slices.Clone(keys)
	r.Shuffle(count, func(i, j int) { mixed[i], mixed[j] = mixed[j], mixed[i] })
	for i, order := range [][]string{keys, falling, mixed} {
		x, m := made(t, i)
		for l := range slices.Chunk(order, 128) {
			var batch []api.Op
			for _, key := range l {
				batch = append(batch, put(key, "of "+key))
			}
			done(t, x, m, batch...)
			if x.Len() != len(m) {
				t.Fatalf("Len: %d; want %d", x.Len(), len(m))
			}
		}
		holdsMany(t, x, m, keys)
		copied, old := x.Copy(), maps.Clone(m)
		for l := range slices.Chunk(mixed, 100) {
			var batch []api.Op
			for j, key := range l {
				if j%3 > 0 {
					batch = append(batch, gone(key))
				} else {
					batch = append(batch, put(key, "again"))
				}
			}
			done(t, x, m, batch...)
		}
		holdsMany(t, x, m, keys)
		holdsMany(t, copied, old, keys)
		for l := range slices.Chunk(order, 128) {
			var batch []api.Op
			for _, key := range l {
				batch = append(batch, gone(key))
			}
			done(t, x, m, batch...)
		}
		has(t, x, nil)
		holdsMany(t, copied, old, keys)
	}
}

// holdsMany asks a table for each of its keys, and for some ranges.
func holdsMany(t *testing.T, x *table.Table, m plain, keys []string) {
	t.Helper()
	is(t, x, m)
	for _, key := range keys {
		knows(t, x, m, key)
		knows(t, x, m, key+"\x00")
	}
	for i := 0; i < len(keys); i += len(keys)/10 + 1 {
		whole(t, x, m, keys[i], "")
		whole(t, x, m, "", keys[i])
		whole(t, x, m, keys[i], keys[(i+len(keys)/3)%len(keys)])
	}
}

// P10.3: thousands of keys that all go, one by one, while they are ranged over.
func TestManyKeysThatGoOnTheWay(t *testing.T) {
	for _, falling := range []bool{false, true} {
		x := table.New(1)
		const count = 3000
		for i := range count {
			answers(t, x.Apply(ops(put(fmt.Sprintf("%05d", i*7%count), fmt.Sprint(i*7%count)))), api.OK)
		}
		i := 0
		for key, value := range (walk{falling: falling}).seq(x) {
			at := i
			if falling {
				at = count - 1 - i
			}
			if key != fmt.Sprintf("%05d", at) || value != fmt.Sprint(at) || x.Len() != count-i {
				t.Fatalf("%q: %q at %d", key, value, i)
			}
			answers(t, x.Apply(ops(gone(key))), api.OK)
			i++
		}
		if i != count {
			t.Errorf("%d keys", i)
		}
		has(t, x, nil)
	}
}

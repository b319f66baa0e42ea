package skip_test

import (
	"fmt"
	"math/rand"
	"slices"
	"testing"

	"scriptorium/skip"
)

// P9.2, P9.3, P9.6: each way of four calls that change a list of three keys, each list asked for all that it tells.
func TestEveryShortWay(t *testing.T) {
	keys := []string{"", "a", "b"}
	steps := []int{1, 2, 16}
	kinds := len(keys) * (len(steps) + 1) // of a call: a key is dropped, or put on some steps
	const calls = 4
	ways := 1
	for range calls {
		ways *= kinds
	}
	for way := range ways {
		l, m := skip.New[int](), plain[int]{}
		for i, left := 0, way; i < calls; i, left = i+1, left/kinds {
			key, what := keys[left%kinds%len(keys)], left%kinds/len(keys)
			if what == len(steps) {
				drops(t, l, m, key)
			} else {
				puts(t, l, m, key, 1+i, steps[what])
			}
		}
		is(t, l, m, keys...)
	}
}

// walker does the same way on lists whose keys stand on other steps, each beside a plain map.
type walker struct {
	r     *rand.Rand
	draw  []func(r *rand.Rand) int // how many steps, of each list
	lists []*skip.List[int]
	maps  []plain[int]
}

func newWalker(seed int64) *walker {
	w := &walker{r: rand.New(rand.NewSource(seed)), draw: []func(r *rand.Rand) int{
		func(r *rand.Rand) int { return 1 },
		func(r *rand.Rand) int { return 16 },
		func(r *rand.Rand) int { return 1 + r.Intn(16) },
		halves,
	}}
	for range w.draw {
		w.lists = append(w.lists, skip.New[int]())
		w.maps = append(w.maps, plain[int]{})
	}
	return w
}

// halves draws one step of half of the keys, two of half of the others, and so on.
func halves(r *rand.Rand) int {
	n := 1
	for n < 16 && r.Intn(2) == 0 {
		n++
	}
	return n
}

// key draws one of a few texts, so that many of them are there.
func (w *walker) key() string {
	b := make([]byte, w.r.Intn(4))
	for i := range b {
		b[i] = "\x00ab\xff"[w.r.Intn(4)]
	}
	return string(b)
}

// call does one thing with all lists, and holds what they tell against their maps, and against one another.
func (w *walker) call(t *testing.T) {
	t.Helper()
	key, value, what := w.key(), w.r.Int(), w.r.Intn(10)
	for i, l := range w.lists {
		switch what {
		case 0, 1, 2, 3:
			puts(t, l, w.maps[i], key, value, w.draw[i](w.r))
		case 4, 5, 6:
			drops(t, l, w.maps[i], key)
		case 7:
			puts(t, l, w.maps[i], key, value, wrongSteps[value%len(wrongSteps)])
		default:
			knows(t, l, w.maps[i], key)
		}
		w.agree(t, l, key)
	}
}

// agree asks whether a list tells of a key what the first list does, on other steps.
func (w *walker) agree(t *testing.T, l *skip.List[int], key string) {
	t.Helper()
	one := w.lists[0]
	if l == one {
		return
	}
	v, ok := one.Get(key)
	if u, is := l.Get(key); u != v || is != ok {
		t.Fatalf("Get(%q): %d, %v; on other steps %d, %v", key, u, is, v, ok)
	}
	k, ok := one.First(key)
	if j, is := l.First(key); j != k || is != ok {
		t.Fatalf("First(%q): %q, %v; on other steps %q, %v", key, j, is, k, ok)
	}
	k, ok = one.Last(key)
	if j, is := l.Last(key); j != k || is != ok {
		t.Fatalf("Last(%q): %q, %v; on other steps %q, %v", key, j, is, k, ok)
	}
	if l.Len() != one.Len() || !slices.Equal(l.Step(1), one.Step(1)) {
		t.Fatalf("%q; on other steps %q", l.Step(1), one.Step(1))
	}
}

// P9.2 to P9.6: long ways of calls are as on a plain map and its sorted keys, whatever the steps.
func TestLongWays(t *testing.T) {
	for seed := range int64(60) {
		w := newWalker(seed)
		for i := range 300 {
			w.call(t)
			if i%10 == 0 {
				for i, l := range w.lists {
					is(t, l, w.maps[i], w.key(), w.key())
				}
			}
		}
		for i, l := range w.lists {
			is(t, l, w.maps[i], oddKeys...)
		}
	}
}

// P9.6: the step 1 has all keys, in order, and each other one those keys of the one below it that stand so high, in order.
func isNested(t *testing.T, l *skip.List[int]) {
	t.Helper()
	below := l.Step(1)
	if len(below) != l.Len() || !slices.IsSorted(below) || len(slices.Compact(slices.Clone(below))) != len(below) {
		t.Fatalf("the step 1 has %d keys of %d, or not in order", len(below), l.Len())
	}
	for n := 2; n <= 17; n++ {
		var want []string
		for _, key := range below {
			if l.Steps(key) >= n {
				want = append(want, key)
			}
		}
		if below = l.Step(n); !slices.Equal(below, want) {
			t.Fatalf("the step %d has %d keys; want %d", n, len(below), len(want))
		}
	}
}

// P9.2, P9.3, P9.6: thousands of keys on random steps, put in several orders, and then dropped.
func TestManyKeys(t *testing.T) {
	const count = 4000
	var keys []string
	for i := range count {
		keys = append(keys, fmt.Sprintf("%x", i*7919))
	}
	slices.Sort(keys)
	falling := slices.Clone(keys)
	slices.Reverse(falling)
	r := rand.New(rand.NewSource(9))
	mixed := slices.Clone(keys)
	r.Shuffle(count, func(i, j int) { mixed[i], mixed[j] = mixed[j], mixed[i] })
	for _, draw := range []func(r *rand.Rand) int{halves, func(r *rand.Rand) int { return 1 + r.Intn(16) }} {
		for _, order := range [][]string{keys, falling, mixed} {
			l, m := skip.New[int](), plain[int]{}
			for i, key := range order {
				puts(t, l, m, key, i, draw(r))
			}
			holdsMany(t, l, m)
			if !slices.Equal(l.Step(1), keys) {
				t.Fatal("not all keys, or not in order")
			}
			for i, key := range mixed {
				if i%3 > 0 {
					drops(t, l, m, key)
				} else {
					puts(t, l, m, key, -i, draw(r))
				}
			}
			holdsMany(t, l, m)
			for _, key := range order {
				drops(t, l, m, key)
			}
			has(t, l, m)
		}
	}
}

// holdsMany asks what a list tells of each of its keys, and of what stands beside it, from the one ahead.
func holdsMany(t *testing.T, l *skip.List[int], m plain[int]) {
	t.Helper()
	has(t, l, m)
	isNested(t, l)
	ahead, isBehind := "", false
	for _, key := range m.keys() {
		knows(t, l, m, key)
		knows(t, l, m, key+"\x00")
		if got, ok := l.First(ahead + "\x00"); isBehind && (got != key || !ok) {
			t.Fatalf("First behind %q: %q, %v; want %q", ahead, got, ok, key)
		}
		if got, ok := l.Last(key); got != ahead || ok != isBehind {
			t.Fatalf("Last(%q): %q, %v; want %q, %v", key, got, ok, ahead, isBehind)
		}
		ahead, isBehind = key, true
	}
}

// P9.2, P9.5: a list all of whose keys stand on one step, on the lowest one or on all, is a list as others are.
func TestManyKeysOnTheSameSteps(t *testing.T) {
	for _, steps := range []int{1, 16} {
		l, m := skip.New[int](), plain[int]{}
		for i := range 1500 {
			puts(t, l, m, fmt.Sprintf("%04d", i*7%1500), i, steps)
		}
		holdsMany(t, l, m)
		for i := range 1500 {
			drops(t, l, m, fmt.Sprintf("%04d", i*11%1500))
		}
		has(t, l, m)
	}
}

package skip_test

import (
	"fmt"
	"maps"
	"math"
	"math/rand"
	"slices"
	"strings"
	"testing"

	"scriptorium/skip"
)

// wrongSteps may not be, though some of them would, cut to fewer bits.
var wrongSteps = []int{-1, 0, 17, 18, 32, -2, -16, -17, -255, 255, 256, 257, 1<<16 + 1, 1<<32 + 1, 1<<32 + 16, math.MaxInt32, math.MinInt32, math.MaxInt, math.MaxInt - 1, math.MinInt, math.MinInt + 1}

// oddKeys rise, in the order of their bytes.
var oddKeys = []string{
	"", "\x00", "\x00\x00", "\x00\xff", "\x01", " ", "10", "9", "A", "Z", "a", "a\x00", "a\x00a", "aa", "ab", "a\xff", "b", "z",
	"\x80", "é", "é\x00", "é\xff", "�", "\U0001F600", "\xff", "\xff\x00", "\xff\xff",
}

// entry is what a list has of a key.
type entry[V any] struct {
	value V
	steps int
}

// plain does what the words say: it is a map, and its keys are put in order and gone through whenever it is asked.
type plain[V any] map[string]entry[V]

func (m plain[V]) put(key string, value V, steps int) bool {
	if steps < 1 || steps > 16 {
		return false
	}
	if old, is := m[key]; is {
		steps = old.steps
	}
	m[key] = entry[V]{value, steps}
	return true
}

func (m plain[V]) drop(key string) bool {
	_, is := m[key]
	delete(m, key)
	return is
}

func (m plain[V]) keys() []string {
	return slices.Sorted(maps.Keys(m))
}

// first and last go through keys that rise.
func first(keys []string, from string) (string, bool) {
	for _, key := range keys {
		if key >= from {
			return key, true
		}
	}
	return "", false
}

func last(keys []string, to string) (string, bool) {
	for _, key := range slices.Backward(keys) {
		if key < to || to == "" {
			return key, true
		}
	}
	return "", false
}

func (m plain[V]) step(n int) []string {
	var l []string
	for _, key := range m.keys() {
		if n >= 1 && m[key].steps >= n {
			l = append(l, key)
		}
	}
	return l
}

// is asks a list for all that it tells of such keys, and of those that it has.
func is[V comparable](t *testing.T, l *skip.List[V], m plain[V], asked ...string) {
	t.Helper()
	has(t, l, m)
	keys := m.keys()
	for _, key := range slices.Concat(keys, asked) {
		knows(t, l, m, key)
		if k, ok := l.First(key); !told(k, ok)(first(keys, key)) {
			t.Fatalf("First(%.40q): %.40q, %v", key, k, ok)
		}
		if k, ok := l.Last(key); !told(k, ok)(last(keys, key)) {
			t.Fatalf("Last(%.40q): %.40q, %v", key, k, ok)
		}
	}
}

func told(key string, ok bool) func(string, bool) bool {
	return func(want string, is bool) bool { return key == want && ok == is }
}

// knows asks for one key's value, and its steps.
func knows[V comparable](t *testing.T, l *skip.List[V], m plain[V], key string) {
	t.Helper()
	want, is := m[key]
	if v, ok := l.Get(key); v != want.value || ok != is {
		t.Fatalf("Get(%.40q): %v, %v; want %v, %v", key, v, ok, want.value, is)
	}
	if n := l.Steps(key); n != want.steps {
		t.Fatalf("Steps(%.40q): %d; want %d", key, n, want.steps)
	}
}

// has asks for how many keys there are, for the ends, and for all steps.
func has[V any](t *testing.T, l *skip.List[V], m plain[V]) {
	t.Helper()
	if n := l.Len(); n != len(m) {
		t.Fatalf("Len: %d; want %d", n, len(m))
	}
	keys := m.keys()
	if k, ok := l.First(""); !told(k, ok)(first(keys, "")) {
		t.Fatalf("First of all: %.40q, %v", k, ok)
	}
	if k, ok := l.Last(""); !told(k, ok)(last(keys, "")) {
		t.Fatalf("Last of all: %.40q, %v", k, ok)
	}
	for n := range 18 {
		if got, want := l.Step(n), m.step(n); !slices.Equal(got, want) {
			t.Fatalf("Step(%d): %.300q; want %.300q", n, got, want)
		}
	}
	for _, n := range wrongSteps {
		if got := l.Step(n); len(got) != 0 {
			t.Fatalf("Step(%d): %.300q", n, got)
		}
	}
}

func puts[V any](t *testing.T, l *skip.List[V], m plain[V], key string, value V, steps int) {
	t.Helper()
	if got, want := l.Put(key, value, steps), m.put(key, value, steps); got != want {
		t.Fatalf("Put(%.40q, %v, %d): %v", key, value, steps, got)
	}
}

func drops[V any](t *testing.T, l *skip.List[V], m plain[V], key string) {
	t.Helper()
	if got, want := l.Drop(key), m.drop(key); got != want {
		t.Fatalf("Drop(%.40q): %v", key, got)
	}
}

// P9.1 to P9.3: the chapter's examples.
func TestExamples(t *testing.T) {
	l := skip.New[int]()
	for i, c := range []struct {
		key          string
		value, steps int
		want         bool
	}{{"b", 1, 1, true}, {"a", 2, 3, true}, {"b", 3, 9, true}, {"c", 4, 0, false}, {"c", 4, 17, false}} {
		if got := l.Put(c.key, c.value, c.steps); got != c.want {
			t.Errorf("Put %d: %v", i, got)
		}
	}
	if v, ok := l.Get("b"); v != 3 || !ok {
		t.Errorf("Get: %d, %v", v, ok)
	}
	if n := l.Len(); n != 2 {
		t.Errorf("Len: %d", n)
	}
	for key, want := range map[string]int{"b": 1, "a": 3, "c": 0} {
		if n := l.Steps(key); n != want {
			t.Errorf("Steps(%s): %d", key, n)
		}
	}
	for from, want := range map[string]string{"aa": "b", "c": ""} {
		if key, ok := l.First(from); key != want || ok != (want != "") {
			t.Errorf("First(%s): %s, %v", from, key, ok)
		}
	}
	for to, want := range map[string]string{"b": "a", "": "b", "a": ""} {
		if key, ok := l.Last(to); key != want || ok != (want != "") {
			t.Errorf("Last(%s): %s, %v", to, key, ok)
		}
	}
	for n, want := range map[int]string{1: "a b", 2: "a", 4: "", 0: ""} {
		if got := strings.Join(l.Step(n), " "); got != want {
			t.Errorf("Step(%d): %s", n, got)
		}
	}
}

// P9.1: a list that New made has no keys, each time anew.
func TestNew(t *testing.T) {
	for range 2 {
		l := skip.New[int]()
		if l == nil {
			t.Fatal("nil")
		}
		is(t, l, plain[int]{}, oddKeys...)
		for _, key := range oddKeys {
			drops(t, l, plain[int]{}, key)
		}
		is(t, l, plain[int]{}, oddKeys...)
		if !l.Put("", 0, 1) || l.Len() != 1 {
			t.Error("what New made takes no key")
		}
	}
}

// P9.1: a list that is nil, or that New did not make, answers false, 0, nothing, and stays none.
func TestOfNone(t *testing.T) {
	var zero skip.List[int]
	for _, l := range []*skip.List[int]{nil, &zero, new(skip.List[int]), {}} {
		isNone(t, l, 7)
	}
	var zeroText skip.List[string]
	for _, l := range []*skip.List[string]{nil, &zeroText} {
		isNone(t, l, "value")
	}
	var zeroPointer skip.List[*int]
	for _, l := range []*skip.List[*int]{nil, &zeroPointer} {
		isNone(t, l, new(int))
	}
	type pair struct {
		a int
		b string
	}
	var zeroPair skip.List[pair]
	for _, l := range []*skip.List[pair]{nil, &zeroPair} {
		isNone(t, l, pair{1, "b"})
	}
}

func isNone[V comparable](t *testing.T, l *skip.List[V], value V) {
	t.Helper()
	for range 2 {
		for steps := range 19 {
			if l.Put("a", value, steps-1) {
				t.Errorf("Put of %d steps", steps-1)
			}
		}
		for _, key := range oddKeys {
			if l.Put(key, value, 1) || l.Drop(key) {
				t.Errorf("%q: true", key)
			}
		}
		is(t, l, plain[V]{}, oddKeys...)
	}
}

// P9.2: steps are from 1 to 16; with others nothing changes, of a key that is there, too.
func TestStepsThatMayBe(t *testing.T) {
	l, m := skip.New[int](), plain[int]{}
	for i, steps := range wrongSteps {
		puts(t, l, m, "a", i, steps)
		is(t, l, m, "a", "")
	}
	for steps := 1; steps <= 16; steps++ {
		key := fmt.Sprint("k", steps)
		puts(t, l, m, key, steps, steps)
		is(t, l, m, key)
		for i, wrong := range wrongSteps {
			puts(t, l, m, key, 100+i, wrong)
			puts(t, l, m, key+"x", 200+i, wrong)
			puts(t, l, m, "", 300+i, wrong)
		}
		is(t, l, m, key, key+"x")
	}
	if l.Len() != 16 {
		t.Errorf("%d keys", l.Len())
	}
	// Each number of steps on a list of its own, where none stands above.
	for steps := 1; steps <= 16; steps++ {
		l, m := skip.New[int](), plain[int]{}
		puts(t, l, m, "a", 1, steps)
		is(t, l, m, "", "a", "b")
		if n := l.Steps("a"); n != steps {
			t.Errorf("%d steps; want %d", n, steps)
		}
	}
}

// P9.2: a key that is there gets the value, and stays on the steps on which it stood.
func TestPutAgain(t *testing.T) {
	for old := 1; old <= 16; old++ {
		for steps := 1; steps <= 16; steps++ {
			l, m := skip.New[int](), plain[int]{}
			for i, key := range []string{"a", "b", "c"} {
				puts(t, l, m, key, i, 1+(old+5*i)%16)
			}
			puts(t, l, m, "aa", 1, old)
			puts(t, l, m, "aa", 2, steps)
			if v, _ := l.Get("aa"); v != 2 || l.Steps("aa") != old || l.Len() != 4 {
				t.Fatalf("%d on %d steps, of %d keys; want 2 on %d", v, l.Steps("aa"), l.Len(), old)
			}
			is(t, l, m)
			// Behind a Drop it is not there, so that the new steps count.
			drops(t, l, m, "aa")
			is(t, l, m, "aa")
			puts(t, l, m, "aa", 3, steps)
			if v, _ := l.Get("aa"); v != 3 || l.Steps("aa") != steps {
				t.Fatalf("%d on %d steps; want 3 on %d", v, l.Steps("aa"), steps)
			}
			is(t, l, m)
		}
	}
}

// P9.2: Drop tells whether a key was there: the first, the last, one between, the only one, the only one of its step.
func TestDrop(t *testing.T) {
	keys := []string{"a", "b", "c", "d", "e"}
	for _, steps := range [][]int{{1, 1, 1, 1, 1}, {16, 16, 16, 16, 16}, {1, 2, 3, 4, 5}, {5, 4, 3, 2, 1}, {1, 1, 16, 1, 1}, {16, 1, 1, 1, 16}, {3, 1, 2, 1, 3}} {
		for _, dropped := range keys {
			l, m := skip.New[int](), plain[int]{}
			for i, key := range keys {
				puts(t, l, m, key, i, steps[i])
			}
			for _, key := range []string{"", "0", "aa", "bb", "e\x00", "f", "A"} { // none of them is there
				drops(t, l, m, key)
			}
			is(t, l, m)
			drops(t, l, m, dropped)
			is(t, l, m, dropped)
			drops(t, l, m, dropped)
			is(t, l, m, dropped)
			for again := 1; again <= 16; again += 3 {
				puts(t, l, m, dropped, again, again)
				is(t, l, m)
				drops(t, l, m, dropped)
				is(t, l, m, dropped)
			}
			for _, key := range keys { // up to the only one, and it, too
				drops(t, l, m, key)
				is(t, l, m, keys...)
			}
			if l.Len() != 0 || len(l.Step(1)) != 0 {
				t.Errorf("%d keys are left", l.Len())
			}
			puts(t, l, m, dropped, 9, 2)
			is(t, l, m, keys...)
		}
	}
}

// P9.2, P9.3: any texts are keys, in the order of their bytes, whatever the order in which they are put.
func TestOddKeys(t *testing.T) {
	if !slices.IsSorted(oddKeys) || len(slices.Compact(slices.Clone(oddKeys))) != len(oddKeys) {
		t.Fatal("oddKeys do not rise")
	}
	r := rand.New(rand.NewSource(1))
	falling := slices.Clone(oddKeys)
	slices.Reverse(falling)
	orders := [][]string{oddKeys, falling}
	for range 20 {
		mixed := slices.Clone(oddKeys)
		r.Shuffle(len(mixed), func(i, j int) { mixed[i], mixed[j] = mixed[j], mixed[i] })
		orders = append(orders, mixed)
	}
	for _, order := range orders {
		l, m := skip.New[int](), plain[int]{}
		for i, key := range order {
			puts(t, l, m, key, i, 1+r.Intn(16))
			is(t, l, m, oddKeys...)
		}
		if got := l.Step(1); !slices.Equal(got, oddKeys) {
			t.Fatalf("%q", got)
		}
		for _, key := range order {
			drops(t, l, m, key)
			is(t, l, m, oddKeys...)
		}
	}
}

// P9.2, P9.3: the text without bytes is a key as others are: it is the least one, and below no other.
func TestEmptyKey(t *testing.T) {
	for steps := 1; steps <= 16; steps++ {
		l, m := skip.New[int](), plain[int]{}
		puts(t, l, m, "", 1, steps)
		is(t, l, m, "", "\x00", "a")
		if key, ok := l.First(""); key != "" || !ok {
			t.Errorf("First: %q, %v", key, ok)
		}
		if key, ok := l.Last(""); key != "" || !ok {
			t.Errorf("Last: %q, %v", key, ok)
		}
		if key, ok := l.Last("\x00"); key != "" || !ok {
			t.Errorf("Last below the next key: %q, %v", key, ok)
		}
		if key, ok := l.First("\x00"); key != "" || ok {
			t.Errorf("First from the next key: %q, %v", key, ok)
		}
		puts(t, l, m, "a", 2, 17-steps)
		is(t, l, m, "", "\x00", "b")
		drops(t, l, m, "")
		is(t, l, m, "", "\x00", "a", "b")
		if key, ok := l.Last("a"); key != "" || ok {
			t.Errorf("Last below the only key: %q, %v", key, ok)
		}
	}
}

// P9.2: keys of 4096 bytes, and longer ones, that differ in their last byte, or of which one is the beginning of the other.
func TestLongKeys(t *testing.T) {
	l, m := skip.New[int](), plain[int]{}
	var keys []string
	for _, n := range []int{4095, 4096, 4097, 1 << 16, 1<<20 + 1} {
		for _, end := range []string{"", "\x00", "k", "l", "\xff"} {
			keys = append(keys, strings.Repeat("k", n)+end)
		}
	}
	for i, key := range keys {
		puts(t, l, m, key, i, 1+i%16)
	}
	is(t, l, m, strings.Repeat("k", 4096)+"j", strings.Repeat("k", 1<<20), "k", "l")
	for i, key := range keys {
		if i%2 == 0 {
			drops(t, l, m, key)
		}
	}
	is(t, l, m, keys...)
}

// P9.3: First and Last of each of some texts, with each choice of them as the keys, on several steps.
func TestEnds(t *testing.T) {
	texts := []string{"", "\x00", "\x00\x00", "a", "a\x00", "ab", "b", "\xff", "\xff\xff"}
	asked := append([]string{"\x00\x01", "A", "aa", "a\xff", "c", "\xfe", "\xff\x00", "\xff\xff\xff"}, texts...)
	for choice := range 1 << len(texts) {
		for way := range 3 {
			l, m := skip.New[int](), plain[int]{}
			for i, key := range texts {
				if choice>>i&1 == 1 {
					puts(t, l, m, key, i, []int{1, 1 + i%3, 16 - i}[way])
				}
			}
			is(t, l, m, asked...)
		}
	}
}

// P9.3: keys can be gone through by First from the next text on, and the other way round by Last.
func TestGoingThrough(t *testing.T) {
	l, m := skip.New[int](), plain[int]{}
	for i, key := range oddKeys[1:] {
		puts(t, l, m, key, i, 1+i%4)
	}
	var up, down []string
	for key, ok := l.First(""); ok; key, ok = l.First(key + "\x00") {
		up = append(up, key)
	}
	for key, ok := l.Last(""); ok; key, ok = l.Last(key) {
		down = append(down, key)
	}
	slices.Reverse(down)
	if !slices.Equal(up, oddKeys[1:]) || !slices.Equal(down, oddKeys[1:]) {
		t.Errorf("%q, %q", up, down)
	}
}

// P9.3, P9.6: Len, Steps, Step behind each call, of steps on which none stands, too.
func TestStep(t *testing.T) {
	l := skip.New[string]()
	steps := func(want ...string) {
		t.Helper()
		for n := -1; n <= 18; n++ {
			text := ""
			if n >= 1 && n <= len(want) {
				text = want[n-1]
			}
			if got := strings.Join(l.Step(n), " "); got != text {
				t.Fatalf("Step(%d): %s; want %s", n, got, text)
			}
		}
	}
	steps()
	l.Put("d", "", 2)
	steps("d", "d")
	l.Put("b", "", 4)
	steps("b d", "b d", "b", "b")
	l.Put("a", "", 1)
	steps("a b d", "b d", "b", "b")
	l.Put("c", "", 3)
	steps("a b c d", "b c d", "b c", "b")
	l.Put("c", "", 16)
	steps("a b c d", "b c d", "b c", "b")
	l.Drop("b")
	steps("a c d", "c d", "c")
	l.Put("e", "", 5)
	steps("a c d e", "c d e", "c e", "e", "e")
	l.Drop("c")
	steps("a d e", "d e", "e", "e", "e")
	l.Put("b", "", 0)
	l.Put("b", "", 17)
	l.Drop("b")
	steps("a d e", "d e", "e", "e", "e")
	l.Drop("e")
	steps("a d", "d")
	l.Drop("a")
	steps("d", "d")
	l.Drop("d")
	steps()
}

// P9.2, P9.4: values are of any type; those of a key that is not there are zero; pointers are as they are.
func TestKinds(t *testing.T) {
	type pair struct {
		n int
		s string
	}
	n := 3
	kind(t, 0, 1, same[int])
	kind(t, math.MaxInt, math.MinInt, same[int])
	kind(t, "", "\x00", same[string])
	kind(t, false, true, same[bool])
	kind(t, byte(0), byte(255), same[byte])
	kind(t, 0.0, 1.5, same[float64])
	kind(t, math.NaN(), math.Inf(-1), func(a, b float64) bool { return a == b || a != a && b != b })
	kind(t, pair{}, pair{1, "a"}, same[pair])
	kind(t, [3]int{}, [3]int{1, 2, 3}, same[[3]int])
	kind(t, struct{}{}, struct{}{}, same[struct{}])
	kind(t, nil, &n, same[*int])
	kind(t, &pair{}, &pair{}, same[*pair])
	kind(t, nil, []int{1, 2}, slices.Equal[[]int])
	kind(t, nil, map[string]int{"a": 1}, maps.Equal[map[string]int, map[string]int])
	kind(t, nil, make(chan int), same[chan int])
	kind(t, any(nil), any("a"), same[any])
	kind(t, any([2]int{1, 2}), any(&n), same[any])
	kind(t, nil, func() {}, func(a, b func()) bool { return (a == nil) == (b == nil) })
	kind(t, nil, skip.New[int](), same[*skip.List[int]])
}

func same[V comparable](a, b V) bool { return a == b }

func kind[V any](t *testing.T, a, b V, same func(a, b V) bool) {
	t.Helper()
	l := skip.New[V]()
	var none V
	holds := func(key string, want V, is bool) {
		t.Helper()
		if v, ok := l.Get(key); !same(v, want) || ok != is {
			t.Errorf("Get(%s): %v, %v; want %v, %v", key, v, ok, want, is)
		}
	}
	holds("a", none, false)
	for _, values := range [][2]V{{a, b}, {b, a}, {b, b}, {none, b}, {a, none}} {
		l.Put("a", values[0], 2)
		l.Put("b", values[1], 1)
		holds("a", values[0], true)
		holds("b", values[1], true)
		l.Put("a", values[1], 0)
		holds("a", values[0], true)
		holds("aa", none, false)
		holds("", none, false)
		holds("c", none, false)
	}
	l.Put("b", b, 1)
	l.Drop("b")
	holds("b", none, false)
	if l.Len() != 1 || l.Steps("a") != 2 || l.Steps("b") != 0 {
		t.Errorf("%d keys, on %d and %d steps", l.Len(), l.Steps("a"), l.Steps("b"))
	}
}

// P9.4: a value that is a pointer points to what it pointed to; one that is a struct is one of its own.
func TestValuesAsTheyAre(t *testing.T) {
	n := 1
	pointers := skip.New[*int]()
	pointers.Put("a", &n, 1)
	pointers.Put("b", &n, 2)
	n = 2
	if p, _ := pointers.Get("a"); p != &n || *p != 2 {
		t.Error("the pointer is another one")
	}

	type pair struct{ a, b int }
	pairs := skip.New[pair]()
	p := pair{1, 2}
	pairs.Put("a", p, 1)
	p.a = 3
	got, _ := pairs.Get("a")
	got.b = 4
	if again, _ := pairs.Get("a"); again != (pair{1, 2}) {
		t.Errorf("%v", again)
	}
}

// P9.4: what Step tells is new memory: it can be changed, its spare room, too, and the list stays as it was; nor does it change with the list.
func TestMemory(t *testing.T) {
	l, m := skip.New[int](), plain[int]{}
	for i, key := range oddKeys {
		puts(t, l, m, key, i, 1+i%16)
	}
	for n := 1; n <= 16; n++ {
		want := m.step(n)
		one, two := l.Step(n), l.Step(n)
		spare := one[:cap(one)]
		for i := range spare {
			spare[i] = "changed"
		}
		_ = append(one, "changed", "changed")
		if !slices.Equal(two, want) {
			t.Errorf("Step(%d) told the same memory: %q", n, two)
		}
		slices.Reverse(two)
		is(t, l, m)
	}
	before := l.Step(1)
	for _, key := range oddKeys {
		drops(t, l, m, key)
		puts(t, l, m, key+"x", 0, 16)
	}
	if !slices.Equal(before, oddKeys) {
		t.Errorf("it has changed: %q", before)
	}
	is(t, l, m, oddKeys...)
}

// R2: what is only asked changes nothing, and two lists, of the same values or of others, do not touch one another.
func TestTwoLists(t *testing.T) {
	l, m := skip.New[int](), plain[int]{}
	other, n := skip.New[int](), plain[int]{}
	texts, o := skip.New[string](), plain[string]{}
	all := func() {
		t.Helper()
		is(t, l, m, oddKeys...)
		is(t, other, n, oddKeys...)
		is(t, texts, o, oddKeys...)
	}
	for i, key := range oddKeys {
		puts(t, l, m, key, i, 1+i%16)
		all()
		if i%2 == 0 {
			puts(t, other, n, key, -i, 16-i%16)
		}
		puts(t, texts, o, key, key, 2)
		all()
	}
	for i, key := range oddKeys {
		if i%3 == 0 {
			drops(t, l, m, key)
		}
		if i%4 == 0 {
			drops(t, other, n, key)
		}
		drops(t, texts, o, key)
		all()
	}
}

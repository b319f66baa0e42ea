package table

import (
	"fmt"
	"math"
	"testing"

	"scriptorium/api"
	"scriptorium/skip"
)

const allSteps = 16 // on which a key of package skip may stand

// What is drawn is never seen, but a key that came to no step would be lost, and many on one step would be slow to find.
func TestDrawing(t *testing.T) {
	for _, seed := range []int{0, 1, -1, 2, 3, 1000, math.MaxInt, math.MinInt, 1 << 62, -1 << 62} {
		const draws = 1 << 20
		var counts [allSteps + 1]int
		draw := drawing(seed)
		for range draws {
			n := draw()
			if n < 1 || n > allSteps {
				t.Fatalf("seed %d: %d steps", seed, n)
			}
			counts[n]++
		}
		for n := 1; n <= allSteps; n++ {
			want := draws >> n
			if n == allSteps {
				want = draws >> (n - 1)
			}
			if counts[n] < want/2 || counts[n] > want*2 {
				t.Errorf("seed %d: %d of %d keys on %d steps; want some %d", seed, counts[n], draws, n, want)
			}
		}
	}
}

// Two that draw from the same seed draw the same, and neither takes from the other.
func TestDrawingApart(t *testing.T) {
	one, two := drawing(5), drawing(5)
	for range 3 {
		first := [4]int{one(), one(), one(), one()}
		if second := [4]int{two(), two(), two(), two()}; first != second {
			t.Fatalf("%v, %v", first, second)
		}
	}
}

// Keys come to steps as they are drawn, in a table and in its copy.
func TestKeysOnSteps(t *testing.T) {
	for _, seed := range []int{0, 1, -1, math.MaxInt, math.MinInt} {
		x := New(seed)
		const count = 4096
		for i := range count {
			if e := x.Apply([]api.Op{{Key: fmt.Sprintf("%04d", i*7%count)}}); e != api.OK {
				t.Fatal(e)
			}
		}
		for _, rows := range []*skip.List[string]{x.rows, x.Copy().rows} {
			for n := 1; n <= 8; n++ {
				want := count >> (n - 1)
				if got := len(rows.Step(n)); got < want/2 || got > want*2 {
					t.Errorf("seed %d: %d keys of %d on the step %d; want some %d", seed, got, count, n, want)
				}
			}
		}
	}
}

package tide

import (
	"slices"
	"testing"

	"scriptorium/api"
)

// No call tells the order of what is remembered, so these tests look within.

func (t *Tide) names() string {
	var names []byte
	for _, r := range t.reads {
		names = append(names, r.span.From[0])
	}
	return string(names)
}

func ordered(t *testing.T, stamps ...int) *Tide {
	t.Helper()
	h, e := New(api.Stamp{Wall: 5})
	for i, n := range stamps {
		from := string([]byte{'a' + byte(i)})
		e = max(e, h.Add(api.Span{From: from, To: from + "z"}, api.Stamp{Wall: n}, i))
	}
	if e != api.OK {
		t.Fatal(e)
	}
	return h
}

// P17.2, P17.4: reads are remembered in the order in which they came, each once by its span and owner; one that comes again stays where it was, and where some are forgotten the others stay in their order.
func TestOrder(t *testing.T) {
	h := ordered(t, 20, 9, 15, 9, 30, 8)
	for _, c := range []struct {
		does func() api.Errno
		want string
	}{
		{func() api.Errno { return api.OK }, "abcdef"},
		{func() api.Errno { return h.Add(api.Span{From: "b", To: "bz"}, api.Stamp{Wall: 40}, 1) }, "abcdef"},
		{func() api.Errno { return h.Add(api.Span{From: "c", To: "cz"}, api.Stamp{Wall: 7}, 2) }, "abcdef"},
		{func() api.Errno { return h.Add(api.Span{From: "b", To: "bz"}, api.Stamp{Wall: 6}, 2) }, "abcdefb"},
		{func() api.Errno { return h.Add(api.Span{From: "b", To: "d"}, api.Stamp{Wall: 50}, 1) }, "abcdefbb"},
		{func() api.Errno { return h.Add(api.Span{From: "g", To: "h"}, api.Stamp{Wall: 5}, 1) }, "abcdefbb"},
		{func() api.Errno { return h.Raise(api.Stamp{Wall: 8}) }, "abcdeb"},
		{func() api.Errno { return h.Raise(api.Stamp{Wall: 9}) }, "abceb"},
		{func() api.Errno { return h.Add(api.Span{From: "d", To: "dz"}, api.Stamp{Wall: 12}, 3) }, "abcebd"},
		{func() api.Errno { return h.Raise(api.Stamp{Wall: 20}) }, "beb"},
		{func() api.Errno { return h.Raise(api.Stamp{Wall: 50}) }, ""},
	} {
		if e := c.does(); e != api.OK || h.names() != c.want {
			t.Errorf("%d, %q; want %q", e, h.names(), c.want)
		}
	}
}

// P17.2: the read that is one too many is the last one, or forgotten itself; the others stay in their order.
func TestOrderPastTheLimit(t *testing.T) {
	for _, c := range []struct{ last, left int }{{6, 64}, {20, 60}, {21, 61}} {
		var stamps []int
		for i := range 64 {
			stamps = append(stamps, 20+i%16)
		}
		h := ordered(t, append(stamps, c.last)...)
		var owners, want []int
		for _, r := range h.reads {
			owners = append(owners, r.owner)
		}
		for i, n := range append(stamps, c.last) {
			if n > h.low.Wall {
				want = append(want, i)
			}
		}
		if len(owners) != c.left || !slices.Equal(owners, want) {
			t.Errorf("%v; want %v", owners, want)
		}
	}
}

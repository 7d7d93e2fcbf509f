package graph

import (
	"math"
	"math/rand"
	"slices"
	"testing"

	"easement/api"
)

func of(t *testing.T, n int, arcs ...Arc) *Graph {
	t.Helper()
	g, e := New(n, arcs)
	if e != api.OK {
		t.Fatal(e)
	}
	return g
}

// Promise 10.1.
func TestNew(t *testing.T) {
	many := make([]Arc, MaxArcs+1)
	for _, x := range []struct {
		n    int
		arcs []Arc
		e    api.Errno
	}{
		{-1, []Arc{{5, 5}}, api.ErrArg},
		{-1, many, api.ErrArg},
		{math.MinInt, nil, api.ErrArg},
		{api.MaxBits + 1, nil, api.ErrOver},
		{math.MaxInt, []Arc{{-1, 0}}, api.ErrOver},
		{0, many, api.ErrOver},
		{0, []Arc{{0, 0}}, api.ErrRange},
		{2, []Arc{{0, 1}, {2, 1}}, api.ErrRange},
		{2, []Arc{{1, 2}}, api.ErrRange},
		{2, []Arc{{-1, 0}}, api.ErrRange},
		{2, []Arc{{0, math.MinInt}}, api.ErrRange},
	} {
		if g, e := New(x.n, x.arcs); g != nil || e != x.e {
			t.Error(x.n, len(x.arcs), e)
		}
	}
	if g := of(t, api.MaxBits, Arc{0, api.MaxBits - 1}); g.Nodes() != api.MaxBits || !slices.Equal(g.Next(0), []int{api.MaxBits - 1}) {
		t.Error("greatest")
	}
}

// Promise 10.1.
func TestArcs(t *testing.T) {
	arcs := []Arc{{0, 2}, {0, 1}, {2, 0}, {0, 2}, {1, 1}}
	g := of(t, 4, arcs...)
	arcs[0] = Arc{3, 3}
	if g.Nodes() != 4 || g.Arcs() != 5 {
		t.Error("many")
	}
	if a, ok := g.Arc(0); a != (Arc{0, 2}) || !ok {
		t.Error(a, ok)
	}
	for _, i := range []int{-1, 5, math.MaxInt} {
		if a, ok := g.Arc(i); a != (Arc{}) || ok {
			t.Error(i, a)
		}
	}
	if !slices.Equal(g.Out(0), []int{0, 1, 3}) || !slices.Equal(g.In(2), []int{0, 3}) || !slices.Equal(g.In(1), []int{1, 4}) || len(g.Out(3))+len(g.In(3)) != 0 {
		t.Error("out, in")
	}
	if !slices.Equal(g.Next(0), []int{2, 1, 2}) || len(g.Next(3)) != 0 {
		t.Error(g.Next(0))
	}
	for _, v := range []int{-1, 4, math.MaxInt, math.MinInt} {
		if len(g.Out(v))+len(g.In(v))+len(g.Next(v))+len(g.Reach(v)) != 0 {
			t.Error(v)
		}
	}
	g.Out(0)[0], g.In(2)[0], g.Next(0)[0] = 9, 9, 9
	if !slices.Equal(g.Out(0), []int{0, 1, 3}) || !slices.Equal(g.In(2), []int{0, 3}) || !slices.Equal(g.Next(0), []int{2, 1, 2}) {
		t.Error("shared")
	}
	_ = append(g.Out(0), 99)
	if !slices.Equal(g.Out(1), []int{4}) {
		t.Error("behind the length")
	}
}

// Promise 10.2.
func TestTurnReach(t *testing.T) {
	g := of(t, 5, Arc{0, 1}, Arc{0, 2}, Arc{2, 0}, Arc{3, 4})
	if !slices.Equal(g.Reach(0), []int{0, 1, 2}) || !slices.Equal(g.Reach(1), []int{1}) || !slices.Equal(g.Reach(3), []int{3, 4}) {
		t.Error("reach")
	}
	h := g.Turn()
	if a, _ := h.Arc(3); a != (Arc{4, 3}) || h.Arcs() != 4 || h.Nodes() != 5 || !slices.Equal(h.Reach(1), []int{0, 1, 2}) {
		t.Error("turn")
	}
}

// Promises 10.1 and 10.2, of a nil graph.
func TestNil(t *testing.T) {
	var g *Graph
	if g.Nodes() != 0 || g.Arcs() != 0 || len(g.Out(0)) != 0 || len(g.In(0)) != 0 || len(g.Next(0)) != 0 || g.Turn() != nil || len(g.Reach(0)) != 0 {
		t.Error("nil")
	}
	if a, ok := g.Arc(0); a != (Arc{}) || ok {
		t.Error(a, ok)
	}
}

// Promise 10.3.
func TestLaws(t *testing.T) {
	r := rand.New(rand.NewSource(7))
	for range 200 {
		n := 1 + r.Intn(8)
		var arcs []Arc
		for range r.Intn(14) {
			arcs = append(arcs, Arc{r.Intn(n), r.Intn(n)})
		}
		g := of(t, n, arcs...)
		h := g.Turn()
		outs, ins := make([]int, len(arcs)), make([]int, len(arcs))
		for v := range n {
			for _, i := range g.Out(v) {
				outs[i]++
			}
			for _, i := range g.In(v) {
				ins[i]++
			}
			if !slices.IsSorted(g.Out(v)) || !slices.IsSorted(g.In(v)) || !slices.Equal(g.Out(v), h.In(v)) {
				t.Fatal("order")
			}
			for _, w := range g.Reach(v) {
				if !slices.Contains(h.Reach(w), v) {
					t.Fatal("reach", v, w)
				}
			}
			if len(g.Reach(v)) != countBack(h, v) {
				t.Fatal("reach", v)
			}
		}
		twice := h.Turn()
		for i, a := range arcs {
			if b, ok := twice.Arc(i); b != a || !ok || outs[i] != 1 || ins[i] != 1 {
				t.Fatal(i)
			}
		}
	}
}

// countBack is how many nodes reach v over arcs turned back.
func countBack(h *Graph, v int) int {
	many := 0
	for w := range h.Nodes() {
		if slices.Contains(h.Reach(w), v) {
			many++
		}
	}
	return many
}

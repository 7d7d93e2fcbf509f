package scc

import (
	"math"
	"math/rand"
	"slices"
	"testing"

	"easement/api"
	"easement/graph"
	"easement/tick"
)

func of(t *testing.T, n int, arcs ...graph.Arc) *graph.Graph {
	t.Helper()
	g, e := graph.New(n, arcs)
	if e != api.OK {
		t.Fatal(e)
	}
	return g
}

// Promise 11.1.
func TestOf(t *testing.T) {
	g := of(t, 4, graph.Arc{From: 0, To: 1}, graph.Arc{From: 1, To: 0}, graph.Arc{From: 1, To: 2}, graph.Arc{From: 3, To: 0})
	p := Of(g, nil)
	if p.Len() != 3 || !slices.Equal(p.Members(0), []int{2}) || !slices.Equal(p.Members(1), []int{0, 1}) || !slices.Equal(p.Members(2), []int{3}) {
		t.Error("members")
	}
	for v, want := range []int{1, 1, 0, 2} {
		if k, ok := p.Of(v); k != want || !ok {
			t.Error(v, k)
		}
	}
	for _, v := range []int{-1, 4, math.MaxInt, math.MinInt} {
		if k, ok := p.Of(v); k != 0 || ok || len(p.Members(v)) != 0 || p.Alike(v, v) || p.Alike(0, v) || p.Alike(v, 0) {
			t.Error(v, k)
		}
	}
	if len(p.Members(3)) != 0 || !p.Alike(0, 1) || p.Alike(0, 2) || !p.Alike(3, 3) {
		t.Error("alike")
	}
	p.Members(1)[0] = 9
	if !slices.Equal(p.Members(1), []int{0, 1}) {
		t.Error("shared")
	}
}

// Promise 11.1: of those that may be next the one with the least node is.
func TestNumbers(t *testing.T) {
	p := Of(of(t, 5), nil)
	for v := range 5 {
		if k, _ := p.Of(v); k != v {
			t.Error(v, k)
		}
	}
	// 4 leads nowhere, but 0 to it, and 1 stands alone.
	p = Of(of(t, 5, graph.Arc{From: 0, To: 4}, graph.Arc{From: 2, To: 2}, graph.Arc{From: 2, To: 3}, graph.Arc{From: 3, To: 2}), nil)
	for k, want := range [][]int{{1}, {2, 3}, {4}, {0}} {
		if !slices.Equal(p.Members(k), want) {
			t.Error(k, p.Members(k))
		}
	}
}

// Promise 11.1, of nil parts, and nil graphs.
func TestNil(t *testing.T) {
	var none *Parts
	var c tick.Counter
	for _, p := range []*Parts{none, Of(nil, &c), Of(nil, nil), Of(of(t, 0), nil)} {
		if k, ok := p.Of(0); k != 0 || ok || p.Len() != 0 || len(p.Members(0)) != 0 || p.Alike(0, 0) {
			t.Error("nil")
		}
	}
	if c.Total() != 0 {
		t.Error(c.Total())
	}
}

// naive numbers components as the words of the chapter say.
func naive(g *graph.Graph) [][]int {
	n := g.Nodes()
	done := make([]bool, n)
	var parts [][]int
	for left := n; left > 0; {
		for v := range n {
			var members []int
			ready := !done[v]
			for _, w := range g.Reach(v) {
				if slices.Contains(g.Reach(w), v) {
					members = append(members, w)
				} else if !done[w] {
					ready = false
				}
			}
			if ready {
				for _, w := range members {
					done[w] = true
				}
				parts = append(parts, members)
				left -= len(members)
				break
			}
		}
	}
	return parts
}

// Promises 11.1 and 11.2.
func TestModel(t *testing.T) {
	r := rand.New(rand.NewSource(8))
	for range 400 {
		n := 1 + r.Intn(9)
		var arcs []graph.Arc
		for range r.Intn(2 * n) {
			arcs = append(arcs, graph.Arc{From: r.Intn(n), To: r.Intn(n)})
		}
		g := of(t, n, arcs...)
		var c tick.Counter
		p := Of(g, &c)
		if s := c.Of(tick.Solve); s < n || s > 8*(n+len(arcs)) || s != c.Total() {
			t.Fatal("steps", s)
		}
		want := naive(g)
		if p.Len() != len(want) {
			t.Fatal(p.Len(), want)
		}
		for k, l := range want {
			if !slices.Equal(p.Members(k), l) {
				t.Fatal(k, p.Members(k), l)
			}
		}
		for _, a := range arcs {
			from, _ := p.Of(a.From)
			if to, _ := p.Of(a.To); to > from {
				t.Fatal(a)
			}
		}
	}
}

// Promise 1: a long way is gone without going deep.
func TestLong(t *testing.T) {
	const n = 200000
	var arcs []graph.Arc
	for v := range n - 1 {
		arcs = append(arcs, graph.Arc{From: v, To: v + 1})
	}
	if p := Of(of(t, n, arcs...), nil); p.Len() != n {
		t.Error(p.Len())
	}
	arcs = append(arcs, graph.Arc{From: n - 1, To: 0})
	if p := Of(of(t, n, arcs...), nil); p.Len() != 1 || len(p.Members(0)) != n {
		t.Error(p.Len())
	}
}

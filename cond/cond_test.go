package cond

import (
	"math"
	"math/rand"
	"slices"
	"testing"

	"easement/api"
	"easement/graph"
	"easement/scc"
)

func of(t *testing.T, n int, arcs ...graph.Arc) *graph.Graph {
	t.Helper()
	g, e := graph.New(n, arcs)
	if e != api.OK {
		t.Fatal(e)
	}
	return g
}

// Promises 12.1 and 12.2.
func TestExample(t *testing.T) {
	g := of(t, 4, graph.Arc{From: 0, To: 1}, graph.Arc{From: 1, To: 0}, graph.Arc{From: 1, To: 2}, graph.Arc{From: 3, To: 0}, graph.Arc{From: 0, To: 2})
	c := New(g, scc.Of(g, nil))
	if c.Len() != 3 || !slices.Equal(c.Next(1), []int{0}) || !slices.Equal(c.Back(1), []int{2}) || c.Depth(2) != 2 || c.Depth(0) != 0 || !c.Loops(1) || c.Loops(0) {
		t.Error("example")
	}
	if !slices.Equal(c.Ends(), []int{0}) || c.Arcs() != 2 {
		t.Error("ends, arcs")
	}
	for _, k := range []int{-1, 3, math.MaxInt, math.MinInt} {
		if len(c.Next(k))+len(c.Back(k))+c.Depth(k) != 0 || c.Loops(k) {
			t.Error(k)
		}
	}
	c.Next(1)[0], c.Back(1)[0], c.Ends()[0] = 9, 9, 9
	if !slices.Equal(c.Next(1), []int{0}) || !slices.Equal(c.Back(1), []int{2}) || !slices.Equal(c.Ends(), []int{0}) {
		t.Error("shared")
	}
}

// Promises 12.1 and 12.2, of nothing.
func TestNil(t *testing.T) {
	var none *Cond
	for _, c := range []*Cond{none, New(nil, nil), New(nil, scc.Of(nil, nil)), New(of(t, 3), scc.Of(nil, nil))} {
		if c.Len() != 0 || len(c.Next(0))+len(c.Back(0))+c.Depth(0)+len(c.Ends())+c.Arcs() != 0 || c.Loops(0) {
			t.Error("nil")
		}
	}
}

// Promise 12.3, and the others, against what the words say.
func TestModel(t *testing.T) {
	r := rand.New(rand.NewSource(9))
	for range 400 {
		n := 1 + r.Intn(9)
		var arcs []graph.Arc
		for range r.Intn(2 * n) {
			arcs = append(arcs, graph.Arc{From: r.Intn(n), To: r.Intn(n)})
		}
		g := of(t, n, arcs...)
		p := scc.Of(g, nil)
		c := New(g, p)
		var leads [9][9]bool
		for _, a := range arcs {
			from, _ := p.Of(a.From)
			to, _ := p.Of(a.To)
			leads[from][to] = true
		}
		many := 0
		for k := range p.Len() {
			var next, back []int
			for j := range p.Len() {
				if j != k && leads[k][j] {
					next = append(next, j)
				}
				if j != k && leads[j][k] {
					back = append(back, j)
				}
			}
			many += len(next)
			if !slices.Equal(c.Next(k), next) || !slices.Equal(c.Back(k), back) || c.Loops(k) != leads[k][k] || slices.Contains(c.Ends(), k) != (len(next) == 0) {
				t.Fatal(k)
			}
			if len(next) > 0 && next[len(next)-1] >= k || len(p.Members(k)) > 1 && !c.Loops(k) {
				t.Fatal(k, next)
			}
			depth := 0
			for _, j := range next {
				depth = max(depth, 1+c.Depth(j))
			}
			if c.Depth(k) != depth {
				t.Fatal("depth", k)
			}
		}
		if c.Len() != p.Len() || c.Arcs() != many {
			t.Fatal("many")
		}
	}
}

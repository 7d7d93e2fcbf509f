package bfs

import (
	"math"
	"math/rand"
	"slices"
	"testing"

	"easement/api"
	"easement/graph"
	"easement/tick"
)

func of(t *testing.T, n int, arcs ...graph.Arc) *graph.Graph {
	t.Helper()
	g, e := graph.New(n, arcs)
	if e != api.OK {
		t.Fatal(e)
	}
	return g
}

// Promises 13.1 and 13.2.
func TestExample(t *testing.T) {
	g := of(t, 6, graph.Arc{From: 0, To: 1}, graph.Arc{From: 0, To: 2}, graph.Arc{From: 2, To: 1}, graph.Arc{From: 1, To: 3}, graph.Arc{From: 2, To: 3}, graph.Arc{From: 0, To: 1}, graph.Arc{From: 3, To: 0}, graph.Arc{From: 4, To: 0})
	x := From(g, 0, nil)
	for w, want := range [][2]int{{0, -1}, {1, 0}, {1, 1}, {2, 3}, {-1, -1}, {-1, -1}} {
		if x.Dist(w) != want[0] || x.Back(w) != want[1] {
			t.Error(w, x.Dist(w), x.Back(w))
		}
	}
	if x.Far() != 2 || !slices.Equal(x.Layer(0), []int{0}) || !slices.Equal(x.Layer(1), []int{1, 2}) || !slices.Equal(x.Layer(2), []int{3}) {
		t.Error("layers")
	}
	for _, d := range []int{-1, 3, math.MaxInt, math.MinInt} {
		if len(x.Layer(d)) != 0 {
			t.Error(d)
		}
	}
	for _, w := range []int{-1, 6, math.MaxInt, math.MinInt} {
		if x.Dist(w) != -1 || x.Back(w) != -1 {
			t.Error(w)
		}
	}
	x.Layer(1)[0] = 9
	if !slices.Equal(x.Layer(1), []int{1, 2}) {
		t.Error("shared")
	}
}

// Promises 13.1 and 13.2, of no node, no graph and no tree.
func TestNothing(t *testing.T) {
	var none *Tree
	var c tick.Counter
	g := of(t, 2, graph.Arc{From: 0, To: 1})
	for _, x := range []*Tree{none, From(nil, 0, &c), From(g, -1, &c), From(g, 2, &c), From(g, math.MaxInt, &c), From(of(t, 0), 0, &c)} {
		for _, w := range []int{-1, 0, 1, 2, math.MaxInt} {
			if x.Dist(w) != -1 || x.Back(w) != -1 || len(x.Layer(w)) != 0 {
				t.Error(w)
			}
		}
		if x.Far() != -1 {
			t.Error(x.Far())
		}
	}
	if c.Total() > 6 {
		t.Error(c.Total())
	}
}

// Promise 13.3, and the others, against what the words say.
func TestModel(t *testing.T) {
	r := rand.New(rand.NewSource(10))
	for range 500 {
		n := 1 + r.Intn(9)
		var arcs []graph.Arc
		for range r.Intn(3 * n) {
			arcs = append(arcs, graph.Arc{From: r.Intn(n), To: r.Intn(n)})
		}
		g := of(t, n, arcs...)
		v := r.Intn(n)
		dist := slices.Repeat([]int{-1}, n)
		dist[v] = 0
		for range n {
			for _, a := range arcs {
				if d := dist[a.From]; d >= 0 && (dist[a.To] < 0 || dist[a.To] > d+1) {
					dist[a.To] = d + 1
				}
			}
		}
		var c tick.Counter
		x := From(g, v, &c)
		if c.Total() != c.Of(tick.Blame) || c.Total() > 2*(n+len(arcs)) || c.Total() == 0 {
			t.Fatal("steps", c.Total())
		}
		if x.Far() != slices.Max(dist) {
			t.Fatal("far")
		}
		for w := range n {
			back := slices.IndexFunc(arcs, func(a graph.Arc) bool { return a.To == w && dist[a.From] >= 0 && dist[a.From]+1 == dist[w] })
			if x.Dist(w) != dist[w] || x.Back(w) != back {
				t.Fatal(w, x.Dist(w), dist[w], x.Back(w), back)
			}
			for d := -1; d <= n; d++ {
				if slices.Contains(x.Layer(d), w) != (d >= 0 && dist[w] == d) || !slices.IsSorted(x.Layer(d)) {
					t.Fatal("layer", d)
				}
			}
		}
	}
}

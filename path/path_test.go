package path

import (
	"math"
	"math/rand"
	"slices"
	"testing"

	"easement/api"
	"easement/graph"
	"easement/tick"
)

func of(t *testing.T, n int, arcs ...graph.Arc) *graph.Graph {
	t.Helper()
	g, e := graph.New(n, arcs)
	if e != api.OK {
		t.Fatal(e)
	}
	return g
}

// Promise 14.1.
func TestShort(t *testing.T) {
	g := of(t, 5, graph.Arc{From: 0, To: 1}, graph.Arc{From: 0, To: 2}, graph.Arc{From: 2, To: 3}, graph.Arc{From: 1, To: 3}, graph.Arc{From: 3, To: 3})
	if l, ok := Short(g, 0, 3, nil); !slices.Equal(l, []int{1, 2}) || !ok {
		t.Error(l, ok)
	}
	if l, ok := Short(g, 3, 3, nil); len(l) != 0 || !ok {
		t.Error(l, ok)
	}
	for _, x := range [][2]int{{3, 0}, {0, 4}, {-1, 0}, {0, -1}, {5, 0}, {0, 5}, {-1, -1}, {5, 5}, {math.MaxInt, math.MaxInt}} {
		if l, ok := Short(g, x[0], x[1], nil); l != nil || ok {
			t.Error(x, l, ok)
		}
		if n := Count(g, x[0], x[1]); n != 0 {
			t.Error(x, n)
		}
	}
	if l, ok := Short(nil, 0, 0, nil); l != nil || ok || Count(nil, 0, 0) != 0 {
		t.Error(l, ok)
	}
}

// Promise 14.1.
func TestWalk(t *testing.T) {
	g := of(t, 4, graph.Arc{From: 0, To: 1}, graph.Arc{From: 1, To: 2}, graph.Arc{From: 2, To: 0})
	for _, x := range []struct {
		from int
		l    []int
		to   int
		ok   bool
	}{
		{0, nil, 0, true}, {3, []int{}, 3, true}, {4, nil, 0, false}, {-1, nil, 0, false},
		{0, []int{0, 1}, 2, true}, {0, []int{0, 1, 2, 0}, 1, true}, {1, []int{0}, 0, false}, {0, []int{0, 2}, 0, false},
		{0, []int{0, 3}, 0, false}, {0, []int{-1}, 0, false}, {2, []int{2}, 0, true},
	} {
		if to, ok := Walk(g, x.from, x.l); to != x.to || ok != x.ok {
			t.Error(x, to, ok)
		}
	}
	if to, ok := Walk(nil, 0, nil); to != 0 || ok {
		t.Error(to, ok)
	}
}

// Promise 14.2.
func TestCount(t *testing.T) {
	g := of(t, 3, graph.Arc{From: 0, To: 1}, graph.Arc{From: 0, To: 1}, graph.Arc{From: 1, To: 2}, graph.Arc{From: 1, To: 2}, graph.Arc{From: 1, To: 2}, graph.Arc{From: 0, To: 0})
	if Count(g, 0, 2) != 6 || Count(g, 0, 0) != 1 || Count(g, 0, 1) != 2 {
		t.Error(Count(g, 0, 2))
	}
	var arcs []graph.Arc
	for v := range 200 {
		for range 3 {
			arcs = append(arcs, graph.Arc{From: v, To: v + 1})
		}
	}
	g = of(t, 201, arcs...)
	if Count(g, 0, 12) != 531441 || Count(g, 0, 13) != api.MaxBits || Count(g, 0, 200) != api.MaxBits {
		t.Error("greatest")
	}
}

// Promise 14.2.
func TestLess(t *testing.T) {
	for _, x := range []struct {
		a, b []int
		less bool
	}{
		{nil, nil, false}, {nil, []int{0}, true}, {[]int{0}, nil, false}, {[]int{1, 2}, []int{0, 3}, true}, {[]int{0, 3}, []int{1, 2}, false},
		{[]int{5}, []int{1, 5}, true}, {[]int{1, 5}, []int{5}, false}, {[]int{1, 5}, []int{2, 5}, true}, {[]int{3, 4}, []int{3, 4}, false},
		{[]int{9, 9, 1}, []int{2}, true},
	} {
		if Less(x.a, x.b) != x.less {
			t.Error(x)
		}
	}
}

// walks are all walks of so many arcs.
func walks(arcs []graph.Arc, from, to, many int) [][]int {
	if many == 0 {
		if from == to {
			return [][]int{nil}
		}
		return nil
	}
	var all [][]int
	for i, a := range arcs {
		if a.From == from {
			for _, l := range walks(arcs, a.To, to, many-1) {
				all = append(all, append([]int{i}, l...))
			}
		}
	}
	return all
}

// Promise 14.3, and the others, against all walks.
func TestModel(t *testing.T) {
	r := rand.New(rand.NewSource(11))
	for range 300 {
		n := 1 + r.Intn(6)
		var arcs []graph.Arc
		for range r.Intn(2 * n) {
			arcs = append(arcs, graph.Arc{From: r.Intn(n), To: r.Intn(n)})
		}
		g := of(t, n, arcs...)
		from, to := r.Intn(n), r.Intn(n)
		var all [][]int
		for many := 0; many < n && len(all) == 0; many++ {
			all = walks(arcs, from, to, many)
		}
		var c tick.Counter
		l, ok := Short(g, from, to, &c)
		if c.Total() != c.Of(tick.Blame) || c.Total() > 3*(n+len(arcs)) {
			t.Fatal("steps", c.Total())
		}
		if ok != (len(all) > 0) || Count(g, from, to) != len(all) {
			t.Fatal(from, to, l, all)
		}
		if !ok {
			continue
		}
		for _, other := range all {
			if !slices.Equal(l, other) && !Less(l, other) || Less(other, l) {
				t.Fatal(l, other)
			}
		}
		if end, ok := Walk(g, from, l); end != to || !ok {
			t.Fatal(l)
		}
		if len(l) > 0 {
			ahead, _ := Walk(g, from, l[:len(l)-1])
			if left, ok := Short(g, from, ahead, nil); !ok || !slices.Equal(left, l[:len(l)-1]) {
				t.Fatal(l, left)
			}
		}
	}
}

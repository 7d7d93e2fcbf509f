package seed

import (
	"math"
	"slices"
	"testing"

	"easement/api"
	"easement/tick"
)

// of is a type by the regions of its slots.
func of(regions ...int) api.Type {
	var t api.Type
	for _, r := range regions {
		t.Slots = append(t.Slots, api.Slot{Region: r})
	}
	return t
}

// Promise 28.1.
func TestExample(t *testing.T) {
	b := api.Body{Universals: 1, Regions: 2, Locals: []api.Type{of(1)}, Ret: of(0), Blocks: []api.Block{{Term: api.Term{Kind: api.Return}}}}
	l := Of(b, nil)
	if len(l) != 2 || !slices.Equal(l[0].List(), []int{0, 1}) || !slices.Equal(l[1].List(), []int{0}) || Size(b) != 2 {
		t.Error("example")
	}
}

// Promise 28.1.
func TestSeed(t *testing.T) {
	b := api.Body{
		Universals: 2, Regions: 6,
		Locals: []api.Type{of(2), of(3, 2), of(0, 4), of(5)}, Ret: of(1),
		Blocks: []api.Block{{
			Stmts: []api.Stmt{{Kind: api.Borrow, Dst: 1, Src: 0, Region: 4}, {Kind: api.Use, Src: 1}, {Kind: api.Use, Src: 2}},
			Term:  api.Term{Kind: api.Return},
		}},
	}
	var c, alone tick.Counter
	l := Of(b, &c)
	want := [][]int{{0, 1, 2, 3, 4}, {0, 1, 2, 3, 5}, {0, 1, 2, 3}, {1}, {0, 1, 2}, nil}
	if len(l) != len(want) || Size(b) != 6 {
		t.Fatal(len(l), Size(b))
	}
	for r, members := range want {
		points := slices.DeleteFunc(slices.Clone(members), func(n int) bool { return n > 3 })
		if !slices.Equal(l[r].List(), members) || l[r].Size() != 6 || !slices.Equal(Points(b, r), points) {
			t.Error(r, l[r].List(), Points(b, r))
		}
	}
	alone.Add(tick.Live, 4)
	if c.Of(tick.Live) <= alone.Of(tick.Live) || c.Of(tick.Live) != c.Total() {
		t.Error("steps", c.Total())
	}
	for u, want := range []int{4, 5} {
		if n, ok := End(b, u); n != want || !ok {
			t.Error(u, n, ok)
		}
	}
	for _, u := range []int{-1, 2, 6, math.MaxInt, math.MinInt} {
		if n, ok := End(b, u); n != 0 || ok {
			t.Error(u, n, ok)
		}
	}
	for _, r := range []int{-1, 6, math.MaxInt, math.MinInt} {
		if len(Points(b, r)) != 0 {
			t.Error(r)
		}
	}
	l[0].Add(5)
	l[2].Add(5)
	if again := Of(b, nil); again[0].Has(5) || l[1].Has(4) || l[4].Has(5) {
		t.Error("shared")
	}
}

// Promise 28.1, of a body that is not well-formed.
func TestNothing(t *testing.T) {
	b := api.Body{Universals: 1, Regions: 2, Locals: []api.Type{of(1)}, Ret: of(1), Blocks: []api.Block{{Term: api.Term{Kind: api.Return}}}}
	var c tick.Counter
	for _, x := range []api.Body{{}, b} {
		n, ok := End(x, 0)
		if Size(x) != 0 || n != 0 || ok || len(Of(x, &c)) != 0 || len(Points(x, 0)) != 0 {
			t.Error(x)
		}
	}
	if c.Total() != 0 {
		t.Error(c.Total())
	}
}

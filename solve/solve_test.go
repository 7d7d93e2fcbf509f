package solve

import (
	"math"
	"slices"
	"testing"

	"easement/api"
	"easement/cons"
	"easement/tick"
)

// of is a type by the regions of its slots.
func of(regions ...int) api.Type {
	var t api.Type
	for _, r := range regions {
		t.Slots = append(t.Slots, api.Slot{Region: r})
	}
	return t
}

func example() api.Body {
	return api.Body{
		Universals: 1, Regions: 3,
		Locals: []api.Type{of(1), of(2)}, Ret: of(0),
		Blocks: []api.Block{{Stmts: []api.Stmt{{Kind: api.Assign, Dst: 0, Src: 1}}, Term: api.Term{Kind: api.Return}}},
	}
}

// Promise 29.1.
func TestExample(t *testing.T) {
	b := example()
	var c tick.Counter
	l := cons.Of(b, nil)
	v := Of(b, l, &c)
	for region, want := range [][]int{{0, 1, 2}, {0, 1, 2}, {0, 1, 2}} {
		if !slices.Equal(v.List(region), want) || !slices.Equal(v.Points(region), []int{0, 1}) || !slices.Equal(v.Ends(region), []int{0}) {
			t.Error(region, v.List(region))
		}
		for member := -1; member < 5; member++ {
			if v.Has(region, member) != (member >= 0 && member <= 2) {
				t.Error(region, member)
			}
		}
	}
	if v.Len() != 3 || c.Of(tick.Solve) > tick.Solver(3, 2, 2) || c.Of(tick.Solve) == 0 || c.Of(tick.Solve) != c.Total() {
		t.Error("steps", c.Total())
	}
	for _, r := range []int{-1, 3, math.MaxInt, math.MinInt} {
		if v.Has(r, 0) || len(v.List(r))+len(v.Points(r))+len(v.Ends(r)) != 0 || v.Same(r, r) || v.Same(0, r) || v.Same(r, 0) {
			t.Error(r)
		}
	}
	v.List(0)[0] = 9
	if !slices.Equal(v.List(0), []int{0, 1, 2}) {
		t.Error("shared")
	}
}

// Promise 29.1: by other constraints than the body's own.
func TestOthers(t *testing.T) {
	b := api.Body{Universals: 2, Regions: 5, Locals: []api.Type{of(3)}, Ret: of(1), Blocks: []api.Block{{Stmts: []api.Stmt{{Kind: api.Dead}}, Term: api.Term{Kind: api.Return}}}}
	v := Of(b, nil, nil)
	for region, want := range [][]int{{0, 1, 2}, {0, 1, 3}, nil, {1}, nil} {
		if !slices.Equal(v.List(region), want) {
			t.Error(region, v.List(region))
		}
	}
	v = Of(b, []api.Edge{{Sup: 2, Sub: 3}, {Sup: 3, Sub: 2}, {Sup: 4, Sub: 2}, {Sup: 4, Sub: 1}, {Sup: 4, Sub: 4}}, nil)
	for region, want := range [][]int{{0, 1, 2}, {0, 1, 3}, {1}, {1}, {0, 1, 3}} {
		if !slices.Equal(v.List(region), want) {
			t.Error(region, v.List(region))
		}
	}
	if !slices.Equal(v.Points(4), []int{0, 1}) || !slices.Equal(v.Ends(4), []int{1}) || len(v.Ends(3)) != 0 {
		t.Error("points, ends")
	}
	if !v.Same(2, 3) || v.Same(2, 4) || !v.Same(4, 4) || v.Same(0, 1) {
		t.Error("same")
	}
}

// Promises 29.1 and 29.2, of what has no values.
func TestNothing(t *testing.T) {
	b := example()
	bad := example()
	bad.Ret = api.Type{}
	var none *Values
	var c tick.Counter
	for i, v := range []*Values{none, Of(bad, nil, &c), Of(api.Body{}, nil, &c), Of(b, []api.Edge{{Sup: 3}}, &c), Of(b, []api.Edge{{}, {Sub: -1}}, &c)} {
		if v.Len() != 0 || v.Has(0, 0) || len(v.List(0))+len(v.Points(0))+len(v.Ends(0)) != 0 || v.Same(0, 0) {
			t.Error(i)
		}
	}
	if c.Total() != 0 {
		t.Error(c.Total())
	}
}

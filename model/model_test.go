package model

import (
	"math"
	"slices"
	"testing"

	"easement/api"
	"easement/cons"
	"easement/solve"
)

// Promise 30.1.
func TestOutlives(t *testing.T) {
	b := api.Body{Universals: 2, Regions: 3}
	l := []api.Edge{{Sup: 0, Sub: 2}, {Sup: 2, Sub: 1}}
	if got := Outlives(b, l); !slices.Equal(got, []api.Bound{{Sup: 0, Sub: 1}}) {
		t.Error(got)
	}
	b = api.Body{Universals: 4, Regions: 6}
	l = []api.Edge{{Sup: 3, Sub: 5}, {Sup: 5, Sub: 2}, {Sup: 2, Sub: 3}, {Sup: 3, Sub: 0}, {Sup: 1, Sub: 1}, {Sup: 4, Sub: 1}}
	if got := Outlives(b, l); !slices.Equal(got, []api.Bound{{Sup: 2, Sub: 0}, {Sup: 2, Sub: 3}, {Sup: 3, Sub: 0}, {Sup: 3, Sub: 2}}) {
		t.Error(got)
	}
	few := []api.Edge{{Sup: 0, Sub: 2}, {Sup: 2, Sub: 1}}
	for _, x := range []struct {
		universals, regions int
		want                []api.Bound
	}{
		{0, 3, nil}, {-1, 3, nil}, {math.MinInt, 3, nil}, {3, 2, nil}, {3, -1, nil}, {1, api.MaxBits + 1, nil},
		{math.MaxInt, 3, []api.Bound{{Sup: 0, Sub: 1}, {Sup: 0, Sub: 2}, {Sup: 2, Sub: 1}}},
		{api.MaxBits, api.MaxBits, []api.Bound{{Sup: 0, Sub: 1}, {Sup: 0, Sub: 2}, {Sup: 2, Sub: 1}}},
	} {
		if got := Outlives(api.Body{Universals: x.universals, Regions: x.regions}, few); !slices.Equal(got, x.want) {
			t.Error(x, got)
		}
	}
	if got := Outlives(api.Body{Universals: 2, Regions: 3}, []api.Edge{{Sup: 0, Sub: 1}, {Sup: 3}}); len(got) != 0 {
		t.Error(got)
	}
}

// Promise 30.2.
func TestLoose(t *testing.T) {
	b := api.Body{Regions: 5}
	if got := Loose(b, []api.Edge{{Sup: 1, Sub: 3}, {Sup: 4, Sub: 4}}); !slices.Equal(got, []int{0, 2}) {
		t.Error(got)
	}
	if got := Loose(b, nil); !slices.Equal(got, []int{0, 1, 2, 3, 4}) {
		t.Error(got)
	}
	if got := Loose(b, []api.Edge{{Sup: 5}}); len(got) != 0 {
		t.Error(got)
	}
	if got := Loose(api.Body{Regions: -1}, nil); len(got) != 0 {
		t.Error(got)
	}
	if got := Loose(api.Body{Regions: api.MaxBits + 1}, nil); len(got) != 0 {
		t.Error(len(got))
	}
}

// Promise 30.2.
func TestAgrees(t *testing.T) {
	one := func(region int) api.Type { return api.Type{Slots: []api.Slot{{Region: region}}} }
	b := api.Body{
		Universals: 1, Regions: 3,
		Locals: []api.Type{one(1), one(2)}, Ret: one(0),
		Blocks: []api.Block{{Stmts: []api.Stmt{{Kind: api.Dead, Dst: 0}, {Kind: api.Assign, Dst: 0, Src: 1}}, Term: api.Term{Kind: api.Return}}},
	}
	l := cons.Of(b, nil)
	v := solve.Of(b, l, nil)
	if !Agrees(b, l, v) || Agrees(b, nil, v) || Agrees(b, l, nil) || Agrees(b, l[:1], v) || Agrees(b, l, solve.Of(b, l[:1], nil)) || !Agrees(b, nil, solve.Of(b, nil, nil)) {
		t.Error("agrees")
	}
	if Agrees(b, []api.Edge{{Sup: 3}}, v) || Agrees(b, []api.Edge{{Sup: 3}}, nil) {
		t.Error("constraints of no regions")
	}
	wide := b
	wide.Regions = 4
	if Agrees(wide, l, v) || Agrees(b, l, solve.Of(wide, l, nil)) {
		t.Error("of other regions")
	}
	bad := b
	bad.Ret = api.Type{}
	if !Agrees(bad, l, nil) || Agrees(bad, l, v) || !Agrees(api.Body{}, nil, nil) || Agrees(bad, []api.Edge{{Sup: 3}}, nil) || Agrees(api.Body{Regions: -1}, nil, nil) {
		t.Error("of a body that is not well-formed")
	}
}

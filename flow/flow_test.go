package flow

import (
	"math"
	"slices"
	"testing"

	"easement/api"
)

// body is a body whose blocks have so many statements, and lead to blocks.
func body(many []int, to ...[]int) api.Body {
	b := api.Body{Universals: 1, Regions: 1, Locals: []api.Type{{}}}
	for i, n := range many {
		t := api.Term{Kind: api.Return}
		if len(to[i]) > 0 {
			t = api.Term{Kind: api.Switch, To: to[i]}
		}
		b.Blocks = append(b.Blocks, api.Block{Stmts: make([]api.Stmt, n), Term: t})
	}
	return b
}

// Promises 23.1 and 23.2.
func TestExample(t *testing.T) {
	b := body([]int{1}, nil)
	b.Blocks[0].Term = api.Term{Kind: api.Goto, To: []int{0}}
	f := New(b)
	if !slices.Equal(f.Next(0), []int{1}) || !slices.Equal(f.Next(1), []int{0}) || !slices.Equal(f.Back(0), []int{1}) || !slices.Equal(f.Order(), []int{1, 0}) || len(f.Stops()) != 0 || !slices.Equal(f.Reached(), []int{0, 1}) {
		t.Error("ring")
	}
}

// Promises 23.1 and 23.2.
func TestFlow(t *testing.T) {
	// The points are 0 1 | 2 | 3 4 | 5 | 6.
	f := New(body([]int{1, 0, 1, 0, 0}, []int{2, 1, 2, 0}, nil, []int{1, 0}, []int{3, 4}, nil))
	if f.Points().Len() != 7 || f.Points().Blocks() != 5 {
		t.Error("points")
	}
	for n, want := range [][]int{{1}, {0, 2, 3}, nil, {4}, {0, 2}, {5, 6}, nil} {
		if !slices.Equal(f.Next(n), want) {
			t.Error(n, f.Next(n))
		}
	}
	for n, want := range [][]int{{1, 4}, {0}, {1, 4}, {1}, {3}, {5}, {5}} {
		if !slices.Equal(f.Back(n), want) {
			t.Error(n, f.Back(n))
		}
	}
	if !slices.Equal(f.Reached(), []int{0, 1, 2, 3, 4}) || !slices.Equal(f.Stops(), []int{2, 6}) {
		t.Error(f.Reached(), f.Stops())
	}
	if !slices.Equal(f.Order(), []int{2, 4, 3, 1, 0, 6, 5}) {
		t.Error(f.Order())
	}
	for _, n := range []int{-1, 7, math.MaxInt, math.MinInt} {
		if len(f.Next(n))+len(f.Back(n)) != 0 {
			t.Error(n)
		}
	}
	f.Next(1)[0], f.Back(0)[0] = 9, 9
	if !slices.Equal(f.Next(1), []int{0, 2, 3}) || !slices.Equal(f.Back(0), []int{1, 4}) {
		t.Error("shared")
	}
	call := body([]int{0, 0}, nil, nil)
	call.Sigs = []api.Sig{{}}
	call.Blocks[0].Term = api.Term{Kind: api.Call, To: []int{1}}
	if f := New(call); !slices.Equal(f.Next(0), []int{1}) {
		t.Error("call")
	}
}

// Promises 23.1 and 23.2, of what has no points.
func TestNothing(t *testing.T) {
	var none *Flow
	for _, f := range []*Flow{none, New(api.Body{}), New(body([]int{1}, []int{1}))} {
		if f.Points().Len() != 0 || len(f.Next(0))+len(f.Back(0))+len(f.Reached())+len(f.Stops())+len(f.Order()) != 0 {
			t.Error("points")
		}
	}
	if none.Points() != nil {
		t.Error("nil")
	}
}

// Promise 1: a long way is gone without going deep.
func TestLong(t *testing.T) {
	if f := New(body([]int{api.MaxMany}, []int{0})); len(f.Order()) != api.MaxMany+1 || f.Order()[0] != api.MaxMany {
		t.Error("long")
	}
}

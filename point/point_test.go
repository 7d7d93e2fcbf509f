package point

import (
	"math"
	"slices"
	"testing"

	"easement/api"
)

// body is a body whose blocks have so many statements, which do nothing.
func body(many ...int) api.Body {
	b := api.Body{Universals: 1, Regions: 1, Locals: []api.Type{{}}}
	for _, n := range many {
		b.Blocks = append(b.Blocks, api.Block{Stmts: make([]api.Stmt, n), Term: api.Term{Kind: api.Return}})
	}
	return b
}

// Promise 22.1.
func TestExample(t *testing.T) {
	p := New(body(2, 0))
	if p.Len() != 4 || p.Blocks() != 2 || !slices.Equal(p.Begins(), []int{0, 3}) {
		t.Error(p.Len(), p.Blocks(), p.Begins())
	}
	if block, index, ok := p.At(3); block != 1 || index != 0 || !ok {
		t.Error(block, index, ok)
	}
	for n, want := range []bool{false, false, true, true, false} {
		if p.Ends(n) != want {
			t.Error(n)
		}
	}
	for _, n := range []int{-1, 4, math.MaxInt, math.MinInt} {
		if block, index, ok := p.At(n); block != 0 || index != 0 || ok || p.Ends(n) {
			t.Error(n, block, index)
		}
	}
	for _, x := range [][2]int{{-1, 0}, {2, 0}, {0, 3}, {1, 1}, {0, -1}, {1, -1}, {math.MaxInt, 0}, {0, math.MaxInt}, {math.MinInt, math.MinInt}} {
		if n, ok := p.Of(x[0], x[1]); n != 0 || ok {
			t.Error(x, n)
		}
	}
	p.Begins()[0] = 9
	if !slices.Equal(p.Begins(), []int{0, 3}) {
		t.Error("shared")
	}
}

// Promise 22.1, of what has no points.
func TestNothing(t *testing.T) {
	var none *Points
	for _, p := range []*Points{none, New(api.Body{}), New(body()), New(api.Body{Blocks: body(1).Blocks})} {
		if p.Len() != 0 || p.Blocks() != 0 || len(p.Begins()) != 0 || p.Ends(0) {
			t.Error("points")
		}
		if n, ok := p.Of(0, 0); n != 0 || ok {
			t.Error(n, ok)
		}
		if block, index, ok := p.At(0); block != 0 || index != 0 || ok {
			t.Error(block, index, ok)
		}
	}
}

// Promise 22.2.
func TestLaws(t *testing.T) {
	for _, many := range [][]int{{0}, {5}, {0, 0, 0}, {1, 2, 3, 0, 7}} {
		p := New(body(many...))
		n, ends := 0, 0
		for block, k := range many {
			for index := range k + 1 {
				if got, ok := p.Of(block, index); got != n || !ok {
					t.Fatal(block, index, got)
				}
				if b, i, ok := p.At(n); b != block || i != index || !ok || p.Ends(n) != (index == k) {
					t.Fatal(n, b, i)
				}
				if p.Ends(n) {
					ends++
				}
				n++
			}
		}
		if p.Len() != n || ends != len(many) || p.Blocks() != ends {
			t.Fatal(p.Len(), ends)
		}
	}
}

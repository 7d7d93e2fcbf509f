package live

import (
	"math"
	"slices"
	"testing"

	"easement/api"
	"easement/tick"
)

func body(locals int, blocks ...api.Block) api.Body {
	return api.Body{Universals: 1, Regions: 1, Locals: make([]api.Type, locals), Sigs: []api.Sig{{Args: make([]api.Type, 1)}}, Blocks: blocks}
}

func assign(dst, src int) api.Stmt { return api.Stmt{Kind: api.Assign, Dst: dst, Src: src} }
func use(src int) api.Stmt         { return api.Stmt{Kind: api.Use, Src: src} }

// Promise 25.1.
func TestExample(t *testing.T) {
	b := body(3, api.Block{Stmts: []api.Stmt{assign(1, 2), use(1)}, Term: api.Term{Kind: api.Return}})
	var c tick.Counter
	l := Of(b, &c)
	for n, want := range [][]int{{0, 2}, {0, 1}, {0}} {
		if !slices.Equal(l.In(n), want) {
			t.Error(n, l.In(n))
		}
		for local := -1; local < 4; local++ {
			if l.Has(n, local) != slices.Contains(want, local) {
				t.Error(n, local)
			}
		}
	}
	for local, want := range [][]int{{0, 1, 2}, {1}, {0}, nil} {
		if !slices.Equal(l.Points(local), want) {
			t.Error(local, l.Points(local))
		}
	}
	if l.Len() != 3 || l.Count() != 5 || c.Of(tick.Live) < 3 || c.Of(tick.Live) != c.Total() {
		t.Error(l.Len(), l.Count(), c.Total())
	}
	for _, n := range []int{-1, 3, math.MaxInt, math.MinInt} {
		if len(l.In(n)) != 0 || l.Has(n, 0) || l.Has(0, n) || n != 3 && len(l.Points(n)) != 0 {
			t.Error(n)
		}
	}
	l.Points(0)[0] = 9
	l.In(0)[0] = 9
	if !slices.Equal(l.Points(0), []int{0, 1, 2}) || !slices.Equal(l.In(0), []int{0, 2}) {
		t.Error("shared")
	}
}

// Promise 25.1: what is read and written at one point, rings, calls and what is dead.
func TestEdges(t *testing.T) {
	ring := api.Block{Stmts: []api.Stmt{assign(1, 1), {Kind: api.Dead, Dst: 2}}, Term: api.Term{Kind: api.Switch, To: []int{0, 1}, Args: []int{2}}}
	end := api.Block{Term: api.Term{Kind: api.Return}}
	l := Of(body(4, ring, end), nil)
	for n, want := range [][]int{{0, 1}, {0, 1}, {0, 1, 2}, {0}} {
		if !slices.Equal(l.In(n), want) {
			t.Error(n, l.In(n))
		}
	}
	call := api.Block{Term: api.Term{Kind: api.Call, Dst: 0, To: []int{1}, Args: []int{3}}}
	l = Of(body(4, call, end), nil)
	if !slices.Equal(l.In(0), []int{3}) || !slices.Equal(l.In(1), []int{0}) {
		t.Error(l.In(0), l.In(1))
	}
	call.Term.Args = []int{0}
	l = Of(body(4, call, end), nil)
	if !slices.Equal(l.In(0), []int{0}) {
		t.Error(l.In(0))
	}
	forever := api.Block{Term: api.Term{Kind: api.Goto, To: []int{0}}}
	if l = Of(body(4, forever), nil); l.Count() != 0 || l.Len() != 1 {
		t.Error("forever")
	}
}

// Promise 25.1, of what has no points.
func TestNothing(t *testing.T) {
	bad := body(0, api.Block{Term: api.Term{Kind: api.Return}})
	var none *Live
	var c tick.Counter
	for _, l := range []*Live{none, Of(api.Body{}, &c), Of(bad, &c)} {
		if l.Len()+len(l.In(0))+len(l.Points(0))+l.Count() != 0 || l.Has(0, 0) {
			t.Error("points")
		}
	}
	if c.Total() != 0 {
		t.Error(c.Total())
	}
}

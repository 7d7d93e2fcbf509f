package valid

import (
	"math"
	"slices"
	"testing"

	"easement/api"
	"easement/tick"
)

// of is a type by the regions of its slots; what may not vary is told by ^ of its region.
func of(regions ...int) api.Type {
	var t api.Type
	for _, r := range regions {
		if r < 0 {
			t.Slots = append(t.Slots, api.Slot{Region: ^r, Inv: true})
		} else {
			t.Slots = append(t.Slots, api.Slot{Region: r})
		}
	}
	return t
}

// whole is a body that is well-formed, made anew each time.
func whole() api.Body {
	return api.Body{
		Universals: 2, Regions: 5,
		Bounds: []api.Bound{{Sup: 1, Sub: 0}, {Sup: 0, Sub: 1}},
		Locals: []api.Type{of(2), of(3), of(), of(4, ^3)},
		Ret:    of(1),
		Sigs:   []api.Sig{{}, {Params: 1, Args: []api.Type{of(0)}, Ret: of(0)}},
		Blocks: []api.Block{
			{Stmts: []api.Stmt{{Kind: api.Assign, Dst: 0, Src: 1}, {}, {Kind: api.Borrow, Dst: 1, Src: 2, Region: 4}}, Term: api.Term{Kind: api.Switch, To: []int{1, 2}, Args: []int{3}}},
			{Term: api.Term{Kind: api.Call, Sig: 1, Dst: 0, To: []int{2}, Params: []int{4}, Args: []int{1}}},
			{Stmts: []api.Stmt{{Kind: api.Use, Src: 3}}, Term: api.Term{Kind: api.Return}},
		},
	}
}

// Promise 21.1: faults, and where they are.
func TestCheck(t *testing.T) {
	seventeen := api.Type{Slots: make([]api.Slot, 17)}
	bad := api.Stmt{Kind: 9}
	for i, x := range []struct {
		change func(*api.Body)
		want   Fault
	}{
		{func(b *api.Body) {}, Fault{}},
		{func(b *api.Body) { *b = api.Body{} }, Fault{api.ErrRange, Head, 0, 0}},
		{func(b *api.Body) { b.Universals = 0 }, Fault{api.ErrRange, Head, 0, 0}},
		{func(b *api.Body) { b.Universals = math.MinInt }, Fault{api.ErrRange, Head, 0, 0}},
		{func(b *api.Body) { b.Regions = 1 }, Fault{api.ErrRange, Head, 0, 0}},
		{func(b *api.Body) { b.Regions = api.MaxMany + 1 }, Fault{api.ErrMany, Head, 0, 0}},
		{func(b *api.Body) { b.Universals, b.Regions = math.MaxInt, math.MaxInt }, Fault{api.ErrMany, Head, 0, 0}},
		{func(b *api.Body) { b.Regions = api.MaxMany }, Fault{}},
		{func(b *api.Body) { b.Regions, b.Bounds = 1, make([]api.Bound, api.MaxMany+1) }, Fault{api.ErrRange, Head, 0, 0}},
		{func(b *api.Body) { b.Bounds = make([]api.Bound, api.MaxMany+1) }, Fault{api.ErrMany, Bounds, 0, 0}},
		{func(b *api.Body) { b.Bounds = make([]api.Bound, api.MaxMany) }, Fault{}},
		{func(b *api.Body) { b.Bounds[1].Sup = 2; b.Locals = nil }, Fault{api.ErrRange, Bounds, 1, 0}},
		{func(b *api.Body) { b.Bounds[0].Sub = -1 }, Fault{api.ErrRange, Bounds, 0, 0}},
		{func(b *api.Body) { b.Bounds[0].Sub = 2 }, Fault{api.ErrRange, Bounds, 0, 0}},
		{func(b *api.Body) { b.Bounds[1].Sup = -1 }, Fault{api.ErrRange, Bounds, 1, 0}},
		{func(b *api.Body) { b.Universals = 1; b.Bounds = nil; b.Ret = of(0); b.Locals = nil }, Fault{api.ErrMissing, Locals, 0, 0}},
		{func(b *api.Body) { b.Locals = append(b.Locals, make([]api.Type, api.MaxMany-4)...) }, Fault{}},
		{func(b *api.Body) { b.Sigs = append(b.Sigs, make([]api.Sig, api.MaxMany-2)...) }, Fault{}},
		{func(b *api.Body) {
			b.Blocks = append(b.Blocks, slices.Repeat(b.Blocks[2:], api.MaxMany-3)...)
			b.Blocks[0].Stmts = nil
			b.Blocks[2].Stmts = nil
		}, Fault{}},
		{func(b *api.Body) { b.Locals = make([]api.Type, api.MaxMany+1) }, Fault{api.ErrMany, Locals, 0, 0}},
		{func(b *api.Body) { b.Locals[2] = of(5); b.Ret = of(2) }, Fault{api.ErrRange, Locals, 2, 0}},
		{func(b *api.Body) { b.Locals[1] = seventeen }, Fault{api.ErrMany, Locals, 1, 0}},
		{func(b *api.Body) { b.Ret = of(2); b.Sigs[0].Params = 17 }, Fault{api.ErrRange, Ret, 0, 0}},
		{func(b *api.Body) { b.Ret = seventeen }, Fault{api.ErrMany, Ret, 0, 0}},
		{func(b *api.Body) { b.Ret = of(^1) }, Fault{api.ErrShape, Ret, 0, 0}},
		{func(b *api.Body) { b.Ret = of() }, Fault{api.ErrShape, Ret, 0, 0}},
		{func(b *api.Body) { b.Ret = of(2, 2) }, Fault{api.ErrRange, Ret, 0, 0}},
		{func(b *api.Body) { b.Sigs = make([]api.Sig, api.MaxMany+1); b.Blocks = nil }, Fault{api.ErrMany, Sigs, 0, 0}},
		{func(b *api.Body) { b.Sigs[1].Params = 17; b.Blocks = nil }, Fault{api.ErrMany, Sigs, 1, 0}},
		{func(b *api.Body) { b.Sigs[1].Params = 0 }, Fault{api.ErrRange, Sigs, 1, 0}},
		{func(b *api.Body) { b.Blocks = nil }, Fault{api.ErrMissing, Blocks, 0, 0}},
		{func(b *api.Body) { b.Blocks = make([]api.Block, api.MaxMany+1) }, Fault{api.ErrMany, Blocks, 0, 0}},
		{func(b *api.Body) { b.Blocks[1].Stmts = make([]api.Stmt, api.MaxMany-2); b.Blocks[0].Stmts[0] = bad }, Fault{api.ErrMany, Blocks, 1, 0}},
		{func(b *api.Body) { b.Blocks[1].Stmts = make([]api.Stmt, api.MaxMany-3) }, Fault{api.ErrMany, Blocks, 2, 0}},
		{func(b *api.Body) { b.Blocks[1].Stmts = make([]api.Stmt, api.MaxMany-4) }, Fault{}},
		{func(b *api.Body) { b.Blocks[0].Stmts[2] = bad; b.Blocks[0].Term = api.Term{} }, Fault{api.ErrForm, Stmts, 0, 2}},
		{func(b *api.Body) { b.Blocks[0].Stmts[0].Dst = 4; b.Blocks[0].Stmts[2] = bad }, Fault{api.ErrRange, Stmts, 0, 0}},
		{func(b *api.Body) { b.Blocks[0].Stmts[0].Dst = 2 }, Fault{api.ErrShape, Stmts, 0, 0}},
		{func(b *api.Body) { b.Blocks[0].Term.To[1] = 3; b.Blocks[2].Stmts[0] = bad }, Fault{api.ErrRange, Terms, 0, 0}},
		{func(b *api.Body) { b.Blocks[1].Term.Params = nil }, Fault{api.ErrArg, Terms, 1, 0}},
		{func(b *api.Body) { b.Blocks[1].Term.Args[0] = 2 }, Fault{api.ErrShape, Terms, 1, 0}},
		{func(b *api.Body) { b.Blocks[1].Term.Params[0] = 5 }, Fault{api.ErrRange, Terms, 1, 0}},
		{func(b *api.Body) { b.Blocks[2].Stmts[0].Src = 4 }, Fault{api.ErrRange, Stmts, 2, 0}},
		{func(b *api.Body) { b.Blocks[2].Term = api.Term{} }, Fault{api.ErrForm, Terms, 2, 0}},
		{func(b *api.Body) { b.Blocks[0].Term.Args = make([]int, 17) }, Fault{api.ErrMany, Terms, 0, 0}},
	} {
		b := whole()
		x.change(&b)
		var c tick.Counter
		f := Check(b, &c)
		if f != x.want || OK(b) != (x.want.E == api.OK) {
			t.Error(i, f, x.want)
		}
		parts := len(b.Bounds) + len(b.Locals) + len(b.Sigs) + len(b.Blocks)
		for _, y := range b.Blocks {
			parts += len(y.Stmts)
		}
		if n := c.Of(tick.Valid); n < 1 || n > 20+4*parts || n != c.Total() {
			t.Error(i, "steps", n)
		}
	}
}

// Promise 21.1.
func TestText(t *testing.T) {
	for f, want := range map[Fault]string{
		{}:                             "ok",
		{api.OK, Terms, 1, 2}:          "ok",
		{api.ErrRange, Head, 0, 0}:     "head: range",
		{api.ErrRange, Bounds, 1, 0}:   "bound: range",
		{api.ErrMissing, Locals, 0, 0}: "local: missing",
		{api.ErrShape, Ret, 0, 0}:      "return: shape",
		{api.ErrMany, Sigs, 0, 0}:      "signature: many",
		{api.ErrMissing, Blocks, 0, 0}: "block: missing",
		{api.ErrForm, Stmts, 3, 4}:     "statement: form",
		{api.ErrArg, Terms, 3, 0}:      "terminator: argument",
		{api.ErrForm, 8, 0, 0}:         "form",
		{api.ErrForm, -1, 0, 0}:        "form",
		{-1, Head, 0, 0}:               "head: ?",
		{99, 99, 0, 0}:                 "?",
	} {
		if got := Text(f); got != want {
			t.Error(f, got)
		}
	}
}

// Promise 21.2.
func TestLaws(t *testing.T) {
	b := whole()
	for range 10 {
		for _, x := range []api.Bound{{Sup: 0, Sub: 1}, {Sup: 1, Sub: 1}, {Sup: 1, Sub: 0}} {
			b.Bounds = append(b.Bounds, x)
			if !OK(b) {
				t.Fatal("bounds")
			}
		}
	}
	for i, x := range whole().Blocks {
		for k := range x.Stmts {
			b := whole()
			b.Blocks[i].Stmts = slices.Delete(b.Blocks[i].Stmts, k, k+1)
			if !OK(b) {
				t.Fatal("statement", i, k)
			}
		}
	}
}

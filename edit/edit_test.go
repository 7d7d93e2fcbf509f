package edit

import (
	"math"
	"slices"
	"testing"

	"easement/api"
	"easement/body"
	"easement/cons"
)

func one(region int) api.Type { return api.Type{Slots: []api.Slot{{Region: region}}} }

// given is a body made anew each time.
func given() api.Body {
	return api.Body{
		Universals: 2, Regions: 4,
		Bounds: []api.Bound{{Sup: 1, Sub: 0}, {Sup: 0, Sub: 1}},
		Locals: []api.Type{one(2), {Slots: []api.Slot{{Region: 3}}}, {Slots: []api.Slot{{Region: 1}, {Region: 2, Inv: true}}}},
		Ret:    one(1),
		Blocks: []api.Block{
			{Stmts: []api.Stmt{{Kind: api.Assign, Dst: 0, Src: 1}, {Kind: api.Use, Src: 2}, {Kind: api.Dead, Dst: 2}}, Term: api.Term{Kind: api.Switch, To: []int{1}, Args: []int{1}}},
			{Term: api.Term{Kind: api.Return}},
		},
	}
}

// Promise 41.1.
func TestApply(t *testing.T) {
	stmts := func(l ...api.Stmt) func(*api.Body) { return func(b *api.Body) { b.Blocks[0].Stmts = l } }
	s := given().Blocks[0].Stmts
	for _, x := range []struct {
		e    Edit
		want func(*api.Body)
	}{
		{Edit{Blank, 0, 0, 9}, stmts(api.Stmt{}, s[1], s[2])},
		{Edit{Blank, 0, 2, 0}, stmts(s[0], s[1], api.Stmt{})},
		{Edit{Drop, 0, 1, 0}, stmts(s[0], s[2])},
		{Edit{Twice, 0, 1, 0}, stmts(s[0], s[1], s[1], s[2])},
		{Edit{Twice, 0, 2, 0}, stmts(s[0], s[1], s[2], s[2])},
		{Edit{Swap, 0, 1, 0}, stmts(s[0], s[2], s[1])},
		{Edit{Region, 2, 1, 3}, func(b *api.Body) { b.Locals[2].Slots[1].Region = 3 }},
		{Edit{Region, 0, 0, 0}, func(b *api.Body) { b.Locals[0].Slots[0].Region = 0 }},
		{Edit{Lone, 2, 0, 9}, func(b *api.Body) { b.Locals[2].Slots[0].Region = 4; b.Regions = 5 }},
		{Edit{Declare, 1, 1, 9}, func(b *api.Body) { b.Bounds = append(b.Bounds, api.Bound{Sup: 1, Sub: 1}) }},
		{Edit{Declare, 1, 0, 0}, func(b *api.Body) { b.Bounds = append(b.Bounds, api.Bound{Sup: 1}) }},
		{Edit{Undeclare, 0, 9, 9}, func(b *api.Body) { b.Bounds = b.Bounds[1:] }},
		{Edit{Undeclare, 1, 0, 0}, func(b *api.Body) { b.Bounds = b.Bounds[:1] }},
	} {
		want, b := given(), given()
		x.want(&want)
		got, e := Apply(b, x.e)
		if !body.Same(got, want) || e != api.OK || !body.Same(b, given()) {
			t.Error(x.e, got, e)
		}
		got.Bounds = append(got.Bounds[:0], api.Bound{Sup: 9})
		got.Locals[0].Slots[0].Region = 9
		got.Ret.Slots[0].Region = 9
		got.Blocks[0].Stmts[0].Dst = 9
		got.Blocks[0].Term.To[0] = 9
		if !body.Same(b, given()) {
			t.Error(x.e, "shared")
		}
	}
}

// Promise 41.1: edits that can't be.
func TestRefused(t *testing.T) {
	full := given()
	full.Bounds = make([]api.Bound, api.MaxMany)
	long := given()
	long.Blocks[1].Stmts = make([]api.Stmt, api.MaxMany-3)
	wide := given()
	wide.Regions = api.MaxMany
	bad := given()
	bad.Ret = api.Type{}
	for i, x := range []struct {
		b    api.Body
		edit Edit
		e    api.Errno
	}{
		{api.Body{}, Edit{}, api.ErrArg}, {bad, Edit{Declare, 1, 1, 0}, api.ErrArg}, {bad, Edit{9, 0, 0, 0}, api.ErrArg},
		{given(), Edit{}, api.ErrRange}, {given(), Edit{9, 0, 0, 0}, api.ErrRange}, {given(), Edit{-1, 0, 0, 0}, api.ErrRange}, {given(), Edit{math.MaxInt, 0, 0, 0}, api.ErrRange},
		{given(), Edit{Blank, 2, 0, 0}, api.ErrRange}, {given(), Edit{Blank, -1, 0, 0}, api.ErrRange}, {given(), Edit{Blank, 0, 3, 0}, api.ErrRange}, {given(), Edit{Drop, 0, -1, 0}, api.ErrRange}, {given(), Edit{Twice, 1, 0, 0}, api.ErrRange},
		{given(), Edit{Swap, 0, 2, 0}, api.ErrRange}, {given(), Edit{Swap, 0, 3, 0}, api.ErrRange}, {given(), Edit{Swap, 0, math.MaxInt, 0}, api.ErrRange},
		{given(), Edit{Region, 3, 0, 0}, api.ErrRange}, {given(), Edit{Region, 0, 1, 0}, api.ErrRange}, {given(), Edit{Region, -1, 0, 0}, api.ErrRange}, {given(), Edit{Region, 0, 0, 4}, api.ErrRange}, {given(), Edit{Region, 0, 0, -1}, api.ErrRange},
		{given(), Edit{Lone, 0, 1, 0}, api.ErrRange}, {given(), Edit{Lone, 9, 0, 0}, api.ErrRange}, {wide, Edit{Lone, 0, 0, 0}, api.ErrMany},
		{given(), Edit{Declare, 2, 0, 0}, api.ErrRange}, {given(), Edit{Declare, 0, -1, 0}, api.ErrRange}, {full, Edit{Declare, 0, 0, 0}, api.ErrMany},
		{given(), Edit{Undeclare, 2, 0, 0}, api.ErrRange}, {given(), Edit{Undeclare, -1, 0, 0}, api.ErrRange}, {long, Edit{Twice, 1, 0, 0}, api.ErrMany},
	} {
		if got, e := Apply(x.b, x.edit); !body.Same(got, api.Body{}) || e != x.e {
			t.Error(i, x.edit, e)
		}
	}
	example := api.Body{Universals: 1, Regions: 3, Locals: []api.Type{one(1), one(2)}, Ret: one(0), Blocks: []api.Block{{Stmts: []api.Stmt{{Kind: api.Assign, Src: 1}}, Term: api.Term{Kind: api.Return}}}}
	got, _ := Apply(example, Edit{Blank, 0, 0, 0})
	if l := cons.Lines(cons.Of(got, nil)); !slices.Equal(l, []string{"1:0 at 0.1 out 0"}) {
		t.Error(l)
	}
}

// Promise 41.1.
func TestAll(t *testing.T) {
	want := given()
	want.Blocks[0].Stmts = want.Blocks[0].Stmts[1:2]
	want.Bounds = append(want.Bounds, api.Bound{Sup: 1, Sub: 1})
	b := given()
	if got, n := All(b, Edit{Drop, 0, 0, 0}, Edit{Drop, 0, 2, 0}, Edit{Declare, 1, 1, 0}, Edit{Declare, 2, 1, 0}, Edit{}, Edit{Drop, 0, 1, 0}); !body.Same(got, want) || n != 3 || !body.Same(b, given()) {
		t.Error(got, n)
	}
	got, n := All(b)
	if !body.Same(got, b) || n != 0 {
		t.Error(got, n)
	}
	got.Locals[0].Slots[0].Region = 9
	if !body.Same(b, given()) {
		t.Error("shared")
	}
	if got, n := All(api.Body{}, Edit{Declare, 0, 0, 0}, Edit{}); !body.Same(got, api.Body{}) || n != 2 {
		t.Error(got, n)
	}
	if got, n := All(api.Body{}); !body.Same(got, api.Body{}) || n != 0 {
		t.Error(got, n)
	}
}

// Promise 41.2.
func TestNames(t *testing.T) {
	names := []string{"?", "blank", "drop", "twice", "swap", "region", "lone", "declare", "undeclare", "?"}
	for kind, want := range names {
		if Name(kind) != want {
			t.Error(kind, Name(kind))
		}
		if want != "?" {
			if k, ok := Kind(want); k != kind || !ok {
				t.Error(want, k, ok)
			}
		}
	}
	for _, s := range []string{"", "?", "Blank", "blank "} {
		if k, ok := Kind(s); k != 0 || ok {
			t.Error(s, k, ok)
		}
	}
	if Name(-1) != "?" || Name(math.MaxInt) != "?" {
		t.Error("no kind")
	}
}

package cons

import (
	"math"
	"slices"
	"testing"

	"easement/api"
	"easement/tick"
)

// of is a type by the regions of its slots; what may not vary is told by ^ of its region.
func of(regions ...int) api.Type {
	var t api.Type
	for _, r := range regions {
		if r < 0 {
			t.Slots = append(t.Slots, api.Slot{Region: ^r, Inv: true})
		} else {
			t.Slots = append(t.Slots, api.Slot{Region: r})
		}
	}
	return t
}

// example is the body of the chapter's example.
func example() api.Body {
	return api.Body{
		Universals: 1, Regions: 3,
		Locals: []api.Type{of(1), of(2)}, Ret: of(0),
		Blocks: []api.Block{{Stmts: []api.Stmt{{Kind: api.Assign, Dst: 0, Src: 1}}, Term: api.Term{Kind: api.Return}}},
	}
}

// Promises 27.1 and 27.2.
func TestExample(t *testing.T) {
	b := example()
	var c tick.Counter
	l := Of(b, &c)
	want := []api.Edge{{Sup: 2, Sub: 1, From: api.Prov{Kind: api.Flow}}, {Sup: 1, Sub: 0, From: api.Prov{Index: 1, Kind: api.Out}}}
	if !slices.Equal(l, want) || !slices.Equal(Lines(l), []string{"2:1 at 0.0 flow 0", "1:0 at 0.1 out 0"}) {
		t.Error(l)
	}
	if n := c.Of(tick.Cons); n < 2 || n > 4 || n != c.Total() {
		t.Error("steps", n)
	}
	if !slices.Equal(At(b, 0), want[:1]) || !slices.Equal(At(b, 1), want[1:]) {
		t.Error("at")
	}
	for _, n := range []int{-1, 2, math.MaxInt, math.MinInt} {
		if len(At(b, n)) != 0 {
			t.Error(n)
		}
	}
	b.Blocks[0].Stmts[0] = api.Stmt{}
	if !slices.Equal(Of(b, nil), want[1:]) || len(At(b, 0)) != 0 {
		t.Error("blank")
	}
}

// Promise 27.1: each kind, where it comes from.
func TestKinds(t *testing.T) {
	b := api.Body{
		Universals: 2, Regions: 9,
		Locals: []api.Type{of(2), of(3, 4), of(5, 6)}, Ret: of(1),
		Sigs: []api.Sig{{Params: 2, Bounds: []api.Bound{{Sup: 1, Sub: 0}}, Args: []api.Type{of(1), of(0, 1)}, Ret: of(0)}},
		Blocks: []api.Block{
			{Stmts: []api.Stmt{{}, {Kind: api.Borrow, Dst: 1, Src: 0, Region: 7}, {Kind: api.Reborrow, Dst: 2, Src: 1, Region: 8}, {Kind: api.Use, Src: 2}}, Term: api.Term{Kind: api.Call, Dst: 0, To: []int{1}, Params: []int{7, 8}, Args: []int{0, 2}}},
			{Term: api.Term{Kind: api.Return}},
		},
	}
	want := []string{
		"7:3 at 0.1 loan 0", "2:4 at 0.1 flow 1",
		"3:8 at 0.2 base 0", "8:5 at 0.2 loan 0", "4:6 at 0.2 flow 1",
		"8:7 at 0.4 need 0", "2:8 at 0.4 pass 0", "5:7 at 0.4 pass 16", "6:8 at 0.4 pass 17", "7:2 at 0.4 give 0",
		"2:1 at 1.0 out 0",
	}
	if got := Lines(Of(b, nil)); !slices.Equal(got, want) {
		t.Error(got)
	}
}

// Promise 27.2.
func TestGraph(t *testing.T) {
	b := example()
	l := Of(b, nil)
	g := Graph(b, l)
	if g.Nodes() != 3 || g.Arcs() != 2 || !slices.Equal(g.Next(2), []int{1}) || !slices.Equal(g.Next(1), []int{0}) || !slices.Equal(g.Out(1), []int{1}) {
		t.Error("graph")
	}
	for _, x := range []struct {
		regions int
		l       []api.Edge
	}{{-1, nil}, {api.MaxBits + 1, nil}, {2, l}, {3, []api.Edge{{Sup: 3}}}, {3, []api.Edge{{Sub: -1}}}} {
		if Graph(api.Body{Regions: x.regions}, x.l) != nil {
			t.Error(x)
		}
	}
	if g := Graph(api.Body{Regions: api.MaxBits}, nil); g.Nodes() != api.MaxBits {
		t.Error("of no body that is well-formed")
	}
	if g := Graph(api.Body{}, nil); g == nil || g.Nodes() != 0 {
		t.Error("of nothing")
	}
	if len(Lines(nil)) != 0 {
		t.Error("lines")
	}
}

// Promise 27.1, of a body that is not well-formed.
func TestNothing(t *testing.T) {
	b := example()
	b.Blocks[0].Stmts = append(b.Blocks[0].Stmts, api.Stmt{Kind: 9})
	var c tick.Counter
	for _, x := range []api.Body{{}, b} {
		if len(Of(x, &c)) != 0 || len(At(x, 0)) != 0 {
			t.Error(x)
		}
	}
	if c.Total() != 0 {
		t.Error(c.Total())
	}
}

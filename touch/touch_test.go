package touch

import (
	"math"
	"slices"
	"testing"

	"easement/api"
)

func body() api.Body {
	one := []int{0}
	return api.Body{
		Universals: 1, Regions: 1,
		Locals: []api.Type{{}, {}, {}, {Slots: []api.Slot{{}}}, {Slots: []api.Slot{{}}}},
		Sigs:   []api.Sig{{Args: []api.Type{{}, {}, {}}}},
		Blocks: []api.Block{
			{Stmts: []api.Stmt{{Kind: api.Assign, Dst: 1, Src: 2}, {Kind: api.Borrow, Dst: 3, Src: 1}, {Kind: api.Reborrow, Dst: 4, Src: 3}, {Kind: api.Use, Src: 4}, {Kind: api.Dead, Dst: 4}, {}}, Term: api.Term{Kind: api.Switch, To: one, Args: []int{4, 0, 4}}},
			{Term: api.Term{Kind: api.Call, Dst: 1, To: one, Args: []int{2, 1, 2}}},
			{Term: api.Term{Kind: api.Goto, To: one}},
			{Term: api.Term{Kind: api.Return}},
		},
	}
}

// Promises 24.1 and 24.2.
func TestTouches(t *testing.T) {
	b := body()
	x := New(b)
	if x.Len() != 10 {
		t.Error(x.Len())
	}
	for n, want := range [][]int{{2}, {1}, {3}, {4}, nil, nil, {0, 4}, {1, 2}, nil, {0}} {
		if !slices.Equal(x.Reads(n), want) {
			t.Error(n, x.Reads(n))
		}
	}
	for n, want := range []int{1, 3, 4, -1, 4, -1, -1, 1, -1, -1} {
		local, ok := x.Write(n)
		if ok != (want >= 0) || ok && local != want || !ok && local != 0 {
			t.Error(n, local, ok)
		}
	}
	for local, want := range [][2][]int{{{6, 9}, nil}, {{1, 7}, {0, 7}}, {{0, 7}, nil}, {{2}, {1}}, {{3, 6}, {2, 4}}} {
		if reads, writes := x.Of(local); !slices.Equal(reads, want[0]) || !slices.Equal(writes, want[1]) {
			t.Error(local, reads, writes)
		}
	}
	for _, n := range []int{-1, 10, math.MaxInt, math.MinInt} {
		local, ok := x.Write(n)
		if reads, writes := x.Of(n); len(x.Reads(n))+len(reads)+len(writes)+local != 0 || ok {
			t.Error(n)
		}
	}
	if reads, writes := x.Of(5); len(reads)+len(writes) != 0 {
		t.Error("no local")
	}
	if !slices.Equal(b.Blocks[0].Term.Args, []int{4, 0, 4}) || !slices.Equal(b.Blocks[1].Term.Args, []int{2, 1, 2}) {
		t.Error("changed")
	}
	x.Reads(6)[0] = 9
	reads, writes := x.Of(4)
	reads[0], writes[0] = 9, 9
	if again, too := x.Of(4); !slices.Equal(x.Reads(6), []int{0, 4}) || again[0] != 3 || too[0] != 2 {
		t.Error("shared")
	}
}

// Promise 24.1, of what has no points.
func TestNothing(t *testing.T) {
	b := body()
	b.Universals = 0
	var none *Touches
	for _, x := range []*Touches{none, New(api.Body{}), New(b)} {
		local, ok := x.Write(0)
		if reads, writes := x.Of(0); x.Len()+len(x.Reads(0))+len(reads)+len(writes)+local != 0 || ok {
			t.Error("points")
		}
	}
}

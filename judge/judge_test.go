package judge

import (
	"math"
	"slices"
	"testing"

	"easement/api"
	"easement/cons"
	"easement/decl"
	"easement/solve"
	"easement/tick"
)

// chain is a body with universal regions, in which each one of chain is needed to outlive the next one.
func chain(universals int, bounds []api.Bound, chain ...int) api.Body {
	b := api.Body{Universals: universals, Regions: universals, Bounds: bounds, Locals: []api.Type{{}}}
	var x api.Block
	for i, r := range chain {
		b.Locals = append(b.Locals, api.Type{Slots: []api.Slot{{Region: r}}})
		if i > 0 {
			x.Stmts = append(x.Stmts, api.Stmt{Kind: api.Assign, Dst: i + 1, Src: i})
		}
	}
	x.Term = api.Term{Kind: api.Return}
	b.Blocks = []api.Block{x}
	return b
}

// Promise 32.2.
func TestExample(t *testing.T) {
	one := func(region int) api.Type { return api.Type{Slots: []api.Slot{{Region: region}}} }
	b := api.Body{Universals: 3, Regions: 3, Locals: []api.Type{one(1)}, Ret: one(2), Blocks: []api.Block{{Term: api.Term{Kind: api.Return}}}}
	if !slices.Equal(Missing(b), []api.Bound{{Sup: 1, Sub: 2}}) || Accepts(b) || !With(b, []api.Bound{{Sup: 1, Sub: 2}}) || With(b, nil) {
		t.Error(Missing(b))
	}
	b.Bounds = []api.Bound{{Sup: 1, Sub: 0}}
	if len(Missing(b)) != 0 || !Accepts(b) {
		t.Error("who outlives 0 outlives all")
	}
}

// Promise 32.1.
func TestOf(t *testing.T) {
	b := chain(5, nil, 0, 3, 1, 4, 1)
	v := solve.Of(b, cons.Of(b, nil), nil)
	var c tick.Counter
	want := []api.Bound{{Sup: 1, Sub: 4}, {Sup: 3, Sub: 1}, {Sup: 3, Sub: 4}, {Sup: 4, Sub: 1}}
	if got := Of(b, v, decl.Of(5, nil), &c); !slices.Equal(got, want) {
		t.Error(got)
	}
	if n := c.Of(tick.Judge); n > 2*5+7 || n == 0 || n != c.Total() {
		t.Error("steps", n)
	}
	if got := Of(b, v, decl.Of(5, []api.Bound{{Sup: 3, Sub: 1}, {Sup: 4, Sub: 1}}), nil); !slices.Equal(got, []api.Bound{{Sup: 1, Sub: 4}, {Sup: 3, Sub: 4}}) {
		t.Error(got)
	}
	// Of what is not known of any region, not even that it outlives itself is known.
	if got := Of(b, v, nil, nil); len(got) != 12 || got[0] != (api.Bound{}) {
		t.Error(got)
	}
	if got := Of(b, v, decl.Of(4, nil), nil); !slices.Equal(got, []api.Bound{{Sup: 0, Sub: 4}, {Sup: 1, Sub: 4}, {Sup: 3, Sub: 1}, {Sup: 3, Sub: 4}, {Sup: 4, Sub: 1}, {Sup: 4, Sub: 4}}) {
		t.Error(got)
	}
	// Of a body with fewer universal regions only the ends of these are looked at.
	if got := Of(api.Body{Universals: 4}, v, decl.Of(5, nil), nil); !slices.Equal(got, []api.Bound{{Sup: 3, Sub: 1}}) {
		t.Error(got)
	}
	if got := Of(b, nil, decl.Of(5, nil), nil); len(got) != 0 {
		t.Error(got)
	}
	for _, n := range []int{0, -1, math.MinInt} {
		if got := Of(api.Body{Universals: n}, v, nil, nil); len(got) != 0 {
			t.Error(n, got)
		}
	}
	if got := Of(api.Body{Universals: math.MaxInt}, v, decl.Of(5, nil), nil); !slices.Equal(got, want) {
		t.Error(got)
	}
}

// Promise 32.2.
func TestWith(t *testing.T) {
	b := chain(4, []api.Bound{{Sup: 2, Sub: 3}}, 1, 2, 3)
	if !slices.Equal(Missing(b), []api.Bound{{Sup: 1, Sub: 2}, {Sup: 1, Sub: 3}}) {
		t.Error(Missing(b))
	}
	for _, x := range []struct {
		more []api.Bound
		want bool
	}{
		{nil, false}, {[]api.Bound{{Sup: 1, Sub: 2}}, true}, {[]api.Bound{{Sup: 1, Sub: 3}}, false}, {[]api.Bound{{Sup: 1, Sub: 0}}, true}, {[]api.Bound{{Sup: 9, Sub: 2}, {Sup: -1, Sub: 9}}, false},
	} {
		if With(b, x.more) != x.want {
			t.Error(x)
		}
	}
	if len(b.Bounds) != 1 {
		t.Error("changed")
	}
}

// Promise 32.2, of a body that is not well-formed.
func TestNothing(t *testing.T) {
	b := chain(4, nil, 1, 2)
	b.Blocks[0].Term.Dst = 1
	for _, x := range []api.Body{{}, b} {
		if len(Missing(x)) != 0 || Accepts(x) || With(x, nil) || With(x, []api.Bound{{Sup: 1, Sub: 0}}) {
			t.Error(x)
		}
	}
}

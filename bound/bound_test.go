package bound

import (
	"math"
	"math/rand"
	"slices"
	"testing"

	"easement/api"
	"easement/decl"
)

func pairs(l ...int) []api.Bound {
	var bounds []api.Bound
	for i := 0; i < len(l); i += 2 {
		bounds = append(bounds, api.Bound{Sup: l[i], Sub: l[i+1]})
	}
	return bounds
}

// chain is a body with universal regions, in which each one of chain is needed to outlive the next one.
func chain(universals int, bounds []api.Bound, chain ...int) api.Body {
	b := api.Body{Universals: universals, Regions: universals, Bounds: bounds, Locals: []api.Type{{}}}
	var x api.Block
	for i, r := range chain {
		b.Locals = append(b.Locals, api.Type{Slots: []api.Slot{{Region: r}}})
		if i > 0 {
			x.Stmts = append(x.Stmts, api.Stmt{Kind: api.Assign, Dst: i + 1, Src: i})
		}
	}
	x.Term = api.Term{Kind: api.Return}
	b.Blocks = []api.Block{x}
	return b
}

// Promise 34.1.
func TestOrderTidyCovers(t *testing.T) {
	rising := pairs(math.MinInt, 5, -1, 0, 0, 0, 0, 1, 1, -7, 1, 3, math.MaxInt, math.MinInt)
	for i, a := range rising {
		for j, b := range rising {
			if got := Order(a, b); (got < 0) != (i < j) || (got > 0) != (i > j) {
				t.Error(a, b, got)
			}
		}
	}
	given := pairs(2, 1, 1, 2, 2, 1, 1, 0, 1, 2)
	if got := Tidy(given); !slices.Equal(got, pairs(1, 0, 1, 2, 2, 1)) || !slices.Equal(given, pairs(2, 1, 1, 2, 2, 1, 1, 0, 1, 2)) {
		t.Error(got, given)
	}
	if len(Tidy(nil)) != 0 {
		t.Error("of nothing")
	}
	if !Covers(4, pairs(1, 2), pairs(2, 3), pairs(1, 3, 0, 3, 2, 2)) || Covers(4, pairs(1, 2), nil, pairs(1, 3)) || Covers(3, pairs(1, 2), pairs(2, 3), pairs(1, 3)) || !Covers(-1, nil, nil, nil) || Covers(-1, nil, nil, pairs(0, 0)) {
		t.Error("covers")
	}
}

// Promise 34.2.
func TestLeast(t *testing.T) {
	for _, x := range []struct {
		universals        int
		declared, l, want []api.Bound
	}{
		{4, nil, pairs(2, 3, 1, 3, 1, 2), pairs(1, 2, 2, 3)},
		{4, pairs(2, 3), pairs(2, 3, 1, 3, 1, 2), pairs(1, 2)},
		{4, pairs(1, 2), pairs(2, 3, 1, 3), pairs(2, 3)},
		{4, nil, pairs(1, 3, 1, 3), pairs(1, 3)},
		{4, nil, pairs(0, 3, 2, 2), nil},
		{4, nil, pairs(1, 0, 1, 2, 1, 3), pairs(1, 0)},
		{4, nil, pairs(1, 2, 2, 1, 1, 3, 2, 3), pairs(1, 2, 1, 3, 2, 1)},
		{4, pairs(2, 1, 1, 2), pairs(1, 3, 2, 3), pairs(1, 3)},
		{3, nil, pairs(5, 6, 1, 2, -1, 0), pairs(-1, 0, 1, 2, 5, 6)},
		{-1, nil, pairs(0, 0, 1, 2, 1, 2), pairs(0, 0, 1, 2)},
		{api.MaxMany + 1, nil, pairs(1, 2, 2, 3, 1, 3), pairs(1, 2, 1, 3, 2, 3)},
		{4, nil, nil, nil},
	} {
		if got := Least(x.universals, x.declared, x.l); !slices.Equal(got, x.want) {
			t.Error(x, got)
		}
	}
}

// naive leaves out one by one, as the words of the chapter say.
func naive(universals int, declared, l []api.Bound) []api.Bound {
	left := Tidy(l)
	for i := len(left) - 1; i >= 0; i-- {
		others := slices.Delete(slices.Clone(left), i, i+1)
		if decl.Of(universals, append(slices.Clone(declared), others...)).Has(left[i].Sup, left[i].Sub) {
			left = others
		}
	}
	return left
}

// Promise 34.2, against what the words say.
func TestLeastModel(t *testing.T) {
	r := rand.New(rand.NewSource(21))
	for range 3000 {
		n := 1 + r.Intn(6)
		random := func(many int) []api.Bound {
			var l []api.Bound
			for range r.Intn(many) {
				l = append(l, api.Bound{Sup: r.Intn(n + 1), Sub: r.Intn(n + 1)})
			}
			return l
		}
		declared, l := random(4), random(16)
		if got, want := Least(n, declared, l), naive(n, declared, l); !slices.Equal(got, want) {
			t.Fatal(n, declared, l, got, want)
		}
	}
}

// Promise 34.3.
func TestSuggestNeedless(t *testing.T) {
	b := chain(4, nil, 1, 2, 3)
	if got := Suggest(b); !slices.Equal(got, pairs(1, 2, 2, 3)) {
		t.Error(got)
	}
	b.Bounds = pairs(2, 3)
	if got := Suggest(b); !slices.Equal(got, pairs(1, 2)) {
		t.Error(got)
	}
	for _, x := range []struct {
		bounds []api.Bound
		want   []int
	}{
		{nil, nil},
		{pairs(1, 2, 1, 3, 2, 3), []int{1}},
		{pairs(1, 3, 1, 2, 2, 3), []int{0}},
		{pairs(1, 2, 1, 2), []int{0, 1}},
		{pairs(3, 1, 1, 1, 0, 3), []int{0, 1, 2}},
		{pairs(1, 0, 1, 2), []int{1}},
		{pairs(1, 3), nil},
		{pairs(2, 1, 1, 3), nil},
		{pairs(2, 1, 3, 1), []int{0, 1}},
		{pairs(1, 2, 2, 3, 1, 2, 3, 1, 2, 3), []int{0, 1, 2, 3, 4}},
	} {
		b.Bounds = x.bounds
		if got := Needless(b); !slices.Equal(got, x.want) {
			t.Error(x, got)
		}
	}
	b.Bounds = slices.Repeat(pairs(1, 2), api.MaxMany)
	if got := Needless(b); len(got) != api.MaxMany || got[5] != 5 {
		t.Error(len(got))
	}
	b.Ret = api.Type{Slots: make([]api.Slot, 1)}
	for _, x := range []api.Body{{}, b} {
		if len(Suggest(x))+len(Needless(x)) != 0 {
			t.Error("of a body that is not well-formed")
		}
	}
}

package decl

import (
	"math"
	"math/rand"
	"slices"
	"testing"

	"easement/api"
)

// Promises 31.1 and 31.2.
func TestExample(t *testing.T) {
	given := []api.Bound{{Sup: 2, Sub: 3}, {Sup: 1, Sub: 2}}
	k := Of(4, given)
	if !k.Has(1, 3) || k.Has(3, 1) || !k.Has(0, 3) || k.Has(1, 0) || !k.Has(2, 2) || k.Len() != 4 {
		t.Error("has")
	}
	if !slices.Equal(k.Bounds(), []api.Bound{{Sup: 1, Sub: 2}, {Sup: 1, Sub: 3}, {Sup: 2, Sub: 3}}) {
		t.Error(k.Bounds())
	}
	if !slices.Equal(given, []api.Bound{{Sup: 2, Sub: 3}, {Sup: 1, Sub: 2}}) {
		t.Error("changed")
	}
	for sup, want := range [][]int{{0, 1, 2, 3}, {1, 2, 3}, {2, 3}, {3}} {
		if !slices.Equal(k.Subs(sup), want) {
			t.Error(sup, k.Subs(sup))
		}
	}
	for sub, want := range [][]int{{0}, {0, 1}, {0, 1, 2}, {0, 1, 2, 3}} {
		if !slices.Equal(k.Sups(sub), want) {
			t.Error(sub, k.Sups(sub))
		}
	}
	for _, r := range []int{-1, 4, math.MaxInt, math.MinInt} {
		if k.Has(r, r) || k.Has(0, r) || k.Has(r, 0) || len(k.Subs(r))+len(k.Sups(r)) != 0 || k.Alike(r, r) || k.All([]api.Bound{{Sup: 0, Sub: r}}) {
			t.Error(r)
		}
	}
	if k.Alike(1, 2) || !k.Alike(1, 1) || !k.All(given) || !k.All(nil) || k.All([]api.Bound{{Sup: 1, Sub: 3}, {Sup: 2, Sub: 1}}) {
		t.Error("alike, all")
	}
}

// Promise 31.1: who outlives the region 0 outlives all.
func TestZero(t *testing.T) {
	k := Of(5, []api.Bound{{Sup: 3, Sub: 1}, {Sup: 1, Sub: 0}, {Sup: 9, Sub: 2}, {Sup: 2, Sub: 9}, {Sup: -1, Sub: 2}, {Sup: 4, Sub: 5}})
	if !slices.Equal(k.Subs(3), []int{0, 1, 2, 3, 4}) || !slices.Equal(k.Subs(2), []int{2}) || !slices.Equal(k.Sups(4), []int{0, 1, 3, 4}) || !k.Alike(0, 3) || !k.Alike(1, 3) || k.Alike(0, 2) {
		t.Error(k.Subs(3), k.Subs(2), k.Sups(4))
	}
	if len(k.Bounds()) != 8 {
		t.Error(k.Bounds())
	}
}

// Promises 31.1 and 31.2, of other numbers of regions, and nil.
func TestNothing(t *testing.T) {
	var none *Known
	l := []api.Bound{{}}
	for _, k := range []*Known{none, Of(-1, l), Of(0, l), Of(api.MaxMany+1, l), Of(math.MinInt, nil), Of(math.MaxInt, l)} {
		if k.Len() != 0 || k.Has(0, 0) || len(k.Subs(0))+len(k.Sups(0))+len(k.Bounds()) != 0 || k.Alike(0, 0) || k.All(l) || !k.All(nil) {
			t.Error("nothing")
		}
	}
}

// Promise 31.1, of the most regions.
func TestMost(t *testing.T) {
	last := api.MaxMany - 1
	k := Of(api.MaxMany, []api.Bound{{Sup: last, Sub: 7}, {Sup: 7, Sub: 9}})
	if k.Len() != api.MaxMany || !slices.Equal(k.Subs(last), []int{7, 9, last}) || !slices.Equal(k.Sups(9), []int{0, 7, 9, last}) || len(k.Bounds()) != 3 || len(k.Subs(0)) != api.MaxMany {
		t.Error("most")
	}
}

// Promises 31.1 to 31.3, against what follows step by step.
func TestModel(t *testing.T) {
	r := rand.New(rand.NewSource(20))
	for range 500 {
		n := 1 + r.Intn(7)
		var l []api.Bound
		for range r.Intn(8) {
			l = append(l, api.Bound{Sup: r.Intn(n+2) - 1, Sub: r.Intn(n+2) - 1})
		}
		var has [7][7]bool
		for a := range n {
			has[a][a], has[0][a] = true, true
		}
		for _, b := range l {
			if b.Sup >= 0 && b.Sub >= 0 && b.Sup < n && b.Sub < n {
				has[b.Sup][b.Sub] = true
			}
		}
		for c := range n {
			for a := range n {
				for b := range n {
					has[a][b] = has[a][b] || has[a][c] && has[c][b]
				}
			}
		}
		k := Of(n, l)
		more := Of(n, append(slices.Clone(l), api.Bound{Sup: r.Intn(n), Sub: r.Intn(n)}))
		again := Of(n, k.Bounds())
		var bounds []api.Bound
		for a := range n {
			for b := range n {
				if k.Has(a, b) != has[a][b] || again.Has(a, b) != has[a][b] || has[a][b] && !more.Has(a, b) {
					t.Fatal(n, l, a, b)
				}
				if slices.Contains(k.Subs(a), b) != has[a][b] || slices.Contains(k.Sups(b), a) != has[a][b] || k.Alike(a, b) != (has[a][b] && has[b][a]) {
					t.Fatal(n, l, a, b)
				}
				if a > 0 && a != b && has[a][b] {
					bounds = append(bounds, api.Bound{Sup: a, Sub: b})
				}
			}
			if !slices.IsSorted(k.Subs(a)) || !slices.IsSorted(k.Sups(a)) {
				t.Fatal("order")
			}
		}
		if !slices.Equal(k.Bounds(), bounds) || !k.All(bounds) {
			t.Fatal(n, l, k.Bounds())
		}
	}
}

package laws

import (
	"math/rand"
	"slices"
	"testing"

	"easement/api"
	"easement/cons"
	"easement/live"
	"easement/model"
	"easement/row"
	"easement/seed"
	"easement/solve"
	"easement/tick"
)

// seeds is what the values have at first, by the words of chapter 28.
func seeds(b api.Body) [][]int {
	at := lives(b)
	all := make([][]int, b.Regions)
	for r := range all {
		for n := range at {
			has := r < b.Universals
			for local, typ := range b.Locals {
				has = has || at[n][local] && row.Has(typ, r)
			}
			if has {
				all[r] = append(all[r], n)
			}
		}
		if r < b.Universals {
			all[r] = append(all[r], len(at)+r)
		}
	}
	return all
}

// Promises 28.1 and 28.2.
func TestSeed(t *testing.T) {
	each(t, 7, 400, func(t *testing.T, _ *rand.Rand, b api.Body) {
		want := seeds(b)
		points := len(nexts(b))
		var c, less tick.Counter
		live.Of(b, &less)
		got := seed.Of(b, &c)
		if len(got) != b.Regions || seed.Size(b) != points+b.Universals || c.Of(tick.Live) <= less.Of(tick.Live) || c.Of(tick.Live) != c.Total() {
			t.Error("size, steps")
		}
		for r, s := range got {
			if !slices.Equal(s.List(), want[r]) {
				t.Error(r, s.List(), want[r])
			}
			first := slices.DeleteFunc(want[r], func(n int) bool { return n >= points })
			if !slices.Equal(seed.Points(b, r), first) {
				t.Error("points", r)
			}
			ends := 0
			for u := range b.Universals {
				end, ok := seed.End(b, u)
				if !ok || end != points+u || s.Has(end) != (u == r) {
					t.Error("end", r, u)
				}
				if s.Has(end) {
					ends++
				}
			}
			if r < b.Universals && ends != 1 || r >= b.Universals && ends != 0 {
				t.Error("ends", r)
			}
		}
	})
}

// constraints is the body's own ones, or others between its regions.
func constraints(r *rand.Rand, b api.Body) []api.Edge {
	if r.Intn(2) > 0 {
		return cons.Of(b, nil)
	}
	var l []api.Edge
	for range r.Intn(2 * b.Regions) {
		l = append(l, api.Edge{Sup: r.Intn(b.Regions), Sub: r.Intn(b.Regions)})
	}
	return l
}

// leads tells of each two regions whether the first one leads to the second one.
func leads(b api.Body, l []api.Edge) [][]bool {
	next := make([][]int, b.Regions)
	for _, x := range l {
		next[x.Sup] = append(next[x.Sup], x.Sub)
	}
	return reached(next)
}

// values is the least values by constraints, done till nothing changes.
func values(b api.Body, l []api.Edge) [][]int {
	all := seeds(b)
	for changed := true; changed; {
		changed = false
		for _, x := range l {
			for _, n := range all[x.Sub] {
				if !slices.Contains(all[x.Sup], n) {
					all[x.Sup], changed = append(all[x.Sup], n), true
				}
			}
		}
	}
	for _, set := range all {
		slices.Sort(set)
	}
	return all
}

// Promises 29.1 to 29.3.
func TestSolve(t *testing.T) {
	each(t, 8, 500, func(t *testing.T, r *rand.Rand, b api.Body) {
		l := constraints(r, b)
		want, to := values(b, l), leads(b, l)
		points := len(nexts(b))
		var c tick.Counter
		v := solve.Of(b, l, &c)
		if n := c.Of(tick.Solve); n > tick.Solver(b.Regions, len(l), points) || n != c.Total() || v.Len() != b.Regions {
			t.Error("steps", n)
		}
		more := solve.Of(b, append(slices.Clone(l), api.Edge{Sup: r.Intn(b.Regions), Sub: r.Intn(b.Regions)}), nil)
		for a := range b.Regions {
			if !slices.Equal(v.List(a), want[a]) {
				t.Error(a, v.List(a), want[a])
			}
			k := 0
			for k < len(want[a]) && want[a][k] < points {
				k++
			}
			var ends []int
			for _, n := range want[a][k:] {
				ends = append(ends, n-points)
			}
			if !slices.Equal(v.Points(a), want[a][:k]) || !slices.Equal(v.Ends(a), ends) {
				t.Error("points, ends", a)
			}
			for n := -1; n <= points+b.Universals; n++ {
				if v.Has(a, n) != slices.Contains(want[a], n) {
					t.Error("has", a, n)
				}
			}
			for _, n := range v.List(a) {
				if !more.Has(a, n) {
					t.Error("less", a, n)
				}
			}
			if a < b.Universals && (len(v.Points(a)) != points || !slices.Contains(v.Ends(a), a)) {
				t.Error("universal", a)
			}
			for d := range b.Regions {
				if v.Same(a, d) != (to[a][d] && to[d][a]) || v.Same(a, d) && !slices.Equal(v.List(a), v.List(d)) {
					t.Error("same", a, d)
				}
			}
		}
	})
}

// Promises 30.1 to 30.3.
func TestModel(t *testing.T) {
	each(t, 9, 500, func(t *testing.T, r *rand.Rand, b api.Body) {
		l := constraints(r, b)
		to := leads(b, l)
		v := solve.Of(b, l, nil)
		if !model.Agrees(b, l, v) {
			t.Error("agrees")
		}
		more := append(slices.Clone(l), api.Edge{Sup: r.Intn(b.Regions), Sub: r.Intn(b.Regions)})
		same := true
		for a, want := range values(b, more) {
			same = same && slices.Equal(want, v.List(a))
		}
		if model.Agrees(b, more, v) != same {
			t.Error("agrees with more")
		}
		var bounds []api.Bound
		var loose []int
		for a := range b.Regions {
			named := false
			for _, x := range l {
				named = named || x.Sup == a || x.Sub == a
			}
			if !named {
				loose = append(loose, a)
			}
			for u := range b.Universals {
				if a < b.Universals && u != a && to[a][u] {
					bounds = append(bounds, api.Bound{Sup: a, Sub: u})
				}
				if slices.Contains(v.Ends(a), u) != to[a][u] {
					t.Error("end", a, u)
				}
			}
		}
		if !slices.Equal(model.Outlives(b, l), bounds) || !slices.Equal(model.Loose(b, l), loose) {
			t.Error("outlives, loose")
		}
	})
}

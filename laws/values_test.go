package laws

import (
	"math/rand"
	"slices"
	"testing"

	"easement/api"
	"easement/live"
	"easement/row"
	"easement/seed"
	"easement/tick"
)

// seeds is what the values have at first, by the words of chapter 28.
func seeds(b api.Body) [][]int {
	at := lives(b)
	all := make([][]int, b.Regions)
	for r := range all {
		for n := range at {
			has := r < b.Universals
			for local, typ := range b.Locals {
				has = has || at[n][local] && row.Has(typ, r)
			}
			if has {
				all[r] = append(all[r], n)
			}
		}
		if r < b.Universals {
			all[r] = append(all[r], len(at)+r)
		}
	}
	return all
}

// Promises 28.1 and 28.2.
func TestSeed(t *testing.T) {
	each(t, 7, 400, func(t *testing.T, _ *rand.Rand, b api.Body) {
		want := seeds(b)
		points := len(nexts(b))
		var c, less tick.Counter
		live.Of(b, &less)
		got := seed.Of(b, &c)
		if len(got) != b.Regions || seed.Size(b) != points+b.Universals || c.Of(tick.Live) <= less.Of(tick.Live) || c.Of(tick.Live) != c.Total() {
			t.Error("size, steps")
		}
		for r, s := range got {
			if !slices.Equal(s.List(), want[r]) {
				t.Error(r, s.List(), want[r])
			}
			first := slices.DeleteFunc(want[r], func(n int) bool { return n >= points })
			if !slices.Equal(seed.Points(b, r), first) {
				t.Error("points", r)
			}
			ends := 0
			for u := range b.Universals {
				end, ok := seed.End(b, u)
				if !ok || end != points+u || s.Has(end) != (u == r) {
					t.Error("end", r, u)
				}
				if s.Has(end) {
					ends++
				}
			}
			if r < b.Universals && ends != 1 || r >= b.Universals && ends != 0 {
				t.Error("ends", r)
			}
		}
	})
}

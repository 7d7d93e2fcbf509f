package table

import (
	"math"
	"math/rand"
	"slices"
	"testing"

	"easement/api"
)

// Promise 8.1.
func TestTable(t *testing.T) {
	var x Table[string]
	if v, ok := x.Get(0); v != "" || ok || x.Len() != 0 || x.Or(0, "z") != "z" {
		t.Error("zero")
	}
	for _, i := range []int{-1, api.MaxBits, math.MaxInt, math.MinInt} {
		if x.Set(i, "q") || x.Len() != 0 || x.Or(i, "z") != "z" {
			t.Error(i)
		}
		if v, ok := x.Get(i); v != "" || ok {
			t.Error(i, v)
		}
	}
	if !x.Set(5, "five") || !x.Set(0, "") || !x.Set(api.MaxBits-1, "last") || !x.Set(5, "5") || x.Len() != 3 {
		t.Error("set")
	}
	if v, ok := x.Get(5); v != "5" || !ok || x.Or(5, "z") != "5" || x.Or(0, "z") != "" || x.Or(4, "z") != "z" {
		t.Error(v, ok)
	}
	var keys []int
	var values []string
	for i, v := range x.All() {
		keys, values = append(keys, i), append(values, v)
	}
	if !slices.Equal(keys, []int{0, 5, api.MaxBits - 1}) || !slices.Equal(values, []string{"", "5", "last"}) {
		t.Error(keys, values)
	}
	for i := range x.All() {
		if i > 0 {
			t.Error("not left")
		}
		break
	}
}

// Promise 8.1, of a nil table.
func TestNil(t *testing.T) {
	var x *Table[int]
	if v, ok := x.Get(0); v != 0 || ok || x.Set(0, 1) || x.Len() != 0 || x.Or(0, 3) != 3 {
		t.Error("nil")
	}
	for i := range x.All() {
		t.Error(i)
	}
}

type word struct {
	key  int
	text string
}

func (w word) Key() int { return w.key }

// Promise 8.2.
func TestGroup(t *testing.T) {
	l := []word{{1, "a"}, {0, "b"}, {1, "c"}, {-1, "d"}, {3, "e"}, {2, "f"}}
	got := Group(l, 3)
	if len(got) != 3 || !slices.Equal(got[0], []word{{0, "b"}}) || !slices.Equal(got[1], []word{{1, "a"}, {1, "c"}}) || !slices.Equal(got[2], []word{{2, "f"}}) {
		t.Error(got)
	}
	got[0] = append(got[0], word{9, "x"})
	got[1][0].text = "y"
	if got[1][1].text != "c" || l[0].text != "a" {
		t.Error("shared")
	}
	for _, n := range []int{-1, api.MaxBits + 1, math.MaxInt, math.MinInt, 0} {
		if got := Group(l, n); len(got) != 0 {
			t.Error(n, len(got))
		}
	}
	if got := Group([]word(nil), 2); len(got) != 2 || len(got[0])+len(got[1]) != 0 {
		t.Error(got)
	}
	if got := Group(l, api.MaxBits); len(got) != api.MaxBits {
		t.Error(len(got))
	}
	if got := Group([]Keyed{nil, word{1, "a"}, nil}, 2); len(got[0]) != 0 || len(got[1]) != 1 {
		t.Error(got)
	}
}

// Promise 8.2.
func TestFirsts(t *testing.T) {
	given := []string{"a", "b", "a", "", "b", "", "c"}
	if got := Firsts(given); !slices.Equal(got, []string{"a", "b", "", "c"}) {
		t.Error(got)
	}
	if got := Firsts([]int(nil)); len(got) != 0 {
		t.Error(got)
	}
	whole := []int{3, 2, 1}
	got := Firsts(whole)
	got[0] = 9
	if whole[0] != 3 {
		t.Error("shared")
	}
	if got := Firsts([]float64{math.NaN(), 0, math.Copysign(0, -1), math.NaN()}); len(got) != 3 {
		t.Error(got)
	}
	if got := Firsts([]any{1, []int{1}, 1, []int{1}, "1"}); len(got) != 4 {
		t.Error(got)
	}
}

// Promise 8.3.
func TestLaws(t *testing.T) {
	r := rand.New(rand.NewSource(6))
	for range 200 {
		var x Table[int]
		last := map[int]int{}
		var l []word
		for k := range r.Intn(40) {
			i := r.Intn(12)
			x.Set(i, k)
			last[i] = k
			l = append(l, word{i, string(rune('a' + k))})
		}
		for i := range 12 {
			v, ok := x.Get(i)
			want, had := last[i]
			if v != want || ok != had {
				t.Fatal(i)
			}
		}
		if x.Len() != len(last) {
			t.Fatal(x.Len())
		}
		sorted := slices.Clone(l)
		slices.SortStableFunc(sorted, func(a, b word) int { return a.key - b.key })
		if !slices.Equal(slices.Concat(Group(l, 12)...), sorted) {
			t.Fatal("group")
		}
	}
}

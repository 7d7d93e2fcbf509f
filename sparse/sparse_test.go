package sparse

import (
	"math"
	"math/rand"
	"slices"
	"testing"
)

// Promise 4.1.
func TestOf(t *testing.T) {
	given := []int{5, 1, 5, -2, Most, Most + 1, math.MinInt, math.MaxInt, 0}
	kept := slices.Clone(given)
	s := Of(given...)
	if !slices.Equal(s.List(), []int{0, 1, 5, Most}) || !slices.Equal(given, kept) {
		t.Error(s.List(), given)
	}
	given[1] = 7
	if s.Has(7) || !s.Has(1) {
		t.Error("shared")
	}
	if e := Of(); e == nil || e.Len() != 0 || !e.Add(3) {
		t.Error("empty")
	}
}

// Promise 4.1.
func TestAddDelOr(t *testing.T) {
	s := Of(5, 1)
	if s.Add(5) || !s.Add(3) || s.Add(-1) || s.Add(Most+1) || !s.Add(Most) || !s.Add(0) || !slices.Equal(s.List(), []int{0, 1, 3, 5, Most}) {
		t.Error(s.List())
	}
	if s.Del(2) || s.Del(-1) || !s.Del(3) || s.Del(3) || !s.Del(Most) || !s.Del(0) || !slices.Equal(s.List(), []int{1, 5}) {
		t.Error(s.List())
	}
	u := Of(0, 1, 9)
	if !s.Or(u) || s.Or(u) || s.Or(s) || !slices.Equal(s.List(), []int{0, 1, 5, 9}) || !slices.Equal(u.List(), []int{0, 1, 9}) {
		t.Error(s.List(), u.List())
	}
	u.Add(2)
	if s.Has(2) {
		t.Error("shared")
	}
}

// Promise 4.2.
func TestPlaces(t *testing.T) {
	s := Of(5, 1, 9)
	for k, want := range []int{1, 5, 9} {
		if i, ok := s.At(k); i != want || !ok || s.Rank(i) != k {
			t.Error(k, i)
		}
	}
	for _, k := range []int{-1, 3, math.MaxInt, math.MinInt} {
		if i, ok := s.At(k); i != 0 || ok {
			t.Error(k, i)
		}
	}
	if s.Rank(math.MinInt) != 0 || s.Rank(2) != 1 || s.Rank(math.MaxInt) != 3 || s.Len() != 3 {
		t.Error("rank")
	}
	if !slices.Equal(Meet(s, Of(9, 2, 1)), []int{1, 9}) || len(Meet(s, Of(2))) != 0 {
		t.Error("meet")
	}
	s.List()[0] = 77
	if !slices.Equal(s.List(), []int{1, 5, 9}) {
		t.Error("shared")
	}
	for i := range s.All() {
		if i == 5 {
			break
		}
		s.Del(i)
	}
	if !slices.Equal(s.List(), []int{5, 9}) {
		t.Error(s.List())
	}
}

// Promises 4.1 and 4.2, of nil sets.
func TestNil(t *testing.T) {
	var s *Set
	if s.Has(0) || s.Add(0) || s.Del(0) || s.Or(Of(1)) || Of(1).Or(s) || s.Len() != 0 || s.Rank(5) != 0 || len(s.List()) != 0 || len(Meet(s, Of(1))) != 0 || len(Meet(Of(1), s)) != 0 {
		t.Error("nil")
	}
	if i, ok := s.At(0); i != 0 || ok {
		t.Error(i, ok)
	}
	for i := range s.All() {
		t.Error(i)
	}
}

// Promise 4.3.
func TestLaws(t *testing.T) {
	r := rand.New(rand.NewSource(2))
	for range 300 {
		var a, b []int
		for range r.Intn(20) {
			a = append(a, r.Intn(30))
		}
		for range r.Intn(20) {
			b = append(b, r.Intn(30))
		}
		s, u := Of(a...), Of(b...)
		one, seen := &Set{}, map[int]bool{}
		for _, i := range a {
			if one.Add(i) == seen[i] {
				t.Fatal("add", i)
			}
			seen[i] = true
		}
		if !slices.Equal(one.List(), s.List()) {
			t.Fatal(one.List(), s.List())
		}
		many, shared := s.Len()+u.Len(), Meet(s, u)
		for _, i := range shared {
			if !s.Has(i) || !u.Has(i) {
				t.Fatal(i)
			}
		}
		s.Or(u)
		if s.Len() != many-len(shared) || !slices.IsSorted(s.List()) {
			t.Fatal(s.List())
		}
		for k := range s.Len() {
			if i, ok := s.At(k); !ok || s.Rank(i) != k {
				t.Fatal(k)
			}
		}
	}
}

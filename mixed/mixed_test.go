package mixed

import (
	"math"
	"math/rand"
	"slices"
	"testing"

	"easement/api"
)

func of(t *testing.T, size int, l ...int) *Set {
	t.Helper()
	s, e := New(size)
	if e != api.OK {
		t.Fatal(e)
	}
	for _, i := range l {
		s.Add(i)
	}
	return s
}

// Promise 5.1.
func TestNew(t *testing.T) {
	for size, want := range map[int]api.Errno{-1: api.ErrArg, math.MinInt: api.ErrArg, api.MaxBits + 1: api.ErrOver, math.MaxInt: api.ErrOver} {
		if s, e := New(size); s != nil || e != want {
			t.Error(size, s, e)
		}
	}
	for _, size := range []int{0, 1, 8, 9, 64, api.MaxBits} {
		s := of(t, size)
		if s.Size() != size || s.Len() != 0 || s.Dense() || s.Words() != 0 || s.Add(size) || s.Add(-1) || s.Has(size) || s.Has(-1) || s.Len() != 0 {
			t.Error(size)
		}
	}
}

// Promises 5.1 and 5.2: the members by which a set becomes dense.
func TestDense(t *testing.T) {
	s := of(t, 100)
	s.Fill(0, 8)
	if s.Dense() || s.Words() != 8 || s.Len() != 8 {
		t.Error("sparse")
	}
	if s.Add(7) || s.Dense() || !s.Add(8) || !s.Dense() || s.Words() != 2 || s.Len() != 9 {
		t.Error("dense")
	}
	if !s.Add(99) || s.Add(99) || s.Add(100) || !s.Has(99) || s.Has(50) || s.Len() != 10 {
		t.Error("dense add")
	}
	s.Fill(98, 200)
	s.Fill(-7, 1)
	s.Fill(60, 50)
	s.Fill(math.MaxInt, math.MinInt)
	if !slices.Equal(s.List(), []int{0, 1, 2, 3, 4, 5, 6, 7, 8, 98, 99}) {
		t.Error(s.List())
	}
	s.Fill(math.MinInt, math.MaxInt)
	if s.Len() != 100 {
		t.Error(s.Len())
	}
	for size, words := range map[int]int{9: 1, 64: 1, 65: 2, 128: 2, 129: 3, api.MaxBits: api.MaxBits / 64} {
		u := of(t, size)
		u.Fill(0, 9)
		if !u.Dense() || u.Words() != words {
			t.Error(size, u.Words())
		}
	}
}

// Promise 5.2.
func TestOr(t *testing.T) {
	s, few := of(t, 100, 1, 2), of(t, 100, 2, 3)
	if !s.Or(few) || s.Or(few) || s.Or(s) || s.Dense() || !slices.Equal(s.List(), []int{1, 2, 3}) || !slices.Equal(few.List(), []int{2, 3}) {
		t.Error(s.List())
	}
	many := of(t, 100)
	many.Fill(50, 60)
	if !few.Or(many) || !few.Dense() || few.Or(many) || few.Len() != 12 || many.Len() != 10 {
		t.Error("dense into sparse")
	}
	if !many.Or(s) || many.Or(s) || many.Len() != 13 || s.Dense() {
		t.Error("sparse into dense")
	}
	six, seven := of(t, 100, 0, 1, 2, 3, 4, 5), of(t, 100, 5, 6, 7, 8)
	if !six.Or(seven) || !six.Dense() || six.Len() != 9 {
		t.Error("both are many")
	}
	var none *Set
	if s.Or(of(t, 101, 9)) || s.Or(of(t, 99, 9)) || s.Or(none) || none.Or(s) || s.Len() != 3 {
		t.Error("unlike")
	}
	wide := of(t, 101)
	wide.Fill(0, 101)
	if s.Or(wide) || s.Dense() {
		t.Error("unlike and dense")
	}
}

// Promises 5.1 and 5.2, of nil sets.
func TestNil(t *testing.T) {
	var s *Set
	s.Fill(0, 10)
	if s.Size() != 0 || s.Dense() || s.Has(0) || s.Add(0) || s.Len() != 0 || len(s.List()) != 0 || s.Words() != 0 {
		t.Error("nil")
	}
	for i := range s.All() {
		t.Error(i)
	}
}

// Promise 5.3.
func TestModel(t *testing.T) {
	r := rand.New(rand.NewSource(3))
	for range 500 {
		size := r.Intn(90)
		s, m := of(t, size), map[int]bool{}
		for range r.Intn(25) {
			i := r.Intn(size+4) - 2
			may := i >= 0 && i < size
			if s.Add(i) != (may && !m[i]) {
				t.Fatal("add", i)
			}
			if may {
				m[i] = true
			}
			if s.Dense() != (len(m) > Few) {
				t.Fatal("dense", len(m))
			}
		}
		var want []int
		for i := range size {
			if m[i] != s.Has(i) {
				t.Fatal("has", i)
			}
			if m[i] {
				want = append(want, i)
			}
		}
		if !slices.Equal(s.List(), want) || s.Len() != len(want) {
			t.Fatal(s.List(), want)
		}
		u := of(t, size, r.Perm(size)[:r.Intn(size+1)]...)
		before := u.Len()
		changed := u.Or(s)
		if changed != (u.Len() > before) || u.Or(s) {
			t.Fatal("or")
		}
		for i := range u.All() {
			if i > 40 {
				break
			}
			if !u.Has(i) {
				t.Fatal(i)
			}
		}
	}
}

package dense

import (
	"math"
	"math/rand"
	"slices"
	"testing"

	"easement/api"
)

func of(t *testing.T, size int, l ...int) *Set {
	t.Helper()
	s, e := New(size)
	if e != api.OK {
		t.Fatal(e)
	}
	for _, i := range l {
		s.Add(i)
	}
	return s
}

// Promise 3.1.
func TestNew(t *testing.T) {
	for size, want := range map[int]api.Errno{-1: api.ErrArg, math.MinInt: api.ErrArg, api.MaxBits + 1: api.ErrOver, math.MaxInt: api.ErrOver} {
		if s, e := New(size); s != nil || e != want {
			t.Error(size, s, e)
		}
	}
	for _, size := range []int{0, 1, 63, 64, 65, api.MaxBits} {
		s := of(t, size)
		if s.Size() != size || s.Count() != 0 || s.Next(0) != -1 || len(s.List()) != 0 {
			t.Error(size)
		}
		if s.Add(size) || s.Add(-1) || s.Has(size) || s.Has(-1) || s.Del(size) || s.Del(-1) || s.Count() != 0 {
			t.Error("beyond", size)
		}
		if size > 0 && (!s.Add(size-1) || s.Next(math.MinInt) != size-1 || s.Next(size) != -1 || s.Next(math.MaxInt) != -1) {
			t.Error("last", size)
		}
	}
}

// Promises 3.1 and 3.2.
func TestMembers(t *testing.T) {
	s := of(t, 70)
	if !s.Add(3) || !s.Add(69) || s.Add(69) || s.Add(70) || s.Count() != 2 {
		t.Error("add")
	}
	if s.Next(4) != 69 || s.Next(3) != 3 || s.Next(70) != -1 || s.Next(-5) != 3 {
		t.Error("next")
	}
	if !slices.Equal(s.List(), []int{3, 69}) || !s.Has(3) || s.Has(4) {
		t.Error(s.List())
	}
	var gone []int
	for i := range s.All() {
		gone = append(gone, i)
		break
	}
	if !slices.Equal(gone, []int{3}) {
		t.Error(gone)
	}
	for i := range s.All() {
		s.Del(i)
	}
	if s.Count() != 0 || s.Del(3) {
		t.Error("del")
	}
}

// Promise 3.2.
func TestOr(t *testing.T) {
	s, u := of(t, 100, 1, 80), of(t, 100, 1, 2, 99)
	if !s.Or(u) || s.Or(u) || s.Or(s) || !slices.Equal(s.List(), []int{1, 2, 80, 99}) || !slices.Equal(u.List(), []int{1, 2, 99}) {
		t.Error(s.List(), u.List())
	}
	var none *Set
	if s.Or(of(t, 101, 5)) || s.Or(of(t, 99, 5)) || s.Or(none) || none.Or(s) || s.Count() != 4 {
		t.Error("unlike")
	}
}

// Promise 3.3.
func TestSameWithin(t *testing.T) {
	var none *Set
	empty := of(t, 0)
	if !Same(none, none) || Same(none, empty) || Same(empty, none) || !Same(empty, of(t, 0)) {
		t.Error("nil")
	}
	if Same(of(t, 9, 1), of(t, 10, 1)) || !Same(of(t, 9, 1), of(t, 9, 1)) || Same(of(t, 9, 1), of(t, 9, 1, 2)) || Same(of(t, 9, 1, 2), of(t, 9, 1)) {
		t.Error("same")
	}
	if !Within(of(t, 200, 1, 5), of(t, 6, 0, 1, 5)) || Within(of(t, 200, 1, 6), of(t, 6, 1)) || !Within(none, empty) || !Within(empty, none) || Within(of(t, 3, 1), none) || !Within(of(t, 500), of(t, 3)) {
		t.Error("within")
	}
}

// Promises 3.1 to 3.3, of nil sets.
func TestNil(t *testing.T) {
	var s *Set
	if s.Size() != 0 || s.Has(0) || s.Add(0) || s.Del(0) || s.Count() != 0 || s.Next(0) != -1 || len(s.List()) != 0 || s.Clone() != nil {
		t.Error("nil")
	}
	for i := range s.All() {
		t.Error(i)
	}
}

// Promise 3.4, and all others by chance's numbers, against a map.
func TestModel(t *testing.T) {
	r := rand.New(rand.NewSource(1))
	for range 200 {
		size := r.Intn(200)
		s, m := of(t, size), map[int]struct{}{}
		for range r.Intn(150) {
			i := r.Intn(size+5) - 2
			_, had := m[i]
			if r.Intn(3) > 0 {
				may := i >= 0 && i < size
				if s.Add(i) != (may && !had) {
					t.Fatal("add", i)
				}
				if may {
					m[i] = struct{}{}
				}
			} else {
				if s.Del(i) != had {
					t.Fatal("del", i)
				}
				delete(m, i)
			}
		}
		var want []int
		for i := range size {
			if _, ok := m[i]; ok {
				want = append(want, i)
			}
		}
		if !slices.Equal(s.List(), want) || s.Count() != len(want) {
			t.Fatal(s.List(), want)
		}
		u := of(t, size)
		for range r.Intn(20) {
			u.Add(r.Intn(size + 1))
		}
		c := s.Clone()
		if !Same(c, s) || s.Or(u) == Within(u, c) || !Within(u, s) || s.Or(u) || !slices.Equal(c.List(), want) {
			t.Fatal("or, clone")
		}
	}
}

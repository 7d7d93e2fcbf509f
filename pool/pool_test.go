package pool

import (
	"math"
	"math/rand"
	"testing"

	"easement/api"
	"easement/dense"
)

func of[T any](t *testing.T, room int, l ...T) *Pool[T] {
	t.Helper()
	p, e := New[T](room)
	if e != api.OK {
		t.Fatal(e)
	}
	for _, v := range l {
		if !p.Put(v) {
			t.Fatal(v)
		}
	}
	return p
}

// Promise 39.1.
func TestPool(t *testing.T) {
	for room, want := range map[int]api.Errno{0: api.ErrArg, -1: api.ErrArg, math.MinInt: api.ErrArg, api.MaxMany + 1: api.ErrOver, math.MaxInt: api.ErrOver} {
		if p, e := New[int](room); p != nil || e != want {
			t.Error(room, e)
		}
	}
	if p := of[int](t, api.MaxMany); p.Room() != api.MaxMany || p.Len() != 0 {
		t.Error("greatest")
	}
	p := of[string](t, 2)
	if v, ok := p.Get(); v != "" || ok {
		t.Error(v, ok)
	}
	if !p.Put("a") || !p.Put("b") || p.Put("c") || p.Len() != 2 || p.Room() != 0 {
		t.Error("put")
	}
	if v, ok := p.Get(); v != "a" || !ok || p.Room() != 1 || !p.Put("d") {
		t.Error(v, ok)
	}
	for _, want := range []string{"b", "d"} {
		if v, ok := p.Get(); v != want || !ok {
			t.Error(v, ok)
		}
	}
	if v, ok := p.Get(); v != "" || ok || p.Len() != 0 || p.Room() != 2 {
		t.Error(v, ok)
	}
	var none *Pool[string]
	if v, ok := none.Get(); v != "" || ok || none.Put("a") || none.Len() != 0 || none.Room() != 0 {
		t.Error("nil")
	}
}

// Promise 39.2.
func TestMove(t *testing.T) {
	var none *Pool[int]
	from, to := of(t, 5, 1, 2, 3, 4), of(t, 3, 9)
	if Move(from, from) != 0 || Move(none, none) != 0 || Move(from, none) != 0 || Move(none, to) != 0 || from.Len() != 4 || to.Len() != 1 {
		t.Error("nil")
	}
	if Move(from, to) != 2 || from.Len() != 2 || to.Len() != 3 || Move(from, to) != 0 {
		t.Error("room")
	}
	for _, want := range []int{9, 1, 2} {
		if v, ok := to.Get(); v != want || !ok {
			t.Error(v, ok)
		}
	}
	if Move(from, to) != 2 || from.Len() != 0 {
		t.Error("all")
	}
	if v, _ := to.Get(); v != 3 {
		t.Error(v)
	}
}

// Promise 39.3.
func TestSets(t *testing.T) {
	for _, x := range []struct {
		size, room int
		e          api.Errno
	}{{-1, 0, api.ErrArg}, {api.MaxBits + 1, 0, api.ErrOver}, {-1, api.MaxMany + 1, api.ErrArg}, {5, 0, api.ErrArg}, {5, -1, api.ErrArg}, {5, api.MaxMany + 1, api.ErrOver}} {
		if s, e := NewSets(x.size, x.room); s != nil || e != x.e {
			t.Error(x, e)
		}
	}
	s, e := NewSets(70, 2)
	if e != api.OK || s.Made() != 0 {
		t.Fatal(e)
	}
	a, b, c := s.Take(), s.Take(), s.Take()
	if s.Made() != 3 || a.Size() != 70 || a.Count() != 0 {
		t.Error("take")
	}
	for _, v := range []*dense.Set{a, b, c} {
		for i := range 70 {
			v.Add(i)
		}
	}
	other, _ := dense.New(71)
	other.Add(5)
	if s.Give(nil) || s.Give(other) || other.Count() != 1 || s.Made() != 3 {
		t.Error("unlike")
	}
	if !s.Give(b) || !s.Give(a) || s.Give(c) || c.Count() != 0 || b.Count() != 0 {
		t.Error("give")
	}
	if s.Take() != b || s.Take() != a || s.Made() != 3 || s.Take() == c || s.Made() != 4 {
		t.Error("take again")
	}
	var none *Sets
	if none.Take() != nil || none.Give(a) || none.Made() != 0 {
		t.Error("nil")
	}
	if s, e := NewSets(0, 1); e != api.OK || s.Take().Size() != 0 {
		t.Error("of no members")
	}
}

// Promise 39.4.
func TestLaws(t *testing.T) {
	r := rand.New(rand.NewSource(22))
	p := of[int](t, 7)
	s, _ := NewSets(40, 3)
	var want []int
	var out []*dense.Set
	for k := range 3000 {
		if r.Intn(2) > 0 {
			if ok := p.Put(k); ok != (len(want) < 7) {
				t.Fatal("put")
			} else if ok {
				want = append(want, k)
			}
			v := s.Take()
			if v.Count() != 0 {
				t.Fatal("not empty")
			}
			v.Add(r.Intn(40))
			out = append(out, v)
		} else {
			v, ok := p.Get()
			if ok != (len(want) > 0) || ok && v != want[0] {
				t.Fatal("get")
			}
			if ok {
				want = want[1:]
			}
			if len(out) > 0 {
				s.Give(out[0])
				out = out[1:]
			}
		}
		if p.Len() != len(want) || p.Len()+p.Room() != 7 {
			t.Fatal("len")
		}
	}
}

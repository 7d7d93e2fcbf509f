package stack

import (
	"math"
	"math/rand"
	"slices"
	"testing"
)

// Promise 7.1.
func TestStack(t *testing.T) {
	var s Stack[string]
	if v, ok := s.Top(); v != "" || ok {
		t.Error(v, ok)
	}
	if v, ok := s.Pop(); v != "" || ok || s.Len() != 0 {
		t.Error(v, ok)
	}
	given := []string{"a", "b", "c"}
	s.Push(given...)
	s.Push()
	s.Push("d")
	given[2] = "x"
	if v, ok := s.Top(); v != "d" || !ok || s.Len() != 4 {
		t.Error(v, ok)
	}
	if v, ok := s.Pop(); v != "d" || !ok || s.Len() != 3 {
		t.Error(v, ok)
	}
	if l := s.Cut(3); len(l) != 0 {
		t.Error(l)
	}
	if l := s.Cut(1); !slices.Equal(l, []string{"c", "b"}) || s.Len() != 1 {
		t.Error(l)
	}
	if l := s.Cut(math.MaxInt); len(l) != 0 || s.Len() != 1 {
		t.Error(l)
	}
	if l := s.Cut(-5); !slices.Equal(l, []string{"a"}) || s.Len() != 0 || len(s.Cut(0)) != 0 {
		t.Error(l)
	}
	s.Push("e")
	if v, _ := s.Top(); v != "e" {
		t.Error(v)
	}
}

// Promise 7.2.
func TestQueue(t *testing.T) {
	var q Queue[int]
	if v, ok := q.Pop(); v != 0 || ok || q.Len() != 0 {
		t.Error(v, ok)
	}
	next, first := 1, 1
	r := rand.New(rand.NewSource(5))
	for range 2000 {
		var l []int
		for range r.Intn(4) {
			l = append(l, next)
			next++
		}
		q.Push(l...)
		for range r.Intn(4) {
			v, ok := q.Pop()
			if ok != (first < next) || ok && v != first || !ok && v != 0 {
				t.Fatal(v, ok, first)
			}
			if ok {
				first++
			}
		}
		if q.Len() != next-first {
			t.Fatal(q.Len())
		}
	}
}

// Promise 7.3.
func TestWork(t *testing.T) {
	var w Work[string]
	if v, ok := w.Pop(); v != "" || ok || w.Len() != 0 {
		t.Error(v, ok)
	}
	if !w.Push("a") || !w.Push("b") || w.Push("a") || w.Len() != 2 {
		t.Error("push")
	}
	if v, ok := w.Pop(); v != "a" || !ok {
		t.Error(v, ok)
	}
	if !w.Push("a") || w.Push("b") {
		t.Error("push again")
	}
	for _, want := range []string{"b", "a"} {
		if v, ok := w.Pop(); v != want || !ok {
			t.Error(v, ok)
		}
	}
	if _, ok := w.Pop(); ok || w.Len() != 0 {
		t.Error("empty")
	}
}

// Promises 7.3 and 1, of values that are not like themselves, or cannot be compared.
func TestWorkOddValues(t *testing.T) {
	var w Work[float64]
	if !w.Push(math.NaN()) || !w.Push(math.NaN()) || w.Len() != 2 {
		t.Error("nan")
	}
	if v, ok := w.Pop(); !ok || v == v || w.Len() != 1 {
		t.Error(v, ok)
	}
	var any1 Work[any]
	list := []int{1}
	if !any1.Push(list) || !any1.Push(list) || !any1.Push(1) || any1.Push(1) || any1.Len() != 3 {
		t.Error("list")
	}
	for any1.Len() > 0 {
		if _, ok := any1.Pop(); !ok {
			t.Error("pop")
		}
	}
	if !any1.Push(1) {
		t.Error("push behind pop")
	}
}

// Promises 7.1 to 7.3, of nil ones.
func TestNil(t *testing.T) {
	var s *Stack[int]
	s.Push(1)
	if v, ok := s.Top(); v != 0 || ok || s.Len() != 0 || len(s.Cut(0)) != 0 {
		t.Error("stack")
	}
	if v, ok := s.Pop(); v != 0 || ok {
		t.Error("stack")
	}
	var q *Queue[int]
	q.Push(1)
	if v, ok := q.Pop(); v != 0 || ok || q.Len() != 0 {
		t.Error("queue")
	}
	var w *Work[int]
	if w.Push(1) || w.Len() != 0 {
		t.Error("work")
	}
	if v, ok := w.Pop(); v != 0 || ok {
		t.Error("work")
	}
}

// Promise 7.4.
func TestRowKeepsOrder(t *testing.T) {
	row := []int{3, 1, 4, 1, 5, 9, 2, 6}
	var a, b Stack[int]
	a.Push(row...)
	for a.Len() > 0 {
		v, _ := a.Pop()
		b.Push(v)
	}
	if got := b.Cut(0); !slices.Equal(got, row) {
		t.Error(got)
	}
	var q Queue[int]
	q.Push(row...)
	var got []int
	for q.Len() > 0 {
		v, _ := q.Pop()
		got = append(got, v)
	}
	if !slices.Equal(got, row) {
		t.Error(got)
	}
}

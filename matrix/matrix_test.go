package matrix

import (
	"math"
	"math/rand"
	"slices"
	"testing"

	"easement/api"
)

func of(t *testing.T, rows, cols int, members ...[2]int) *Matrix {
	t.Helper()
	m, e := New(rows, cols)
	if e != api.OK {
		t.Fatal(e)
	}
	for _, x := range members {
		m.Add(x[0], x[1])
	}
	return m
}

// Promise 6.1.
func TestNew(t *testing.T) {
	for _, x := range []struct {
		rows, cols int
		e          api.Errno
	}{{-1, 0, api.ErrArg}, {0, -1, api.ErrArg}, {-1, math.MaxInt, api.ErrArg}, {math.MaxInt, -1, api.ErrArg}, {api.MaxMany + 1, 0, api.ErrOver}, {0, api.MaxMany + 1, api.ErrOver}} {
		if m, e := New(x.rows, x.cols); m != nil || e != x.e {
			t.Error(x, m, e)
		}
	}
	m := of(t, 0, api.MaxMany)
	if m.Rows() != 0 || m.Cols() != api.MaxMany || m.Count() != 0 {
		t.Error("no rows")
	}
	m = of(t, api.MaxMany, api.MaxMany)
	if !m.Add(api.MaxMany-1, api.MaxMany-1) || m.Add(api.MaxMany, 0) || m.Add(0, api.MaxMany) || m.Count() != 1 {
		t.Error("greatest")
	}
}

// Promises 6.1 and 6.2.
func TestMembers(t *testing.T) {
	m := of(t, 3, 5)
	if !m.Add(0, 4) || m.Add(0, 4) || !m.Add(0, 1) || !m.Add(2, 4) || m.Add(3, 0) || m.Add(-1, 0) || m.Add(0, 5) || m.Add(0, -1) {
		t.Error("add")
	}
	if !m.Has(0, 1) || m.Has(1, 1) || m.Has(3, 0) || m.Has(-1, 0) || m.Has(0, 5) || m.Has(0, -1) {
		t.Error("has")
	}
	if !slices.Equal(m.Row(0), []int{1, 4}) || len(m.Row(1)) != 0 || len(m.Row(7)) != 0 || len(m.Row(-1)) != 0 {
		t.Error("row")
	}
	if !slices.Equal(m.Col(4), []int{0, 2}) || len(m.Col(0)) != 0 || len(m.Col(5)) != 0 || len(m.Col(-1)) != 0 || m.Count() != 3 {
		t.Error("col")
	}
	if !m.Or(2, 0) || m.Or(2, 0) || m.Or(0, 0) || m.Or(2, 1) || m.Or(3, 0) || m.Or(0, 3) || m.Or(-1, 0) || m.Or(0, -1) || m.Count() != 4 {
		t.Error("or")
	}
	if !m.Or(1, 2) || !slices.Equal(m.Row(1), []int{1, 4}) {
		t.Error("or into a row without members")
	}
	m.Add(2, 0)
	if m.Has(1, 0) {
		t.Error("shared")
	}
}

// Promises 6.1 to 6.3, of nil matrices.
func TestNil(t *testing.T) {
	var m *Matrix
	if m.Rows() != 0 || m.Cols() != 0 || m.Has(0, 0) || m.Add(0, 0) || m.Or(0, 0) || len(m.Row(0)) != 0 || len(m.Col(0)) != 0 || m.Count() != 0 || m.Close() != 0 {
		t.Error("nil")
	}
}

// Promise 6.3.
func TestClose(t *testing.T) {
	m := of(t, 3, 3, [2]int{0, 1}, [2]int{1, 2})
	if m.Close() != 1 || !m.Has(0, 2) || m.Count() != 3 || m.Close() != 0 {
		t.Error(m.Row(0))
	}
	m = of(t, 3, 4, [2]int{0, 1}, [2]int{1, 2})
	if m.Close() != 0 || m.Count() != 2 {
		t.Error("not square")
	}
	m = of(t, 3, 3, [2]int{2, 1}, [2]int{1, 0}, [2]int{0, 2})
	if m.Close() != 6 || m.Count() != 9 {
		t.Error("ring")
	}
}

// Promises 6.3 and 6.4, against what is led to step by step.
func TestCloseModel(t *testing.T) {
	r := rand.New(rand.NewSource(4))
	for range 300 {
		n := r.Intn(9)
		m := of(t, n, n)
		var led [9][9]bool
		for range r.Intn(14) {
			a, b := r.Intn(n+1), r.Intn(n+1)
			if m.Add(a, b) {
				led[a][b] = true
			}
		}
		before := m.Count()
		for k := range n {
			for a := range n {
				for b := range n {
					led[a][b] = led[a][b] || led[a][k] && led[k][b]
				}
			}
		}
		if m.Close() != m.Count()-before || m.Close() != 0 {
			t.Fatal("count")
		}
		for a := range n {
			for b := range n {
				if m.Has(a, b) != led[a][b] {
					t.Fatal(a, b)
				}
			}
		}
	}
}

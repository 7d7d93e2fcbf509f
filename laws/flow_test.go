package laws

import (
	"math/rand"
	"slices"
	"testing"

	"easement/api"
	"easement/flow"
	"easement/point"
	"easement/touch"
)

// nexts is of each point those to which one goes, by the words of chapter 23.
func nexts(b api.Body) [][]int {
	var begins []int
	many := 0
	for _, x := range b.Blocks {
		begins = append(begins, many)
		many += len(x.Stmts) + 1
	}
	var all [][]int
	for _, x := range b.Blocks {
		for range x.Stmts {
			all = append(all, []int{len(all) + 1})
		}
		var l []int
		for n := range many {
			for _, to := range x.Term.To {
				if begins[to] == n && !slices.Contains(l, n) {
					l = append(l, n)
				}
			}
		}
		all = append(all, l)
	}
	return all
}

// reached tells of each two points whether one comes from the first to the second one.
func reached(next [][]int) [][]bool {
	to := make([][]bool, len(next))
	for n := range next {
		to[n] = make([]bool, len(next))
		wait := []int{n}
		for len(wait) > 0 {
			m := wait[0]
			wait = wait[1:]
			if !to[n][m] {
				to[n][m] = true
				wait = append(wait, next[m]...)
			}
		}
	}
	return to
}

// Promises 22.2, 23.1 and 23.3.
func TestFlow(t *testing.T) {
	each(t, 2, 500, func(t *testing.T, _ *rand.Rand, b api.Body) {
		next := nexts(b)
		to := reached(next)
		f, p := flow.New(b), point.New(b)
		if f.Points().Len() != len(next) || p.Len() != len(next) {
			t.Error("points")
		}
		var all, stops []int
		for n := range next {
			if to[0][n] {
				all = append(all, n)
			}
			if len(next[n]) == 0 {
				stops = append(stops, n)
			}
			var back []int
			for m := range next {
				if slices.Contains(next[m], n) {
					back = append(back, m)
				}
			}
			if !slices.Equal(f.Next(n), next[n]) || !slices.Equal(f.Back(n), back) {
				t.Error("next, back", n)
			}
			if block, index, ok := p.At(n); !ok || len(b.Blocks[block].Stmts) < index {
				t.Error("at", n)
			}
		}
		if !slices.Equal(f.Reached(), all) || !slices.Equal(f.Stops(), stops) {
			t.Error("reached, stops")
		}
	})
}

// Promises 23.2 and 23.3.
func TestOrder(t *testing.T) {
	each(t, 3, 500, func(t *testing.T, _ *rand.Rand, b api.Body) {
		next := nexts(b)
		to := reached(next)
		met := make([]bool, len(next))
		var want []int
		var through func(n int)
		through = func(n int) {
			met[n] = true
			for _, m := range next[n] {
				if !met[m] {
					through(m)
				}
			}
			want = append(want, n)
		}
		for n := range next {
			if !met[n] {
				through(n)
			}
		}
		got := flow.New(b).Order()
		if !slices.Equal(got, want) {
			t.Error(got, want)
		}
		place := make([]int, len(got))
		for k, n := range got {
			place[n] = k
		}
		for n := range next {
			for m := range next {
				if to[n][m] && !to[m][n] && place[m] > place[n] {
					t.Error("ahead", n, m)
				}
			}
		}
	})
}

// touched is the locals that a statement reads and writes, by the words of chapter 24.
func touched(s api.Stmt) (reads, writes []int) {
	switch s.Kind {
	case api.Assign, api.Borrow, api.Reborrow:
		return []int{s.Src}, []int{s.Dst}
	case api.Use:
		return []int{s.Src}, nil
	case api.Dead:
		return nil, []int{s.Dst}
	}
	return nil, nil
}

// ended is the locals that a terminator reads and writes.
func ended(x api.Term) (reads, writes []int) {
	switch x.Kind {
	case api.Switch:
		return x.Args, nil
	case api.Call:
		return x.Args, []int{x.Dst}
	case api.Return:
		return []int{0}, nil
	}
	return nil, nil
}

// touches is of each point the locals that it reads, and those that it writes.
func touches(b api.Body) (reads, writes [][]int) {
	for _, x := range b.Blocks {
		for _, s := range x.Stmts {
			r, w := touched(s)
			reads, writes = append(reads, r), append(writes, w)
		}
		r, w := ended(x.Term)
		reads, writes = append(reads, r), append(writes, w)
	}
	return reads, writes
}

// Promises 24.1 and 24.2.
func TestTouch(t *testing.T) {
	each(t, 4, 500, func(t *testing.T, _ *rand.Rand, b api.Body) {
		reads, writes := touches(b)
		x := touch.New(b)
		if x.Len() != len(reads) {
			t.Error("points")
		}
		for local := range b.Locals {
			readers, writers := x.Of(local)
			for n := range reads {
				w, ok := x.Write(n)
				if slices.Contains(x.Reads(n), local) != slices.Contains(reads[n], local) || slices.Contains(readers, n) != slices.Contains(reads[n], local) {
					t.Error("reads", n, local)
				}
				if (ok && w == local) != slices.Contains(writes[n], local) || slices.Contains(writers, n) != slices.Contains(writes[n], local) {
					t.Error("writes", n, local)
				}
				if !slices.IsSorted(x.Reads(n)) || len(slices.Compact(x.Reads(n))) != len(x.Reads(n)) {
					t.Error("order", n)
				}
			}
		}
	})
}

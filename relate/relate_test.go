package relate

import (
	"math"
	"math/rand"
	"slices"
	"testing"

	"easement/api"
	"easement/row"
)

// of is a type by the regions of its slots; what may not vary is told by ^ of its region.
func of(regions ...int) api.Type {
	var t api.Type
	for _, r := range regions {
		if r < 0 {
			t.Slots = append(t.Slots, api.Slot{Region: ^r, Inv: true})
		} else {
			t.Slots = append(t.Slots, api.Slot{Region: r})
		}
	}
	return t
}

func wants(t *testing.T, name string, l []Need, e api.Errno, want []Need) {
	t.Helper()
	if !slices.Equal(l, want) || e != api.OK {
		t.Error(name, l, e)
	}
}

func refuses(t *testing.T, name string, l []Need, e api.Errno) {
	t.Helper()
	if l != nil || e != api.ErrShape {
		t.Error(name, l, e)
	}
}

// Promise 16.1.
func TestFlow(t *testing.T) {
	l, e := Flow(of(1, ^2), of(3, ^4), api.Pass, 32)
	wants(t, "flow", l, e, []Need{{1, 3, api.Pass, 32, false}, {2, 4, api.Pass, 33, false}, {4, 2, api.Pass, 33, true}})
	l, e = Flow(of(), of(), api.Out, 0)
	wants(t, "nothing", l, e, nil)
	l, e = Flow(of(-8, 5), of(^7, 1<<40), -3, math.MinInt)
	wants(t, "any numbers", l, e, []Need{{7, 7, -3, math.MinInt, false}, {7, 7, -3, math.MinInt, true}, {5, 1 << 40, -3, math.MinInt + 1, false}})
	for _, x := range [][2]api.Type{{of(1), of()}, {of(), of(1)}, {of(1), of(^1)}, {of(^1), of(1)}, {of(1, 2), of(1)}} {
		l, e := Flow(x[0], x[1], api.Flow, 0)
		refuses(t, "flow", l, e)
	}
}

// Promise 16.2.
func TestLoan(t *testing.T) {
	l, e := Loan(of(1, ^2), of(5, 3, ^4), 9, false)
	wants(t, "shared", l, e, []Need{{9, 5, api.Loan, 0, false}, {1, 3, api.Flow, 1, false}, {2, 4, api.Flow, 2, false}, {4, 2, api.Flow, 2, true}})
	l, e = Loan(of(1, ^2), of(5, ^3, ^4), 9, true)
	wants(t, "mutable", l, e, []Need{{9, 5, api.Loan, 0, false}, {1, 3, api.Flow, 1, false}, {3, 1, api.Flow, 1, true}, {2, 4, api.Flow, 2, false}, {4, 2, api.Flow, 2, true}})
	l, e = Loan(of(), of(5), 9, true)
	wants(t, "of nothing", l, e, []Need{{9, 5, api.Loan, 0, false}})
	for _, x := range []struct {
		src, dst api.Type
		mut      bool
	}{{of(1), of(2), false}, {of(1), of(^2, 3), false}, {of(1), of(2, 3), true}, {of(1), of(2, ^3), false}, {of(^1), of(2, 3), false}, {of(), of(), false}, {of(), of(^1), false}, {of(), of(1, 2), true}} {
		l, e := Loan(x.src, x.dst, 9, x.mut)
		refuses(t, "loan", l, e)
	}
}

// Promise 16.3.
func TestAgain(t *testing.T) {
	l, e := Again(of(1, 2, ^3), of(4, 5, ^6), 9, false)
	wants(t, "shared", l, e, []Need{{1, 9, api.Base, 0, false}, {9, 4, api.Loan, 0, false}, {2, 5, api.Flow, 1, false}, {3, 6, api.Flow, 2, false}, {6, 3, api.Flow, 2, true}})
	l, e = Again(of(1, ^2), of(4, ^5), 9, true)
	wants(t, "mutable", l, e, []Need{{1, 9, api.Base, 0, false}, {9, 4, api.Loan, 0, false}, {2, 5, api.Flow, 1, false}, {5, 2, api.Flow, 1, true}})
	l, e = Again(of(1), of(4), 9, true)
	wants(t, "of nothing", l, e, []Need{{1, 9, api.Base, 0, false}, {9, 4, api.Loan, 0, false}})
	for _, x := range []struct {
		src, dst api.Type
		mut      bool
	}{{of(), of(), false}, {of(1), of(), false}, {of(), of(1), false}, {of(^1), of(^1), false}, {of(^1, 2), of(^1, 2), true}, {of(1), of(1, 2), false}, {of(1, ^2), of(1, 2), false}, {of(1, 2), of(1, 2), true}, {of(1, ^2, 3), of(1, ^2, 3), true}, {of(1), of(^1), false}} {
		l, e := Again(x.src, x.dst, 9, x.mut)
		refuses(t, "again", l, e)
	}
}

// Promise 16.4.
func TestHolds(t *testing.T) {
	l := []Need{{Sup: 1, Sub: 2}, {Sup: 3, Sub: 1}}
	var asked [][2]int
	if !Holds(l, func(sup, sub int) bool { asked = append(asked, [2]int{sup, sub}); return true }) || !slices.Equal(asked, [][2]int{{1, 2}, {3, 1}}) {
		t.Error(asked)
	}
	if Holds(l, func(sup, sub int) bool { return sup > sub }) || Holds(l, func(sup, sub int) bool { return sup < sub }) {
		t.Error("holds")
	}
	if !Holds(nil, func(sup, sub int) bool { return false }) || !Holds(nil, nil) || Holds(l, nil) {
		t.Error("nothing")
	}
}

// Promise 16.5.
func TestLaws(t *testing.T) {
	r := rand.New(rand.NewSource(13))
	for range 300 {
		var a, b, c api.Type
		for range r.Intn(5) {
			inv := r.Intn(2) > 0
			a.Slots = append(a.Slots, api.Slot{Region: r.Intn(4), Inv: inv})
			b.Slots = append(b.Slots, api.Slot{Region: r.Intn(4), Inv: inv})
			c.Slots = append(c.Slots, api.Slot{Region: r.Intn(4), Inv: inv})
		}
		same, e := Flow(a, a, api.Flow, 0)
		if e != api.OK || !Holds(same, func(sup, sub int) bool { return sup == sub }) {
			t.Fatal(same)
		}
		var led [4][4]bool
		for _, x := range [][2]api.Type{{a, b}, {b, c}} {
			l, _ := Flow(x[0], x[1], api.Flow, 0)
			for _, n := range l {
				led[n.Sup][n.Sub] = true
			}
		}
		for k := range 4 {
			for i := range 4 {
				for j := range 4 {
					led[i][j] = led[i][j] || i == j || led[i][k] && led[k][j]
				}
			}
		}
		if l, _ := Flow(a, c, api.Flow, 0); !Holds(l, func(sup, sub int) bool { return led[sup][sub] }) {
			t.Fatal(a, b, c)
		}
		if !row.Shape(a, c) {
			t.Fatal("shape")
		}
	}
}

package tick

import (
	"math"
	"math/big"
	"testing"
)

// Promise 9.1.
func TestCounter(t *testing.T) {
	if Decode != 0 || Valid != 1 || Live != 2 || Cons != 3 || Solve != 4 || Judge != 5 || Blame != 6 {
		t.Error("parts")
	}
	var c Counter
	for part := Decode; part <= Blame; part++ {
		if c.Of(part) != 0 {
			t.Error(part)
		}
		c.Add(part, part+1)
		c.Add(part, 10)
		c.Add(part, 0)
		c.Add(part, -5)
		c.Add(part, math.MinInt)
		if c.Of(part) != part+11 {
			t.Error(part, c.Of(part))
		}
	}
	if c.Total() != 28+70 {
		t.Error(c.Total())
	}
	for _, part := range []int{-1, 7, math.MaxInt, math.MinInt} {
		c.Add(part, 5)
		if c.Of(part) != 0 || c.Total() != 98 {
			t.Error(part)
		}
	}
	c.Add(Live, math.MaxInt)
	c.Add(Live, math.MaxInt)
	if c.Of(Live) != math.MaxInt || c.Total() != math.MaxInt || c.Of(Decode) != 11 {
		t.Error("greatest")
	}
	c = Counter{}
	c.Add(Live, math.MaxInt-1)
	c.Add(Cons, 1)
	if c.Total() != math.MaxInt {
		t.Error(c.Total())
	}
}

// Promise 9.1, of a nil counter.
func TestNil(t *testing.T) {
	var c *Counter
	c.Add(Live, 5)
	if c.Of(Live) != 0 || c.Total() != 0 {
		t.Error("nil")
	}
}

func numbers() []int {
	l := []int{-1, math.MinInt, 0, 1, 2, 3, 4, math.MaxInt, math.MaxInt - 1, math.MaxInt / 2, math.MaxInt / 64, math.MaxInt/64 + 1}
	for n := 5; n < 1<<60; n = n*3 + 1 {
		l = append(l, n, n+1)
	}
	return l
}

func capped(x *big.Int) int {
	if x.Cmp(big.NewInt(math.MaxInt)) > 0 {
		return math.MaxInt
	}
	return int(x.Int64())
}

func times(l ...*big.Int) *big.Int {
	x := big.NewInt(Factor)
	for _, y := range l {
		x.Mul(x, y)
	}
	return x
}

// Promises 9.2 and 9.3.
func TestBounds(t *testing.T) {
	if Cubic(1) != 512 || Cubic(0) != 64 || Solver(2, 3, 4) != 64*5*7 || Solver(0, 0, math.MaxInt) != 0 {
		t.Error("examples")
	}
	one := big.NewInt(1)
	for _, n := range numbers() {
		want := 0
		if n >= 0 {
			side := new(big.Int).Add(big.NewInt(int64(n)), one)
			want = capped(times(side, side, side))
		}
		if got := Cubic(n); got != want {
			t.Error(n, got, want)
		}
		if n >= 0 && n < math.MaxInt && Cubic(n+1) < Cubic(n) {
			t.Error("falls", n)
		}
		for _, m := range numbers() {
			for _, k := range []int{-1, 0, 1, 7, 1 << 30, math.MaxInt} {
				want := 0
				if n >= 0 && m >= 0 && k >= 0 {
					a := new(big.Int).Add(big.NewInt(int64(n)), big.NewInt(int64(m)))
					b := new(big.Int).Add(big.NewInt(int64(k)), big.NewInt(int64(n)))
					want = capped(times(a, b.Add(b, one)))
				}
				if got := Solver(n, m, k); got != want {
					t.Error(n, m, k, got, want)
				}
			}
		}
	}
}

package numeral

import (
	"math"
	"slices"
	"strconv"
	"testing"

	"easement/api"
)

// Promise 1.1.
func TestText(t *testing.T) {
	for _, n := range []int{0, 1, 9, 10, 99, 100, 12345, 1 << 32, math.MaxInt - 1, math.MaxInt} {
		if got := Text(n); got != strconv.Itoa(n) {
			t.Errorf("Text(%d) = %q", n, got)
		}
	}
	for _, n := range []int{-1, -10, math.MinInt} {
		if got := Text(n); got != "" {
			t.Errorf("Text(%d) = %q", n, got)
		}
	}
}

// Promise 1.1.
func TestParse(t *testing.T) {
	for _, x := range []struct {
		s    string
		most int
		n    int
		e    api.Errno
	}{
		{"0", 0, 0, api.OK},
		{"9", 9, 9, api.OK},
		{"10", 10, 10, api.OK},
		{"10", 9, 0, api.ErrOver},
		{"007", 9, 0, api.ErrForm},
		{"00", 9, 0, api.ErrForm},
		{"", 9, 0, api.ErrForm},
		{"", -1, 0, api.ErrForm},
		{"x", -1, 0, api.ErrForm},
		{"0", -1, 0, api.ErrOver},
		{"5", math.MinInt, 0, api.ErrOver},
		{"+1", 9, 0, api.ErrForm},
		{"-0", 9, 0, api.ErrForm},
		{" 1", 9, 0, api.ErrForm},
		{"1 ", 9, 0, api.ErrForm},
		{"99999x", 9, 0, api.ErrForm},
		{"\u0661", 9, 0, api.ErrForm},
		{"9223372036854775807", math.MaxInt, math.MaxInt, api.OK},
		{"9223372036854775808", math.MaxInt, 0, api.ErrOver},
		{"9223372036854775807", math.MaxInt - 1, 0, api.ErrOver},
		{"18446744073709551617", math.MaxInt, 0, api.ErrOver},
		{"100000000000000000000000000000", math.MaxInt, 0, api.ErrOver},
	} {
		if n, e := Parse(x.s, x.most); n != x.n || e != x.e {
			t.Errorf("Parse(%q, %d) = %d, %v", x.s, x.most, n, e)
		}
	}
	for n := range 300 {
		for most := range 300 {
			want, e := n, api.OK
			if n > most {
				want, e = 0, api.ErrOver
			}
			if got, ge := Parse(strconv.Itoa(n), most); got != want || ge != e {
				t.Fatalf("Parse(%d, %d) = %d, %v", n, most, got, ge)
			}
		}
	}
}

// Promise 1.2.
func TestPair(t *testing.T) {
	for b, want := range map[api.Bound]string{{Sup: 3, Sub: 5}: "3:5", {}: "0:0", {Sup: -1, Sub: 2}: "", {Sup: 2, Sub: -1}: "", {Sup: 10, Sub: 200}: "10:200"} {
		if got := Pair(b); got != want {
			t.Errorf("Pair(%v) = %q", b, got)
		}
	}
	for s, want := range map[string]api.Errno{"": api.ErrForm, "12": api.ErrForm, "99": api.ErrForm, ":": api.ErrForm, "99:x": api.ErrOver, "x:99": api.ErrForm, "1:99": api.ErrOver, "1:2:3": api.ErrForm, "1::2": api.ErrForm, "1,2": api.ErrForm} {
		if b, e := ParsePair(s, 50); b != (api.Bound{}) || e != want {
			t.Errorf("ParsePair(%q) = %v, %v", s, b, e)
		}
	}
	if b, e := ParsePair("50:0", 50); b != (api.Bound{Sup: 50}) || e != api.OK {
		t.Error(b, e)
	}
}

// Promise 1.3.
func TestList(t *testing.T) {
	for _, x := range []struct {
		l []int
		s string
	}{{nil, ""}, {[]int{}, ""}, {[]int{0}, "0"}, {[]int{3, 12, 3}, "3,12,3"}, {[]int{-1}, ""}, {[]int{1, -1, 2}, "1,,2"}} {
		if got := List(x.l); got != x.s {
			t.Errorf("List(%v) = %q", x.l, got)
		}
	}
	for s, want := range map[string][]int{"": nil, "7": {7}, "7,0,12": {7, 0, 12}} {
		if l, e := ParseList(s, 12); !slices.Equal(l, want) || e != api.OK {
			t.Errorf("ParseList(%q) = %v, %v", s, l, e)
		}
	}
	if l, e := ParseList("", -1); len(l) != 0 || e != api.OK {
		t.Error(l, e)
	}
	for s, want := range map[string]api.Errno{"1,": api.ErrForm, ",": api.ErrForm, ",1": api.ErrForm, "13,": api.ErrOver, "13,x": api.ErrOver, "x,13": api.ErrForm, "1,,13": api.ErrForm, "1, 2": api.ErrForm, "1,2,01": api.ErrForm} {
		if l, e := ParseList(s, 12); l != nil || e != want {
			t.Errorf("ParseList(%q) = %v, %v", s, l, e)
		}
	}
}

// Promise 1.4.
func TestReadAsWritten(t *testing.T) {
	for n := 0; n < 1<<40; n = n*3 + 1 {
		if got, e := Parse(Text(n), n); got != n || e != api.OK {
			t.Error(n, got, e)
		}
		b := api.Bound{Sup: n, Sub: n / 2}
		if got, e := ParsePair(Pair(b), n); got != b || e != api.OK {
			t.Error(b, got, e)
		}
		l := []int{n, 0, n / 3, n}
		if got, e := ParseList(List(l), n); !slices.Equal(got, l) || e != api.OK {
			t.Error(l, got, e)
		}
	}
	// Whatever is read is, written, the very text.
	signs := "01:,-"
	texts := []string{""}
	for range 5 {
		for _, s := range texts[:] {
			for _, c := range signs {
				texts = append(texts, s+string(c))
			}
		}
		if len(texts) > 20000 {
			break
		}
	}
	for _, s := range texts {
		if n, e := Parse(s, 1<<40); e == api.OK && Text(n) != s {
			t.Error(s, n)
		}
		if b, e := ParsePair(s, 1<<40); e == api.OK && Pair(b) != s {
			t.Error(s, b)
		}
		if l, e := ParseList(s, 1<<40); e == api.OK && List(l) != s {
			t.Error(s, l)
		}
	}
}

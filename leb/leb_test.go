package leb

import (
	"math"
	"testing"

	"easement/api"
)

func edges() []int {
	var l []int
	for _, n := range []int{0, 1, 247, 248, 249, 255, 256, 257, 1<<16 - 1, 1 << 16, 1<<24 - 1, 1 << 24, 1<<32 - 2, Most} {
		l = append(l, n)
	}
	for n := 300; n < Most; n = n*7/2 + 3 {
		l = append(l, n)
	}
	return l
}

// Promise 2.1.
func TestPut(t *testing.T) {
	for n, want := range map[int]string{
		0: "\x00", 247: "\xf7", 248: "\xf8\xf8", 255: "\xf8\xff", 256: "\xf9\x01\x00", 65535: "\xf9\xff\xff",
		65536: "\xfa\x01\x00\x00", 1 << 24: "\xfb\x01\x00\x00\x00", Most: "\xfb\xff\xff\xff\xff",
		-1: "", Most + 1: "", math.MinInt: "", math.MaxInt: "",
	} {
		if got := Put(n); got != want {
			t.Errorf("Put(%d) = %x", n, got)
		}
		if got := Size(n); got != len(want) {
			t.Errorf("Size(%d) = %d", n, got)
		}
	}
	if got := All(1, 248, -3, Most+1, 256); got != "\x01\xf8\xf8\xf9\x01\x00" {
		t.Errorf("All: %x", got)
	}
	if All() != "" {
		t.Error("All of nothing")
	}
}

// Promise 2.2.
func TestTake(t *testing.T) {
	for s, want := range map[string]api.Errno{
		"": api.ErrShort, "\xfc": api.ErrForm, "\xff\x00\x00": api.ErrForm, "\xf8": api.ErrShort, "\xf9\x01": api.ErrShort,
		"\xfb\x01\x02\x03": api.ErrShort, "\xf8\x05": api.ErrForm, "\xf8\xf7": api.ErrForm, "\xf9\x00\xff": api.ErrForm,
		"\xf9\x00\x00": api.ErrForm, "\xfa\x00\xff\xff": api.ErrForm, "\xfb\x00\x01\x00\x00": api.ErrForm, "\xfb\x00\x01\x00": api.ErrShort,
	} {
		if n, k, e := Take(s); n != 0 || k != 0 || e != want {
			t.Errorf("Take(%x) = %d, %d, %v", s, n, k, e)
		}
	}
	if n, k, e := Take("\xf8\xf8\x07"); n != 248 || k != 2 || e != api.OK {
		t.Error(n, k, e)
	}
}

// Promise 2.3.
func TestTakenAsPut(t *testing.T) {
	l := edges()
	for _, n := range l {
		for _, more := range []string{"", "\x00", "\xff\xff\xff\xff\xff"} {
			if got, k, e := Take(Put(n) + more); got != n || k != Size(n) || e != api.OK {
				t.Errorf("%d: %d, %d, %v", n, got, k, e)
			}
		}
		for _, m := range l {
			if (n < m) != (Put(n) < Put(m)) {
				t.Error("order", n, m)
			}
		}
	}
	for a := range 256 {
		for b := range 256 {
			for _, tail := range []string{"", "\x00", "\x01\x00", "\x00\x00\x00", "\xff\xff\xff"} {
				s := string([]byte{byte(a), byte(b)}) + tail
				if n, k, e := Take(s); e == api.OK && Put(n) != s[:k] {
					t.Fatalf("%x is taken as %d", s, n)
				}
			}
		}
	}
}

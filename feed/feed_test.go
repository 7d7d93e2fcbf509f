package feed

import (
	"math"
	"math/rand"
	"reflect"
	"testing"

	"easement/api"
	"easement/check"
)

// bodies is bytes of which all verdicts come.
func bodies() []string {
	return []string{
		"", "mir\x01\x01\x01\x00\x01\x00\x00\x00\x01\x00\x03", "mir\x01\x00",
		"mir\x01\x03\x03\x00\x01\x01\x02\x01\x04\x00\x01\x00\x03",
		"mir\x01\x02\x02\x00\x01\x01\x02\x01\x00\x00\x01\x00\x03",
	}
}

// Promise 40.1.
func TestFeed(t *testing.T) {
	for _, x := range []struct {
		in, out int
		e       api.Errno
	}{{0, 1, api.ErrArg}, {1, 0, api.ErrArg}, {-1, math.MaxInt, api.ErrArg}, {math.MaxInt, 0, api.ErrArg}, {api.MaxMany + 1, 1, api.ErrOver}, {1, api.MaxMany + 1, api.ErrOver}} {
		if f, e := New(x.in, x.out); f != nil || e != x.e {
			t.Error(x, e)
		}
	}
	if _, e := New(api.MaxMany, api.MaxMany); e != api.OK {
		t.Error(e)
	}
	f, e := New(1, 1)
	if e != api.OK {
		t.Fatal(e)
	}
	if f.Step() || f.Over() || f.Done() != 0 {
		t.Error("empty")
	}
	if r, ok := f.Pull(); !reflect.DeepEqual(r, check.Result{}) || ok {
		t.Error(r, ok)
	}
	l := bodies()
	if f.Push(l[0]) != api.OK || f.Push(l[1]) != api.ErrFull || !f.Step() || f.Push(l[1]) != api.OK || f.Step() {
		t.Error("example")
	}
	if in, out := f.Waiting(); in != 1 || out != 1 || f.Done() != 1 {
		t.Error(in, out)
	}
	if f.Close() != api.OK || f.Close() != api.ErrState || f.Push(l[2]) != api.ErrState || f.Over() || f.Step() {
		t.Error("close")
	}
	if r, ok := f.Pull(); !reflect.DeepEqual(r, check.Check(l[0])) || !ok || f.Over() {
		t.Error(r, ok)
	}
	if !f.Step() || f.Step() || f.Over() || f.Done() != 2 {
		t.Error("behind close")
	}
	if r, ok := f.Pull(); !reflect.DeepEqual(r, check.Check(l[1])) || !ok || !f.Over() || f.Step() {
		t.Error(r, ok)
	}
	if r, ok := f.Pull(); !reflect.DeepEqual(r, check.Result{}) || ok {
		t.Error(r, ok)
	}
	if f.Push("") != api.ErrState || f.Close() != api.ErrState {
		t.Error("over")
	}
}

// Promises 40.1 and 40.2, of a nil feed.
func TestNil(t *testing.T) {
	var f *Feed
	in, out := f.Waiting()
	r, ok := f.Pull()
	if f.Push("") != api.ErrNil || f.Close() != api.ErrNil || f.Step() || ok || !reflect.DeepEqual(r, check.Result{}) || in+out+f.Done() != 0 || !f.Over() {
		t.Error("nil")
	}
}

// Promises 40.2 and 40.3.
func TestOrder(t *testing.T) {
	l := bodies()
	verdicts := map[int]int{}
	for i, r := range All(l) {
		verdicts[r.Verdict]++
		if !reflect.DeepEqual(r, check.Check(l[i])) {
			t.Error(i, r)
		}
	}
	if len(All(nil)) != 0 || len(All(l)) != len(l) || len(verdicts) != 3 {
		t.Error(verdicts)
	}
	r := rand.New(rand.NewSource(23))
	f, _ := New(3, 2)
	var in, out []string
	done := 0
	for range 3000 {
		switch r.Intn(3) {
		case 0:
			s := l[r.Intn(len(l))]
			e := f.Push(s)
			if (e == api.OK) != (len(in) < 3) || e != api.OK && e != api.ErrFull {
				t.Fatal(e)
			}
			if e == api.OK {
				in = append(in, s)
			}
		case 1:
			if f.Step() != (len(in) > 0 && len(out) < 2) {
				t.Fatal("step")
			}
			if f.Done() > done {
				done++
				in, out = in[1:], append(out, in[0])
			}
		case 2:
			got, ok := f.Pull()
			if ok != (len(out) > 0) || ok && !reflect.DeepEqual(got, check.Check(out[0])) {
				t.Fatal(got, ok)
			}
			if ok {
				out = out[1:]
			}
		}
		if a, b := f.Waiting(); a != len(in) || b != len(out) || f.Done() != done || f.Over() {
			t.Fatal(a, b)
		}
	}
}

package laws

import (
	"math/rand"
	"slices"
	"strings"
	"testing"

	"easement/api"
	"easement/body"
	"easement/edit"
	"easement/judge"
	"easement/report"
	"easement/script"
	"easement/text"
	"easement/valid"
)

// Promise 38.4.
func TestText(t *testing.T) {
	each(t, 17, 500, func(t *testing.T, r *rand.Rand, b api.Body) {
		s := text.Print(b)
		if x, n, e := text.Parse(s); !body.Same(x, b) || n != 0 || e != api.OK {
			t.Error(s, n, e)
		}
		bytes := []byte(s)
		for range 20 {
			bytes[r.Intn(len(bytes))] = "0 \n-:/!9"[r.Intn(8)]
			if x, n, e := text.Parse(string(bytes)); e != api.OK && (!body.Same(x, api.Body{}) || n == 0 && e != api.ErrMissing) {
				t.Error(string(bytes), n, e)
			}
		}
	})
}

// within is whether each bound of a list is one of another one.
func within(l, of []api.Bound) bool {
	return !slices.ContainsFunc(l, func(x api.Bound) bool { return !slices.Contains(of, x) })
}

// Promise 41.3.
func TestEdits(t *testing.T) {
	each(t, 18, 300, func(t *testing.T, r *rand.Rand, b api.Body) {
		want := judge.Missing(b)
		for i, x := range b.Blocks {
			for k := range x.Stmts {
				for _, kind := range []int{edit.Blank, edit.Drop} {
					less, e := edit.Apply(b, edit.Edit{Kind: kind, I: i, K: k})
					if e != api.OK || !within(judge.Missing(less), want) {
						t.Error(kind, i, k, e)
					}
				}
				swap := edit.Edit{Kind: edit.Swap, I: i, K: k}
				if twice, out := edit.All(b, swap, swap); !body.Same(twice, b) || (out == 0) != (k+1 < len(x.Stmts)) {
					t.Error("swap", i, k, out)
				}
			}
		}
		more, e := edit.Apply(b, edit.Edit{Kind: edit.Declare, I: r.Intn(b.Universals), K: r.Intn(b.Universals)})
		if e != api.OK || !within(judge.Missing(more), want) {
			t.Error("declare", e)
		}
		for range 20 {
			x := edit.Edit{Kind: r.Intn(10), I: r.Intn(8) - 1, K: r.Intn(8) - 1, N: r.Intn(12) - 1}
			got, e := edit.Apply(b, x)
			if (e == api.OK) != valid.OK(got) || e != api.OK && !body.Same(got, api.Body{}) {
				t.Error(x, e)
			}
		}
	})
}

// command is a command that may be, by chance.
func command(r *rand.Rand) script.Cmd {
	c := script.Cmd{Kind: r.Intn(10)}
	switch c.Kind {
	case script.Live, script.Value:
		c.N[0] = r.Intn(20)
	case script.Why:
		c.N[0], c.N[1] = r.Intn(6), r.Intn(6)
	case script.Edit:
		c.N = [4]int{1 + r.Intn(8), r.Intn(6), r.Intn(6), r.Intn(10)}
	}
	return c
}

// commands is some commands.
func commands(r *rand.Rand) []script.Cmd {
	var l []script.Cmd
	for range r.Intn(12) {
		l = append(l, command(r))
	}
	return l
}

// Promise 42.3.
func TestScript(t *testing.T) {
	each(t, 19, 400, func(t *testing.T, r *rand.Rand, b api.Body) {
		s := script.Script{Body: b, Cmds: commands(r)}
		got, n, e := script.Parse(script.Show(s))
		if !body.Same(got.Body, b) || !slices.Equal(got.Cmds, s.Cmds) || n != 0 || e != api.OK {
			t.Error(got, n, e)
		}
	})
}

// Promise 43.3, and T8 through the layers.
func TestReport(t *testing.T) {
	each(t, 20, 300, func(t *testing.T, r *rand.Rand, b api.Body) {
		s := script.Script{Body: b, Cmds: commands(r)}
		told := strings.Join(report.Run(s), "\n")
		if told != "" {
			told += "\n"
		}
		if got := report.Text(script.Show(s)); got != told || got != report.Text(script.Show(s)) {
			t.Error(got, told)
		}
		if !body.Same(b, s.Body) {
			t.Error("changed")
		}
	})
}

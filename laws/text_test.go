package laws

import (
	"math/rand"
	"testing"

	"easement/api"
	"easement/body"
	"easement/text"
)

// Promise 38.4.
func TestText(t *testing.T) {
	each(t, 17, 500, func(t *testing.T, r *rand.Rand, b api.Body) {
		s := text.Print(b)
		if x, n, e := text.Parse(s); !body.Same(x, b) || n != 0 || e != api.OK {
			t.Error(s, n, e)
		}
		bytes := []byte(s)
		for range 20 {
			bytes[r.Intn(len(bytes))] = "0 \n-:/!9"[r.Intn(8)]
			if x, n, e := text.Parse(string(bytes)); e != api.OK && (!body.Same(x, api.Body{}) || n == 0 && e != api.ErrMissing) {
				t.Error(string(bytes), n, e)
			}
		}
	})
}

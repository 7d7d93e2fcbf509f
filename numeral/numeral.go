// Package numeral is layer 1: see shared/doc/01-numeral.md.
package numeral

import (
	"strings"

	"easement/api"
)

// Text is a number's text.
func Text(n int) string {
	if n < 0 {
		return ""
	}
	var digits [20]byte // no int has more of them
	at := len(digits)
	for {
		at--
		digits[at] = byte('0' + n%10)
		n /= 10
		if n == 0 {
			return string(digits[at:])
		}
	}
}

// Parse is the number of a text, if it is at most so great.
func Parse(s string, most int) (int, api.Errno) {
	if !isNumber(s) {
		return 0, api.ErrForm
	}
	n := 0
	for i := 0; i < len(s); i++ {
		digit := int(s[i] - '0')
		// What is held against most is never computed, for it may be too great for an int.
		if digit > most || n > (most-digit)/10 {
			return 0, api.ErrOver
		}
		n = n*10 + digit
	}
	return n, api.OK
}

// isNumber is whether a text is that of a number.
func isNumber(s string) bool {
	if s == "" || len(s) > 1 && s[0] == '0' {
		return false
	}
	for i := 0; i < len(s); i++ {
		if s[i] < '0' || s[i] > '9' {
			return false
		}
	}
	return true
}

// Pair is the text of a bound.
func Pair(b api.Bound) string {
	if b.Sup < 0 || b.Sub < 0 {
		return ""
	}
	return Text(b.Sup) + ":" + Text(b.Sub)
}

// ParsePair is the bound of a text.
func ParsePair(s string, most int) (api.Bound, api.Errno) {
	ahead, behind, found := strings.Cut(s, ":")
	if !found {
		return api.Bound{}, api.ErrForm
	}
	sup, e := Parse(ahead, most)
	if e != api.OK {
		return api.Bound{}, e
	}
	sub, e := Parse(behind, most)
	if e != api.OK {
		return api.Bound{}, e
	}
	return api.Bound{Sup: sup, Sub: sub}, api.OK
}

// List is the text of numbers.
func List(l []int) string {
	var b strings.Builder
	for i, n := range l {
		if i > 0 {
			b.WriteByte(',')
		}
		b.WriteString(Text(n))
	}
	return b.String()
}

// ParseList is the numbers of a text.
func ParseList(s string, most int) ([]int, api.Errno) {
	if s == "" {
		return nil, api.OK
	}
	var l []int
	// A comma at the end leaves an empty last part, which is no number's text.
	for _, part := range strings.Split(s, ",") {
		n, e := Parse(part, most)
		if e != api.OK {
			return nil, e
		}
		l = append(l, n)
	}
	return l, api.OK
}

package gcd

import (
	"slices"
	"strconv"
	"strings"

	"facetroom/api"
	"facetroom/div"
	"facetroom/mul"
	"facetroom/nat"
)

const (
	chunkDigits = 19 // as many as every limb has room for
	chunk       = 10_000_000_000_000_000_000
)

// digits is a number that may be as a text.
func digits(a api.Nat) string {
	if len(a) == 0 {
		return "0"
	}
	var made []byte // the lowest first
	for len(a) > 0 {
		var w uint64
		a, w, _ = div.Word(a, chunk) // into new memory: what was handed in stays
		for range chunkDigits {
			made = append(made, '0'+byte(w%10))
			w /= 10
		}
	}
	slices.Reverse(made)
	return strings.TrimLeft(string(made), "0")
}

// isNumber tells whether s is a number as a text.
func isNumber(s string) bool {
	if s == "" || s[0] == '0' && s != "0" {
		return false
	}
	for _, c := range s {
		if c < '0' || c > '9' {
			return false
		}
	}
	return true
}

// value is the number whose text is s.
func value(s string) api.Nat {
	var made api.Nat
	for len(s) > 0 {
		n := (len(s)-1)%chunkDigits + 1 // all but the first are whole chunks
		w, _ := strconv.ParseUint(s[:n], 10, 64)
		made, _ = mul.Mul(nat.Of(chunk), made)
		made, _ = nat.Add(made, nat.Of(w))
		s = s[n:]
	}
	return made
}

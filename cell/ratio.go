package cell

import (
	"cmp"

	"facet/api"
	"facet/plain"
)

// Compare answers -1, 0 or 1 as a is less than b, equal to it, or greater.
func Compare(a, b api.Ratio) (int, api.Errno) {
	if !inForm(a) || !inForm(b) {
		return 0, api.ErrForm
	}
	if signs := cmp.Compare(cmp.Compare(a.Num, 0), cmp.Compare(b.Num, 0)); signs != 0 {
		return signs, api.OK
	}
	magnitudes := plain.CompareProducts(magnitude(a.Num), magnitude(b.Den), magnitude(b.Num), magnitude(a.Den))
	if a.Num < 0 {
		return -magnitudes, api.OK
	}
	return magnitudes, api.OK
}

func inForm(r api.Ratio) bool {
	return r.Den > 0 && divisor(magnitude(r.Num), magnitude(r.Den)) == 1
}

// lowest answers num over den, den above 0, in lowest terms. Nought becomes 0 over 1, as its greatest common divisor with den is den.
func lowest(num, den int) api.Ratio {
	d := int(divisor(magnitude(num), magnitude(den)))
	return api.Ratio{Num: num / d, Den: den / d}
}

// divisor answers the greatest common divisor of a and b, which are not both 0.
func divisor(a, b uint64) uint64 {
	for b != 0 {
		a, b = b, a%b
	}
	return a
}

// magnitude has room for that of the least int, which has none in an int.
func magnitude(n int) uint64 {
	if n < 0 {
		return -uint64(n)
	}
	return uint64(n)
}

package turn

import (
	"math"
	"math/bits"
)

// fixed is a number in words of 64 bits, the lowest first, the last one in front of the point. A number below 0 stands as what is missing to 2^64.
type fixed []uint64

// fixedInt answers the whole number n, n not below 0, with so many words behind the point.
func fixedInt(n, words int) fixed {
	a := make(fixed, words+1)
	a[words] = uint64(n)
	return a
}

// places answers how many bits of a stand behind the point.
func (a fixed) places() int {
	return 64 * (len(a) - 1)
}

func (a fixed) isNegative() bool {
	return int64(a[len(a)-1]) < 0
}

// sum answers the sum of numbers of like length.
func sum(list ...fixed) fixed {
	total := make(fixed, len(list[0]))
	for _, a := range list {
		var carry uint64
		for i := range total {
			total[i], carry = bits.Add64(total[i], a[i], carry)
		}
	}
	return total
}

// negated answers -a.
func negated(a fixed) fixed {
	b := make(fixed, len(a))
	var borrow uint64
	for i := range a {
		b[i], borrow = bits.Sub64(0, a[i], borrow)
	}
	return b
}

// times answers n times a, a not below 0.
func times(n int, a fixed) fixed {
	b := make(fixed, len(a))
	var carry uint64
	for i := range a {
		high, low := bits.Mul64(a[i], uint64(max(n, -n)))
		var over uint64
		b[i], over = bits.Add64(low, carry, 0)
		carry = high + over
	}
	if n < 0 {
		return negated(b)
	}
	return b
}

// product answers a b, neither below 0, rounded down to the places that they have.
func product(a, b fixed) fixed {
	all := make(fixed, 2*len(a))
	for i := range a {
		var carry uint64
		for j := range b {
			high, low := bits.Mul64(a[i], b[j])
			var over uint64
			low, over = bits.Add64(low, carry, 0)
			high += over
			all[i+j], over = bits.Add64(all[i+j], low, 0)
			carry = high + over
		}
		all[i+len(b)] = carry
	}
	return all[len(a)-1 : 2*len(a)-1]
}

// root answers the square root of a, a not below 0 and below 4, rounded down. As by hand: two bits of a go down at a time, and one bit of the root comes up.
func root(a fixed) fixed {
	found, rest, trial := make(fixed, len(a)), make(fixed, len(a)), make(fixed, len(a))
	for i := a.places(); i >= -a.places(); i -= 2 {
		rest.push(2, a.from(i)%4)
		copy(trial, found)
		trial.push(2, 1)
		var borrow uint64
		for k := range trial {
			trial[k], borrow = bits.Sub64(rest[k], trial[k], borrow)
		}
		found.push(1, 1-borrow)
		if borrow == 0 {
			rest, trial = trial, rest
		}
	}
	return found
}

// push moves a up by n bits, and puts these low ones behind it.
func (a fixed) push(n int, low uint64) {
	for i, word := range a {
		a[i] = word<<n | low
		low = word >> (64 - n)
	}
}

// from answers the 64 bits of a from the place i on, counted from the lowest bit; below that all are 0.
func (a fixed) from(i int) uint64 {
	if i < 0 {
		return 0
	}
	word := a[i/64] >> (i % 64)
	if i/64+1 < len(a) {
		word |= a[i/64+1] << (64 - i%64)
	}
	return word
}

// length answers how many bits a has from its highest one on.
func (a fixed) length() int {
	for i := len(a) - 1; i >= 0; i-- {
		if a[i] != 0 {
			return 64*i + bits.Len64(a[i])
		}
	}
	return 0
}

// halfFloat answers the float64 nearest to half of a, a not below 0. What lies half way between two is rounded up: only bounds are rounded here, and what lies between them is never half way.
func halfFloat(a fixed) float64 {
	// 53 bits are kept, but none behind the 1074th place, where float64 ends.
	places := a.places() + 1
	drop := max(a.length()-53, places-1074, 0)
	kept := a.from(drop)
	if drop > 0 {
		kept = (a.from(drop-1) + 1) / 2
	}
	return math.Ldexp(float64(kept), drop-places)
}

package hkl

import (
	"iter"
	"math/bits"

	"facet/api"
	"facet/cell"
	"facet/plain"
)

// checkLimit answers ErrForm if limit is not in form or below 0.
func checkLimit(limit api.Ratio) api.Errno {
	sign, e := cell.Compare(limit, api.Ratio{Num: 0, Den: 1})
	if e == api.OK && sign < 0 {
		return api.ErrForm
	}
	return e
}

// reach answers the greatest part that an index may have on an edge of the given square, but for what lies beyond MaxBall: there it is MaxBall + 1.
//
// That part is the index times the edge, and so at most the root of both squares.
func reach(limit api.Ratio, square int) int {
	n := 0
	for n <= api.MaxBall && plain.CompareProducts(uint64((n+1)*(n+1)), uint64(limit.Den), uint64(limit.Num), uint64(square)) <= 0 {
		n++
	}
	return n
}

// wholeTimes answers the greatest whole number that is at most limit * det.
//
// Where no part of an index reaches beyond MaxBall, that is below 65^2 * det over the square of an edge, so the quotient has room in one word.
func wholeTimes(limit api.Ratio, det int) int {
	high, low := bits.Mul64(uint64(limit.Num), uint64(det))
	quotient, _ := bits.Div64(high, low, uint64(limit.Den))
	return int(quotient)
}

// box hands out, in order, all indices whose parts lie from -ends to ends.
func box(ends api.Vec) iter.Seq[api.Vec] {
	return func(yield func(api.Vec) bool) {
		for x := -ends[0]; x <= ends[0]; x++ {
			for y := -ends[1]; y <= ends[1]; y++ {
				for z := -ends[2]; z <= ends[2]; z++ {
					if !yield(api.Vec{x, y, z}) {
						return
					}
				}
			}
		}
	}
}

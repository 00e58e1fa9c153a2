package ring

import "math/bits"

// wide is a whole number of 128 bits in two's complement. What comes up on the way to an answer may lie beyond an int, but not beyond 2^115: so far reaches the product of an int and a coefficient, and less far a sum of all products of two numbers while it is brought to the shape.
type wide struct {
	high, low uint64
}

func widened(n int) wide {
	return wide{high: uint64(n >> 63), low: uint64(n)}
}

// narrowed answers w where it is an int, and else another number.
func narrowed(w wide) int {
	return int(w.low)
}

func plus(a, b wide) wide {
	low, carry := bits.Add64(a.low, b.low, 0)
	high, _ := bits.Add64(a.high, b.high, carry)
	return wide{high: high, low: low}
}

func minus(a, b wide) wide {
	low, borrow := bits.Sub64(a.low, b.low, 0)
	high, _ := bits.Sub64(a.high, b.high, borrow)
	return wide{high: high, low: low}
}

// product answers a b. A number below 0 is taken for one that is 2^64 greater, so that the other factor is once too often in the high word.
func product(a, b int) wide {
	high, low := bits.Mul64(uint64(a), uint64(b))
	if a < 0 {
		high -= uint64(b)
	}
	if b < 0 {
		high -= uint64(a)
	}
	return wide{high: high, low: low}
}

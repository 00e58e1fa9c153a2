package turn

import "math"

// slack is how many units of their last place doubled cosines may be off: below 1.5 the first (halvings don't add up, as each shrinks what came before to less than a third), below 1.5 k + 2 k (k - 1) the k-th, k at most 31.
const slack = 2048

// between tells where a number lies: its sign, and two bounds of its magnitude. Sign 0 is one that isn't known.
type between struct {
	sign      int
	low, high fixed
}

// isWhole tells whether a list of doubled is a whole number: its first.
func isWhole(list []int) bool {
	for _, n := range list[1:] {
		if n != 0 {
			return false
		}
	}
	return true
}

// half answers the float64 nearest to half of what a list of doubled stands for, or false if these cosines don't reach to tell it.
func half(list []int, cosines []fixed) (float64, bool) {
	if isWhole(list) {
		return float64(list[0]) / 2, true
	}
	b := bounds(list, cosines)
	x := halfFloat(b.high)
	if b.sign == 0 || x != halfFloat(b.low) {
		return 0, false
	}
	return math.Copysign(x, float64(b.sign)), true
}

// bounds answers where that lies for which a list of doubled stands, as far as these cosines tell. The whole numbers add up to less than 2^60, so that the word in front of the point has room for all.
func bounds(list []int, cosines []fixed) between {
	terms := make([]fixed, len(list))
	reach := 0
	for k, n := range list {
		terms[k] = times(n, cosines[k])
		reach += max(n, -n)
	}
	unsure := make(fixed, len(cosines[0]))
	unsure[0] = slack
	unsure = times(reach, unsure)
	sign, total := 1, sum(terms...)
	if total.isNegative() {
		sign, total = -1, negated(total)
	}
	b := between{sign, sum(total, negated(unsure)), sum(total, unsure)}
	if b.low.isNegative() {
		b.sign = 0
	}
	return b
}

// doubledCosines answers 1 and twice the cosines of 1, 2 and so on m-ths of a turn, up to a sixth of a turn, with so many words behind the point.
func doubledCosines(m, words int) []fixed {
	two := fixedInt(2, words)
	// Twice the cosine of a sixth of a turn is 1; that of half an angle is the root of 2 more.
	first := fixedInt(1, words)
	for k := m / 6; k > 1; k /= 2 {
		first = root(sum(two, first))
	}
	list := []fixed{two, first}
	for k := 2; k < m/6; k++ {
		list = append(list, sum(product(first, list[k-1]), negated(list[k-2])))
	}
	list[0] = fixedInt(1, words)
	return list
}

package turn

import (
	"math/big"
	"math/bits"
	"slices"
	"sync"

	"facet/api"
)

// The reference reckons with behind places behind the point; what it has is off in the last few of them, so that only those in front of sharp count.
const (
	behind = 6000
	sharp  = 5000
)

// arctan answers the angle of tangent 1/n, by its series.
func arctan(n int64) *big.Int {
	total := new(big.Int)
	power := new(big.Int).Lsh(big.NewInt(1), behind)
	power.Quo(power, big.NewInt(n))
	for k := int64(1); power.Sign() != 0; k += 2 {
		term := new(big.Int).Quo(power, big.NewInt(k))
		if k%4 == 3 {
			term.Neg(term)
		}
		total.Add(total, term)
		power.Quo(power, big.NewInt(n*n))
	}
	return total
}

// circleCosines answers the cosines of all 192nds of a turn, each by the series of the cosine: nothing is halved or folded here.
var circleCosines = sync.OnceValue(func() []*big.Int {
	// A quarter of pi is 4 arctan(1/5) - arctan(1/239).
	turn := new(big.Int).Mul(big.NewInt(4), arctan(5))
	turn.Sub(turn, arctan(239)).Mul(turn, big.NewInt(8))
	list := make([]*big.Int, 192)
	for j := range list {
		angle := new(big.Int).Mul(turn, big.NewInt(int64(j)))
		angle.Quo(angle, big.NewInt(192))
		square := new(big.Int).Mul(angle, angle)
		square.Rsh(square, behind)
		total := new(big.Int)
		term := new(big.Int).Lsh(big.NewInt(1), behind)
		for k := int64(1); term.Sign() != 0; k += 2 {
			total.Add(total, term)
			term = new(big.Int).Mul(term, square)
			term.Rsh(term, behind).Neg(term)
			term.Quo(term, big.NewInt(k*(k+1)))
		}
		list[j] = total
	}
	return list
})

// realPart answers the real part of r turned by so many M-ths, in 2^-sharp.
func realPart(r api.Ring, by int) *big.Int {
	total := new(big.Int)
	for i, n := range r.C {
		j := ((i+by)%r.M + r.M) % r.M * (192 / r.M)
		total.Add(total, new(big.Int).Mul(big.NewInt(int64(n)), circleCosines()[j]))
	}
	half := new(big.Int).Lsh(big.NewInt(1), behind-sharp-1)
	return total.Rsh(total.Add(total, half), behind-sharp)
}

// rounded answers the nearest float64, ties to the even one.
func rounded(n *big.Int) float64 {
	x, _ := new(big.Float).SetMantExp(new(big.Float).SetInt(n), -sharp).Float64()
	return x
}

// truth answers what Near has to answer for r.
func truth(r api.Ring) complex128 {
	return complex(rounded(realPart(r, 0)), rounded(realPart(r, -r.M/4)))
}

// of answers the number of the ring of m with these coefficients, and noughts behind them.
func of(m int, c ...int) api.Ring {
	return api.Ring{M: m, C: append(slices.Clone(c), make([]int, m/3-len(c))...)}
}

// at answers the number of the ring of m with these coefficients at these places.
func at(m int, coefficients map[int]int) api.Ring {
	r := of(m)
	for i, n := range coefficients {
		r.C[i] = n
	}
	return r
}

// draw makes numbers that look like chance, the same ones in every run.
type draw uint64

func (d *draw) word() uint64 {
	*d = *d*6364136223846793005 + 1442695040888963407
	high := uint64(*d)
	*d = *d*6364136223846793005 + 1442695040888963407
	return high&^0xffffffff | uint64(*d)>>32
}

// below answers a number from 0 to n-1.
func (d *draw) below(n int) int {
	high, _ := bits.Mul64(d.word(), uint64(n))
	return int(high)
}

// number answers a number of the ring of m with coefficients up to reach, some of them noughts.
func (d *draw) number(m, reach int) api.Ring {
	r := of(m)
	sparse := d.below(4)
	for i := range r.C {
		if d.below(4) >= sparse {
			r.C[i] = d.below(2*reach+1) - reach
		}
	}
	return r
}

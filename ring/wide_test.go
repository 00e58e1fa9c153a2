package ring

import (
	"math"
	"math/big"
	"testing"
)

func long128(w wide) *big.Int {
	n := new(big.Int).Lsh(big.NewInt(int64(w.high)), 64)
	return n.Add(n, new(big.Int).SetUint64(w.low))
}

func TestWide(t *testing.T) { // P15.3: what comes up on the way
	list := []int{0, 1, -1, 2, -2, 3, 1 << 31, -(1 << 31), 1 << 32, 1<<52 - 1, 1 << 52, -(1 << 52), 1 << 62, -(1 << 62), math.MaxInt, math.MaxInt - 1, math.MinInt, math.MinInt + 1}
	var products []wide
	for _, a := range list {
		if w := widened(a); long128(w).Cmp(big.NewInt(int64(a))) != 0 || narrowed(w) != a {
			t.Errorf("widened(%d) = %v", a, w)
		}
		for _, b := range list {
			p := product(a, b)
			products = append(products, p)
			if want := new(big.Int).Mul(big.NewInt(int64(a)), big.NewInt(int64(b))); long128(p).Cmp(want) != 0 {
				t.Errorf("product(%d, %d) = %v, want %v", a, b, long128(p), want)
			}
		}
	}
	for _, a := range products {
		for _, b := range products {
			x, y := long128(a), long128(b)
			if sum := new(big.Int).Add(x, y); sum.BitLen() < 127 && long128(plus(a, b)).Cmp(sum) != 0 {
				t.Errorf("plus(%v, %v) = %v", x, y, long128(plus(a, b)))
			}
			if difference := new(big.Int).Sub(x, y); difference.BitLen() < 127 && long128(minus(a, b)).Cmp(difference) != 0 {
				t.Errorf("minus(%v, %v) = %v", x, y, long128(minus(a, b)))
			}
		}
	}
}

package turn

import (
	"fmt"
	"math"
	"math/big"
	"testing"
)

// long answers the whole number of last places that a is.
func long(a fixed) *big.Int {
	n := new(big.Int)
	for i := len(a) - 1; i >= 0; i-- {
		n.Lsh(n, 64).Add(n, new(big.Int).SetUint64(a[i]))
	}
	if a.isNegative() {
		n.Sub(n, new(big.Int).Lsh(big.NewInt(1), uint(64*len(a))))
	}
	return n
}

// fixeds answers numbers with so many words behind the point, from 0 to below 2^bits.
func fixeds(words, bits int, seed draw) []fixed {
	var list []fixed
	for i := range 12 {
		a := make(fixed, words+1)
		for k := range a {
			switch i % 4 {
			case 0:
				a[k] = seed.word()
			case 1:
				a[k] = math.MaxUint64
			case 2:
				a[k] = uint64(i) / 4
			case 3:
				a[k] = seed.word() >> seed.below(64) << seed.below(64)
			}
		}
		a[words] &= 1<<bits - 1
		list = append(list, a)
	}
	return append(list, make(fixed, words+1))
}

func expect(t *testing.T, what string, a fixed, want *big.Int) {
	t.Helper()
	if long(a).Cmp(want) != 0 {
		t.Errorf("%s = %v, want %v", what, long(a), want)
	}
}

func TestFixedSums(t *testing.T) { // P17.2, P17.5: what comes up on the way has all its places
	for words := 1; words <= 5; words++ {
		for i, a := range fixeds(words, 61, draw(words)) {
			expect(t, "sum of one", sum(a), long(a))
			expect(t, "negated", negated(a), new(big.Int).Neg(long(a)))
			for j, b := range fixeds(words, 61, draw(9*words+i)) {
				what := fmt.Sprint(words, i, j)
				expect(t, what+" sum", sum(a, b, a), new(big.Int).Add(long(a), new(big.Int).Add(long(b), long(a))))
				expect(t, what+" difference", sum(a, negated(b)), new(big.Int).Sub(long(a), long(b)))
			}
		}
	}
}

func TestFixedProducts(t *testing.T) { // P17.2, P17.5
	for words := 1; words <= 5; words++ {
		for i, a := range fixeds(words, 2, draw(words)) {
			for _, n := range []int{0, 1, -1, 3, -7, 1 << 40, 1<<54 - 1, -1 << 54, 3 << 52, 12345678901234567} {
				expect(t, fmt.Sprint(words, i, " times ", n), times(n, a), new(big.Int).Mul(big.NewInt(int64(n)), long(a)))
			}
			for j, b := range fixeds(words, 2, draw(5*words+i)) {
				want := new(big.Int).Mul(long(a), long(b))
				expect(t, fmt.Sprint(words, i, j, " product"), product(a, b), want.Rsh(want, uint(64*words)))
			}
		}
	}
}

func TestFixedRoots(t *testing.T) { // P17.5: cosines by halving angles
	for words := 1; words <= 5; words++ {
		list := fixeds(words, 2, draw(words))
		for n := range 4 {
			list = append(list, fixedInt(n, words))
		}
		for i, a := range list {
			want := new(big.Int).Lsh(long(a), uint(64*words))
			expect(t, fmt.Sprint(words, i, " root"), root(a), want.Sqrt(want))
		}
	}
}

func TestFixedBits(t *testing.T) { // P17.2: as many bits as a float64 has, from where they stand
	a := fixed{0x0123456789abcdef, 0xfedcba9876543210, 5}
	for i := -130; i < 192; i++ {
		want := new(big.Int)
		if i >= 0 {
			want.Rsh(long(a), uint(i)).And(want, new(big.Int).SetUint64(math.MaxUint64))
		}
		if got := a.from(i); new(big.Int).SetUint64(got).Cmp(want) != 0 {
			t.Errorf("from(%d) = %x, want %x", i, got, want)
		}
	}
	if n := a.length(); n != 131 {
		t.Errorf("length = %d", n)
	}
	for i := range 192 {
		b := make(fixed, 3)
		b[i/64] = 1 << (i % 64)
		if n := b.length(); n != i+1 {
			t.Errorf("length of bit %d = %d", i, n)
		}
	}
	if n := make(fixed, 3).length(); n != 0 {
		t.Errorf("length of nought = %d", n)
	}
}

func TestHalfFloat(t *testing.T) { // P17.2: the nearest float64, down to the least one
	for words := 1; words <= 20; words++ {
		for i := range 64*words + 60 {
			for _, low := range []uint64{0, 1, 2, 3, 1<<52 | 1, 1<<53 | 1, 1<<53 | 3, 1<<54 | 2, 1<<54 | 3, 1<<54 - 1, 1<<60 - 1} {
				n := new(big.Int).Lsh(new(big.Int).SetUint64(low), uint(i))
				if n.BitLen() > 64*words+60 {
					continue
				}
				a := make(fixed, words+1)
				for k := range a {
					a[k] = new(big.Int).And(new(big.Int).Rsh(n, uint(64*k)), new(big.Int).SetUint64(math.MaxUint64)).Uint64()
				}
				// What lies half way goes up there; a little more makes the reference go up too.
				more := new(big.Int).Add(new(big.Int).Lsh(n, 100), big.NewInt(1))
				want, _ := new(big.Float).SetMantExp(new(big.Float).SetInt(more), -64*words-101).Float64()
				if n.Sign() == 0 {
					want = 0
				}
				if x := halfFloat(a); x != want {
					t.Fatalf("halfFloat of %d words, %x at %d: %g, want %g", words, low, i, x, want)
				}
			}
		}
	}
}

func TestDoubledCosines(t *testing.T) { // P17.5: off by less than what is reckoned with
	for _, m := range []int{24, 48, 96, 192} {
		for _, words := range []int{1, 2, 3, 4, 8, 16, 32, 64} {
			list := doubledCosines(m, words)
			if len(list) != m/6 {
				t.Fatalf("%d cosines of %d", len(list), m)
			}
			expect(t, "the first", list[0], new(big.Int).Lsh(big.NewInt(1), uint(64*words)))
			for k, a := range list[1:] {
				want := circleCosines()[(k+1)*(192/m)]
				want = new(big.Int).Rsh(new(big.Int).Lsh(want, 1), uint(behind-64*words))
				off := new(big.Int).Sub(long(a), want)
				if off.CmpAbs(big.NewInt(slack-1)) >= 0 {
					t.Errorf("twice the cosine of %d of %d, %d words: off by %v", k+1, m, words, off)
				}
			}
		}
	}
}

package turn

import (
	"math"
	"math/big"
	"slices"
	"testing"

	"facet/api"
	"facet/ring"
)

const most = 4503599627370496

var (
	finenesses = []int{24, 48, 96, 192}
	divisors   = []int{1, 2, 3, 4, 6, 8, 12, 16, 24, 32, 48, 64, 96, 192}
)

// same tells whether a and b are alike bit by bit.
func same(a, b complex128) bool {
	return math.Float64bits(real(a)) == math.Float64bits(real(b)) && math.Float64bits(imag(a)) == math.Float64bits(imag(b))
}

// times i, in noughts too.
func quarterTurned(a complex128) complex128 {
	return complex(-imag(a), real(a))
}

func conjugate(a complex128) complex128 {
	return complex(real(a), -imag(a))
}

// must answers a call's number, which has to come without an error.
func must[T any](t *testing.T) func(T, api.Errno) T {
	t.Helper()
	return func(x T, e api.Errno) T {
		t.Helper()
		if e != api.OK {
			t.Fatalf("error %d", e)
		}
		return x
	}
}

func power(t *testing.T, j, m int) api.Ring {
	t.Helper()
	return must[api.Ring](t)(ring.Root(j, m))
}

// expectNear asks for the nearest number and the side of r.
func expectNear(t *testing.T, what string, r api.Ring) {
	t.Helper()
	if a, e := Near(r); e != api.OK || !same(a, truth(r)) {
		t.Errorf("%s: Near(%v) = %v, %d, want %v", what, r, a, e, truth(r))
	}
	if s, e := Side(r); e != api.OK || s != realPart(r, 0).Sign() {
		t.Errorf("%s: Side(%v) = %d, %d, want %d", what, r, s, e, realPart(r, 0).Sign())
	}
}

// samples answers numbers of the ring of m of all sizes: few powers, small ones, those at the bound.
func samples(m int, seed draw) []api.Ring {
	d := m / 3
	full := of(m)
	for i := range full.C {
		full.C[i] = most
	}
	list := []api.Ring{of(m), of(m, 1), of(m, -1), of(m, most), of(m, -most), full, at(m, map[int]int{d - 1: most}), at(m, map[int]int{0: most, d / 2: most}), at(m, map[int]int{0: most, d / 2: -most}), at(m, map[int]int{d / 2: 1, d - 1: -1})}
	for _, reach := range []int{1, 2, 9, 1000, 1 << 20, 1 << 26, 1 << 40, most} {
		for range 4 {
			list = append(list, seed.number(m, reach))
		}
	}
	return list
}

func TestOf(t *testing.T) { // P17.1
	for _, m := range divisors {
		for _, j := range []int{0, 1, 2, m / 4, m / 3, m / 2, 2 * m / 3, m - 1, m, m + 1, -1, -m, 1000000007, -1000000007, math.MaxInt, math.MinInt, math.MinInt + 1} {
			k := (j%m + m) % m * (192 / m)
			want := complex(rounded(new(big.Int).Rsh(nearSharp(k), behind-sharp)), rounded(new(big.Int).Rsh(nearSharp(k+144), behind-sharp)))
			if a, e := Of(j, m); e != api.OK || !same(a, want) {
				t.Errorf("Of(%d, %d) = %v, %d, want %v", j, m, a, e, want)
			}
		}
	}
	for j := -400; j < 400; j++ {
		k := (j%192 + 192) % 192
		want := complex(rounded(new(big.Int).Rsh(nearSharp(k), behind-sharp)), rounded(new(big.Int).Rsh(nearSharp(k+144), behind-sharp)))
		if a, e := Of(j, 192); e != api.OK || !same(a, want) {
			t.Errorf("Of(%d, 192) = %v, %d, want %v", j, a, e, want)
		}
	}
}

// nearSharp answers the cosine of k 192nds of a turn, so that what is cut behind sharp is rounded.
func nearSharp(k int) *big.Int {
	half := new(big.Int).Lsh(big.NewInt(1), behind-sharp-1)
	return half.Add(half, circleCosines()[k%192])
}

func TestOfByHand(t *testing.T) { // P17.1: the chapter's examples, and parts that are just what they are
	third, eighth := math.Float64frombits(0x3febb67ae8584caa), math.Float64frombits(0x3fe6a09e667f3bcd)
	for _, c := range []struct {
		j, m int
		want complex128
	}{
		{0, 1, 1}, {1, 4, 1i}, {1, 2, -1}, {3, 4, -1i}, {5, 1, 1}, {-3, 4, 1i}, {7, 2, -1},
		{1, 6, complex(0.5, third)}, {1, 3, complex(-0.5, third)}, {2, 3, complex(-0.5, -third)}, {5, 6, complex(0.5, -third)},
		{1, 12, complex(third, 0.5)}, {5, 12, complex(-third, 0.5)}, {7, 12, complex(-third, -0.5)}, {11, 12, complex(third, -0.5)},
		{1, 8, complex(eighth, eighth)}, {3, 8, complex(-eighth, eighth)}, {5, 8, complex(-eighth, -eighth)}, {7, 8, complex(eighth, -eighth)},
	} {
		if a, e := Of(c.j, c.m); e != api.OK || !same(a, c.want) {
			t.Errorf("Of(%d, %d) = %v, %d, want %v", c.j, c.m, a, e, c.want)
		}
	}
}

func TestOfWrong(t *testing.T) { // Errors: m is not above 0, or doesn't divide 192
	for m := -400; m <= 800; m++ {
		want := api.ErrArg
		if slices.Contains(divisors, m) {
			want = api.OK
		}
		for _, j := range []int{0, 1, math.MinInt, math.MaxInt} {
			if a, e := Of(j, m); e != want || e != api.OK && !same(a, 0) {
				t.Errorf("Of(%d, %d) = %v, %d, want %d", j, m, a, e, want)
			}
		}
	}
	for _, m := range []int{math.MinInt, math.MinInt + 192, math.MaxInt, 1 << 40, -192 << 32} {
		if a, e := Of(1, m); e != api.ErrArg || !same(a, 0) {
			t.Errorf("Of(1, %d) = %v, %d", m, a, e)
		}
	}
}

func TestNear(t *testing.T) { // P17.2, P17.3
	for i, m := range finenesses {
		for _, r := range samples(m, draw(i)) {
			expectNear(t, "sample", r)
		}
	}
}

func TestNearByHand(t *testing.T) { // P17.2, P17.3: the chapter's examples
	third := math.Float64frombits(0x3febb67ae8584caa)
	for _, c := range []struct {
		r    api.Ring
		want complex128
		side int
	}{
		{of(24), 0, 0},
		{at(24, map[int]int{6: 1}), 1i, 0},
		{of(24, most), most, 1},
		{of(24, -most), -most, -1},
		{of(24, most-1, 0, 0, 0, 1), complex(most-0.5, third), 1},
		{of(24, most, 0, 0, 0, 1), complex(most, third), 1},
		{of(24, -140, 99, 0, 99, 0, -99), complex(rounded(realPart(of(24, -140, 99, 0, 99, 0, -99), 0)), 99*math.Sqrt2), 1},
		{of(24, 1, 0, 0, 0, -2), complex(0, -2*third), 0},
		{of(24, 0, 0, 0, 0, 1), complex(0.5, third), 1},
		{of(24, -1, 0, 0, 0, 1), complex(-0.5, third), -1},
	} {
		a, e := Near(c.r)
		if c.r.C[1] == 99 {
			a, c.want = complex(real(a), 0), complex(real(c.want), 0)
		}
		if e != api.OK || !same(a, c.want) {
			t.Errorf("Near(%v) = %v, %d, want %v", c.r, a, e, c.want)
		}
		if s, e := Side(c.r); e != api.OK || s != c.side {
			t.Errorf("Side(%v) = %d, %d, want %d", c.r, s, e, c.side)
		}
	}
	for j, want := range map[int]int{5: 1, 6: 0, 7: -1, 17: -1, 18: 0, 19: 1} {
		if s, e := Side(power(t, j, 24)); e != api.OK || s != want {
			t.Errorf("Side(Root(%d, 24)) = %d, %d, want %d", j, s, e, want)
		}
	}
	if s, e := Side(of(24, -141, 99, 0, 99, 0, -99)); e != api.OK || s != -1 {
		t.Errorf("Side of 99 roots of 2 less 141 = %d, %d", s, e)
	}
}

func TestNearTies(t *testing.T) { // P17.2: to the even one, where just half of a last place is left over
	for _, c := range []struct {
		whole, halves int
		want          float64
	}{
		{most, 1, most}, {most, 3, most + 2}, {most, 5, most + 2}, {most, 7, most + 4}, {most, 2, most + 1}, {most, -1, most - 0.5}, {most - 1, 3, most}, {most - 1, 4, most + 1},
		{most, most, most + most/2}, {most, most - 1, most + most/2}, {most, most - 3, most + most/2 - 2}, {most, most - 5, most + most/2 - 2}, {0, 1, 0.5}, {3, -7, -0.5}, {most, -most + 1, most/2 + 0.5}, {-1, 2, 0}, {5, -10, 0},
	} {
		for i, m := range finenesses {
			for _, sign := range []int{1, -1} {
				want := c.want * float64(sign)
				if c.want == 0 {
					want = 0 // a nought is +0
				}
				r := at(m, map[int]int{0: sign * c.whole, m / 6: sign * c.halves})
				if a, e := Near(r); e != api.OK || math.Float64bits(real(a)) != math.Float64bits(want) {
					t.Errorf("Near(%v) = %v, %d, want the real part %v", r, a, e, want)
				}
				expectNear(t, "tie", r)
				// The same beside powers that turn the imaginary part alone, and as an imaginary part.
				r.C[m/4] = most - i
				expectNear(t, "tie", r)
				expectNear(t, "tie", at(m, map[int]int{m / 4: sign * c.whole, m / 12: sign * c.halves}))
			}
		}
	}
}

func TestNearHard(t *testing.T) { // P17.2, P17.3, P17.5: some 1600 places behind the point
	tiny := 0
	for _, h := range hard() {
		r := h.ring()
		expectNear(t, h.name, r)
		back, e := ring.Neg(r)
		if e != api.OK {
			t.Fatal(e)
		}
		expectNear(t, h.name+", below 0", back)
		turned, e := ring.Mul(power(t, h.m/4, h.m), r)
		if e != api.OK {
			t.Fatal(e)
		}
		expectNear(t, h.name+", a quarter of a turn further", turned)
		if a, _ := Near(r); math.Abs(real(a)) < 0x1p-1022 {
			tiny++
		}
		// Beside 2^52 and a half it decides to which side that is rounded.
		side := realPart(r, 0).Sign()
		tie := tieBeside(r)
		expectNear(t, h.name+", beside a tie", tie)
		if size := new(big.Int).Abs(realPart(r, 0)); size.BitLen() < sharp-60 {
			want := most + float64((side+1)/2)
			if a, _ := Near(tie); real(a) != want {
				t.Errorf("%s: beside a tie Near = %v, want %v", h.name, a, want)
			}
		}
	}
	if tiny < 10 {
		t.Errorf("only %d real parts below 2^-1022", tiny)
	}
}

// tieBeside answers r, 2^52 and a half: in half of it the sixth of a turn stands instead of the 1.
func tieBeside(r api.Ring) api.Ring {
	m := r.M
	tie := api.Ring{M: m, C: slices.Clone(r.C)}
	tie.C[0] += most / 2
	tie.C[m/6] += most + 1
	for tie.C[m/6] > most {
		tie.C[0]++
		tie.C[m/6] -= 2
	}
	return tie
}

func TestNearUnderflow(t *testing.T) { // P17.2: what is rounded to 0 becomes the nought of its sign
	over, under := 0, 0
	for _, h := range hard() {
		for _, sign := range []int{1, -1} {
			r := must[api.Ring](t)(ring.Times(sign, h.ring()))
			side := realPart(r, 0).Sign()
			a, e := Near(r)
			if e != api.OK || side == 0 {
				t.Fatalf("%s: %d, side %d", h.name, e, side)
			}
			if real(a) == 0 {
				if math.Signbit(real(a)) != (side < 0) {
					t.Errorf("%s: %v, of a real part with the sign %d", h.name, real(a), side)
				}
				if side > 0 {
					over++
				} else {
					under++
				}
			}
		}
	}
	if over < 2 || under < 2 {
		t.Errorf("%d noughts above, %d below", over, under)
	}
}

func TestNearWrong(t *testing.T) { // Errors: r is not in form
	wrong := []api.Ring{
		{}, {M: 24}, {M: 24, C: make([]int, 7)}, {M: 24, C: make([]int, 9)}, {M: 48, C: make([]int, 8)}, {M: 192, C: make([]int, 63)}, {M: 192, C: make([]int, 65)},
		{M: 12, C: make([]int, 4)}, {M: 72, C: make([]int, 24)}, {M: 384, C: make([]int, 128)}, {M: 0, C: []int{}}, {M: -24, C: make([]int, 8)}, {M: math.MinInt}, {M: math.MaxInt, C: make([]int, 8)},
	}
	for _, m := range finenesses {
		for _, n := range []int{most + 1, -most - 1, math.MaxInt, math.MinInt} {
			wrong = append(wrong, at(m, map[int]int{0: n}), at(m, map[int]int{m/3 - 1: n}), at(m, map[int]int{m / 4: n}))
		}
	}
	for _, r := range wrong {
		if a, e := Near(r); e != api.ErrForm || !same(a, 0) {
			t.Errorf("Near(%v) = %v, %d", r, a, e)
		}
		if s, e := Side(r); e != api.ErrForm || s != 0 {
			t.Errorf("Side(%v) = %d, %d", r, s, e)
		}
	}
}

func TestOfLaws(t *testing.T) { // P17.4: Near(Root(j, m)) is Of(j, m), conjugates, quarters of a turn, finer parts
	for _, m := range divisors {
		for j := -m; j <= 2*m; j++ {
			a := must[complex128](t)(Of(j, m))
			if back, _ := Of(-j, m); back != conjugate(a) {
				t.Errorf("Of(%d, %d) = %v, and %v turned back", j, m, a, back)
			}
			if m%4 == 0 {
				if further, _ := Of(j+m/4, m); further != quarterTurned(a) {
					t.Errorf("Of(%d, %d) = %v, and %v a quarter further", j, m, a, further)
				}
			}
			if 192%(2*m) == 0 {
				if fine, _ := Of(2*j, 2*m); !same(fine, a) {
					t.Errorf("Of(%d, %d) = %v, and finer %v", j, m, a, fine)
				}
			}
			if slices.Contains(finenesses, m) {
				if near, e := Near(power(t, j, m)); e != api.OK || !same(near, a) {
					t.Errorf("Of(%d, %d) = %v, Near %v, %d", j, m, a, near, e)
				}
			}
		}
	}
}

func TestNearLaws(t *testing.T) { // P17.4: conjugates, numbers of the other sign; finer rings tell the same
	for i, m := range finenesses {
		list := samples(m, draw(100+i))
		for _, h := range hard() {
			if h.m == m {
				list = append(list, h.ring())
			}
		}
		for _, r := range list {
			a := must[complex128](t)(Near(r))
			if c, e := ring.Conj(r); e == api.OK {
				if b, f := Near(c); f != api.OK || b != conjugate(a) {
					t.Errorf("Near(%v) = %v, of the conjugate %v, %d", r, a, b, f)
				}
			}
			n := must[api.Ring](t)(ring.Neg(r))
			if b, e := Near(n); e != api.OK || b != -a {
				t.Errorf("Near(%v) = %v, of -r %v, %d", r, a, b, e)
			}
			if p, q := must[int](t)(Side(r)), must[int](t)(Side(n)); p != -q {
				t.Errorf("Side(%v) = %d, of -r %d", r, p, q)
			}
			fine := must[api.Ring](t)(ring.Finer(r, 192))
			if b, e := Near(fine); e != api.OK || !same(b, a) {
				t.Errorf("Near(%v) = %v, finer %v, %d", r, a, b, e)
			}
		}
	}
}

func TestMemory(t *testing.T) { // DOC.md, Memory: nothing handed in is changed, what lies behind it isn't read
	for i, m := range finenesses {
		for _, r := range samples(m, draw(200+i)) {
			room := append(slices.Clone(r.C), most, -7, math.MinInt)
			before := slices.Clone(room)
			short := api.Ring{M: m, C: room[:len(r.C)]}
			a, e := Near(short)
			s, f := Side(short)
			if e != api.OK || f != api.OK || !same(a, truth(r)) || s != realPart(r, 0).Sign() {
				t.Errorf("Near(%v) = %v, %d, Side %d, %d", r, a, e, s, f)
			}
			if !slices.Equal(room, before) {
				t.Errorf("%v became %v", before, room)
			}
		}
	}
}

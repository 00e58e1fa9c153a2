package cplx

import (
	"math"
	"math/big"
	"slices"
	"testing"

	"facet/api"
)

// places are enough bits for every sum and product of two floats.
const places = 2200

const (
	most  = math.MaxFloat64
	least = math.SmallestNonzeroFloat64
)

var (
	inf   = math.Inf(1)
	nan   = math.NaN()
	minus = math.Copysign(0, -1)
)

// alike: are two floats the same, bit by bit, NaNs as one?
func alike(x, y float64) bool {
	return math.IsNaN(x) && math.IsNaN(y) || math.Float64bits(x) == math.Float64bits(y)
}

func bothAlike(a, b complex128) bool {
	return alike(real(a), real(b)) && alike(imag(a), imag(b))
}

// specials answers noughts, infinities, NaNs of several bits, the least and the greatest numbers, and plain ones.
func specials() []float64 {
	return []float64{0, minus, 1, -1, 0.1, -3, 1 + 0x1p-52, inf, -inf, nan, math.Float64frombits(0xfff0000000000001), math.Float64frombits(0x7ff8000000000123),
		least, -least, 0x1p-1022, -0x1p-1022 + least, most, -most, 0x1p1000, 0x1p-900, 0x1p512, 0x1p-540}
}

func pairsOf(list []float64) []complex128 {
	var all []complex128
	for _, x := range list {
		for _, y := range list {
			all = append(all, complex(x, y))
		}
	}
	return all
}

// draw makes numbers that look like chance, the same ones in every run.
type draw uint64

func (d *draw) next() uint64 {
	*d = *d*6364136223846793005 + 1442695040888963407
	return uint64(*d >> 32)
}

// float answers a number with all bits drawn, its exponent of 2 from -reach to reach.
func (d *draw) float(reach int) float64 {
	fraction := float64(d.next()<<21^d.next())*0x1p-53 + 1
	x := math.Ldexp(fraction, int(d.next()%uint64(2*reach+1))-reach)
	if d.next()%2 == 0 {
		return -x
	}
	return x
}

func (d *draw) number(reach int) complex128 {
	x := d.float(reach)
	return complex(x, d.float(reach))
}

// drawn answers numbers of all sizes: with parts of like size, of unlike size, at the ends of the exponents.
func drawn(seed draw, count int) []complex128 {
	var list []complex128
	for range count {
		list = append(list, seed.number(0), seed.number(3), seed.number(60), seed.number(500), seed.number(1020))
		list = append(list, complex(seed.float(2)*0x1p-1060, seed.float(30)*0x1p-1030))
	}
	return list
}

// rounded answers the float64 nearest to x, of which it knows all places; sign is that of a nought.
func rounded(x *big.Float, sign float64) float64 {
	if x.Sign() == 0 {
		return math.Copysign(0, sign)
	}
	f, _ := x.Float64()
	return f
}

func exact(x float64) *big.Float {
	return new(big.Float).SetPrec(places).SetFloat64(x)
}

func exactProduct(x, y float64) float64 {
	return rounded(new(big.Float).SetPrec(places).Mul(exact(x), exact(y)), math.Copysign(1, x)*math.Copysign(1, y))
}

// exactSum is that of finite floats; a nought that comes of unlike parts is +0.
func exactSum(x, y float64) float64 {
	if math.IsInf(x, 0) || math.IsInf(y, 0) {
		return x + y
	}
	sign := 1.0
	if x == 0 && y == 0 && math.Signbit(x) && math.Signbit(y) {
		sign = -1
	}
	return rounded(new(big.Float).SetPrec(places).Add(exact(x), exact(y)), sign)
}

func TestSame(t *testing.T) { // P16.1
	list := pairsOf(specials())
	for _, a := range list {
		for _, b := range list {
			if Same(a, b) != bothAlike(a, b) {
				t.Errorf("Same(%v, %v) = %v", a, b, Same(a, b))
			}
		}
	}
	for _, c := range []struct {
		a, b complex128
		want bool
	}{
		{complex(nan, 1), complex(math.Float64frombits(0xfff0000000000001), 1), true},
		{complex(1, nan), complex(1, -nan), true}, {complex(nan, 1), complex(nan, 2), false}, {complex(nan, 0), complex(nan, minus), false},
		{complex(nan, 1), complex(1, nan), false}, {0, complex(0, minus), false}, {0, complex(minus, 0), false}, {complex(minus, minus), complex(minus, minus), true},
		{complex(inf, -inf), complex(inf, -inf), true}, {complex(inf, 0), complex(-inf, 0), false}, {complex(nan, 0), complex(inf, 0), false}, {1, complex(1+0x1p-52, 0), false},
	} {
		if Same(c.a, c.b) != c.want {
			t.Errorf("Same(%v, %v) = %v", c.a, c.b, !c.want)
		}
	}
}

func TestFinite(t *testing.T) { // P16.1
	isNumber := func(x float64) bool { return x >= -most && x <= most }
	for _, a := range pairsOf(specials()) {
		if want := isNumber(real(a)) && isNumber(imag(a)); Finite(a) != want {
			t.Errorf("Finite(%v) = %v", a, !want)
		}
	}
}

func TestPlain(t *testing.T) { // P16.1
	for _, c := range []struct{ a, want complex128 }{
		{complex(minus, 5), complex(0, 5)}, {complex(5, minus), complex(5, 0)}, {complex(minus, minus), 0}, {0, 0}, {complex(minus, nan), complex(0, nan)}, {complex(-inf, minus), complex(-inf, 0)}, {complex(-least, least), complex(-least, least)},
	} {
		if p := Plain(c.a); !bothAlike(p, c.want) {
			t.Errorf("Plain(%v) = %v, want %v", c.a, p, c.want)
		}
	}
	for _, a := range append(pairsOf(specials()), drawn(1, 40)...) {
		p := Plain(a)
		for _, part := range [][2]float64{{real(a), real(p)}, {imag(a), imag(p)}} {
			if part[0] == 0 && !alike(part[1], 0) || part[0] != 0 && !alike(part[1], part[0]) {
				t.Errorf("Plain(%v) = %v", a, p)
			}
		}
	}
}

func TestConj(t *testing.T) { // P16.2
	if c := Conj(1); !bothAlike(c, complex(1, minus)) {
		t.Errorf("Conj(1) = %v", c)
	}
	for _, a := range append(pairsOf(specials()), drawn(2, 40)...) {
		c := Conj(a)
		if !alike(real(c), real(a)) || !alike(imag(c), math.Copysign(imag(a), -math.Copysign(1, imag(a)))) {
			t.Errorf("Conj(%v) = %v", a, c)
		}
		if !bothAlike(Conj(c), a) {
			t.Errorf("Conj of Conj(%v) = %v", a, Conj(c))
		}
	}
}

func TestScale(t *testing.T) { // P16.2
	for _, c := range []struct {
		x       float64
		a, want complex128
	}{
		{0, complex(-1, inf), complex(minus, nan)}, {minus, complex(-1, 2), complex(0, minus)}, {-1, 0, complex(minus, minus)}, {2, complex(most, -most), complex(inf, -inf)},
		{0.5, complex(least, 3*least), complex(0, 2*least)}, {-0.5, complex(least, -least), complex(minus, 0)}, {nan, 1, complex(nan, nan)}, {inf, complex(1, 0), complex(inf, nan)}, {0.1, complex(3, 10), complex(0x1.3333333333334p-2, 1)},
	} {
		if s := Scale(c.x, c.a); !bothAlike(s, c.want) {
			t.Errorf("Scale(%v, %v) = %v, want %v", c.x, c.a, s, c.want)
		}
	}
	d := draw(3)
	for _, a := range drawn(4, 60) {
		for _, x := range []float64{d.float(0), d.float(70), d.float(1000), 0, minus, -1} {
			want := complex(exactProduct(x, real(a)), exactProduct(x, imag(a)))
			if s := Scale(x, a); !bothAlike(s, want) {
				t.Errorf("Scale(%v, %v) = %v, want %v", x, a, s, want)
			}
		}
	}
}

// mulByHand rounds each of the four products from all its places, then their difference and sum.
func mulByHand(a, b complex128) complex128 {
	re, im, c, d := real(a), imag(a), real(b), imag(b)
	return complex(exactSum(exactProduct(re, c), -exactProduct(im, d)), exactSum(exactProduct(re, d), exactProduct(im, c)))
}

func TestMul(t *testing.T) { // P16.3
	for _, c := range []struct{ a, b, want complex128 }{
		{1i, 1i, complex(-1, 0)}, {1, complex(minus, minus), complex(0, minus)}, {complex(1, 2), complex(3, 4), complex(-5, 10)}, {complex(1, -2), complex(3, 4), complex(11, -2)},
		{complex(inf, 0), 1, complex(inf, nan)}, {complex(0, minus), 5, 0}, {complex(inf, inf), complex(inf, inf), complex(nan, inf)}, {complex(nan, 0), 0, complex(nan, nan)},
		{complex(most, 0), complex(2, 2), complex(inf, inf)}, {complex(most, most), complex(2, 2), complex(nan, inf)}, {complex(least, 0), complex(0.5, 0.75), complex(0, least)},
		{complex(minus, 0), complex(1, 0), complex(minus, 0)}, {complex(0, 1), complex(0, minus), 0},
	} {
		if p := Mul(c.a, c.b); !bothAlike(p, c.want) {
			t.Errorf("Mul(%v, %v) = %v, want %v", c.a, c.b, p, c.want)
		}
	}
	list := drawn(5, 12)
	for _, a := range list {
		for _, b := range list {
			if p, want := Mul(a, b), mulByHand(a, b); !bothAlike(p, want) {
				t.Errorf("Mul(%v, %v) = %v, want %v", a, b, p, want)
			}
		}
	}
}

func TestNothingIsFused(t *testing.T) { // P16.3, P16.4: each product is rounded ahead of the sum
	x, y := 1+0x1p-27, 1+0x1p-26 // x*x is 1 + 2^-26 + 2^-54, which is rounded to y
	if !alike(exactProduct(x, x), y) {
		t.Fatal("not a sample")
	}
	if p := Mul(complex(x, 1), complex(x, y)); real(p) != 0 {
		t.Errorf("the real part's first product is fused: %g", real(p))
	}
	if p := Mul(complex(1, x), complex(y, x)); real(p) != 0 {
		t.Errorf("the real part's second product is fused: %g", real(p))
	}
	if p := Mul(complex(x, -1), complex(y, x)); imag(p) != 0 {
		t.Errorf("the imaginary part's first product is fused: %g", imag(p))
	}
	if p := Mul(complex(1, x), complex(x, -y)); imag(p) != 0 {
		t.Errorf("the imaginary part's second product is fused: %g", imag(p))
	}
	for _, a := range drawn(6, 300) {
		re, im := real(a), imag(a)
		if n, want := Abs2(a), exactSum(exactProduct(re, re), exactProduct(im, im)); !alike(n, want) {
			t.Errorf("Abs2(%v) = %v, want %v", a, n, want)
		}
	}
}

func TestAbs2(t *testing.T) { // P16.4
	for _, c := range []struct {
		a    complex128
		want float64
	}{
		{complex(3, 4), 25}, {complex(-3, 4), 25}, {complex(minus, minus), 0}, {complex(minus, 0), 0}, {complex(inf, 1), inf}, {complex(1, -inf), inf}, {complex(inf, nan), nan}, {complex(nan, 1), nan}, {complex(1, nan), nan},
		{complex(most, 0), inf}, {complex(least, least), 0}, {complex(0x1p-537, 0), least}, {complex(0x1p511, 0x1p511), 0x1p1023}, {complex(0x1p511, -0x1p512), inf},
	} {
		if n := Abs2(c.a); !alike(n, c.want) {
			t.Errorf("Abs2(%v) = %v, want %v", c.a, n, c.want)
		}
	}
}

// absByHand rounds every step of the chapter's way from many places; a is finite.
func absByHand(a complex128) float64 {
	m, n := math.Abs(real(a)), math.Abs(imag(a))
	if m < n {
		m, n = n, m
	}
	if m == 0 {
		return 0
	}
	t := exactQuotient(n, m)
	root, _ := new(big.Float).SetPrec(300).Sqrt(exact(exactSum(1, exactProduct(t, t)))).Float64()
	return exactProduct(m, root)
}

// exactQuotient is that of finite floats, the second no nought.
func exactQuotient(x, y float64) float64 {
	return rounded(new(big.Float).SetPrec(300).Quo(exact(x), exact(y)), math.Copysign(1, x)*math.Copysign(1, y))
}

func TestAbs(t *testing.T) { // P16.4
	for _, c := range []struct {
		a    complex128
		want float64
	}{
		{complex(3, 4), 5}, {complex(-4, 3), 5}, {complex(0, -2), 2}, {complex(minus, 0), 0}, {complex(0, minus), 0}, {complex(minus, minus), 0}, {0, 0},
		{complex(nan, inf), inf}, {complex(nan, -inf), inf}, {complex(-inf, nan), inf}, {complex(inf, 0), inf}, {complex(-inf, -inf), inf}, {complex(nan, 1), nan}, {complex(0, nan), nan}, {complex(nan, nan), nan},
		{complex(most, most), inf}, {complex(most, 0), most}, {complex(0, -most), most}, {complex(0x1.8p1023, -0x1.8p1023), inf}, {complex(0x1p1023, 0x1p1022), 0x1.1e3779b97f4a8p1023},
		{complex(least, 0), least}, {complex(0, -least), least}, {complex(least, least), least}, {complex(3*least, -4*least), 5 * least}, {complex(0x1p-600, 0x1p-600), 0x1.6a09e667f3bcdp-600}, {complex(0x1p600, 0x1p600), 0x1.6a09e667f3bcdp600},
		{complex(1, 0x1p-27), 1}, {complex(1, 1), 0x1.6a09e667f3bcdp0},
	} {
		if n := Abs(c.a); !alike(n, c.want) {
			t.Errorf("Abs(%v) = %v, want %v", c.a, n, c.want)
		}
	}
	for _, a := range drawn(7, 300) {
		if n, want := Abs(a), absByHand(a); !alike(n, want) {
			t.Errorf("Abs(%v) = %v, want %v", a, n, want)
		}
	}
}

// unitByHand answers what the chapter says of a number that is finite and none of the noughts.
func unitByHand(a complex128) complex128 {
	m := max(math.Abs(real(a)), math.Abs(imag(a)))
	x := 1.0
	if m >= math.Ldexp(1, 1000) {
		x = math.Ldexp(1, -200)
	} else if m < math.Ldexp(1, -900) {
		x = math.Ldexp(1, 200)
	}
	re, im := exactProduct(x, real(a)), exactProduct(x, imag(a))
	length := absByHand(complex(re, im))
	return complex(exactQuotient(re, length), exactQuotient(im, length))
}

func TestUnit(t *testing.T) { // P16.5
	for _, c := range []struct {
		a, want complex128
		e       api.Errno
	}{
		{complex(0, -7), complex(0, -1), api.OK}, {complex(minus, 2), complex(minus, 1), api.OK}, {complex(-2, minus), complex(-1, minus), api.OK}, {complex(3, -4), complex(0.6, -0.8), api.OK},
		{complex(least, 0), 1, api.OK}, {complex(0, -least), complex(0, -1), api.OK}, {complex(most, 0), 1, api.OK}, {complex(minus, -most), complex(minus, -1), api.OK},
		{0, 0, api.ErrZero}, {complex(minus, minus), 0, api.ErrZero}, {complex(0, minus), 0, api.ErrZero}, {complex(minus, 0), 0, api.ErrZero},
		{complex(inf, 0), 0, api.ErrNaN}, {complex(0, -inf), 0, api.ErrNaN}, {complex(0, nan), 0, api.ErrNaN}, {complex(nan, 0), 0, api.ErrNaN}, {complex(inf, nan), 0, api.ErrNaN}, {complex(nan, nan), 0, api.ErrNaN}, {complex(minus, inf), 0, api.ErrNaN},
	} {
		if u, e := Unit(c.a); e != c.e || !bothAlike(u, c.want) {
			t.Errorf("Unit(%v) = %v, %d, want %v, %d", c.a, u, e, c.want, c.e)
		}
	}
}

func TestUnitOfAllSizes(t *testing.T) { // P16.5: at the sizes from which numbers are scaled, and one float before them
	list := append(drawn(8, 200), complex(most, -most), complex(least, -least), complex(3*least, 5*least), complex(3, 5))
	for _, size := range []float64{0x1p1000, math.Nextafter(0x1p1000, 0), 0x1p-900, math.Nextafter(0x1p-900, 0), math.Nextafter(0x1p-900, 1)} {
		for _, other := range []float64{0, minus, size, size / 3, size * 0x1p-30, -size * 0x1p-174, least, 7 * least, -0x1p-1022, 3 * 0x1p-875, 0x1.fffffffffffffp-874} {
			if math.Abs(other) <= size {
				list = append(list, complex(size, other), complex(other, size), complex(-size, -other))
			}
		}
	}
	for _, a := range list {
		u, e := Unit(a)
		if want := unitByHand(a); e != api.OK || !bothAlike(u, want) {
			t.Errorf("Unit(%v) = %v, %d, want %v", a, u, e, want)
		}
		if off := math.Abs(Abs2(u) - 1); off > 1e-14 {
			t.Errorf("Unit(%v) = %v: its size is off by %g", a, u, off)
		}
	}
}

func TestNarrow(t *testing.T) { // P16.6
	inf32 := float32(inf)
	const most32 = 0x1.fffffep127
	for _, c := range []struct {
		x    float64
		want float32
	}{
		{0.1, 0.1}, {0, 0}, {minus, float32(minus)}, {0x1p200, inf32}, {-0x1p200, -inf32}, {most, inf32}, {inf, inf32}, {-inf, -inf32}, {most32, most32}, {-most32, -most32},
		{0x1.fffffeffffffep127, most32}, {0x1.ffffffp127, inf32}, {-0x1.ffffffp127, -inf32}, // below and at the half of a last place
		{1 + 0x1p-24, 1}, {1 + 0x1p-24 + 0x1p-52, 1 + 0x1p-23}, {1 + 0x1.8p-23, 1 + 0x1p-22}, {0x1p-149, 0x1p-149}, {0x1p-150, 0}, {-0x1p-150, float32(minus)}, {0x1.0000000000001p-150, 0x1p-149}, {0x1.8p-149, 0x1p-148}, {-least, float32(minus)},
	} {
		for _, n := range []complex64{Narrow(complex(c.x, 2)), changed(Narrow(complex(2, c.x)))} {
			if math.Float32bits(real(n)) != math.Float32bits(c.want) || imag(n) != 2 {
				t.Errorf("Narrow with %v = %v, want %v", c.x, n, c.want)
			}
		}
	}
	if n := Narrow(complex(nan, 1)); real(n) == real(n) || imag(n) != 1 {
		t.Errorf("Narrow of a NaN = %v", n)
	}
	if n := Narrow(complex(1, nan)); imag(n) == imag(n) || real(n) != 1 {
		t.Errorf("Narrow of a NaN = %v", n)
	}
}

// changed changes the two parts about.
func changed(a complex64) complex64 { return complex(imag(a), real(a)) }

func TestWide(t *testing.T) { // P16.6: the same number, which Narrow brings back
	list := []float32{0, float32(minus), 0.1, -3, 0x1p-149, -0x1p-126, math.MaxFloat32, float32(inf), float32(-inf), float32(nan)}
	for _, x := range list {
		for _, y := range list {
			a := complex(x, y)
			w := Wide(a)
			if !alike(real(w), float64(x)) || !alike(imag(w), float64(y)) {
				t.Errorf("Wide(%v) = %v", a, w)
			}
			if !Same(Wide(Narrow(w)), w) {
				t.Errorf("Wide of Narrow(%v) = %v", w, Wide(Narrow(w)))
			}
		}
	}
}

func TestSum(t *testing.T) { // P16.7
	tiny := 0x1p-53
	for _, c := range []struct {
		list []complex128
		want complex128
	}{
		{nil, 0}, {[]complex128{}, 0}, {[]complex128{complex(minus, minus)}, 0}, {[]complex128{complex(minus, minus), complex(minus, 1)}, complex(0, 1)}, {[]complex128{5, -5}, 0},
		{[]complex128{1, complex(tiny, 0), complex(tiny, 0)}, 1}, {[]complex128{complex(tiny, 0), complex(tiny, 0), 1}, complex(1+2*tiny, 0)}, {[]complex128{1i, complex(0, tiny), complex(0, tiny)}, 1i},
		{[]complex128{complex(inf, 1), complex(-inf, 2)}, complex(nan, 3)}, {[]complex128{complex(most, 0), complex(most, 0), complex(-most, 0)}, complex(inf, 0)}, {[]complex128{complex(1, nan), 2}, complex(3, nan)},
	} {
		if s := Sum(c.list); !bothAlike(s, c.want) {
			t.Errorf("Sum(%v) = %v, want %v", c.list, s, c.want)
		}
	}
	for seed := range 40 {
		list := drawn(draw(seed), 5)
		if seed%2 == 0 {
			list = list[:0]
			for d := draw(seed); len(list) < 30; {
				list = append(list, d.number(4))
			}
		}
		var re, im float64
		for _, x := range list {
			re, im = exactSum(re, real(x)), exactSum(im, imag(x))
		}
		if s := Sum(list); !bothAlike(s, complex(re, im)) {
			t.Errorf("Sum(%v) = %v, want %v", list, s, complex(re, im))
		}
	}
}

func TestSumLeavesTheListAlone(t *testing.T) { // P16.7, DOC.md, Memory
	room := []complex128{1, 2i, complex(minus, 3), 99, complex(nan, 7)}
	before := slices.Clone(room)
	if s := Sum(room[:3]); s != complex(1, 5) {
		t.Errorf("Sum = %v: what lies behind the list is no part of it", s)
	}
	if !slices.EqualFunc(room, before, bothAlike) {
		t.Errorf("the list has changed: %v", room)
	}
}

func hasNaN(a complex128) bool {
	return math.IsNaN(real(a)) || math.IsNaN(imag(a))
}

func TestLaws(t *testing.T) { // P16.8
	list := append(pairsOf(specials()), drawn(9, 12)...)
	for _, a := range list {
		for _, b := range list {
			p := Mul(a, b)
			if !Same(p, Mul(b, a)) {
				t.Errorf("Mul(%v, %v) = %v, the other way %v", a, b, p, Mul(b, a))
			}
			if q := Mul(Conj(a), Conj(b)); !hasNaN(p) && q != Conj(p) {
				t.Errorf("Mul of the conjugates of %v, %v = %v", a, b, q)
			}
			if s := Sum([]complex128{a, b}); !hasNaN(s) && Sum([]complex128{Conj(a), Conj(b)}) != Conj(s) {
				t.Errorf("Sum of the conjugates of %v, %v is not the conjugate", a, b)
			}
		}
	}
	for seed := range 20 {
		list := drawn(draw(100+seed), 6)
		conjugates := make([]complex128, len(list))
		for i, a := range list {
			conjugates[i] = Conj(a)
		}
		if Sum(conjugates) != Conj(Sum(list)) {
			t.Errorf("Sum of the conjugates of %v is not the conjugate", list)
		}
	}
}

package ring

import (
	"fmt"
	"math"
	"math/big"
	"math/cmplx"
	"slices"
	"testing"

	"facet/api"
)

const most = 4503599627370496

var finenesses = []int{24, 48, 96, 192}

// of answers the number of the ring of m with these coefficients, and noughts behind them.
func of(m int, c ...int) api.Ring {
	return api.Ring{M: m, C: append(slices.Clone(c), make([]int, m/3-len(c))...)}
}

// at answers the number of the ring of m with these coefficients at these places.
func at(m int, coefficients map[int]int) api.Ring {
	r := of(m)
	for i, n := range coefficients {
		r.C[i] = n
	}
	return r
}

func same(a, b api.Ring) bool {
	return a.M == b.M && slices.Equal(a.C, b.C)
}

// draw makes numbers that look like chance, the same ones in every run.
type draw uint64

func (d *draw) below(n int) int {
	*d = *d*6364136223846793005 + 1442695040888963407
	high := uint64(*d >> 33)
	*d = *d*6364136223846793005 + 1442695040888963407
	return int((high<<31 ^ uint64(*d>>33)) % uint64(n))
}

// number answers a number of the ring of m with coefficients up to reach, some of them noughts.
func (d *draw) number(m, reach int) api.Ring {
	r := of(m)
	sparse := d.below(4)
	for i := range r.C {
		if d.below(4) >= sparse {
			r.C[i] = d.below(2*reach+1) - reach
		}
	}
	return r
}

// long is a number as a sum of all M powers of z, without bounds: its shape is not sought step by step but power by power.
type long []*big.Int

func newLong(m int) long {
	l := make(long, m)
	for i := range l {
		l[i] = new(big.Int)
	}
	return l
}

// spread answers a in the powers of the ring of m, each turned the other way if back.
func spread(a api.Ring, m int, back bool) long {
	l := newLong(m)
	for i, n := range a.C {
		i *= m / a.M
		if back {
			i = (m - i) % m
		}
		l[i].SetInt64(int64(n))
	}
	return l
}

func (l long) plus(k long) long {
	s := newLong(len(l))
	for i := range l {
		s[i].Add(l[i], k[i])
	}
	return s
}

func (l long) times(n int) long {
	s := newLong(len(l))
	for i := range l {
		s[i].Mul(l[i], big.NewInt(int64(n)))
	}
	return s
}

func (l long) mul(k long) long {
	p := newLong(len(l))
	one := new(big.Int)
	for i := range l {
		for j := range k {
			if l[i].Sign() != 0 && k[j].Sign() != 0 {
				p[(i+j)%len(l)].Add(p[(i+j)%len(l)], one.Mul(l[i], k[j]))
			}
		}
	}
	return p
}

// shape answers the coefficients: z^(3D/2) is -1, and the powers from D to there are z^(i-D/2) - z^(i-D).
func (l long) shape() []*big.Int {
	d := len(l) / 3
	c := newLong(d)
	for i, n := range l {
		n = new(big.Int).Set(n)
		if i >= 3*d/2 {
			i -= 3 * d / 2
			n.Neg(n)
		}
		if i < d {
			c[i].Add(c[i], n)
			continue
		}
		c[i-d/2].Add(c[i-d/2], n)
		c[i-d].Sub(c[i-d], n)
	}
	return c
}

// expect asks that r, e is the number l, or ErrOver if a coefficient is beyond MaxRing.
func expect(t *testing.T, what string, l long, r api.Ring, e api.Errno) {
	t.Helper()
	want, wantError := of(len(l)), api.OK
	for i, n := range l.shape() {
		if n.CmpAbs(big.NewInt(most)) > 0 {
			want, wantError = api.Ring{}, api.ErrOver
			break
		}
		want.C[i] = int(n.Int64())
	}
	if e != wantError || !same(r, want) {
		t.Errorf("%s = %v, %d, want %v, %d", what, r, e, want, wantError)
	}
}

// value answers roughly the complex number for which r stands.
func value(r api.Ring) complex128 {
	var s complex128
	for i, n := range r.C {
		s += complex(float64(n), 0) * cmplx.Rect(1, 2*math.Pi*float64(i)/float64(r.M))
	}
	return s
}

func root(t *testing.T, j, m int) api.Ring {
	t.Helper()
	return must(t)(Root(j, m))
}

func whole(t *testing.T, n, m int) api.Ring {
	t.Helper()
	return must(t)(Int(n, m))
}

// must answers a call's number, which has to be in form and to come without an error.
func must(t *testing.T) func(api.Ring, api.Errno) api.Ring {
	t.Helper()
	return func(r api.Ring, e api.Errno) api.Ring {
		t.Helper()
		if e != api.OK || !Form(r) {
			t.Fatalf("no number: %v, %d", r, e)
		}
		return r
	}
}

// samples answers numbers of the ring of m of all sizes: few powers, small ones, those at the bound.
func samples(m int, seed draw) []api.Ring {
	d := m / 3
	full := of(m)
	for i := range full.C {
		full.C[i] = most
	}
	list := []api.Ring{of(m), of(m, 1), of(m, -1), of(m, most), of(m, -most), full, at(m, map[int]int{d - 1: most}), at(m, map[int]int{0: most, d / 2: most}), at(m, map[int]int{0: most, d / 2: -most}), at(m, map[int]int{d / 2: 1, d - 1: -1})}
	for _, reach := range []int{1, 2, 9, 1000, 1 << 20, 1 << 26, 1 << 40, most} {
		list = append(list, seed.number(m, reach), seed.number(m, reach))
	}
	return list
}

// noForms answers numbers that are not in form.
func noForms() []api.Ring {
	list := []api.Ring{
		{},
		{M: 24},
		{M: 24, C: make([]int, 7)},
		{M: 24, C: make([]int, 9)},
		{M: 24, C: make([]int, 16)},
		{M: 48, C: make([]int, 8)},
		{M: 48, C: make([]int, 15)},
		{M: 192, C: make([]int, 63)},
		{M: 192, C: make([]int, 65)},
		{M: 12, C: make([]int, 4)},
		{M: 72, C: make([]int, 24)},
		{M: 384, C: make([]int, 128)},
		{M: 0, C: []int{}},
		{M: -24, C: make([]int, 8)},
		{M: math.MinInt},
		{M: math.MaxInt, C: make([]int, 8)},
	}
	for _, m := range finenesses {
		for _, n := range []int{most + 1, -most - 1, math.MaxInt, math.MinInt} {
			list = append(list, at(m, map[int]int{0: n}), at(m, map[int]int{m/3 - 1: n}), at(m, map[int]int{m / 6: n}))
		}
	}
	return list
}

func TestForm(t *testing.T) { // P15.1
	for _, m := range finenesses {
		for _, r := range samples(m, draw(m)) {
			if !Form(r) {
				t.Errorf("Form(%v) = false", r)
			}
		}
	}
	for _, r := range noForms() {
		if Form(r) {
			t.Errorf("Form(%v) = true", r)
		}
	}
}

func TestFormReadsNothingBehind(t *testing.T) { // P15.1, Memory: what lies behind a list's length is no part of it
	r := of(24, 1, 2, 3)
	r.C = append(r.C, math.MaxInt)[:8]
	if !Form(r) {
		t.Error("Form reads spare room")
	}
	r.C = make([]int, 8, 9)[:7]
	if Form(r) {
		t.Error("Form takes spare room for coefficients")
	}
}

func TestRoot(t *testing.T) { // P15.2
	for _, c := range []struct {
		j    int
		want api.Ring
	}{
		{0, of(24, 1)}, {1, of(24, 0, 1)}, {7, of(24, 0, 0, 0, 0, 0, 0, 0, 1)}, {8, of(24, -1, 0, 0, 0, 1)}, {11, of(24, 0, 0, 0, -1, 0, 0, 0, 1)},
		{12, of(24, -1)}, {6, of(24, 0, 0, 0, 0, 0, 0, 1)}, {13, of(24, 0, -1)}, {18, of(24, 0, 0, 0, 0, 0, 0, -1)}, {20, of(24, 1, 0, 0, 0, -1)},
		{-1, of(24, 0, 0, 0, 1, 0, 0, 0, -1)}, {23, of(24, 0, 0, 0, 1, 0, 0, 0, -1)}, {24, of(24, 1)}, {-24, of(24, 1)}, {240001, of(24, 0, 1)},
	} {
		if r, e := Root(c.j, 24); e != api.OK || !same(r, c.want) {
			t.Errorf("Root(%d, 24) = %v, %d, want %v", c.j, r, e, c.want)
		}
	}
	for _, m := range finenesses {
		for j := -m; j < 2*m; j++ {
			l := newLong(m)
			l[(j+m)%m].SetInt64(1)
			r, e := Root(j, m)
			expect(t, fmt.Sprintf("Root(%d, %d)", j, m), l, r, e)
			if off := cmplx.Abs(value(r) - cmplx.Rect(1, 2*math.Pi*float64(j)/float64(m))); off > 1e-12 {
				t.Errorf("Root(%d, %d) is off by %g", j, m, off)
			}
		}
		for _, j := range []int{math.MinInt, math.MinInt + 1, -5*m - 7, math.MaxInt, math.MaxInt - 1} {
			k := int(new(big.Int).Mod(big.NewInt(int64(j)), big.NewInt(int64(m))).Int64())
			if !same(root(t, j, m), root(t, k, m)) {
				t.Errorf("Root(%d, %d) is not Root(%d, %d)", j, m, k, m)
			}
		}
	}
}

func TestInt(t *testing.T) { // P15.2
	for _, m := range finenesses {
		for _, n := range []int{0, 1, -1, 17, most, -most, most - 1} {
			if r, e := Int(n, m); e != api.OK || !same(r, of(m, n)) {
				t.Errorf("Int(%d, %d) = %v, %d", n, m, r, e)
			}
		}
		for _, n := range []int{most + 1, -most - 1, math.MaxInt, math.MinInt} {
			if r, e := Int(n, m); e != api.ErrOver || !same(r, api.Ring{}) {
				t.Errorf("Int(%d, %d) = %v, %d, want ErrOver", n, m, r, e)
			}
		}
	}
}

func TestPartsOfATurn(t *testing.T) { // P15.2: m is one of four; and that is told ahead of what is too great
	for _, m := range []int{0, 1, 12, 23, 25, 36, 72, 144, 191, 384, -24, -48, math.MinInt, math.MaxInt} {
		if r, e := Root(1, m); e != api.ErrArg || !same(r, api.Ring{}) {
			t.Errorf("Root(1, %d) = %v, %d", m, r, e)
		}
		for _, n := range []int{0, most + 1, math.MinInt} {
			if r, e := Int(n, m); e != api.ErrArg || !same(r, api.Ring{}) {
				t.Errorf("Int(%d, %d) = %v, %d", n, m, r, e)
			}
		}
		for _, a := range []api.Ring{of(24), of(192, 1), {}, {M: m}} {
			if r, e := Finer(a, m); e != api.ErrArg || !same(r, api.Ring{}) {
				t.Errorf("Finer(%v, %d) = %v, %d", a, m, r, e)
			}
		}
	}
}

func TestSumsAndProducts(t *testing.T) { // P15.3: of two numbers of like and unlike M, and where answers are too great
	for _, m := range finenesses {
		for _, n := range finenesses {
			if m > n && n != 24 { // the lesser one first for all, last for some
				continue
			}
			greater := max(m, n)
			for i, a := range samples(m, draw(3*m)) {
				for j, b := range samples(n, draw(5*n+1)) {
					if m+n > 200 && (i+j)%4 != 0 {
						continue
					}
					x, y := spread(a, greater, false), spread(b, greater, false)
					r, e := Add(a, b)
					expect(t, fmt.Sprintf("Add(%v, %v)", a, b), x.plus(y), r, e)
					r, e = Sub(a, b)
					expect(t, fmt.Sprintf("Sub(%v, %v)", a, b), x.plus(y.times(-1)), r, e)
					r, e = Mul(a, b)
					expect(t, fmt.Sprintf("Mul(%v, %v)", a, b), x.mul(y), r, e)
				}
			}
		}
	}
}

func TestOfOne(t *testing.T) { // P15.3: Neg, Conj, Times
	factors := []int{0, 1, -1, 2, -2, 3, 1 << 12, -(1 << 26), most, -most, most + 1, 1 << 60, 1 << 61, math.MaxInt, math.MinInt, math.MinInt + 1}
	for _, m := range finenesses {
		for _, a := range samples(m, draw(7*m)) {
			r, e := Neg(a)
			expect(t, fmt.Sprintf("Neg(%v)", a), spread(a, m, false).times(-1), r, e)
			r, e = Conj(a)
			expect(t, fmt.Sprintf("Conj(%v)", a), spread(a, m, true), r, e)
			for _, n := range factors {
				r, e = Times(n, a)
				expect(t, fmt.Sprintf("Times(%d, %v)", n, a), spread(a, m, false).times(n), r, e)
			}
		}
	}
}

func TestExamples(t *testing.T) { // the chapter's examples of P15.3 and P15.4
	for _, c := range []struct{ got, want api.Ring }{
		{must(t)(Add(root(t, 4, 24), root(t, 20, 24))), of(24, 1)},
		{must(t)(Mul(root(t, 5, 24), root(t, 19, 24))), of(24, 1)},
		{must(t)(Conj(root(t, 6, 24))), of(24, 0, 0, 0, 0, 0, 0, -1)},
		{must(t)(Finer(root(t, 1, 24), 96)), of(96, 0, 0, 0, 0, 1)},
		{must(t)(Add(root(t, 1, 24), root(t, 1, 48))), of(48, 0, 1, 1)},
		{must(t)(Add(root(t, 1, 48), root(t, 1, 24))), of(48, 0, 1, 1)},
		{must(t)(Sub(root(t, 1, 24), root(t, 1, 48))), of(48, 0, -1, 1)},
		{must(t)(Mul(root(t, 1, 24), root(t, 1, 192))), root(t, 9, 192)},
		{must(t)(Add(must(t)(Add(of(24, 1), root(t, 8, 24))), root(t, 16, 24))), of(24)},
		{must(t)(Times(-1, of(24, most))), of(24, -most)},
		{must(t)(Times(1<<51, of(24, 2, 0, -2))), of(24, most, 0, -most)},
	} {
		if !same(c.got, c.want) {
			t.Errorf("%v, want %v", c.got, c.want)
		}
	}
	if r, e := Conj(of(24, most, 0, 0, 0, most)); e != api.ErrOver || !same(r, api.Ring{}) {
		t.Errorf("Conj of great coefficients = %v, %d", r, e)
	}
}

// power answers a to the n-th.
func power(t *testing.T, a api.Ring, n int) api.Ring {
	t.Helper()
	p := whole(t, 1, a.M)
	for range n {
		p = must(t)(Mul(p, a))
	}
	return p
}

func TestWhatComesUpOnTheWay(t *testing.T) { // P15.3, ErrOver: only the answer is bounded
	for _, m := range finenesses {
		eighth := must(t)(Add(root(t, m/8, m), root(t, -m/8, m))) // the square root of 2
		one := whole(t, 1, m)
		great, back := power(t, must(t)(Add(eighth, one)), 40), power(t, must(t)(Sub(eighth, one)), 40)
		if slices.Max(great.C) < 1<<49 {
			t.Fatalf("a small sample: %v", great)
		}
		if r, e := Mul(great, back); e != api.OK || !same(r, one) { // products of some 100 bits add up to 1
			t.Errorf("Mul(%v, %v) = %v, %d, want 1", great, back, r, e)
		}
		if r, e := Mul(great, great); e != api.ErrOver || !same(r, api.Ring{}) {
			t.Errorf("Mul(%v, itself) = %v, %d", great, r, e)
		}
		for _, n := range []int{1 << 32, -(1 << 32), 1 << 40, most} { // products that are noughts modulo 2^64
			if r, e := Mul(of(m, n), of(m, 1<<32)); e != api.ErrOver || !same(r, api.Ring{}) {
				t.Errorf("Mul(%d, 2^32) = %v, %d", n, r, e)
			}
		}
		if r, e := Times(1<<60, of(m, 16)); e != api.ErrOver || !same(r, api.Ring{}) {
			t.Errorf("Times(2^60, 16) = %v, %d", r, e)
		}
		if r, e := Times(math.MinInt, of(m)); e != api.OK || !same(r, of(m)) {
			t.Errorf("Times of 0 = %v, %d", r, e)
		}
		a, b := at(m, map[int]int{0: most, m / 6: most}), at(m, map[int]int{m / 6: 1}) // z^D comes up most times, and C[0] is -most
		if r, e := Mul(a, b); e != api.ErrOver {
			t.Errorf("Mul(%v, %v) = %v, %d", a, b, r, e)
		}
		if r, e := Mul(at(m, map[int]int{0: most, m / 6: -most}), b); e != api.OK || !same(r, of(m, most)) { // the powers cancel
			t.Errorf("Mul = %v, %d, want C[0] at the bound", r, e)
		}
	}
}

func TestEqual(t *testing.T) { // P15.4
	for _, m := range finenesses {
		for _, n := range finenesses {
			greater := max(m, n)
			for i, a := range samples(m, draw(11*m)) {
				for j, b := range samples(n, draw(11*n)) {
					x, y := spread(a, greater, false), spread(b, greater, false)
					want := !slices.ContainsFunc(x.plus(y.times(-1)), func(d *big.Int) bool { return d.Sign() != 0 })
					if is, e := Equal(a, b); e != api.OK || is != want {
						t.Errorf("Equal(%v, %v) = %v, %d (places %d, %d)", a, b, is, e, i, j)
					}
				}
				if m > n {
					continue
				}
				finer := must(t)(Finer(a, n))
				finer.C[n/3-1]--
				if is, e := Equal(a, finer); is || Form(finer) && e != api.OK {
					t.Errorf("Equal(%v, %v) = %v, %d", a, finer, is, e)
				}
			}
		}
	}
	for j := range 24 {
		for _, k := range []int{2 * j, 2*j + 1} {
			if is, e := Equal(root(t, j, 24), root(t, k, 48)); e != api.OK || is != (k == 2*j) {
				t.Errorf("Equal(Root(%d, 24), Root(%d, 48)) = %v, %d", j, k, is, e)
			}
		}
	}
}

func TestFiner(t *testing.T) { // P15.4
	for _, m := range finenesses {
		for _, n := range finenesses {
			for _, a := range samples(m, draw(13*m)) {
				r, e := Finer(a, n)
				if m > n {
					if e != api.ErrArg || !same(r, api.Ring{}) {
						t.Errorf("Finer(%v, %d) = %v, %d, want ErrArg", a, n, r, e)
					}
					continue
				}
				expect(t, fmt.Sprintf("Finer(%v, %d)", a, n), spread(a, n, false), r, e)
			}
		}
	}
	for _, n := range finenesses {
		for _, a := range noForms() {
			if r, e := Finer(a, n); e != api.ErrForm || !same(r, api.Ring{}) {
				t.Errorf("Finer(%v, %d) = %v, %d, want ErrForm", a, n, r, e)
			}
		}
	}
}

func TestReal(t *testing.T) { // P15.4: also where the conjugate itself would be too great
	for _, m := range finenesses {
		list := samples(m, draw(17*m))
		for j := range m {
			list = append(list, root(t, j, m))
			list = append(list, must(t)(Add(root(t, j, m), root(t, -j, m))), must(t)(Sub(root(t, j, m), root(t, -j, m))))
		}
		reals := 0
		for _, a := range list {
			l := spread(a, m, false).plus(spread(a, m, true).times(-1))
			want := !slices.ContainsFunc(l.shape(), func(n *big.Int) bool { return n.Sign() != 0 })
			if is, e := Real(a); e != api.OK || is != want {
				t.Errorf("Real(%v) = %v, %d, want %v", a, is, e, want)
			}
			if want {
				reals++
			}
		}
		if reals < m+5 || reals > len(list)-m {
			t.Errorf("%d real numbers of %d", reals, len(list))
		}
		for _, n := range []int{most, -most} {
			if is, e := Real(at(m, map[int]int{0: n, m / 6: n})); is || e != api.OK {
				t.Errorf("Real of great coefficients = %v, %d", is, e)
			}
		}
	}
	// The conjugate of the root of 2 has coefficients at the bound, just as that has.
	if is, e := Real(of(24, 0, most, 0, most, 0, -most)); !is || e != api.OK {
		t.Errorf("Real at the bound = %v, %d", is, e)
	}
}

func TestLaws(t *testing.T) { // P15.5
	d := draw(42)
	for _, m := range finenesses {
		for range 12 {
			a, b, c := d.number(m, 5000), d.number(finenesses[d.below(4)], 5000), d.number(finenesses[d.below(4)], 5000)
			add := func(a, b api.Ring) api.Ring { return must(t)(Add(a, b)) }
			mul := func(a, b api.Ring) api.Ring { return must(t)(Mul(a, b)) }
			conj := func(a api.Ring) api.Ring { return must(t)(Conj(a)) }
			greater := max(a.M, b.M, c.M)
			for i, sides := range [][2]api.Ring{
				{add(a, b), add(b, a)},
				{mul(a, b), mul(b, a)},
				{add(add(a, b), c), add(a, add(b, c))},
				{mul(mul(a, b), c), mul(a, mul(b, c))},
				{mul(a, add(b, c)), add(mul(a, b), mul(a, c))},
				{conj(add(a, b)), add(conj(a), conj(b))},
				{conj(mul(a, b)), mul(conj(a), conj(b))},
				{conj(conj(a)), a},
				{must(t)(Sub(a, b)), add(a, must(t)(Neg(b)))},
				{must(t)(Times(-7, a)), mul(whole(t, -7, a.M), a)},
				{mul(a, whole(t, 1, 24)), a},
				{add(a, whole(t, 0, 24)), a},
			} {
				if is, e := Equal(sides[0], sides[1]); e != api.OK || !is {
					t.Errorf("law %d fails at %v, %v, %v", i, a, b, c)
				}
			}
			if sum := add(add(a, b), c); sum.M != greater {
				t.Errorf("a sum is of %d, want %d", sum.M, greater)
			}
			if size := must(t)(Mul(a, conj(a))); !same(size, conj(size)) {
				t.Errorf("a times its conjugate is not real: %v", a)
			}
		}
	}
}

func TestPowers(t *testing.T) { // P15.5: z^M is 1, z^(M/2) is -1
	for _, m := range finenesses {
		z, p := root(t, 1, m), whole(t, 1, m)
		for j := 1; j <= m; j++ {
			p = must(t)(Mul(p, z))
			if !same(p, root(t, j, m)) {
				t.Fatalf("z^%d in the ring of %d is %v", j, m, p)
			}
			if j < m && same(p, of(m, 1)) {
				t.Errorf("z^%d is 1 in the ring of %d", j, m)
			}
			if j == m/2 && !same(p, of(m, -1)) {
				t.Errorf("z^%d is %v in the ring of %d", j, p, m)
			}
		}
		if !same(p, of(m, 1)) {
			t.Errorf("z^%d is %v", m, p)
		}
	}
}

func TestProductsOfNought(t *testing.T) { // P15.5: a product is 0 only where a factor is
	for _, m := range finenesses {
		list := []api.Ring{of(m)}
		for j := 1; j < m; j++ {
			list = append(list, must(t)(Sub(root(t, j, m), of(m, 1)))) // these divide z^M - 1, which is 0
		}
		for _, a := range list {
			for _, b := range list {
				is, e := Equal(must(t)(Mul(a, b)), of(24))
				if want := same(a, of(m)) || same(b, of(m)); e != api.OK || is != want {
					t.Errorf("Mul(%v, %v) is 0: %v", a, b, is)
				}
			}
		}
	}
}

// calls answers what every call that takes one number, or two, makes of them.
func calls(a, b api.Ring) []answer {
	var list []answer
	for _, c := range []struct {
		name string
		call func(a, b api.Ring) (api.Ring, api.Errno)
	}{
		{"Add", Add}, {"Sub", Sub}, {"Mul", Mul},
		{"Neg", func(a, b api.Ring) (api.Ring, api.Errno) { return Neg(a) }},
		{"Conj", func(a, b api.Ring) (api.Ring, api.Errno) { return Conj(a) }},
		{"Times", func(a, b api.Ring) (api.Ring, api.Errno) { return Times(1, a) }},
		{"Finer", func(a, b api.Ring) (api.Ring, api.Errno) { return Finer(a, 192) }},
	} {
		r, e := c.call(a, b)
		list = append(list, answer{name: c.name, r: r, e: e})
	}
	is, e := Equal(a, b)
	list = append(list, answer{name: "Equal", is: is, e: e})
	is, e = Real(a)
	return append(list, answer{name: "Real", is: is, e: e})
}

type answer struct {
	name string
	r    api.Ring
	is   bool
	e    api.Errno
}

func TestForms(t *testing.T) { // ErrForm, also of the second number, and ahead of ErrOver; noughts beside it
	good := at(192, map[int]int{0: most, 32: most})
	for _, bad := range noForms() {
		for _, c := range calls(bad, good) {
			if c.e != api.ErrForm || c.is || !same(c.r, api.Ring{}) {
				t.Errorf("%s of %v = %v, %v, %d", c.name, bad, c.r, c.is, c.e)
			}
		}
		for _, c := range calls(good, bad) {
			of2 := c.name == "Add" || c.name == "Sub" || c.name == "Mul" || c.name == "Equal"
			if of2 && (c.e != api.ErrForm || c.is || !same(c.r, api.Ring{})) {
				t.Errorf("%s behind a good one of %v = %v, %v, %d", c.name, bad, c.r, c.is, c.e)
			}
		}
		if r, e := Times(math.MinInt, bad); e != api.ErrForm || !same(r, api.Ring{}) {
			t.Errorf("Times of %v = %v, %d", bad, r, e)
		}
	}
}

func TestMemory(t *testing.T) { // DOC.md, Memory
	for _, m := range finenesses {
		for _, n := range finenesses {
			seed := draw(m + n)
			a, b := seed.number(m, 30), seed.number(n, 30)
			a.C, b.C = append(a.C, 77, 78), append(b.C, 79, 80)
			roomA, roomB := slices.Clone(a.C), slices.Clone(b.C)
			a.C, b.C = a.C[:m/3], b.C[:n/3]
			first := calls(a, b)
			if !slices.Equal(a.C[:m/3+2], roomA) || !slices.Equal(b.C[:n/3+2], roomB) {
				t.Fatal("an argument has changed")
			}
			kept := make([][]int, len(first))
			for i, c := range first {
				kept[i] = slices.Clone(c.r.C)
				spoil(c.r.C)
			}
			if !slices.Equal(a.C[:m/3+2], roomA) || !slices.Equal(b.C[:n/3+2], roomB) {
				t.Fatal("an answer shares memory with an argument")
			}
			for i, c := range calls(a, b) {
				if !slices.Equal(c.r.C, kept[i]) {
					t.Errorf("%s: an answer shares memory with an earlier one", c.name)
				}
			}
		}
		for j := range m {
			before := slices.Clone(root(t, j, m).C)
			spoil(root(t, j, m).C)
			if !slices.Equal(root(t, j, m).C, before) {
				t.Errorf("Root(%d, %d) shares memory", j, m)
			}
		}
		spoil(whole(t, 5, m).C)
		if !same(whole(t, 5, m), of(m, 5)) || !same(whole(t, 0, m), of(m)) {
			t.Error("Int shares memory")
		}
	}
}

// spoil fills a list and the room behind it.
func spoil(list []int) {
	list = list[:cap(list)]
	for i := range list {
		list[i] = 99
	}
}

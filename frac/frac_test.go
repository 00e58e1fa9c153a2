package frac

import (
	"math"
	"math/big"
	"testing"

	"facet/api"
)

const (
	least = math.MinInt
	most  = math.MaxInt
)

// edges are whole numbers about the noughts, the wraps and the ends.
var edges = []int{least, least + 1, -1 << 62, -1000, -193, -192, -49, -48, -25, -24, -23, -1, 0, 1, 2, 12, 23, 24, 25, 47, 48, 95, 96, 191, 192, 193, 1 << 62, most - 1, most}

func at(m, x, y, z int) api.Point {
	return api.Point{M: m, X: api.Vec{x, y, z}}
}

// bad are places that are not in form.
var bad = []api.Point{
	{}, at(0, 1, 1, 1), at(-24, 0, 0, 0), at(12, 0, 0, 0), at(25, 0, 0, 0), at(36, 0, 0, 0), at(72, 0, 0, 0), at(384, 0, 0, 0), at(least, 0, 0, 0), at(most, 0, 0, 0),
	at(24, 24, 0, 0), at(24, 0, 24, 0), at(24, 0, 0, 24), at(48, 48, 0, 0), at(96, 0, 96, 0), at(192, 0, 0, 192),
	at(24, -1, 0, 0), at(48, 0, -1, 0), at(192, 0, 0, -1), at(24, least, 0, 0), at(24, 0, most, 0),
}

// modulo is what is left of a true whole number, by numbers of any length.
func modulo(n *big.Int, m int) int {
	return int(new(big.Int).Mod(n, big.NewInt(int64(m))).Int64())
}

func long(n int) *big.Int {
	return big.NewInt(int64(n))
}

func TestSumsOfTranslations(t *testing.T) {
	if v := Add(api.Vec{20, 0, -1}, api.Vec{10, 24, 0}); v != (api.Vec{6, 0, 23}) {
		t.Errorf("P2.1: Add: %v", v)
	}
	if v := Neg(api.Vec{0, 1, 25}); v != (api.Vec{0, 23, 23}) {
		t.Errorf("P2.1: Neg: %v", v)
	}
	if v := Sub(api.Vec{1, 2, 3}, api.Vec{2, 2, 27}); v != (api.Vec{23, 0, 0}) {
		t.Errorf("P2.1: Sub: %v", v)
	}
	for _, a := range edges {
		for _, b := range edges {
			// Each part has numbers of its own, so that a part can't stand for another.
			v, w := api.Vec{a, b, 7}, api.Vec{b, 5, a}
			sum := api.Vec{modulo(new(big.Int).Add(long(a), long(b)), 24), modulo(new(big.Int).Add(long(b), long(5)), 24), modulo(new(big.Int).Add(long(7), long(a)), 24)}
			rest := api.Vec{modulo(new(big.Int).Sub(long(a), long(b)), 24), modulo(new(big.Int).Sub(long(b), long(5)), 24), modulo(new(big.Int).Sub(long(7), long(a)), 24)}
			if got := Add(v, w); got != sum {
				t.Errorf("P2.1: Add(%v, %v) = %v, want %v", v, w, got, sum)
			}
			if got := Sub(v, w); got != rest {
				t.Errorf("P2.1: Sub(%v, %v) = %v, want %v", v, w, got, rest)
			}
		}
		v := api.Vec{a, 1, a}
		want := modulo(new(big.Int).Neg(long(a)), 24)
		if got := Neg(v); got != (api.Vec{want, 23, want}) {
			t.Errorf("P2.1: Neg(%v) = %v", v, got)
		}
	}
}

func TestTimes(t *testing.T) {
	if v := Times(-2, api.Vec{1, 12, 13}); v != (api.Vec{22, 0, 22}) {
		t.Errorf("P2.1: Times: %v", v)
	}
	if v := Times(1<<62, api.Vec{3, 0, 0}); v != (api.Vec{}) {
		t.Errorf("P2.1: Times: %v", v)
	}
	for _, n := range edges {
		for _, a := range edges {
			v := api.Vec{a, 1, -1}
			want := api.Vec{modulo(new(big.Int).Mul(long(n), long(a)), 24), modulo(long(n), 24), modulo(new(big.Int).Neg(long(n)), 24)}
			if got := Times(n, v); got != want {
				t.Errorf("P2.1: Times(%d, %v) = %v, want %v", n, v, got, want)
			}
		}
	}
}

func TestForm(t *testing.T) {
	for _, m := range []int{24, 48, 96, 192} {
		for _, p := range []api.Point{at(m, 0, 0, 0), at(m, m-1, m-1, m-1), at(m, 1, 2, 3)} {
			if !Form(p) {
				t.Errorf("P2.2: Form(%v) is false", p)
			}
		}
		for i := range 3 {
			for _, x := range []int{-1, m, least, most} {
				p := at(m, 0, 0, 0)
				p.X[i] = x
				if Form(p) {
					t.Errorf("P2.2: Form(%v) is true", p)
				}
			}
		}
	}
	for _, p := range bad {
		if Form(p) {
			t.Errorf("P2.2: Form(%v) is true", p)
		}
	}
}

func TestPlace(t *testing.T) {
	if p, e := Place(48, api.Vec{-1, 48, 50}); p != at(48, 47, 0, 2) || e != 0 {
		t.Errorf("P2.2: Place: %v, %d", p, e)
	}
	for _, m := range []int{24, 48, 96, 192} {
		for _, x := range edges {
			want := modulo(long(x), m)
			if p, e := Place(m, api.Vec{x, 1, x}); p != at(m, want, 1, want) || e != 0 {
				t.Errorf("P2.2: Place(%d, %d) = %v, %d", m, x, p, e)
			}
		}
	}
	for _, m := range []int{least, -24, -1, 0, 1, 12, 23, 25, 36, 47, 49, 72, 95, 97, 144, 191, 193, 384, most} {
		if p, e := Place(m, api.Vec{1, 2, 3}); p != (api.Point{}) || e != api.ErrArg {
			t.Errorf("P2.2: Place of %d: %v, %d", m, p, e)
		}
	}
}

func TestShift(t *testing.T) {
	if p, e := Shift(at(48, 47, 0, 0), api.Vec{1, 0, -1}); p != at(48, 1, 0, 46) || e != 0 {
		t.Errorf("P2.3: Shift: %v, %d", p, e)
	}
	for _, m := range []int{24, 48, 96, 192} {
		for _, n := range edges {
			far := new(big.Int).Mul(long(n), long(m/24))
			want := at(m, modulo(new(big.Int).Add(far, long(m-1)), m), 5+m/24, modulo(far, m))
			if p, e := Shift(at(m, m-1, 5, 0), api.Vec{n, 1, n}); p != want || e != 0 {
				t.Errorf("P2.3: Shift of M %d by %d: %v, %d, want %v", m, n, p, e, want)
			}
		}
	}
	for _, p := range bad {
		if q, e := Shift(p, api.Vec{1, 2, 3}); q != (api.Point{}) || e != api.ErrForm {
			t.Errorf("P2.3: Shift of %v: %v, %d", p, q, e)
		}
	}
}

func TestMinus(t *testing.T) {
	if p, e := Minus(at(24, 1, 2, 3), at(24, 2, 2, 2)); p != at(24, 23, 0, 1) || e != 0 {
		t.Errorf("P2.3: Minus: %v, %d", p, e)
	}
	if p, e := Minus(at(192, 0, 191, 0), at(192, 191, 0, 0)); p != at(192, 1, 191, 0) || e != 0 {
		t.Errorf("P2.3: Minus: %v, %d", p, e)
	}
	for _, m := range []int{24, 48, 96, 192} {
		for _, n := range []int{24, 48, 96, 192} {
			p, e := Minus(at(m, 1, 2, 3), at(n, 1, 2, 3))
			if m == n && (p != at(m, 0, 0, 0) || e != 0) || m != n && (p != (api.Point{}) || e != api.ErrUnlike) {
				t.Errorf("P2.3: Minus of %d and %d: %v, %d", m, n, p, e)
			}
		}
	}
	// A place out of form of another M is both ErrForm and ErrUnlike; the lesser number is asked.
	for _, p := range bad {
		for _, q := range []api.Point{p, at(24, 1, 2, 3), at(192, 1, 2, 3)} {
			if r, e := Minus(p, q); r != (api.Point{}) || e != api.ErrForm {
				t.Errorf("P2.3: Minus(%v, %v): %v, %d", p, q, r, e)
			}
			if r, e := Minus(q, p); r != (api.Point{}) || e != api.ErrForm {
				t.Errorf("P2.3: Minus(%v, %v): %v, %d", q, p, r, e)
			}
		}
	}
}

func TestOpposite(t *testing.T) {
	for _, c := range []struct{ p, q api.Point }{
		{at(24, 0, 1, 12), at(24, 0, 23, 12)},
		{at(192, 191, 0, 1), at(192, 1, 0, 191)},
		{at(48, 24, 25, 23), at(48, 24, 23, 25)},
	} {
		if q, e := Opposite(c.p); q != c.q || e != 0 {
			t.Errorf("P2.3: Opposite(%v) = %v, %d", c.p, q, e)
		}
	}
	for _, p := range bad {
		if q, e := Opposite(p); q != (api.Point{}) || e != api.ErrForm {
			t.Errorf("P2.3: Opposite of %v: %v, %d", p, q, e)
		}
	}
}

func TestFiner(t *testing.T) {
	if q, e := Finer(at(24, 1, 0, 23), 96); q != at(96, 4, 0, 92) || e != 0 {
		t.Errorf("P2.4: Finer: %v, %d", q, e)
	}
	for _, m := range []int{24, 48, 96, 192} {
		for _, n := range []int{24, 48, 96, 192} {
			q, e := Finer(at(m, 0, 5, m-1), n)
			if n >= m && (q != at(n, 0, 5*n/m, n-n/m) || e != 0) || n < m && (q != (api.Point{}) || e != api.ErrArg) {
				t.Errorf("P2.4: Finer of M %d to %d: %v, %d", m, n, q, e)
			}
		}
	}
	for _, p := range append([]api.Point{at(24, 1, 0, 0)}, bad...) {
		for _, m := range []int{least, -24, 0, 1, 12, 25, 36, 72, 120, 144, 384, most} {
			if q, e := Finer(p, m); q != (api.Point{}) || e != api.ErrArg {
				t.Errorf("P2.4: Finer(%v, %d): %v, %d", p, m, q, e)
			}
		}
	}
	for _, p := range bad {
		for _, m := range []int{24, 48, 96, 192} {
			if q, e := Finer(p, m); q != (api.Point{}) || e != api.ErrForm {
				t.Errorf("P2.4: Finer(%v, %d): %v, %d", p, m, q, e)
			}
		}
	}
}

func TestOrder(t *testing.T) {
	for _, c := range []struct {
		p, q api.Point
		n    int
	}{
		{at(24, 12, 0, 0), at(48, 24, 0, 0), 0},
		{at(24, 12, 0, 0), at(48, 25, 0, 0), -1},
		{at(24, 12, 0, 0), at(48, 23, 47, 47), 1},
		{at(24, 1, 2, 0), at(24, 1, 1, 23), 1},
		{at(24, 1, 2, 3), at(192, 8, 16, 24), 0},
		{at(24, 1, 2, 3), at(192, 8, 16, 25), -1},
		{at(96, 95, 0, 0), at(24, 23, 23, 23), 1},
		{at(192, 191, 191, 191), at(192, 191, 191, 190), 1},
		{at(24, 0, 1, 23), at(24, 1, 0, 0), -1},
	} {
		if n, e := Order(c.p, c.q); n != c.n || e != 0 {
			t.Errorf("P2.5: Order(%v, %v) = %d, %d, want %d", c.p, c.q, n, e, c.n)
		}
		if n, e := Order(c.q, c.p); n != -c.n || e != 0 {
			t.Errorf("P2.5: Order(%v, %v) = %d, %d, want %d", c.q, c.p, n, e, -c.n)
		}
	}
	for _, p := range bad {
		for _, q := range []api.Point{p, at(24, 1, 2, 3)} {
			n, e := Order(p, q)
			o, f := Order(q, p)
			if n != 0 || e != api.ErrForm || o != 0 || f != api.ErrForm {
				t.Errorf("P2.5: Order of %v and %v: %d, %d, %d, %d", p, q, n, e, o, f)
			}
		}
	}
}

func TestSameAnswersAgain(t *testing.T) {
	v, w := api.Vec{least, 25, -1}, api.Vec{most, -25, 1}
	p, q := at(48, 47, 0, 1), at(48, 1, 0, 47)
	all := func() [9]any {
		shifted, _ := Shift(p, v)
		less, _ := Minus(p, q)
		back, _ := Opposite(p)
		fine, _ := Finer(p, 192)
		order, _ := Order(p, q)
		return [9]any{Add(v, w), Sub(v, w), Neg(v), Times(least, v), shifted, less, back, fine, order}
	}
	if first := all(); first != all() {
		t.Errorf("P2: unlike answers: %v, %v", first, all())
	}
	if v != (api.Vec{least, 25, -1}) || p != at(48, 47, 0, 1) {
		t.Errorf("P2: what was handed in has changed")
	}
}

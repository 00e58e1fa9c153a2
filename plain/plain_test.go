package plain

import (
	"math"
	"math/big"
	"slices"
	"testing"

	"facet/api"
)

func TestProducts(t *testing.T) { // the products that P7.4, P11.2 and P12.3 name
	a := api.Mat{{1, 2, 3}, {4, 5, 6}, {7, 8, 10}}
	b := api.Mat{{2, 0, -1}, {3000000, 1, 5}, {-2, 4, 7}}
	if r := Row(api.Vec{1, -2, 3}, a); r != (api.Vec{14, 16, 21}) {
		t.Errorf("Row = %v", r)
	}
	if h := Opposite(api.Vec{5, -7, 0}); h != (api.Vec{-5, 7, 0}) {
		t.Errorf("Opposite = %v", h)
	}
	if p := Mul(a, b); p != (api.Mat{{5999996, 14, 30}, {14999996, 29, 63}, {23999994, 48, 103}}) {
		t.Errorf("Mul = %v", p)
	}
	m := api.Metric{AA: 2, BB: 3, CC: 5, BC: 7, AC: 11, AB: 13}
	if d := Dot(m, api.Vec{1, -2, 3}, api.Vec{4, 5, -6}); d != 9*4+28*5-12*6 {
		t.Errorf("Dot = %d", d)
	}
	turned := Turned(m, api.Mat{{1, 3, 0}, {0, 1, 0}, {2, 0, 1}})
	if turned != (api.Metric{AA: 66, BB: 99, CC: 5, BC: 40, AC: 21, AB: 6 + 13 + 66 + 14}) {
		t.Errorf("Turned = %v", turned)
	}
}

func TestIsFineness(t *testing.T) { // DOC.md's words: M is 24, 48, 96 or 192
	for m := -200; m <= 400; m++ {
		if want := m == 24 || m == 48 || m == 96 || m == 192; IsFineness(m) != want {
			t.Errorf("IsFineness(%d) = %v", m, !want)
		}
	}
}

func TestResidue(t *testing.T) { // DOC.md's words: n modulo m, also where n is below 0
	for _, c := range []struct{ n, m, want int }{{0, 24, 0}, {23, 24, 23}, {24, 24, 0}, {-1, 24, 23}, {-24, 24, 0}, {-25, 24, 23}, {5, 1, 0}, {math.MinInt, 24, 16}, {math.MaxInt, 24, 7}, {-1, math.MaxInt, math.MaxInt - 1}} {
		if n := Residue(c.n, c.m); n != c.want {
			t.Errorf("Residue(%d, %d) = %d, want %d", c.n, c.m, n, c.want)
		}
	}
}

func TestCompareProducts(t *testing.T) { // P11.6, P13.5: truly, without wrapping round
	numbers := []uint64{0, 1, 2, 3, 1<<32 - 1, 1 << 32, 1<<63 - 1, 1 << 63, math.MaxUint64 - 1, math.MaxUint64}
	product := func(a, b uint64) *big.Int {
		return new(big.Int).Mul(new(big.Int).SetUint64(a), new(big.Int).SetUint64(b))
	}
	for _, a := range numbers {
		for _, b := range numbers {
			for _, c := range numbers {
				for _, d := range numbers {
					if n, want := CompareProducts(a, b, c, d), product(a, b).Cmp(product(c, d)); n != want {
						t.Fatalf("CompareProducts(%d, %d, %d, %d) = %d, want %d", a, b, c, d, n, want)
					}
				}
			}
		}
	}
}

func TestAdjugate(t *testing.T) { // P11.3: what m's matrix multiplies to its determinant times the identity
	matrix := func(m api.Metric) api.Mat {
		return api.Mat{{m.AA, m.AB, m.AC}, {m.AB, m.BB, m.BC}, {m.AC, m.BC, m.CC}}
	}
	for _, c := range []struct {
		m   api.Metric
		det int
	}{{api.Metric{AA: 4, BB: 9, CC: 16}, 576}, {api.Metric{AA: 2, BB: 2, CC: 2, AB: -1}, 6}, {api.Metric{AA: 10, BB: 20, CC: 30, BC: 1, AC: -2, AB: 3}, 5628}} {
		d := c.det
		if p := Mul(matrix(Adjugate(c.m)), matrix(c.m)); p != (api.Mat{{d, 0, 0}, {0, d, 0}, {0, 0, d}}) {
			t.Errorf("Adjugate(%v) times it = %v", c.m, p)
		}
	}
}

func TestCheckIndices(t *testing.T) { // MaxIndex, MaxWaves: at them and one beyond
	var list []api.Vec
	for i := range 3 {
		for _, part := range []int{math.MinInt, -513, -512, -1, 0, 512, 513, math.MaxInt} {
			var h api.Vec
			h[i] = part
			want := api.OK
			if part < -512 || part > 512 {
				want = api.ErrArg
				list = append(list, h)
			}
			if e := CheckIndex(h); e != want {
				t.Errorf("CheckIndex(%v) = %d, want %d", h, e, want)
			}
		}
	}
	right := make([]api.Vec, 4096)
	if e, f := CheckIndices(nil), CheckIndices(right); e != api.OK || f != api.OK {
		t.Errorf("CheckIndices = %d of none, %d of 4096", e, f)
	}
	if e := CheckIndices(make([]api.Vec, 4097)); e != api.ErrLong {
		t.Errorf("CheckIndices of 4097 = %d", e)
	}
	for _, h := range list {
		if e, f := CheckIndices([]api.Vec{{}, h}), CheckIndices(append(slices.Clip(right), api.Vec{}, h)); e != api.ErrArg || f != api.ErrArg {
			t.Errorf("CheckIndices with %v: %d, %d", h, e, f)
		}
	}
}

func TestCheckEntries(t *testing.T) { // MaxMetric: at it and one beyond
	entry := [6]func(*api.Metric) *int{
		func(m *api.Metric) *int { return &m.AA }, func(m *api.Metric) *int { return &m.BB }, func(m *api.Metric) *int { return &m.CC },
		func(m *api.Metric) *int { return &m.BC }, func(m *api.Metric) *int { return &m.AC }, func(m *api.Metric) *int { return &m.AB },
	}
	for i := range entry {
		for _, n := range []int{math.MinInt, -api.MaxMetric - 1, -api.MaxMetric, -1, 0, 1, api.MaxMetric, api.MaxMetric + 1, math.MaxInt} {
			m := api.Metric{AA: 1, BB: 1, CC: 1}
			*entry[i](&m) = n
			want := api.OK
			if n > api.MaxMetric || n < -api.MaxMetric || i < 3 && n < 1 {
				want = api.ErrArg
			}
			if e := CheckEntries(m); e != want {
				t.Errorf("CheckEntries(%v) = %d, want %d", m, e, want)
			}
		}
	}
}

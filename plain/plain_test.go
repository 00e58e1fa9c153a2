package plain

import (
	"math"
	"testing"

	"facet/api"
)

func TestProducts(t *testing.T) { // the products that P7.4, P11.2 and P12.3 name
	a := api.Mat{{1, 2, 3}, {4, 5, 6}, {7, 8, 10}}
	b := api.Mat{{2, 0, -1}, {3000000, 1, 5}, {-2, 4, 7}}
	if r := Row(api.Vec{1, -2, 3}, a); r != (api.Vec{14, 16, 21}) {
		t.Errorf("Row = %v", r)
	}
	if p := Mul(a, b); p != (api.Mat{{5999996, 14, 30}, {14999996, 29, 63}, {23999994, 48, 103}}) {
		t.Errorf("Mul = %v", p)
	}
	m := api.Metric{AA: 2, BB: 3, CC: 5, BC: 7, AC: 11, AB: 13}
	if g := Matrix(m); g != (api.Mat{{2, 13, 11}, {13, 3, 7}, {11, 7, 5}}) {
		t.Errorf("Matrix = %v", g)
	}
	if d := Dot(m, api.Vec{1, -2, 3}, api.Vec{4, 5, -6}); d != 9*4+28*5-12*6 {
		t.Errorf("Dot = %d", d)
	}
	turned := Turned(m, api.Mat{{1, 3, 0}, {0, 1, 0}, {2, 0, 1}})
	if turned != (api.Metric{AA: 66, BB: 99, CC: 5, BC: 40, AC: 21, AB: 6 + 13 + 66 + 14}) {
		t.Errorf("Turned = %v", turned)
	}
}

func TestCheckEntries(t *testing.T) { // MaxMetric: at it and one beyond
	entry := [6]func(*api.Metric) *int{
		func(m *api.Metric) *int { return &m.AA }, func(m *api.Metric) *int { return &m.BB }, func(m *api.Metric) *int { return &m.CC },
		func(m *api.Metric) *int { return &m.BC }, func(m *api.Metric) *int { return &m.AC }, func(m *api.Metric) *int { return &m.AB },
	}
	for i := range entry {
		for _, n := range []int{math.MinInt, -api.MaxMetric - 1, -api.MaxMetric, -1, 0, 1, api.MaxMetric, api.MaxMetric + 1, math.MaxInt} {
			m := api.Metric{AA: 1, BB: 1, CC: 1}
			*entry[i](&m) = n
			want := api.OK
			if n > api.MaxMetric || n < -api.MaxMetric || i < 3 && n < 1 {
				want = api.ErrArg
			}
			if e := CheckEntries(m); e != want {
				t.Errorf("CheckEntries(%v) = %d, want %d", m, e, want)
			}
		}
	}
}

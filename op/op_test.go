package op

import (
	"math"
	"math/big"
	"testing"

	"facet/api"
)

// The maps of the chapter's examples, by matrices; translations are added by moved.
var (
	still   = api.Op{R: api.Mat{{1, 0, 0}, {0, 1, 0}, {0, 0, 1}}}
	quarter = api.Op{R: api.Mat{{0, -1, 0}, {1, 0, 0}, {0, 0, 1}}}
	third   = api.Op{R: api.Mat{{0, -1, 0}, {1, -1, 0}, {0, 0, 1}}}
	sixth   = api.Op{R: api.Mat{{1, -1, 0}, {1, 0, 0}, {0, 0, 1}}}
	minus   = api.Op{R: api.Mat{{-1, 0, 0}, {0, -1, 0}, {0, 0, -1}}}
	mirror  = api.Op{R: api.Mat{{1, 0, 0}, {0, -1, 0}, {0, 0, 1}}}
	half    = api.Op{R: api.Mat{{-1, 0, 0}, {0, 1, 0}, {0, 0, -1}}}
	along   = api.Op{R: api.Mat{{0, 0, 1}, {1, 0, 0}, {0, 1, 0}}}
)

// The ways in which a map is not in form, with what is answered of it alone.
var broken = []struct {
	name string
	o    api.Op
	e    api.Errno
}{
	{"a part below 0", api.Op{R: still.R, T: api.Vec{-1, 0, 0}}, api.ErrForm},
	{"a part of 24", api.Op{R: still.R, T: api.Vec{0, 24, 0}}, api.ErrForm},
	{"the greatest part", api.Op{R: still.R, T: api.Vec{0, 0, math.MaxInt}}, api.ErrForm},
	{"the least part", api.Op{R: still.R, T: api.Vec{0, 0, math.MinInt}}, api.ErrForm},
	{"noughts", api.Op{}, api.ErrForm},
	{"determinant 2", api.Op{R: api.Mat{{2, 0, 0}, {0, 1, 0}, {0, 0, 1}}}, api.ErrForm},
	{"determinant -2", api.Op{R: api.Mat{{2, 0, 0}, {0, -1, 0}, {0, 0, 1}}}, api.ErrForm},
	{"entry 1001", shear(1001), api.ErrOver},
	{"entry -1001", shear(-1001), api.ErrOver},
	{"the least entry", shear(math.MinInt), api.ErrOver},
	{"entry 1001 and determinant 1001", api.Op{R: api.Mat{{1001, 0, 0}, {0, 1, 0}, {0, 0, 1}}}, api.ErrOver},
	{"entry 1001 and determinant 0", api.Op{R: api.Mat{{1001, 0, 0}, {0, 0, 0}, {0, 0, 1}}}, api.ErrOver},
	{"entry 1001 and a part below 0", moved(shear(1001), -1, 0, 0), api.ErrForm},
	{"entry 1001 and a part of 24", moved(shear(1001), 0, 0, 24), api.ErrForm},
}

func shear(n int) api.Op {
	return api.Op{R: api.Mat{{1, n, 0}, {0, 1, 0}, {0, 0, 1}}}
}

func moved(o api.Op, x, y, z int) api.Op {
	return api.Op{R: o.R, T: api.Vec{x, y, z}}
}

// draw is a row of numbers that looks like chance and is the same in each run.
type draw uint64

func (d *draw) below(n int) int {
	*d = *d*6364136223846793005 + 1442695040888963407
	return int(uint64(*d>>33) % uint64(n))
}

// op answers a map in form: one of the examples, told in another basis if that stays within bounds.
func (d *draw) op() api.Op {
	kinds := []api.Op{still, quarter, third, sixth, minus, mirror, half, along, shear(1), shear(-3)}
	o := kinds[d.below(len(kinds))]
	o.T = api.Vec{d.below(24), d.below(24), d.below(24)}
	for range d.below(4) {
		s := [][2]int{{0, 1}, {0, 2}, {1, 0}, {1, 2}, {2, 0}, {2, 1}}[d.below(6)]
		n := d.below(9) - 4
		there, back := still.R, still.R
		there[s[0]][s[1]], back[s[0]][s[1]] = n, -n
		p := longProduct(there, longProduct(o.R, back))
		if inside(p) {
			o.R = p
		}
	}
	return o
}

func longProduct(a, b api.Mat) api.Mat {
	var p api.Mat
	for i := range 3 {
		for j := range 3 {
			for k := range 3 {
				p[i][j] += a[i][k] * b[k][j]
			}
		}
	}
	return p
}

func inside(m api.Mat) bool {
	for _, row := range m {
		for _, n := range row {
			if n < -1000 || n > 1000 {
				return false
			}
		}
	}
	return true
}

// sentBy answers o's R x + T, modulo m, as the document says it, with T in m-ths.
func sentBy(o api.Op, x api.Vec, m int) api.Vec {
	var y api.Vec
	for i := range 3 {
		n := o.T[i] * (m / 24)
		for k := range 3 {
			n += o.R[i][k] * x[k]
		}
		y[i] = ((n % m) + m) % m
	}
	return y
}

func TestFormTellsMapsInForm(t *testing.T) { // P3.1
	for _, o := range []api.Op{still, quarter, minus, moved(sixth, 23, 23, 23), shear(1000), shear(-1000), One()} {
		if !Form(o) {
			t.Errorf("Form(%v) = false", o)
		}
	}
	for _, c := range broken {
		if Form(c.o) {
			t.Errorf("Form of %s: true", c.name)
		}
	}
}

func TestMakeBringsTheTranslationIntoTheCell(t *testing.T) { // P3.1
	for _, c := range []struct{ t, want api.Vec }{
		{api.Vec{-1, 24, 49}, api.Vec{23, 0, 1}},
		{api.Vec{0, 23, 12}, api.Vec{0, 23, 12}},
		{api.Vec{math.MaxInt, math.MinInt, -24}, api.Vec{7, 16, 0}},
	} {
		o, e := Make(quarter.R, c.t)
		if e != api.OK || o.R != quarter.R || o.T != c.want {
			t.Errorf("Make(%v) = %v, %d, want %v", c.t, o, e, c.want)
		}
	}
	for _, c := range broken {
		want := c.e
		switch {
		case c.o.R == still.R:
			want = api.OK
		case !inside(c.o.R):
			want = api.ErrOver // of the matrix alone, whatever the translation
		}
		o, e := Make(c.o.R, c.o.T)
		if e != want || (e != api.OK) != (o == api.Op{}) {
			t.Errorf("Make of %s = %v, %d, want %d", c.name, o, e, want)
		}
	}
	if One() != still {
		t.Errorf("One() = %v", One())
	}
}

func TestBrokenMapsAreToldEverywhere(t *testing.T) { // the chapter's table of errors
	p := api.Point{M: 24}
	for _, c := range broken {
		calls := map[string]func() (bool, api.Errno){
			"Mul, first":  func() (bool, api.Errno) { o, e := Mul(c.o, still); return o == api.Op{}, e },
			"Mul, second": func() (bool, api.Errno) { o, e := Mul(still, c.o); return o == api.Op{}, e },
			"Mul, both":   func() (bool, api.Errno) { o, e := Mul(c.o, c.o); return o == api.Op{}, e },
			"Inverse":     func() (bool, api.Errno) { o, e := Inverse(c.o); return o == api.Op{}, e },
			"Power 0":     func() (bool, api.Errno) { o, e := Power(c.o, 0); return o == api.Op{}, e },
			"Power 1":     func() (bool, api.Errno) { o, e := Power(c.o, 1); return o == api.Op{}, e },
			"Power -3":    func() (bool, api.Errno) { o, e := Power(c.o, -3); return o == api.Op{}, e },
			"Order":       func() (bool, api.Errno) { n, e := Order(c.o); return n == 0, e },
			"Kind":        func() (bool, api.Errno) { n, e := Kind(c.o); return n == 0, e },
			"Apply":       func() (bool, api.Errno) { q, e := Apply(c.o, p); return q == api.Point{}, e },
		}
		for name, call := range calls {
			if zero, e := call(); !zero || e != c.e {
				t.Errorf("%s of %s: %d (zero: %t), want %d", name, c.name, e, zero, c.e)
			}
		}
	}
}

func TestTheLeastErrorIsAnswered(t *testing.T) {
	over, noughts := shear(1001), api.Op{}
	for _, c := range []struct {
		a, b api.Op
		e    api.Errno
	}{{over, noughts, api.ErrForm}, {noughts, over, api.ErrForm}, {over, over, api.ErrOver}, {shear(1000), over, api.ErrOver}, {shear(1000), noughts, api.ErrForm}} {
		if o, e := Mul(c.a, c.b); e != c.e || o != (api.Op{}) {
			t.Errorf("Mul(%v, %v) = %v, %d, want %d", c.a, c.b, o, e, c.e)
		}
	}
	if _, e := Power(over, 1001); e != api.ErrArg {
		t.Errorf("Power of a broken map, 1001 times: %d", e)
	}
	if _, e := Apply(over, api.Point{M: 25}); e != api.ErrForm {
		t.Errorf("Apply of a map with a great entry at no place: %d", e)
	}
	if _, e := Apply(over, api.Point{M: 24}); e != api.ErrOver {
		t.Errorf("Apply of a map with a great entry at a place: %d", e)
	}
}

func TestMulIsOneBehindTheOther(t *testing.T) { // P3.2
	a, e := Mul(moved(quarter, 0, 0, 6), moved(still, 12, 0, 0))
	if want := moved(quarter, 0, 12, 6); a != want || e != api.OK {
		t.Errorf("the quarter turn behind the half step: %v, %d", a, e)
	}
	b, e := Mul(moved(still, 12, 0, 0), moved(quarter, 0, 0, 6))
	if want := moved(quarter, 12, 0, 6); b != want || e != api.OK {
		t.Errorf("the half step behind the quarter turn: %v, %d", b, e)
	}
	for _, c := range []struct {
		a, b, n int
		e       api.Errno
	}{{999, 1, 1000, api.OK}, {1000, 1, 0, api.ErrOver}, {-999, -1, -1000, api.OK}, {-1000, -1, 0, api.ErrOver}, {1000, -1000, 0, api.OK}} {
		want := shear(c.n)
		if c.e != api.OK {
			want = api.Op{}
		}
		if o, e := Mul(shear(c.a), shear(c.b)); o != want || e != c.e {
			t.Errorf("Mul of shears %d and %d = %v, %d", c.a, c.b, o, e)
		}
	}
	d := draw(1)
	for range 3000 {
		a, b := d.op(), d.op()
		r := longProduct(a.R, b.R)
		want, e := api.Op{R: r, T: sentBy(a, b.T, 24)}, api.OK
		if !inside(r) {
			want, e = api.Op{}, api.ErrOver
		}
		if o, f := Mul(a, b); o != want || f != e {
			t.Fatalf("Mul(%v, %v) = %v, %d, want %v, %d", a, b, o, f, want, e)
		}
	}
}

func TestInverseUndoes(t *testing.T) { // P3.3
	i, e := Inverse(moved(quarter, 0, 0, 6))
	if want := (api.Op{R: api.Mat{{0, 1, 0}, {-1, 0, 0}, {0, 0, 1}}, T: api.Vec{0, 0, 18}}); i != want || e != api.OK {
		t.Errorf("Inverse of -y,x,z+1/4 = %v, %d", i, e)
	}
	if i, e := Inverse(shear(1000)); i != shear(-1000) || e != api.OK {
		t.Errorf("Inverse at the bound: %v, %d", i, e)
	}
	for _, n := range []int{1, -1} { // the entry in the corner of what undoes it is 1000, or one beyond
		at := api.Op{R: api.Mat{{1, 40 * n, 0}, {0, 1, 25}, {0, 0, 1}}}
		if i, e := Inverse(at); e != api.OK || i.R != (api.Mat{{1, -40 * n, 1000 * n}, {0, 1, -25}, {0, 0, 1}}) {
			t.Errorf("Inverse to the bound: %v, %d", i, e)
		}
		beyond := api.Op{R: api.Mat{{1, 77 * n, 0}, {0, 1, 13}, {0, 0, 1}}}
		if i, e := Inverse(beyond); e != api.ErrOver || i != (api.Op{}) {
			t.Errorf("Inverse beyond the bound: %v, %d", i, e)
		}
	}
	d := draw(2)
	for range 3000 {
		o := d.op()
		i, e := Inverse(o)
		if e != api.OK {
			continue
		}
		a, e := Mul(o, i)
		b, f := Mul(i, o)
		if e != api.OK || f != api.OK || a != still || b != still {
			t.Fatalf("%v and its inverse %v: %v, %v", o, i, a, b)
		}
	}
}

func TestPowerGoesStepByStep(t *testing.T) { // P3.4
	step := moved(still, 1, 0, 0)
	turned := api.Op{R: api.Mat{{-32, -993, 0}, {1, 31, 0}, {0, 0, 1}}}
	for _, c := range []struct {
		name string
		o    api.Op
		n    int
		want api.Op
		e    api.Errno
	}{
		{"a step", step, 25, step, api.OK}, {"a step", step, -1, moved(still, 23, 0, 0), api.OK}, {"a step", step, 0, still, api.OK}, {"a step", step, 1, step, api.OK},
		{"a step", step, 1000, moved(still, 16, 0, 0), api.OK}, {"a step", step, -1000, moved(still, 8, 0, 0), api.OK},
		{"a step", step, 1001, api.Op{}, api.ErrArg}, {"a step", step, -1001, api.Op{}, api.ErrArg}, {"a step", step, math.MinInt, api.Op{}, api.ErrArg}, {"a step", step, math.MaxInt, api.Op{}, api.ErrArg},
		{"shear 1", shear(1), 1000, shear(1000), api.OK}, {"shear 1", shear(1), -1000, shear(-1000), api.OK}, {"shear 2", shear(2), 501, api.Op{}, api.ErrOver}, {"shear 2", shear(2), 500, shear(1000), api.OK}, {"shear 2", shear(2), -500, shear(-1000), api.OK}, {"shear 2", shear(2), -501, api.Op{}, api.ErrOver},
		{"a third", turned, 1, turned, api.OK}, {"a third", turned, 0, still, api.OK}, {"a third", turned, 3, still, api.OK}, {"a third", turned, -3, still, api.OK},
		{"a quarter", moved(quarter, 1, 2, 3), 2, api.Op{R: api.Mat{{-1, 0, 0}, {0, -1, 0}, {0, 0, 1}}, T: api.Vec{23, 3, 6}}, api.OK},
		{"no map", api.Op{}, 1001, api.Op{}, api.ErrArg},
	} {
		if p, e := Power(c.o, c.n); p != c.want || e != c.e {
			t.Errorf("Power of %s, %d times: %v, %d, want %v, %d", c.name, c.n, p, e, c.want, c.e)
		}
	}
}

// great is a map whose matrix has the order 3 and entries within bounds, while those of what undoes it (its second power) are not.
func great(t *testing.T) api.Op {
	t.Helper()
	d := draw(3)
	for range 1000000 {
		m := still.R
		for range 3 {
			step := still.R
			i := d.below(3)
			step[i][(i+1+d.below(2))%3] = d.below(41) - 20
			m = longProduct(m, step)
		}
		back := adjugate(m)
		o := api.Op{R: longProduct(m, longProduct(along.R, back))}
		i := longProduct(o.R, o.R)
		if inside(o.R) && !inside(i) && longProduct(i, o.R) == still.R {
			return o
		}
	}
	t.Fatal("no such map is found")
	return api.Op{}
}

func adjugate(m api.Mat) api.Mat {
	var a api.Mat
	for i := range 3 {
		for j := range 3 {
			r, s, c, d := (j+1)%3, (j+2)%3, (i+1)%3, (i+2)%3
			a[i][j] = m[r][c]*m[s][d] - m[r][d]*m[s][c]
		}
	}
	return a
}

func TestPowerMindsTheMapsBetween(t *testing.T) { // P3.4, P3.5
	o := great(t)
	o.T = api.Vec{1, 2, 3}
	for n, want := range map[int]api.Errno{0: api.OK, 1: api.OK, 2: api.ErrOver, 3: api.ErrOver, 4: api.ErrOver, -1: api.ErrOver, -2: api.ErrOver, -3: api.ErrOver} {
		if p, e := Power(o, n); e != want || (e != api.OK) != (p == api.Op{}) {
			t.Errorf("Power(%v, %d) = %v, %d, want %d", o, n, p, e, want)
		}
	}
	if n, e := Order(o); e != api.OK || n%3 != 0 || n != trueOrder(o) {
		t.Errorf("Order(%v) = %d, %d, want %d", o, n, e, trueOrder(o))
	}
	if k, e := Kind(o); k != 3 || e != api.OK {
		t.Errorf("Kind(%v) = %d, %d", o, k, e)
	}
}

// trueOrder answers the order of a map by its powers in numbers of any size, or 0.
func trueOrder(o api.Op) int {
	var m, p [3][4]*big.Int
	for i := range 3 {
		for j := range 4 {
			n := o.T[i]
			if j < 3 {
				n = o.R[i][j]
			}
			m[i][j], p[i][j] = big.NewInt(int64(n)), big.NewInt(int64(n))
		}
	}
	for n := 1; n <= 144; n++ {
		if bigStill(p) {
			return n
		}
		var q [3][4]*big.Int
		for i := range 3 {
			for j := range 4 {
				q[i][j] = new(big.Int)
				for k := range 3 {
					q[i][j].Add(q[i][j], new(big.Int).Mul(m[i][k], p[k][j]))
				}
			}
			q[i][3].Add(q[i][3], m[i][3])
		}
		p = q
	}
	return 0
}

func bigStill(p [3][4]*big.Int) bool {
	for i := range 3 {
		for j := range 4 {
			n := new(big.Int).Set(p[i][j])
			if i == j {
				n.Sub(n, big.NewInt(1))
			}
			if j == 3 {
				n.Mod(n, big.NewInt(24))
			}
			if n.Sign() != 0 {
				return false
			}
		}
	}
	return true
}

func TestOrder(t *testing.T) { // P3.5
	for _, c := range []struct {
		o    api.Op
		want int
		e    api.Errno
	}{
		{moved(quarter, 0, 0, 6), 4, api.OK}, {moved(quarter, 0, 0, 1), 24, api.OK}, {still, 1, api.OK}, {moved(still, 8, 0, 0), 3, api.OK}, {moved(minus, 0, 0, 12), 2, api.OK}, {moved(minus, 5, 7, 1), 2, api.OK},
		{shear(1), 0, api.ErrNone}, {moved(sixth, 0, 0, 6), 12, api.OK}, {moved(sixth, 0, 0, 1), 24, api.OK}, {moved(sixth, 0, 0, 4), 6, api.OK}, {moved(third, 0, 0, 1), 24, api.OK}, {moved(third, 0, 0, 8), 3, api.OK}, {moved(third, 0, 0, 4), 6, api.OK},
		{moved(still, 0, 1, 0), 24, api.OK}, {moved(still, 3, 8, 0), 24, api.OK}, {moved(still, 12, 8, 0), 6, api.OK}, {moved(mirror, 1, 0, 0), 24, api.OK}, {moved(mirror, 0, 1, 0), 2, api.OK}, {moved(along, 1, 0, 0), 72, api.OK},
		{api.Op{R: api.Mat{{1, 1000, 0}, {0, -1, 0}, {0, 0, -1}}}, 2, api.OK},
	} {
		if n, e := Order(c.o); n != c.want || e != c.e {
			t.Errorf("Order(%v) = %d, %d, want %d, %d", c.o, n, e, c.want, c.e)
		}
	}
	d := draw(4)
	for range 600 {
		o := d.op()
		want := trueOrder(o)
		n, e := Order(o)
		if n != want || (want == 0) != (e == api.ErrNone) || want != 0 && e != api.OK {
			t.Fatalf("Order(%v) = %d, %d, want %d", o, n, e, want)
		}
	}
}

func TestKind(t *testing.T) { // P3.6
	turned := func(o api.Op) api.Op {
		p, e := Mul(minus, o)
		if e != api.OK {
			t.Fatal(e)
		}
		return p
	}
	for _, c := range []struct {
		o    api.Op
		want int
	}{{still, 1}, {minus, -1}, {mirror, -2}, {half, 2}, {quarter, 4}, {turned(quarter), -4}, {sixth, 6}, {turned(sixth), -6}, {third, 3}, {turned(third), -3}, {along, 3}, {turned(along), -3}, {moved(still, 1, 2, 3), 1}, {moved(minus, 1, 2, 3), -1}, {moved(turned(third), 0, 0, 1), -3}} {
		if k, e := Kind(c.o); k != c.want || e != api.OK {
			t.Errorf("Kind(%v) = %d, %d, want %d", c.o, k, e, c.want)
		}
	}
	for _, o := range []api.Op{shear(1), turned(shear(1)), moved(shear(-7), 1, 0, 0)} {
		if k, e := Kind(o); k != 0 || e != api.ErrNone {
			t.Errorf("Kind(%v) = %d, %d", o, k, e)
		}
	}
}

func TestApply(t *testing.T) { // P3.7
	p, e := Apply(moved(quarter, 0, 0, 6), api.Point{M: 48, X: api.Vec{5, 1, 47}})
	if e != api.OK || p != (api.Point{M: 48, X: api.Vec{47, 5, 11}}) {
		t.Errorf("Apply = %v, %d", p, e)
	}
	for _, p := range []api.Point{{}, {M: 25}, {M: 24, X: api.Vec{0, 24, 0}}, {M: 192, X: api.Vec{0, 0, -1}}, {M: 72}} {
		if q, e := Apply(quarter, p); e != api.ErrForm || q != (api.Point{}) {
			t.Errorf("Apply at %v = %v, %d", p, q, e)
		}
	}
	d := draw(5)
	for range 3000 {
		o, m := d.op(), []int{24, 48, 96, 192}[d.below(4)]
		p := api.Point{M: m, X: api.Vec{d.below(m), d.below(m), d.below(m)}}
		if q, e := Apply(o, p); e != api.OK || q.M != m || q.X != sentBy(o, p.X, m) {
			t.Fatalf("Apply(%v, %v) = %v, %d", o, p, q, e)
		}
	}
	if q, e := Apply(shear(1000), api.Point{M: 192, X: api.Vec{191, 191, 191}}); e != api.OK || q.X != sentBy(shear(1000), api.Vec{191, 191, 191}, 192) {
		t.Errorf("Apply at the bounds = %v, %d", q, e)
	}
}

func TestCompare(t *testing.T) { // P3.8
	inOrder := []api.Op{
		{R: api.Mat{{math.MinInt, 0, 0}}, T: api.Vec{math.MaxInt, 0, 0}},
		minus, half,
		{R: api.Mat{{0, 0, -5}}}, {T: api.Vec{math.MinInt, 9, 9}}, {T: api.Vec{0, 0, -1}}, {}, {T: api.Vec{0, 0, 4}}, {T: api.Vec{0, 0, 5}}, {T: api.Vec{0, 1, 0}}, {T: api.Vec{1, 0, 0}}, {T: api.Vec{math.MaxInt, 0, 0}}, {R: api.Mat{{}, {}, {0, 0, 1}}}, {R: api.Mat{{}, {0, 1, 0}}},
		along, still, moved(still, 0, 0, 1), shear(1), shear(2), {R: api.Mat{{math.MaxInt, 0, 0}}},
	}
	for i, a := range inOrder {
		for j, b := range inOrder {
			want := 0
			if i < j {
				want = -1
			} else if i > j {
				want = 1
			}
			if c := Compare(a, b); c != want {
				t.Errorf("Compare(%v, %v) = %d, want %d", a, b, c, want)
			}
		}
	}
}

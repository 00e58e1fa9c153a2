package vec

import (
	"math"
	"math/big"
	"testing"

	"facet/api"
)

const (
	least = math.MinInt
	most  = math.MaxInt
)

// The matrices of the chapter's examples.
var (
	quarter = api.Mat{{0, -1, 0}, {1, 0, 0}, {0, 0, 1}}
	third   = api.Mat{{0, -1, 0}, {1, -1, 0}, {0, 0, 1}}
	sixth   = api.Mat{{1, -1, 0}, {1, 0, 0}, {0, 0, 1}}
	nine    = api.Mat{{1, 2, 3}, {4, 5, 6}, {7, 8, 9}}
	minus   = api.Mat{{-1, 0, 0}, {0, -1, 0}, {0, 0, -1}}
	shear   = api.Mat{{1, 1, 0}, {0, 1, 0}, {0, 0, 1}}
)

// draw is a row of numbers that looks like chance and is the same in each run.
type draw uint64

func (d *draw) upTo(bound int) int {
	*d = *d*6364136223846793005 + 1442695040888963407
	return int(uint64(*d>>33)%uint64(2*bound+1)) - bound
}

func (d *draw) vec(bound int) api.Vec {
	return api.Vec{d.upTo(bound), d.upTo(bound), d.upTo(bound)}
}

func (d *draw) mat(bound int) api.Mat {
	return api.Mat{d.vec(bound), d.vec(bound), d.vec(bound)}
}

// unimodular answers a matrix of determinant 1 or -1 and what undoes it, made of steps that add rows.
func (d *draw) unimodular(steps, bound int) (api.Mat, api.Mat) {
	m, back := Identity(), Identity()
	for range steps {
		i := (d.upTo(1000) + 1000) % 3
		j := (i + 1 + (d.upTo(1000)+1000)%2) % 3
		n := d.upTo(bound)
		step, undo := Identity(), Identity()
		step[i][j], undo[i][j] = n, -n
		m, back = longProduct(step, m), longProduct(back, undo)
	}
	return m, back
}

// longProduct is the product as the document says it, without bounds.
func longProduct(a, b api.Mat) api.Mat {
	var p api.Mat
	for i := range 3 {
		for j := range 3 {
			for k := range 3 {
				p[i][j] += a[i][k] * b[k][j]
			}
		}
	}
	return p
}

type bigMat [3][3]*big.Int

func toBig(m api.Mat) bigMat {
	var b bigMat
	for i := range 3 {
		for j := range 3 {
			b[i][j] = big.NewInt(int64(m[i][j]))
		}
	}
	return b
}

func (a bigMat) times(b bigMat) bigMat {
	p := toBig(api.Mat{})
	for i := range 3 {
		for j := range 3 {
			for k := range 3 {
				p[i][j].Add(p[i][j], new(big.Int).Mul(a[i][k], b[k][j]))
			}
		}
	}
	return p
}

func (a bigMat) isIdentity() bool {
	one := toBig(Identity())
	for i := range 3 {
		for j := range 3 {
			if a[i][j].Cmp(one[i][j]) != 0 {
				return false
			}
		}
	}
	return true
}

// trueOrder is the least power, of 24, that is the identity; 0: none.
func trueOrder(m api.Mat) int {
	base := toBig(m)
	power := base
	for n := 1; n <= 24; n++ {
		if power.isIdentity() {
			return n
		}
		power = power.times(base)
	}
	return 0
}

// longDet is the determinant by its six products.
func longDet(m api.Mat) int {
	return m[0][0]*m[1][1]*m[2][2] + m[0][1]*m[1][2]*m[2][0] + m[0][2]*m[1][0]*m[2][1] -
		m[0][2]*m[1][1]*m[2][0] - m[0][1]*m[1][0]*m[2][2] - m[0][0]*m[1][2]*m[2][1]
}

func full(n int) api.Mat {
	return api.Mat{{n, n, n}, {n, n, n}, {n, n, n}}
}

func TestIdentity(t *testing.T) {
	m := Identity()
	for i := range 3 {
		for j := range 3 {
			if i == j && m[i][j] != 1 || i != j && m[i][j] != 0 {
				t.Errorf("P1.1: Identity: %d, %d: %d", i, j, m[i][j])
			}
		}
	}
}

func TestCheck(t *testing.T) {
	for i := range 3 {
		for j := range 3 {
			for _, c := range []struct {
				n int
				e api.Errno
			}{{1000, 0}, {-1000, 0}, {1001, api.ErrOver}, {-1001, api.ErrOver}, {least, api.ErrOver}, {most, api.ErrOver}} {
				m := Identity()
				m[i][j] = c.n
				if e := Check(m); e != c.e {
					t.Errorf("P1.1: Check with %d at %d, %d: %d, want %d", c.n, i, j, e, c.e)
				}
			}
		}
	}
}

func TestProducts(t *testing.T) {
	if m, e := Mul(quarter, quarter); e != 0 || m != (api.Mat{{-1, 0, 0}, {0, -1, 0}, {0, 0, 1}}) {
		t.Errorf("P1.2: Mul: %v, %d", m, e)
	}
	if v, e := Apply(quarter, api.Vec{1, 2, 3}); e != 0 || v != (api.Vec{-2, 1, 3}) {
		t.Errorf("P1.2: Apply: %v, %d", v, e)
	}
	if v, e := Left(api.Vec{1, 2, 3}, quarter); e != 0 || v != (api.Vec{2, -1, 3}) {
		t.Errorf("P1.2: Left: %v, %d", v, e)
	}
	if m, e := Transpose(nine); e != 0 || m != (api.Mat{{1, 4, 7}, {2, 5, 8}, {3, 6, 9}}) {
		t.Errorf("P1.2: Transpose: %v, %d", m, e)
	}
	var d draw
	for range 200 {
		a, b, v := d.mat(1000), d.mat(1000), d.vec(1<<31)
		if m, e := Mul(a, b); e != 0 || m != longProduct(a, b) {
			t.Fatalf("P1.2: Mul(%v, %v) = %v, %d", a, b, m, e)
		}
		var column, row api.Vec
		for i := range 3 {
			for k := range 3 {
				column[i] += a[i][k] * v[k]
				row[i] += v[k] * a[k][i]
			}
		}
		if w, e := Apply(a, v); e != 0 || w != column {
			t.Fatalf("P1.2: Apply(%v, %v) = %v, %d", a, v, w, e)
		}
		if w, e := Left(v, a); e != 0 || w != row {
			t.Fatalf("P1.2: Left(%v, %v) = %v, %d", v, a, w, e)
		}
	}
}

func TestProductsAtTheBounds(t *testing.T) {
	if m, e := Mul(full(1000), full(-1000)); e != 0 || m != full(-3000000) {
		t.Errorf("P1.2: Mul: %v, %d", m, e)
	}
	const end = -3000 << 31
	edge := api.Vec{-1 << 31, -1 << 31, -1 << 31}
	if v, e := Apply(full(1000), edge); e != 0 || v != (api.Vec{end, end, end}) {
		t.Errorf("P1.2: Apply: %v, %d", v, e)
	}
	if v, e := Left(edge, full(1000)); e != 0 || v != (api.Vec{end, end, end}) {
		t.Errorf("P1.2: Left: %v, %d", v, e)
	}
	for i := range 3 {
		for _, n := range []int{1<<31 + 1, -1<<31 - 1, least, most} {
			var v api.Vec
			v[i] = n
			if w, e := Apply(Identity(), v); e != api.ErrOver || w != (api.Vec{}) {
				t.Errorf("P1.2: Apply of %v: %v, %d", v, w, e)
			}
			if w, e := Left(v, Identity()); e != api.ErrOver || w != (api.Vec{}) {
				t.Errorf("P1.2: Left of %v: %v, %d", v, w, e)
			}
		}
	}
}

func TestDetTraceAdjugate(t *testing.T) {
	if d, e := Det(quarter); d != 1 || e != 0 {
		t.Errorf("P1.3: Det: %d, %d", d, e)
	}
	if d, e := Det(nine); d != 0 || e != 0 {
		t.Errorf("P1.3: Det: %d, %d", d, e)
	}
	if n, e := Trace(nine); n != 15 || e != 0 {
		t.Errorf("P1.3: Trace: %d, %d", n, e)
	}
	if m, e := Adjugate(nine); e != 0 || m != (api.Mat{{-3, 6, -3}, {6, -12, 6}, {-3, 6, -3}}) {
		t.Errorf("P1.3: Adjugate: %v, %d", m, e)
	}
	if m, e := Adjugate(api.Mat{{2, 0, 1}, {0, 3, 0}, {0, 0, 5}}); e != 0 || m != (api.Mat{{15, 0, -3}, {0, 10, 0}, {0, 0, 6}}) {
		t.Errorf("P1.3: Adjugate: %v, %d", m, e)
	}
	if m, e := Adjugate(api.Mat{{1000, 1000, 0}, {-1000, 1000, 0}, {0, 0, 0}}); e != 0 || m != (api.Mat{{}, {}, {0, 0, 2000000}}) {
		t.Errorf("P1.3: Adjugate: %v, %d", m, e)
	}
	if n, e := Trace(full(-1000)); n != -3000 || e != 0 {
		t.Errorf("P1.3: Trace: %d, %d", n, e)
	}
	if d, e := Det(api.Mat{{1000, 1000, -1000}, {-1000, 1000, 1000}, {1000, -1000, 1000}}); d != 4000000000 || e != 0 {
		t.Errorf("P1.3: Det: %d, %d", d, e)
	}
	var draws draw
	for range 200 {
		m := draws.mat(1000)
		d, e := Det(m)
		if e != 0 || d != longDet(m) {
			t.Fatalf("P1.3: Det(%v) = %d, %d", m, d, e)
		}
		a, e := Adjugate(m)
		want := api.Mat{{d, 0, 0}, {0, d, 0}, {0, 0, d}}
		if e != 0 || longProduct(m, a) != want || longProduct(a, m) != want {
			t.Fatalf("P1.3: Adjugate(%v) = %v, %d", m, a, e)
		}
	}
}

func TestInverse(t *testing.T) {
	for _, c := range []struct{ m, back api.Mat }{
		{api.Mat{{1, 2, 0}, {0, 1, 0}, {0, 0, -1}}, api.Mat{{1, -2, 0}, {0, 1, 0}, {0, 0, -1}}},
		{api.Mat{{1, 1000, 0}, {0, 1, 1000}, {0, 0, 1}}, api.Mat{{1, -1000, 1000000}, {0, 1, -1000}, {0, 0, 1}}},
		{minus, minus},
		{Identity(), Identity()},
	} {
		if m, e := Inverse(c.m); e != 0 || m != c.back {
			t.Errorf("P1.4: Inverse(%v) = %v, %d", c.m, m, e)
		}
	}
	var d draw
	met := 0
	for range 400 {
		m, back := d.unimodular(5, 9)
		if Check(m) != api.OK {
			continue
		}
		met++
		if got, e := Inverse(m); e != 0 || got != back {
			t.Fatalf("P1.4: Inverse(%v) = %v, %d, want %v", m, got, e, back)
		}
	}
	if met < 50 {
		t.Errorf("only %d matrices tried", met)
	}
}

func TestOrder(t *testing.T) {
	for _, c := range []struct {
		m api.Mat
		n int
		e api.Errno
	}{
		{Identity(), 1, 0},
		{minus, 2, 0},
		{third, 3, 0},
		{quarter, 4, 0},
		{sixth, 6, 0},
		{api.Mat{{0, 1, 0}, {0, 0, 1}, {-1, 0, 0}}, 6, 0},
		{api.Mat{{0, 1, 0}, {0, 0, 1}, {1, 0, 0}}, 3, 0},
		{api.Mat{{1, 1000, 1000}, {0, -1, 0}, {0, 0, -1}}, 2, 0},
		{shear, 0, api.ErrNone},
		{api.Mat{{1, 1000, 0}, {0, 1, 1000}, {0, 0, 1}}, 0, api.ErrNone},
		{api.Mat{{1000, 999, 0}, {1, 1, 0}, {0, 0, 1}}, 0, api.ErrNone},
		{api.Mat{{2, 1, 0}, {1, 1, 0}, {0, 0, 1}}, 0, api.ErrNone},
		{api.Mat{{0, 0, 1}, {1, 0, 3}, {0, 1, 3}}, 0, api.ErrNone},
	} {
		if n, e := Order(c.m); n != c.n || e != c.e {
			t.Errorf("P1.5: Order(%v) = %d, %d, want %d, %d", c.m, n, e, c.n, c.e)
		}
	}
}

func TestOrderOfSmallMatrices(t *testing.T) {
	found := map[int]int{}
	for code := range 19683 {
		var m api.Mat
		rest := code
		for i := range 3 {
			for j := range 3 {
				m[i][j] = rest%3 - 1
				rest /= 3
			}
		}
		n, e := Order(m)
		if d := longDet(m); d != 1 && d != -1 {
			if n != 0 || e != api.ErrForm {
				t.Fatalf("P1.5: Order(%v) = %d, %d", m, n, e)
			}
			continue
		}
		want := trueOrder(m)
		if n != want || (want == 0) != (e == api.ErrNone) || want != 0 && e != api.OK {
			t.Fatalf("P1.5: Order(%v) = %d, %d, want %d", m, n, e, want)
		}
		found[n]++
	}
	for _, n := range []int{0, 1, 2, 3, 4, 6} {
		if found[n] == 0 {
			t.Errorf("P1.5: no matrix of order %d met", n)
		}
	}
}

func TestOrderOfGreatMatrices(t *testing.T) {
	var d draw
	met := map[int]int{}
	for range 2000 {
		change, back := d.unimodular(4, 5)
		for _, kind := range []api.Mat{quarter, third, sixth, minus, shear} {
			m := longProduct(longProduct(change, kind), back)
			if Check(m) != api.OK {
				continue
			}
			want := trueOrder(kind)
			met[want]++
			if n, _ := Order(m); n != want {
				t.Fatalf("P1.5: Order(%v) = %d, want %d", m, n, want)
			}
		}
	}
	for _, n := range []int{0, 2, 3, 4, 6} {
		if met[n] < 50 {
			t.Errorf("only %d matrices of order %d tried", met[n], n)
		}
	}
}

func TestCompare(t *testing.T) {
	for place := range 9 {
		var a, b api.Mat
		a[place/3][place%3], b[place/3][place%3] = least, most
		for later := place + 1; later < 9; later++ {
			a[later/3][later%3], b[later/3][later%3] = most, least
		}
		if Compare(a, b) != -1 || Compare(b, a) != 1 || Compare(a, a) != 0 || Compare(b, b) != 0 {
			t.Errorf("P1.6: Compare by the place %d: %d, %d", place, Compare(a, b), Compare(b, a))
		}
	}
	if Compare(api.Mat{{0, 0, 1}}, api.Mat{{0, 1, 0}}) != -1 || Compare(Identity(), quarter) != 1 {
		t.Errorf("P1.6: Compare")
	}
}

// answer is what a call told: its result, whether that is its zero value, and the error beside it.
type answer struct {
	got  any
	zero bool
	e    api.Errno
}

func answerOf[T comparable](got T, e api.Errno) answer {
	var zero T
	return answer{got, got == zero, e}
}

// askAll asks every call that checks its matrix.
func askAll(m api.Mat) map[string]answer {
	v := api.Vec{1, 2, 3}
	return map[string]answer{
		"Mul, first":  answerOf(Mul(m, Identity())),
		"Mul, second": answerOf(Mul(Identity(), m)),
		"Apply":       answerOf(Apply(m, v)),
		"Left":        answerOf(Left(v, m)),
		"Transpose":   answerOf(Transpose(m)),
		"Det":         answerOf(Det(m)),
		"Trace":       answerOf(Trace(m)),
		"Adjugate":    answerOf(Adjugate(m)),
		"Inverse":     answerOf(Inverse(m)),
		"Order":       answerOf(Order(m)),
	}
}

func TestBeyondMaxEntry(t *testing.T) {
	for place := range 9 {
		for _, n := range []int{1001, -1001, least, most} {
			unit, noughts := Identity(), api.Mat{}
			unit[place/3][place%3], noughts[place/3][place%3] = n, n
			for _, m := range []api.Mat{unit, noughts} {
				for name, got := range askAll(m) {
					if !got.zero || got.e != api.ErrOver {
						t.Errorf("P1, ErrOver: %s of %v: %d, other results zero: %t", name, m, got.e, got.zero)
					}
				}
			}
		}
	}
}

func TestNoUnitDeterminant(t *testing.T) {
	for _, m := range []api.Mat{{}, nine, {{2, 0, 0}, {0, 1, 0}, {0, 0, 1}}, {{-2, 0, 0}, {0, 1, 0}, {0, 0, 1}}, full(1000)} {
		if got, e := Inverse(m); e != api.ErrForm || got != (api.Mat{}) {
			t.Errorf("P1.4: Inverse(%v) = %v, %d", m, got, e)
		}
		if n, e := Order(m); e != api.ErrForm || n != 0 {
			t.Errorf("P1.5: Order(%v) = %d, %d", m, n, e)
		}
	}
}

func TestSameAnswersAgain(t *testing.T) {
	for _, m := range []api.Mat{nine, quarter, shear, full(least)} {
		first, kept := askAll(m), m
		for name, got := range askAll(m) {
			if got != first[name] || m != kept {
				t.Errorf("P2: %s of %v answers unlike things", name, m)
			}
		}
	}
}

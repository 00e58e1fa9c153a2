package cell

import (
	"math"
	"math/big"
	"slices"
	"testing"

	"facet/api"
	"facet/frac"
	"facet/group"
	"facet/optext"
)

var (
	box  = api.Metric{AA: 4, BB: 9, CC: 16}
	skew = api.Metric{AA: 2, BB: 2, CC: 2, AB: -1}
)

// closed answers the group of texts.
func closed(t *testing.T, texts ...string) []api.Op {
	t.Helper()
	var list []api.Op
	for _, s := range texts {
		o, _, e := optext.Read(s)
		if e != api.OK {
			t.Fatalf("no map: %s: %d", s, e)
		}
		list = append(list, o)
	}
	g, e := group.Close(list)
	if e != api.OK {
		t.Fatalf("Close(%v): %d", texts, e)
	}
	return g
}

// draw makes numbers that are spread out, the same ones in every run.
type draw uint64

func (d *draw) below(n int) int {
	*d = *d*6364136223846793005 + 1442695040888963407
	return int(uint64(*d) >> 33 % uint64(n))
}

// between answers a number from -n to n.
func (d *draw) between(n int) int { return d.below(2*n+1) - n }

// metric answers the metric of three columns with parts up to reach, which may lie in one plane.
func (d *draw) metric(reach int) api.Metric {
	var edges [3]api.Vec
	for i := range edges {
		edges[i] = api.Vec{d.between(reach), d.between(reach), d.between(reach)}
	}
	product := func(i, j int) int {
		return edges[i][0]*edges[j][0] + edges[i][1]*edges[j][1] + edges[i][2]*edges[j][2]
	}
	return api.Metric{AA: product(0, 0), BB: product(1, 1), CC: product(2, 2), BC: product(1, 2), AC: product(0, 2), AB: product(0, 1)}
}

// metrics answers many metrics, small and great ones, those at the limit among them.
func metrics() []api.Metric {
	list := []api.Metric{
		box, skew,
		{AA: 1, BB: 1, CC: 1},
		{AA: api.MaxMetric, BB: api.MaxMetric, CC: api.MaxMetric},
		{AA: api.MaxMetric, BB: api.MaxMetric, CC: api.MaxMetric, BC: 99999, AC: 99999, AB: 99999},
		{AA: api.MaxMetric, BB: api.MaxMetric, CC: api.MaxMetric, BC: -99999, AC: 99999, AB: -99999},
		{AA: api.MaxMetric, BB: api.MaxMetric, CC: api.MaxMetric, BC: -49999, AC: -49999, AB: -49999},
		{AA: 1, BB: api.MaxMetric, CC: api.MaxMetric, BC: -99800, AC: 316, AB: -316},
		{AA: 3, BB: 14, CC: 77, BC: -20, AC: -9, AB: 6},
	}
	d := draw(7)
	for _, reach := range []int{1, 2, 5, 30, 182} {
		for range 60 {
			if m := d.metric(reach); Check(m) == api.OK {
				list = append(list, m)
			}
		}
	}
	return list
}

// matrix answers the matrix of a metric, as the chapter writes it.
func matrix(m api.Metric) [3][3]int64 {
	return [3][3]int64{
		{int64(m.AA), int64(m.AB), int64(m.AC)},
		{int64(m.AB), int64(m.BB), int64(m.BC)},
		{int64(m.AC), int64(m.BC), int64(m.CC)},
	}
}

// bigDet answers the determinant without any bound: the six products of one entry from each row.
func bigDet(g [3][3]int64) *big.Int {
	sum := new(big.Int)
	for _, c := range []struct {
		sign    int64
		a, b, c int
	}{{1, 0, 1, 2}, {1, 1, 2, 0}, {1, 2, 0, 1}, {-1, 2, 1, 0}, {-1, 1, 0, 2}, {-1, 0, 2, 1}} {
		p := big.NewInt(c.sign)
		p.Mul(p, big.NewInt(g[0][c.a])).Mul(p, big.NewInt(g[1][c.b])).Mul(p, big.NewInt(g[2][c.c]))
		sum.Add(sum, p)
	}
	return sum
}

// bordered answers h A h, A being the adjugate of g, as the determinant of g with h put in place of each row in turn: h . (adjugate h), part by part by Cramer's rule.
func bordered(g [3][3]int64, h api.Vec) *big.Int {
	sum := new(big.Int)
	for i := range g {
		with := g
		for j := range h {
			with[i][j] = int64(h[j])
		}
		p := bigDet(with)
		sum.Add(sum, p.Mul(p, big.NewInt(int64(h[i]))))
	}
	return sum
}

func TestExamples(t *testing.T) { // the chapter's examples
	if d, e := Det(box); d != 576 || e != api.OK {
		t.Errorf("Det = %d, %d", d, e)
	}
	if d, e := Det(skew); d != 6 || e != api.OK {
		t.Errorf("Det = %d, %d", d, e)
	}
	if d, e := Dot(box, api.Vec{1, 2, 0}, api.Vec{1, 0, 5}); d != 4 || e != api.OK {
		t.Errorf("Dot = %d, %d", d, e)
	}
	for _, c := range []struct {
		m    api.Metric
		h    api.Vec
		want api.Ratio
	}{
		{box, api.Vec{1, 0, 0}, api.Ratio{Num: 1, Den: 4}},
		{box, api.Vec{0, 3, 0}, api.Ratio{Num: 1, Den: 1}},
		{box, api.Vec{1, 1, 1}, api.Ratio{Num: 61, Den: 144}},
		{box, api.Vec{}, api.Ratio{Num: 0, Den: 1}},
		{skew, api.Vec{1, 0, 0}, api.Ratio{Num: 2, Den: 3}},
	} {
		if r, e := Spacing(c.m, c.h); r != c.want || e != api.OK {
			t.Errorf("Spacing(%v, %v) = %v, %d", c.m, c.h, r, e)
		}
	}
	if is, e := Keeps(box, closed(t, "-x,-y,-z")); !is || e != api.OK {
		t.Errorf("Keeps = %v, %d", is, e)
	}
	if is, e := Keeps(box, closed(t, "-y,x,z")); is || e != api.OK {
		t.Errorf("Keeps = %v, %d", is, e)
	}
	for _, c := range []struct {
		p, q api.Vec
		want int
	}{{api.Vec{1, 0, 0}, api.Vec{23, 0, 0}, 16}, {api.Vec{5, 6, 7}, api.Vec{5, 6, 7}, 0}, {api.Vec{12, 12, 0}, api.Vec{}, 1872}} {
		if n, e := Far(box, api.Point{M: 24, X: c.p}, api.Point{M: 24, X: c.q}); n != c.want || e != api.OK {
			t.Errorf("Far(%v, %v) = %d, %d", c.p, c.q, n, e)
		}
	}
}

func TestCheck(t *testing.T) { // P11.1
	for _, c := range []struct {
		m api.Metric
		e api.Errno
	}{
		{box, api.OK},
		{api.Metric{}, api.ErrArg},
		{api.Metric{AA: 1, BB: 1, CC: 1, AB: 1}, api.ErrForm},
		{api.Metric{AA: 1, BB: 1, CC: 1, AC: 1}, api.ErrForm},
		{api.Metric{AA: 1, BB: 1, CC: 1, BC: -1}, api.ErrForm},
		{api.Metric{AA: 2, BB: 2, CC: 2, BC: -1, AC: -1, AB: -1}, api.ErrForm},
		{api.Metric{AA: 2, BB: 2, CC: 2, BC: 1, AC: 1, AB: 1}, api.OK},
		// The determinant is 15, but a - b has a square below 0.
		{api.Metric{AA: 1, BB: 1, CC: 1, BC: 3, AC: 3, AB: 2}, api.ErrForm},
		{api.Metric{AA: api.MaxMetric, BB: api.MaxMetric, CC: api.MaxMetric, BC: api.MaxMetric, AC: api.MaxMetric, AB: api.MaxMetric}, api.ErrForm},
		{api.Metric{AA: api.MaxMetric, BB: api.MaxMetric, CC: api.MaxMetric, BC: -api.MaxMetric, AC: -api.MaxMetric, AB: -api.MaxMetric}, api.ErrForm},
		{api.Metric{AA: api.MaxMetric, BB: api.MaxMetric, CC: api.MaxMetric, BC: api.MaxMetric, AC: -api.MaxMetric, AB: -99999}, api.ErrForm},
		{api.Metric{AA: api.MaxMetric, BB: api.MaxMetric, CC: api.MaxMetric, BC: 99999, AC: 99999, AB: 99999}, api.OK},
		{api.Metric{AA: api.MaxMetric, BB: api.MaxMetric, CC: api.MaxMetric, BC: -50000, AC: -50000, AB: -50000}, api.ErrForm},
		{api.Metric{AA: api.MaxMetric, BB: api.MaxMetric, CC: api.MaxMetric, BC: -49999, AC: -50000, AB: -50000}, api.OK},
	} {
		if e := Check(c.m); e != c.e {
			t.Errorf("Check(%v) = %d, want %d", c.m, e, c.e)
		}
	}
}

func TestCheckAgainstColumns(t *testing.T) { // P11.1: no column but 0 has a square of 0 or below
	const reach = 7
	for n := range 3 * 3 * 3 * 7 * 7 * 7 {
		m := api.Metric{
			AA: 1 + n%3, BB: 1 + n/3%3, CC: 1 + n/9%3,
			BC: n/27%7 - 3, AC: n/27/7%7 - 3, AB: n/27/49 - 3,
		}
		want := api.OK
		for k := range (2*reach + 1) * (2*reach + 1) * (2*reach + 1) {
			v := api.Vec{k%(2*reach+1) - reach, k/(2*reach+1)%(2*reach+1) - reach, k/(2*reach+1)/(2*reach+1) - reach}
			if v != (api.Vec{}) && square(m, v) <= 0 {
				want = api.ErrForm
				break
			}
		}
		if e := Check(m); e != want {
			t.Errorf("Check(%v) = %d, want %d", m, e, want)
		}
	}
}

// square answers v G v, written out.
func square(m api.Metric, v api.Vec) int {
	return v[0]*v[0]*m.AA + v[1]*v[1]*m.BB + v[2]*v[2]*m.CC + 2*(v[1]*v[2]*m.BC+v[0]*v[2]*m.AC+v[0]*v[1]*m.AB)
}

func TestCheckRange(t *testing.T) { // P11.1, MaxMetric: at it and one beyond, at each entry
	at := []func(*api.Metric, int){
		func(m *api.Metric, n int) { m.AA = n }, func(m *api.Metric, n int) { m.BB = n }, func(m *api.Metric, n int) { m.CC = n },
		func(m *api.Metric, n int) { m.BC = n }, func(m *api.Metric, n int) { m.AC = n }, func(m *api.Metric, n int) { m.AB = n },
	}
	for i, set := range at {
		for _, n := range []int{math.MinInt, -api.MaxMetric - 1, -api.MaxMetric, 0, 1, api.MaxMetric, api.MaxMetric + 1, math.MaxInt} {
			m := api.Metric{AA: 9, BB: 9, CC: 9}
			set(&m, n)
			want := api.OK
			switch {
			case n < -api.MaxMetric || n > api.MaxMetric || i < 3 && n < 1:
				want = api.ErrArg
			case i >= 3 && (n > 8 || n < -8):
				want = api.ErrForm
			}
			if e := Check(m); e != want {
				t.Errorf("Check(%v) = %d, want %d", m, e, want)
			}
		}
	}
	// An entry outside its range goes before what else is wrong.
	for i, set := range at {
		m := api.Metric{AA: 9, BB: 9, CC: 9, BC: 50, AC: 50, AB: 50}
		set(&m, api.MaxMetric+1)
		if e := Check(m); e != api.ErrArg {
			t.Errorf("Check(%v), beyond at %d: %d", m, i, e)
		}
	}
}

func TestDetAndDot(t *testing.T) { // P11.2
	d := draw(3)
	for _, m := range metrics() {
		want := bigDet(matrix(m))
		if n, e := Det(m); e != api.OK || want.Cmp(big.NewInt(int64(n))) != 0 {
			t.Errorf("Det(%v) = %d, %d, want %v", m, n, e, want)
		}
		columns := [][2]api.Vec{
			{{api.MaxEntry, api.MaxEntry, api.MaxEntry}, {api.MaxEntry, api.MaxEntry, api.MaxEntry}},
			{{-api.MaxEntry, api.MaxEntry, -api.MaxEntry}, {api.MaxEntry, -api.MaxEntry, -api.MaxEntry}},
			{{}, {1, 2, 3}},
		}
		for range 5 {
			columns = append(columns, [2]api.Vec{{d.between(1000), d.between(1000), d.between(1000)}, {d.between(9), d.between(9), d.between(9)}})
		}
		for _, c := range columns {
			want, g := 0, matrix(m)
			for i := range g {
				for j := range g[i] {
					want += c[0][i] * int(g[i][j]) * c[1][j]
				}
			}
			if n, e := Dot(m, c[0], c[1]); n != want || e != api.OK {
				t.Errorf("Dot(%v, %v) = %d, %d, want %d", m, c, n, e, want)
			}
		}
	}
}

func TestSpacing(t *testing.T) { // P11.3
	d := draw(5)
	for _, m := range metrics() {
		indices := []api.Vec{{}, {1, 0, 0}, {0, -1, 0}, {0, 0, 2}, {512, 512, 512}, {-512, 512, -512}, {512, -512, -512}}
		for range 10 {
			indices = append(indices, api.Vec{d.between(6), d.between(6), d.between(6)}, api.Vec{d.between(512), d.between(512), d.between(512)})
		}
		for _, h := range indices {
			want := new(big.Rat).SetFrac(bordered(matrix(m), h), bigDet(matrix(m)))
			r, e := Spacing(m, h)
			// A Rat is kept in lowest terms, nought as 0 over 1.
			if e != api.OK || want.Num().Cmp(big.NewInt(int64(r.Num))) != 0 || want.Denom().Cmp(big.NewInt(int64(r.Den))) != 0 {
				t.Errorf("Spacing(%v, %v) = %v, %d, want %v", m, h, r, e, want)
			}
			back, _ := Spacing(m, api.Vec{-h[0], -h[1], -h[2]})
			if back != r {
				t.Errorf("Spacing(%v, %v): its opposite has %v, not %v", m, h, back, r)
			}
		}
	}
}

func TestKeeps(t *testing.T) { // P11.4
	groups := [][]string{
		nil, {"-x,-y,-z"}, {"-x,y+1/2,-z"}, {"-y,x,z+1/4"}, {"-y,x-y,z"}, {"x-y,x,z"}, {"z,x,y"}, {"y,x,-z"}, {"-x,-y,z", "-x,y,-z"},
		{"-x,-y,z", "-x,y,-z", "z,x,y", "y,x,-z", "-x,-y,-z"}, {"x+1/2,y+1/2,z"}, {"x+3y,-y,z"}, {"x+1000y,-y,z"},
	}
	cells := append(metrics(),
		api.Metric{AA: 4, BB: 4, CC: 9}, api.Metric{AA: 4, BB: 4, CC: 9, AB: -2}, api.Metric{AA: 4, BB: 4, CC: 9, AB: 2}, api.Metric{AA: 5, BB: 5, CC: 5, BC: 1, AC: 1, AB: 1},
		api.Metric{AA: 5, BB: 5, CC: 5, BC: 1, AC: 1, AB: -1}, api.Metric{AA: 4, BB: 9, CC: 16, AC: 3}, api.Metric{AA: 4, BB: 4, CC: 16, BC: 1, AC: 1}, api.Metric{AA: 2, BB: 7, CC: 1, AB: -3}, api.Metric{AA: 4, BB: 9, CC: 16, BC: 3})
	kept, broken := 0, 0
	for _, texts := range groups {
		g := closed(t, texts...)
		for _, m := range cells {
			want := true
			for _, o := range g {
				want = want && keptByHand(m, o.R)
			}
			if is, e := Keeps(m, g); is != want || e != api.OK {
				t.Errorf("Keeps(%v, %v) = %v, %d, want %v", m, texts, is, e, want)
			}
			if want {
				kept++
			} else {
				broken++
			}
		}
	}
	if kept < 100 || broken < 100 {
		t.Errorf("kept %d, broken %d: the test asks too little of one", kept, broken)
	}
}

// keptByHand tells whether R^t G R is G, entry by entry.
func keptByHand(m api.Metric, r api.Mat) bool {
	g := matrix(m)
	for i := range 3 {
		for j := range 3 {
			sum := 0
			for k := range 3 {
				for l := range 3 {
					sum += r[k][i] * int(g[k][l]) * r[l][j]
				}
			}
			if sum != int(g[i][j]) {
				return false
			}
		}
	}
	return true
}

func TestFar(t *testing.T) { // P11.5
	d := draw(11)
	for _, m := range metrics() {
		for _, fine := range []int{24, 48, 96, 192} {
			places := []api.Vec{{}, {fine - 1, fine - 1, fine - 1}, {fine / 2, fine / 2, fine / 2}, {1, 0, 0}, {0, fine / 2, 1}}
			for range 3 {
				places = append(places, api.Vec{d.below(fine), d.below(fine), d.below(fine)})
			}
			for _, x := range places {
				for _, y := range places[:4] {
					p, q := api.Point{M: fine, X: x}, api.Point{M: fine, X: y}
					want := farByHand(t, m, p, q)
					n, e := Far(m, p, q)
					back, f := Far(m, q, p)
					if n != want || e != api.OK || back != want || f != api.OK {
						t.Fatalf("Far(%v, %v, %v) = %d, %d, and back %d, %d, want %d", m, p, q, n, e, back, f, want)
					}
				}
			}
		}
	}
}

// farByHand goes through columns that are X's modulo M, five to a part, and takes those whose parts lie from -M to M.
func farByHand(t *testing.T, m api.Metric, p, q api.Point) int {
	x, e := frac.Minus(p, q)
	if e != api.OK {
		t.Fatalf("Minus: %d", e)
	}
	least := math.MaxInt
	for k := range 125 {
		v := x.X
		inside := true
		for i, shift := range [3]int{k % 5, k / 5 % 5, k / 25} {
			v[i] += (shift - 2) * x.M
			inside = inside && v[i] >= -x.M && v[i] <= x.M
		}
		if inside {
			least = min(least, square(m, v))
		}
	}
	return least
}

func TestFarOfNoughts(t *testing.T) { // P11.5: a part that is 0 has three choices, and a further cell isn't asked
	m := api.Metric{AA: 1, BB: 101, CC: 100, AB: 10}
	// b - 10 a is short, but lies too far off; of what is asked, b/2 - a is the nearest.
	if n, e := Far(m, api.Point{M: 24, X: api.Vec{0, 12, 0}}, api.Point{M: 24}); n != 24*24-2*24*12*10+144*101 || e != api.OK {
		t.Errorf("Far = %d, %d", n, e)
	}
	m.AB = -10
	if n, e := Far(m, api.Point{M: 24, X: api.Vec{0, 12, 0}}, api.Point{M: 24}); n != 24*24-2*24*12*10+144*101 || e != api.OK {
		t.Errorf("Far = %d, %d", n, e)
	}
}

func TestCompare(t *testing.T) { // P11.6
	numbers := []int{math.MinInt, math.MinInt + 1, -1 << 62, -7, -3, -2, -1, 0, 1, 2, 3, 5, 7, 1 << 31, 1 << 62, 1<<62 - 1, math.MaxInt - 1, math.MaxInt}
	var list []api.Ratio
	for _, num := range numbers {
		for _, den := range numbers {
			if den > 0 && new(big.Int).GCD(nil, nil, new(big.Int).Abs(big.NewInt(int64(num))), big.NewInt(int64(den))).Cmp(big.NewInt(1)) == 0 {
				list = append(list, api.Ratio{Num: num, Den: den})
			}
		}
	}
	if len(list) < 100 || !slices.Contains(list, api.Ratio{Num: 0, Den: 1}) {
		t.Fatalf("%d ratios", len(list))
	}
	for _, a := range list {
		for _, b := range list {
			want := big.NewRat(int64(a.Num), int64(a.Den)).Cmp(big.NewRat(int64(b.Num), int64(b.Den)))
			if n, e := Compare(a, b); n != want || e != api.OK {
				t.Errorf("Compare(%v, %v) = %d, %d, want %d", a, b, n, e, want)
			}
		}
	}
}

func TestCompareErrors(t *testing.T) { // P11.6: ratios that are not in form
	one := api.Ratio{Num: 1, Den: 1}
	for _, r := range []api.Ratio{
		{}, {Num: 1}, {Num: 1, Den: -1}, {Num: -1, Den: -2}, {Num: 2, Den: 4}, {Num: -2, Den: 4}, {Num: 0, Den: 2}, {Num: 0, Den: -1}, {Num: 3, Den: 3},
		{Num: math.MinInt, Den: 2}, {Num: math.MinInt, Den: math.MinInt}, {Num: 1, Den: math.MinInt}, {Num: math.MaxInt, Den: math.MaxInt}, {Num: math.MinInt, Den: 1 << 62}, {Num: 7, Den: math.MaxInt},
	} {
		for _, other := range []api.Ratio{one, r} {
			if n, e := Compare(r, other); n != 0 || e != api.ErrForm {
				t.Errorf("Compare(%v, %v) = %d, %d", r, other, n, e)
			}
			if n, e := Compare(other, r); n != 0 || e != api.ErrForm {
				t.Errorf("Compare(%v, %v) = %d, %d", other, r, n, e)
			}
		}
	}
}

// fault is a metric, and the error that is asked of it.
type fault struct {
	m api.Metric
	e api.Errno
}

var faults = []fault{
	{box, api.OK},
	{api.Metric{BB: 1, CC: 1}, api.ErrArg},
	{api.Metric{AA: 1, BB: 1, CC: 1, BC: math.MinInt}, api.ErrArg},
	{api.Metric{AA: 1, BB: 1, CC: api.MaxMetric + 1, AB: 1}, api.ErrArg},
	{api.Metric{AA: 1, BB: 1, CC: 1, AB: 1}, api.ErrForm},
	{api.Metric{AA: 2, BB: 2, CC: 2, BC: -1, AC: -1, AB: -1}, api.ErrForm},
}

// least answers the one of the two errors that goes first.
func least(a, b api.Errno) api.Errno {
	if a == api.OK || b != api.OK && b < a {
		return b
	}
	return a
}

func TestErrorsOfColumns(t *testing.T) { // P11.1, P11.2, P11.3: each call asks Check's errors; MaxEntry, MaxIndex
	for _, f := range faults {
		if n, e := Det(f.m); e != f.e || e != api.OK && n != 0 {
			t.Errorf("Det(%v) = %d, %d", f.m, n, e)
		}
		for _, part := range []int{math.MinInt, -1001, -1000, -513, -512, 0, 512, 513, 1000, 1001, math.MaxInt} {
			over, arg := api.OK, api.OK
			if part < -1000 || part > 1000 {
				over = api.ErrOver
			}
			if part < -512 || part > 512 {
				arg = api.ErrArg
			}
			for i := range 3 {
				var v api.Vec
				v[i] = part
				n, e := Dot(f.m, v, api.Vec{1, 1, 1})
				k, o := Dot(f.m, api.Vec{1, 1, 1}, v)
				if want := least(f.e, over); e != want || o != want || want != api.OK && (n != 0 || k != 0) {
					t.Errorf("Dot(%v, %v) = %d, %d and %d, %d, want %d", f.m, v, n, e, k, o, want)
				}
				r, e := Spacing(f.m, v)
				if want := least(f.e, arg); e != want || want != api.OK && r != (api.Ratio{}) {
					t.Errorf("Spacing(%v, %v) = %v, %d, want %d", f.m, v, r, e, want)
				}
			}
		}
	}
}

func TestErrorsOfGroups(t *testing.T) { // P11.1, P11.4
	good := closed(t, "-x,-y,-z")
	bad := func(change func(*api.Op)) []api.Op {
		list := slices.Clone(good)
		change(&list[0])
		return list
	}
	for _, f := range faults {
		for _, c := range []struct {
			g []api.Op
			e api.Errno
		}{
			{good, api.OK},
			{nil, api.ErrClose},
			{good[:1], api.ErrClose},
			{good[1:], api.OK},
			{[]api.Op{good[1], good[0]}, api.ErrClose},
			{make([]api.Op, api.MaxOps+1), api.ErrLong},
			{bad(func(o *api.Op) { o.T[0] = 24 }), api.ErrForm},
			{bad(func(o *api.Op) { o.R[0][0] = -2 }), api.ErrForm},
			{bad(func(o *api.Op) { o.R[0][0] = 1001 }), api.ErrOver},
			{bad(func(o *api.Op) { o.R[0][1] = math.MinInt }), api.ErrOver},
		} {
			if e := group.Check(c.g); e != c.e {
				t.Fatalf("Check(%v) = %d, want %d", c.g, e, c.e)
			}
			want := least(f.e, c.e)
			if is, e := Keeps(f.m, c.g); e != want || is != (want == api.OK) {
				t.Errorf("Keeps(%v, %v) = %v, %d, want %d", f.m, c.g, is, e, want)
			}
		}
	}
}

func TestErrorsOfPlaces(t *testing.T) { // P11.1, P11.5
	for _, f := range faults {
		for _, c := range []struct {
			p, q api.Point
			e    api.Errno
		}{
			{api.Point{M: 24}, api.Point{M: 24, X: api.Vec{23, 23, 23}}, api.OK},
			{api.Point{M: 24}, api.Point{M: 48}, api.ErrUnlike},
			{api.Point{M: 192, X: api.Vec{191, 0, 0}}, api.Point{M: 96}, api.ErrUnlike},
			{api.Point{M: 24}, api.Point{}, api.ErrForm},
			{api.Point{M: 24}, api.Point{M: 36}, api.ErrForm},
			{api.Point{M: 24}, api.Point{M: 24, X: api.Vec{0, 24, 0}}, api.ErrForm},
			{api.Point{M: 24}, api.Point{M: 48, X: api.Vec{0, 0, -1}}, api.ErrForm},
			{api.Point{M: 24}, api.Point{M: 24, X: api.Vec{math.MinInt, 0, 0}}, api.ErrForm},
			{api.Point{M: 24}, api.Point{M: math.MaxInt, X: api.Vec{math.MaxInt, 0, 0}}, api.ErrForm},
		} {
			n, e := Far(f.m, c.p, c.q)
			k, o := Far(f.m, c.q, c.p)
			if want := least(f.e, c.e); e != want || o != want || n != k || want != api.OK && n != 0 {
				t.Errorf("Far(%v, %v, %v) = %d, %d and %d, %d, want %d", f.m, c.p, c.q, n, e, k, o, want)
			}
		}
	}
}

func TestMemory(t *testing.T) { // what is handed in is neither changed nor read beyond its length
	g := closed(t, "-x,-y,z", "-x,y,-z")
	room := append(slices.Clone(g), make([]api.Op, 5)...)
	behind := slices.Clone(room)
	if is, e := Keeps(box, room[:len(g)]); !is || e != api.OK {
		t.Errorf("Keeps = %v, %d", is, e)
	}
	if !slices.Equal(room, behind) {
		t.Error("Keeps changed what it was handed")
	}
}

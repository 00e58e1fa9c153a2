package reduce

import (
	"math"
	"math/big"
	"testing"

	"facet/api"
	"facet/cell"
	"facet/vec"
)

// draw makes numbers that are spread out, the same ones in every run.
type draw uint64

func (d *draw) below(n int) int {
	*d = *d*6364136223846793005 + 1442695040888963407
	return int(uint64(*d) >> 33 % uint64(n))
}

// between answers a number from -n to n.
func (d *draw) between(n int) int { return d.below(2*n+1) - n }

// metric answers the metric of three columns with parts up to reach, which may lie in one plane.
func (d *draw) metric(reach int) api.Metric {
	var edges [3]api.Vec
	for i := range edges {
		edges[i] = api.Vec{d.between(reach), d.between(reach), d.between(reach)}
	}
	return products(api.Metric{AA: 1, BB: 1, CC: 1}, edges)
}

// product answers u G v, written out.
func product(m api.Metric, u, v api.Vec) int {
	return u[0]*v[0]*m.AA + u[1]*v[1]*m.BB + u[2]*v[2]*m.CC + (u[1]*v[2]+u[2]*v[1])*m.BC + (u[0]*v[2]+u[2]*v[0])*m.AC + (u[0]*v[1]+u[1]*v[0])*m.AB
}

// products answers the metric of three vectors that are told by the edges of m.
func products(m api.Metric, e [3]api.Vec) api.Metric {
	return api.Metric{
		AA: product(m, e[0], e[0]), BB: product(m, e[1], e[1]), CC: product(m, e[2], e[2]),
		BC: product(m, e[1], e[2]), AC: product(m, e[0], e[2]), AB: product(m, e[0], e[1]),
	}
}

// wide answers metrics that need many steps or whose edges grow on the way, those at the limit among them.
func wide() []api.Metric {
	return []api.Metric{
		{AA: 1, BB: 1, CC: 1},
		{AA: 2, BB: 2, CC: 2, BC: 1, AC: 1, AB: 1},
		{AA: 1, BB: 10, CC: 100, AB: 3},
		{AA: api.MaxMetric, BB: api.MaxMetric, CC: api.MaxMetric},
		{AA: api.MaxMetric, BB: api.MaxMetric, CC: api.MaxMetric, BC: 99999, AC: 99999, AB: 99999},
		{AA: api.MaxMetric, BB: api.MaxMetric, CC: api.MaxMetric, BC: -99999, AC: -99999, AB: 99999},
		{AA: api.MaxMetric, BB: api.MaxMetric, CC: api.MaxMetric, BC: -49999, AC: -50000, AB: -50000},
		{AA: 1, BB: api.MaxMetric, CC: api.MaxMetric, BC: -99800, AC: 316, AB: -316},
		{AA: 100, BB: 101, CC: 500, AB: 100},
		{AA: 1, BB: 90001, CC: 90001, BC: 300, AB: 300},
		{AA: 5, BB: 106, CC: 73908, BC: -547, AC: 143, AB: -23},
		{AA: 93101, BB: 86228, CC: 66330, BC: 306, AC: -4841, AB: 12511},
		{AA: 40438, BB: 31875, CC: 61045, BC: -42977, AC: 15552, AB: -3266},
	}
}

// metrics answers many metrics, small ones and wide ones.
func metrics() []api.Metric {
	list := wide()
	d := draw(7)
	for _, reach := range []int{1, 2, 3, 6, 30, 182} {
		for range 80 {
			if m := d.metric(reach); cell.Check(m) == api.OK {
				list = append(list, m)
			}
		}
	}
	return list
}

// stepByHand makes the step of P12.1 with the four vectors themselves, told by the edges of m: they are changed in place.
func stepByHand(m api.Metric, four *[4]api.Vec) (int, bool) {
	for _, p := range [][2]int{{1, 2}, {0, 2}, {0, 1}, {0, 3}, {1, 3}, {2, 3}} {
		u, v := four[p[0]], four[p[1]]
		above := product(m, u, v)
		if above <= 0 {
			continue
		}
		for w := range four {
			switch w {
			case p[0]:
				four[w] = api.Vec{-u[0], -u[1], -u[2]}
			case p[1]:
			default:
				four[w] = api.Vec{four[w][0] + u[0], four[w][1] + u[1], four[w][2] + u[2]}
			}
		}
		return above, true
	}
	return 0, false
}

func fourEdges() [4]api.Vec {
	return [4]api.Vec{{1, 0, 0}, {0, 1, 0}, {0, 0, 1}, {-1, -1, -1}}
}

// columns answers the matrix whose columns are the first three of the four.
func columns(four [4]api.Vec) api.Mat {
	var p api.Mat
	for j := range 3 {
		for i := range 3 {
			p[i][j] = four[j][i]
		}
	}
	return p
}

// sumOfSquares answers a . a + b . b + c . c + d . d.
func sumOfSquares(m api.Metric, four [4]api.Vec) int {
	sum := 0
	for _, v := range four {
		sum += product(m, v, v)
	}
	return sum
}

func TestExamples(t *testing.T) { // the chapter's examples
	one := vec.Identity()
	unit := api.Metric{AA: 1, BB: 1, CC: 1}
	long := api.Metric{AA: 1, BB: 10, CC: 100, AB: 3}
	for _, c := range []struct {
		m, want api.Metric
		p       api.Mat
		made    bool
	}{
		{unit, unit, one, false},
		{api.Metric{AA: 2, BB: 2, CC: 2, BC: 1, AC: 1, AB: 1}, api.Metric{AA: 6, BB: 2, CC: 2, BC: -1, AC: 2, AB: -3}, api.Mat{{1, 0, 0}, {1, -1, 0}, {0, 0, 1}}, true},
		{long, api.Metric{AA: 1, BB: 10, CC: 101, BC: 3, AC: -1, AB: -3}, api.Mat{{-1, 0, 1}, {0, 1, 0}, {0, 0, 1}}, true},
	} {
		if m, p, made, e := Step(c.m); m != c.want || p != c.p || made != c.made || e != api.OK {
			t.Errorf("Step(%v) = %v, %v, %v, %d", c.m, m, p, made, e)
		}
	}
	if m, p, n, e := Obtuse(unit); m != unit || p != one || n != 0 || e != api.OK {
		t.Errorf("Obtuse = %v, %v, %d, %d", m, p, n, e)
	}
	if m, e := Turned(long, api.Mat{{1, 3, 0}, {0, 1, 0}, {0, 0, 1}}); m != (api.Metric{AA: 1, BB: 37, CC: 100, AB: 6}) || e != api.OK {
		t.Errorf("Turned = %v, %d", m, e)
	}
	for _, m := range []api.Metric{unit, long} {
		if n, e := Shortest(m); n != 1 || e != api.OK {
			t.Errorf("Shortest(%v) = %d, %d", m, n, e)
		}
	}
}

func TestEachPair(t *testing.T) { // P12.1: each of the six pairs, where it is the first one above 0
	for _, c := range []struct {
		m api.Metric
		p api.Mat
	}{
		{api.Metric{AA: 9, BB: 9, CC: 9, BC: 1, AC: 1, AB: 1}, api.Mat{{1, 0, 0}, {1, -1, 0}, {0, 0, 1}}},
		{api.Metric{AA: 9, BB: 9, CC: 9, BC: 0, AC: 1, AB: 1}, api.Mat{{-1, 1, 0}, {0, 1, 0}, {0, 0, 1}}},
		{api.Metric{AA: 9, BB: 9, CC: 9, BC: -1, AC: 0, AB: 1}, api.Mat{{-1, 0, 1}, {0, 1, 0}, {0, 0, 1}}},
		{api.Metric{AA: 2, BB: 9, CC: 9, BC: 0, AC: -2, AB: -1}, api.Mat{{-1, 1, 1}, {0, 1, 0}, {0, 0, 1}}},
		{api.Metric{AA: 9, BB: 2, CC: 9, BC: -2, AC: 0, AB: -1}, api.Mat{{1, 0, 0}, {1, -1, 1}, {0, 0, 1}}},
		{api.Metric{AA: 9, BB: 9, CC: 2, BC: -2, AC: -1, AB: 0}, api.Mat{{1, 0, 0}, {0, 1, 0}, {1, 1, -1}}},
	} {
		m, p, made, e := Step(c.m)
		four := fourEdges()
		stepByHand(c.m, &four)
		want := products(c.m, [3]api.Vec{four[0], four[1], four[2]})
		if m != want || p != c.p || p != columns(four) || !made || e != api.OK {
			t.Errorf("Step(%v) = %v, %v, %v, %d, want %v, %v", c.m, m, p, made, e, want, c.p)
		}
	}
}

func TestStep(t *testing.T) { // P12.1, P12.5: the determinant of a step
	for _, m := range metrics() {
		four := fourEdges()
		_, want := stepByHand(m, &four)
		behind, p, made, e := Step(m)
		if behind != products(m, [3]api.Vec{four[0], four[1], four[2]}) || p != columns(four) || made != want || e != api.OK {
			t.Errorf("Step(%v) = %v, %v, %v, %d", m, behind, p, made, e)
		}
		if d, e := vec.Det(p); e != api.OK || made && d != -1 || !made && d != 1 {
			t.Errorf("Step(%v): the determinant of %v is %d, %d", m, p, d, e)
		}
	}
}

func TestObtuse(t *testing.T) { // P12.2, P12.5
	passed, many := false, false
	for _, m := range metrics() {
		four := fourEdges()
		count := 0
		for {
			before := sumOfSquares(m, four)
			above, made := stepByHand(m, &four)
			if !made {
				break
			}
			count++
			if after := sumOfSquares(m, four); after != before-2*above {
				t.Fatalf("the sum of squares of %v fell from %d to %d, by a step of %d", m, before, after, above)
			}
		}
		behind, p, n, e := Obtuse(m)
		if want := products(m, [3]api.Vec{four[0], four[1], four[2]}); behind != want || p != columns(four) || n != count || e != api.OK {
			t.Errorf("Obtuse(%v) = %v, %v, %d, %d, want %v, %v, %d", m, behind, p, n, e, want, columns(four), count)
		}
		edges := fourEdges()
		for i, u := range edges {
			for _, v := range edges[:i] {
				if product(behind, u, v) > 0 {
					t.Errorf("Obtuse(%v) = %v: a product is above 0", m, behind)
				}
			}
		}
		if bigDet(behind).Cmp(bigDet(m)) != 0 {
			t.Errorf("Obtuse(%v) = %v: its determinant is another", m, behind)
		}
		passed = passed || max(behind.AA, behind.BB, behind.CC) > api.MaxMetric
		many = many || n > 2000 && vec.Check(p) == api.ErrOver
	}
	if !passed || !many {
		t.Error("no answer has an entry beyond MaxMetric, or none a matrix beyond MaxEntry: the test asks too little")
	}
}

// bigDet answers the determinant of a metric's matrix without any bound.
func bigDet(m api.Metric) *big.Int {
	times := func(k, a, b, c int) *big.Int {
		p := new(big.Int).Mul(big.NewInt(int64(a)), big.NewInt(int64(b)))
		return p.Mul(p, big.NewInt(int64(c))).Mul(p, big.NewInt(int64(k)))
	}
	sum := times(1, m.AA, m.BB, m.CC)
	sum.Add(sum, times(2, m.BC, m.AC, m.AB)).Add(sum, times(-1, m.AA, m.BC, m.BC))
	return sum.Add(sum, times(-1, m.BB, m.AC, m.AC)).Add(sum, times(-1, m.CC, m.AB, m.AB))
}

func TestObtuseIsSteps(t *testing.T) { // P12.2: Obtuse is Step again and again, where each metric may be handed in
	whole := 0
	for _, m := range metrics() {
		behind, p, n, _ := Obtuse(m)
		now, all := m, vec.Identity()
		for range n {
			next, q, made, e := Step(now)
			if e == api.ErrArg {
				break
			}
			product, f := vec.Mul(all, q)
			if f != api.OK {
				break
			}
			if !made || e != api.OK {
				t.Fatalf("Step(%v) = %v, %d within Obtuse(%v)", now, made, e, m)
			}
			now, all = next, product
		}
		if _, _, made, e := Step(now); e == api.OK && !made {
			whole++
			if now != behind || all != p {
				t.Errorf("Obtuse(%v) = %v, %v, and step by step %v, %v", m, behind, p, now, all)
			}
		}
	}
	if whole < 100 {
		t.Errorf("only %d could be gone through", whole)
	}
}

func TestTurned(t *testing.T) { // P12.3
	d := draw(13)
	turns := []api.Mat{
		vec.Identity(),
		{{-1, 0, 0}, {0, -1, 0}, {0, 0, -1}},
		{{0, 1, 0}, {0, 0, 1}, {1, 0, 0}},
		{{1, 1000, 0}, {0, 1, 0}, {0, 0, 1}},
		{{1, -1000, 1000}, {0, -1, 1000}, {0, 0, 1}},
		{{999, 1000, -1000}, {998, 999, 1000}, {0, 0, 1}},
		{{1, 0, 0}, {2, 1, 0}, {-3, 5, -1}},
	}
	for range 20 {
		low := api.Mat{{1, 0, 0}, {d.between(9), -1, 0}, {d.between(9), d.between(9), 1}}
		high := api.Mat{{1, d.between(9), d.between(9)}, {0, 1, d.between(9)}, {0, 0, 1}}
		p, _ := vec.Mul(low, high)
		turns = append(turns, p)
	}
	for _, m := range metrics() {
		for _, p := range turns {
			want := products(m, [3]api.Vec{{p[0][0], p[1][0], p[2][0]}, {p[0][1], p[1][1], p[2][1]}, {p[0][2], p[1][2], p[2][2]}})
			if behind, e := Turned(m, p); behind != want || e != api.OK {
				t.Errorf("Turned(%v, %v) = %v, %d, want %v", m, p, behind, e, want)
			}
		}
		behind, p, _, e := Step(m)
		if turned, f := Turned(m, p); turned != behind || e != api.OK || f != api.OK {
			t.Errorf("Turned(%v, %v) = %v, not what the step made: %v", m, p, turned, behind)
		}
	}
}

func TestShortest(t *testing.T) { // P12.4, P12.5: against all vectors that could be so short
	asked := 0
	for _, m := range metrics() {
		n, e := Shortest(m)
		behind, _, _, _ := Obtuse(m)
		least := behind.AA
		for _, v := range []api.Vec{{0, 1, 0}, {0, 0, 1}, {-1, -1, -1}, {1, 1, 0}, {1, 0, 1}, {0, 1, 1}} {
			least = min(least, product(behind, v, v))
		}
		if n != least || e != api.OK {
			t.Errorf("Shortest(%v) = %d, %d, want %d", m, n, e, least)
		}
		if k, f := Shortest(behind); f != api.ErrArg && (k != n || f != api.OK) {
			t.Errorf("Shortest(%v) = %d, and behind Obtuse %d, %d", m, n, k, f)
		}
		if want, ok := shortestByHand(m); ok {
			asked++
			if n != want {
				t.Errorf("Shortest(%v) = %d, want %d", m, n, want)
			}
		}
	}
	if asked < 200 {
		t.Errorf("only %d were asked", asked)
	}
}

// shortestByHand goes through all vectors that may be as short as the shortest edge: the square of the part on an edge is at most the vector's square times the entry of the inverse metric. It answers false where they are too many.
func shortestByHand(m api.Metric) (int, bool) {
	least := min(m.AA, m.BB, m.CC)
	det, _ := cell.Det(m)
	var reach api.Vec
	for i, entry := range [3]int{m.BB*m.CC - m.BC*m.BC, m.AA*m.CC - m.AC*m.AC, m.AA*m.BB - m.AB*m.AB} {
		reach[i] = int(math.Sqrt(float64(least)*float64(entry)/float64(det))) + 1
	}
	if reach[0]*reach[1]*reach[2] > 200000 {
		return 0, false
	}
	for x := -reach[0]; x <= reach[0]; x++ {
		for y := -reach[1]; y <= reach[1]; y++ {
			for z := -reach[2]; z <= reach[2]; z++ {
				if v := (api.Vec{x, y, z}); v != (api.Vec{}) {
					least = min(least, product(m, v, v))
				}
			}
		}
	}
	return least, true
}

func TestShortestKinds(t *testing.T) { // P12.4: each of the seven vectors is the shortest one somewhere
	for _, c := range []struct {
		m api.Metric
		n int
	}{
		{api.Metric{AA: 3, BB: 5, CC: 7}, 3},
		{api.Metric{AA: 5, BB: 3, CC: 7}, 3},
		{api.Metric{AA: 5, BB: 7, CC: 3}, 3},
		// Obtuse already; d = -a - b - c: 30 - 2 * 12 = 6.
		{api.Metric{AA: 10, BB: 10, CC: 10, BC: -4, AC: -4, AB: -4}, 6},
		// Obtuse already, with a sum of two edges below all four.
		{api.Metric{AA: 10, BB: 10, CC: 10, AB: -6, BC: -2, AC: -2}, 8},
		{api.Metric{AA: 10, BB: 10, CC: 10, AB: -2, BC: -2, AC: -6}, 8},
		{api.Metric{AA: 10, BB: 10, CC: 10, AB: -2, BC: -6, AC: -2}, 8},
		{api.Metric{AA: 5, BB: 5, CC: 5, AB: 4}, 2},
	} {
		want, ok := shortestByHand(c.m)
		if n, e := Shortest(c.m); n != c.n || n != want || !ok || e != api.OK {
			t.Errorf("Shortest(%v) = %d, %d, want %d, by hand %d", c.m, n, e, c.n, want)
		}
	}
}

func TestErrors(t *testing.T) { // P12.1 to P12.4: cell.Check's errors, and those of p
	for _, f := range []struct {
		m api.Metric
		e api.Errno
	}{
		{api.Metric{AA: 1, BB: 1, CC: 1}, api.OK},
		{api.Metric{}, api.ErrArg},
		{api.Metric{AA: 0, BB: 1, CC: 1, AB: 5}, api.ErrArg},
		{api.Metric{AA: 1, BB: 1, CC: 1, AC: api.MaxMetric + 1}, api.ErrArg},
		{api.Metric{AA: 1, BB: math.MaxInt, CC: 1, BC: math.MinInt}, api.ErrArg},
		{api.Metric{AA: 1, BB: 1, CC: 1, AB: 1}, api.ErrForm},
		{api.Metric{AA: 2, BB: 2, CC: 2, BC: -1, AC: -1, AB: -1}, api.ErrForm},
		{api.Metric{AA: 1, BB: 1, CC: 1, BC: 3, AC: 3, AB: 2}, api.ErrForm},
	} {
		bad := f.e != api.OK
		if m, p, made, e := Step(f.m); e != f.e || bad && (m != api.Metric{} || p != api.Mat{} || made) {
			t.Errorf("Step(%v) = %v, %v, %v, %d", f.m, m, p, made, e)
		}
		if m, p, n, e := Obtuse(f.m); e != f.e || bad && (m != api.Metric{} || p != api.Mat{} || n != 0) {
			t.Errorf("Obtuse(%v) = %v, %v, %d, %d", f.m, m, p, n, e)
		}
		if n, e := Shortest(f.m); e != f.e || bad && n != 0 {
			t.Errorf("Shortest(%v) = %d, %d", f.m, n, e)
		}
		for _, c := range []struct {
			p api.Mat
			e api.Errno
		}{
			{vec.Identity(), api.OK},
			{api.Mat{{1, 1000, 0}, {0, 1, -1000}, {0, 0, -1}}, api.OK},
			{api.Mat{{1, 1001, 0}, {0, 1, 0}, {0, 0, 1}}, api.ErrOver},
			{api.Mat{{1, 0, 0}, {0, 1, -1001}, {0, 0, 1}}, api.ErrOver},
			{api.Mat{{math.MinInt, 0, 0}, {0, 1, 0}, {0, 0, math.MaxInt}}, api.ErrOver},
			{api.Mat{{1001, 0, 0}}, api.ErrOver},
			{api.Mat{}, api.ErrForm},
			{api.Mat{{2, 0, 0}, {0, 1, 0}, {0, 0, 1}}, api.ErrForm},
			{api.Mat{{1, 2, 3}, {4, 5, 6}, {7, 8, 9}}, api.ErrForm},
			{api.Mat{{1000, 0, 0}, {0, 1000, 0}, {0, 0, 1000}}, api.ErrForm},
		} {
			want := f.e
			if want == api.OK || c.e != api.OK && c.e < want {
				want = c.e
			}
			if m, e := Turned(f.m, c.p); e != want || want != api.OK && m != (api.Metric{}) {
				t.Errorf("Turned(%v, %v) = %v, %d, want %d", f.m, c.p, m, e, want)
			}
		}
	}
}

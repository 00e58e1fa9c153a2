package basis

import (
	"math"
	"math/big"
	"slices"
	"testing"

	"facet/api"
	"facet/frac"
	"facet/group"
	"facet/op"
	"facet/optext"
)

// The change of the chapter's examples, and others.
var (
	one     = api.Mat{{1, 0, 0}, {0, 1, 0}, {0, 0, 1}}
	minus   = api.Mat{{-1, 0, 0}, {0, -1, 0}, {0, 0, -1}}
	example = Change{P: api.Mat{{1, 1, 0}, {0, 1, 0}, {0, 0, 1}}, O: api.Vec{12, 0, 25}}
	// What undoes these has entries up to 1 000 000 and to 1 986 001.
	steep   = Change{P: api.Mat{{1, 1000, 0}, {0, 1, 1000}, {0, 0, 1}}, O: api.Vec{math.MinInt, math.MaxInt, -1}}
	steeper = Change{P: api.Mat{{-999, 988, 1000}, {-1000, -999, -976}, {-27, 990, 985}}}
)

func shear(n int) Change {
	return Change{P: api.Mat{{1, n, 0}, {0, 1, 0}, {0, 0, 1}}}
}

// The ways in which a change is not in form, with what is answered of it alone.
var broken = []struct {
	name string
	c    Change
	e    api.Errno
}{
	{"noughts", Change{}, api.ErrForm},
	{"determinant 2", Change{P: api.Mat{{2, 0, 0}, {0, 1, 0}, {0, 0, 1}}}, api.ErrForm},
	{"determinant -2", Change{P: api.Mat{{1, 0, 0}, {0, -2, 0}, {0, 0, 1}}}, api.ErrForm},
	{"determinant 10^9", Change{P: api.Mat{{1000, 0, 0}, {0, 1000, 0}, {0, 0, 1000}}}, api.ErrForm},
	{"entry 1001", shear(1001), api.ErrOver},
	{"entry -1001", shear(-1001), api.ErrOver},
	{"the least entry", shear(math.MinInt), api.ErrOver},
	{"the greatest entry", shear(math.MaxInt), api.ErrOver},
	{"entry 1001, determinant 1001", Change{P: api.Mat{{1, 0, 0}, {0, 1, 0}, {0, 0, 1001}}}, api.ErrOver},
	{"entry 1001, determinant 0", Change{P: api.Mat{{1, 0, 0}, {0, 1, 0}, {1001, 0, 0}}}, api.ErrOver},
}

// The ways in which a map is not in form, likewise.
var brokenMaps = []struct {
	name string
	o    api.Op
	e    api.Errno
}{
	{"a part of 24", api.Op{R: one, T: api.Vec{0, 0, 24}}, api.ErrForm},
	{"a part below 0", api.Op{R: one, T: api.Vec{-1, 0, 0}}, api.ErrForm},
	{"noughts", api.Op{}, api.ErrForm},
	{"entry 1001", api.Op{R: shear(1001).P}, api.ErrOver},
	{"entry 1001 and determinant 0", api.Op{R: api.Mat{{1001, 0, 0}, {0, 0, 0}, {0, 0, 0}}}, api.ErrOver},
	{"entry -1001 and a part of 24", api.Op{R: shear(-1001).P, T: api.Vec{24, 0, 0}}, api.ErrForm},
}

// whole is a matrix of whole numbers without bounds.
type whole [3][3]*big.Int

func wholeOf(m api.Mat) whole {
	var w whole
	for i := range m {
		for j := range m[i] {
			w[i][j] = big.NewInt(int64(m[i][j]))
		}
	}
	return w
}

func (a whole) times(b whole) whole {
	var p whole
	for i := range p {
		for j := range p[i] {
			p[i][j] = new(big.Int)
			for k := range 3 {
				p[i][j].Add(p[i][j], new(big.Int).Mul(a[i][k], b[k][j]))
			}
		}
	}
	return p
}

// column answers a v, part by part.
func (a whole) column(v api.Vec) [3]*big.Int {
	p := a.times(wholeOf(api.Mat{{v[0], 0, 0}, {v[1], 0, 0}, {v[2], 0, 0}}))
	return [3]*big.Int{p[0][0], p[1][0], p[2][0]}
}

func (a whole) within(bound int64) bool {
	for _, row := range a {
		for _, n := range row {
			if new(big.Int).Abs(n).Cmp(big.NewInt(bound)) > 0 {
				return false
			}
		}
	}
	return true
}

// small answers a as a Mat; its entries must have room there.
func (a whole) small(t *testing.T) api.Mat {
	t.Helper()
	var m api.Mat
	for i := range a {
		for j := range a[i] {
			if !a[i][j].IsInt64() {
				t.Fatalf("no room for %v", a[i][j])
			}
			m[i][j] = int(a[i][j].Int64())
		}
	}
	return m
}

func (a whole) flipped() whole {
	return whole{{a[0][0], a[1][0], a[2][0]}, {a[0][1], a[1][1], a[2][1]}, {a[0][2], a[1][2], a[2][2]}}
}

// undone answers what undoes a matrix of determinant 1 or -1: row by row the vector products of its columns, times the determinant.
func undone(m api.Mat) whole {
	c := wholeOf(m).flipped()
	cross := func(a, b [3]*big.Int) [3]*big.Int {
		var v [3]*big.Int
		for i := range v {
			j, k := (i+1)%3, (i+2)%3
			v[i] = new(big.Int).Sub(new(big.Int).Mul(a[j], b[k]), new(big.Int).Mul(a[k], b[j]))
		}
		return v
	}
	q := whole{cross(c[1], c[2]), cross(c[2], c[0]), cross(c[0], c[1])}
	if d := q.times(wholeOf(m))[0][0]; d.Sign() < 0 {
		return q.times(wholeOf(minus))
	}
	return q
}

// modulo answers the sum of some columns modulo m.
func modulo(m int, list ...[3]*big.Int) api.Vec {
	var v api.Vec
	for i := range v {
		sum := new(big.Int)
		for _, c := range list {
			sum.Add(sum, c[i])
		}
		v[i] = int(sum.Mod(sum, big.NewInt(int64(m))).Int64())
	}
	return v
}

// draw is a row of numbers that looks like chance and is the same in each run.
type draw uint64

func (d *draw) below(n int) int {
	*d = *d*6364136223846793005 + 1442695040888963407
	return int(uint64(*d>>33) % uint64(n))
}

// change answers a change in form; what undoes it often has entries beyond MaxEntry.
func (d *draw) change() Change {
	c := Change{P: one, O: api.Vec{d.below(200) - 100, d.below(24), d.below(1<<30) << 33}}
	reach := []int{1, 9, 60, 900}[d.below(4)]
	for range d.below(7) {
		step := one
		i := d.below(3)
		step[i][(i+1+d.below(2))%3] = d.below(2*reach+1) - reach
		if d.below(3) == 0 {
			step[i][i] = -1
		}
		if p := wholeOf(step).times(wholeOf(c.P)); p.within(1000) {
			for i := range p {
				for j := range p[i] {
					c.P[i][j] = int(p[i][j].Int64())
				}
			}
		}
	}
	return c
}

func (d *draw) point() api.Point {
	m := []int{24, 48, 96, 192}[d.below(4)]
	return api.Point{M: m, X: api.Vec{d.below(m), d.below(m), d.below(m)}}
}

// Groups of some sorts.
func samples(t *testing.T) [][]api.Op {
	t.Helper()
	var list [][]api.Op
	for _, texts := range [][]string{
		nil,
		{"-x,-y,-z"},
		{"-y,x,z+1/4"},
		{"-x,y+1/2,-z", "-x,-y,-z"},
		{"x-y,x,z+1/2", "y,x,-z", "-x,-y,-z"},
		{"x+2/3,y+1/3,z+1/3", "-y,x-y,z"},
		{"-x,-y,z", "-x,y,-z", "z,x,y", "y,x,-z", "-x,-y,-z"},
		{"x+1/8,y,z", "x,y+1/24,z"},
		{"x,y+1/2,z+1/2", "x+1/2,y,z+1/2", "-x+3/4,-y+1/4,z+1/2", "-x+1/4,y+1/2,-z+3/4", "z,x,y", "y+3/4,x+1/4,-z+1/2", "-x,-y,-z"},
	} {
		var maps []api.Op
		for _, s := range texts {
			o, _, e := optext.Read(s)
			if e != api.OK {
				t.Fatalf("no map: %s: %d", s, e)
			}
			maps = append(maps, o)
		}
		g, e := group.Close(maps)
		if e != api.OK {
			t.Fatalf("Close(%v): %d", texts, e)
		}
		list = append(list, g)
	}
	return list
}

// opSlow answers o behind c as the chapter says it.
func opSlow(t *testing.T, c Change, o api.Op) (api.Op, api.Errno) {
	r := wholeOf(c.P).times(wholeOf(o.R)).times(undone(c.P))
	if !r.within(1000) {
		return api.Op{}, api.ErrOver
	}
	v := modulo(24, wholeOf(c.P).column(o.T), wholeOf(one).column(c.O), r.times(wholeOf(minus)).column(c.O))
	return api.Op{R: r.small(t), T: v}, api.OK
}

func TestBehindAndBackExamples(t *testing.T) { // P7.1
	back := Change{P: api.Mat{{1, -1, 0}, {0, 1, 0}, {0, 0, 1}}, O: api.Vec{12, 0, 23}}
	if c, e := Back(example); e != api.OK || c != back {
		t.Errorf("Back = %v, %d", c, e)
	}
	if c, e := Behind(example, back); e != api.OK || c != (Change{P: one}) {
		t.Errorf("Behind(c, Back(c)) = %v, %d", c, e)
	}
	if c, e := Behind(Change{P: one, O: api.Vec{-1, 24, math.MaxInt}}, Change{P: minus, O: api.Vec{math.MinInt, 1, 0}}); e != api.OK || c != (Change{P: minus, O: api.Vec{15, 1, 7}}) {
		t.Errorf("Behind with great origins = %v, %d", c, e)
	}
	for _, c := range []struct {
		a, b, n int
		e       api.Errno
	}{{999, 1, 1000, api.OK}, {-1, -999, -1000, api.OK}, {1000, -1000, 0, api.OK}, {1000, 1, 0, api.ErrOver}, {-1000, -1, 0, api.ErrOver}, {1000, 1000, 0, api.ErrOver}} {
		want := shear(c.n)
		if c.e != api.OK {
			want = Change{}
		}
		if got, e := Behind(shear(c.a), shear(c.b)); got != want || e != c.e {
			t.Errorf("Behind of shears %d and %d = %v, %d", c.a, c.b, got, e)
		}
	}
	if c, e := Back(Change{P: api.Mat{{1, 40, 0}, {0, 1, 25}, {0, 0, 1}}}); e != api.OK || c.P != (api.Mat{{1, -40, 1000}, {0, 1, -25}, {0, 0, 1}}) {
		t.Errorf("Back to the bound = %v, %d", c, e)
	}
	for _, c := range []Change{steep, steeper, {P: api.Mat{{1, 77, 0}, {0, 1, 13}, {0, 0, 1}}}} {
		if back, e := Back(c); e != api.ErrOver || back != (Change{}) {
			t.Errorf("Back(%v) = %v, %d", c, back, e)
		}
	}
}

func TestBehindAndBackOfMany(t *testing.T) { // P7.1
	d := draw(1)
	ends := map[api.Errno]int{}
	for range 2000 {
		a, b := d.change(), d.change()
		var want Change
		f := api.ErrOver
		if p := wholeOf(a.P).times(wholeOf(b.P)); p.within(1000) {
			want, f = Change{P: p.small(t), O: modulo(24, wholeOf(a.P).column(b.O), wholeOf(one).column(a.O))}, api.OK
		}
		if c, e := Behind(a, b); c != want || e != f {
			t.Fatalf("Behind(%v, %v) = %v, %d, want %v, %d", a, b, c, e, want, f)
		}
		ends[f]++
		want, f = Change{}, api.ErrOver
		if q := undone(a.P); q.within(1000) {
			want, f = Change{P: q.small(t), O: modulo(24, q.times(wholeOf(minus)).column(a.O))}, api.OK
		}
		if c, e := Back(a); c != want || e != f {
			t.Fatalf("Back(%v) = %v, %d, want %v, %d", a, c, e, want, f)
		}
		ends[f]++
	}
	if ends[api.OK] < 500 || ends[api.ErrOver] < 500 {
		t.Errorf("the changes are lopsided: %v", ends)
	}
}

func TestPoint(t *testing.T) { // P7.2
	for _, c := range []struct {
		m       int
		x, want api.Vec
	}{{24, api.Vec{1, 2, 3}, api.Vec{15, 2, 4}}, {48, api.Vec{1, 2, 3}, api.Vec{27, 2, 5}}} {
		if p, e := Point(example, api.Point{M: c.m, X: c.x}); e != api.OK || p != (api.Point{M: c.m, X: c.want}) {
			t.Errorf("Point(%v in %d) = %v, %d", c.x, c.m, p, e)
		}
	}
	d := draw(2)
	for _, c := range append([]Change{steep, steeper, {P: minus, O: api.Vec{math.MinInt, math.MinInt, math.MaxInt}}}, slices.Collect(d.changes(2000))...) {
		p := d.point()
		part := api.Mat{{p.M / 24, 0, 0}, {0, p.M / 24, 0}, {0, 0, p.M / 24}}
		want := api.Point{M: p.M, X: modulo(p.M, wholeOf(c.P).column(p.X), wholeOf(part).column(c.O))}
		if q, e := Point(c, p); e != api.OK || q != want {
			t.Fatalf("Point(%v, %v) = %v, %d, want %v", c, p, q, e, want)
		}
	}
}

// changes gives out n changes.
func (d *draw) changes(n int) func(yield func(Change) bool) {
	return func(yield func(Change) bool) {
		for range n {
			if !yield(d.change()) {
				return
			}
		}
	}
}

func TestOpExamples(t *testing.T) { // P7.3
	if o, e := Op(example, api.Op{R: minus}); e != api.OK || o != (api.Op{R: minus, T: api.Vec{0, 0, 2}}) {
		t.Errorf("Op of -x,-y,-z = %v, %d", o, e)
	}
	for _, c := range []Change{example, steep, steeper, {P: minus, O: api.Vec{math.MinInt, math.MaxInt, 5}}} {
		if o, e := Op(c, op.One()); e != api.OK || o != op.One() {
			t.Errorf("Op(%v) of x,y,z = %v, %d", c, o, e)
		}
		if o, e := Op(c, api.Op{R: minus}); e != api.OK || o.R != minus {
			t.Errorf("Op(%v) of -x,-y,-z = %v, %d", c, o, e)
		}
	}
	mirror := api.Op{R: api.Mat{{1, 0, 0}, {0, -1, 0}, {0, 0, 1}}}
	for _, c := range []struct {
		n, entry int
		e        api.Errno
	}{{500, -1000, api.OK}, {-500, 1000, api.OK}, {501, 0, api.ErrOver}, {-501, 0, api.ErrOver}} {
		want := api.Op{R: api.Mat{{1, c.entry, 0}, {0, -1, 0}, {0, 0, 1}}}
		if c.e != api.OK {
			want = api.Op{}
		}
		if o, e := Op(shear(c.n), mirror); o != want || e != c.e {
			t.Errorf("Op of a mirror behind the shear %d = %v, %d", c.n, o, e)
		}
	}
}

func TestOpOfMany(t *testing.T) { // P7.3, P7.5
	d := draw(3)
	ends := map[api.Errno]int{}
	groups := samples(t)
	for range 4000 {
		g := groups[d.below(len(groups))]
		c, o, p := d.change(), g[d.below(len(g))], d.point()
		if d.below(4) == 0 {
			o.R = d.change().P // any matrix in form, also without an order
		}
		want, f := opSlow(t, c, o)
		n, e := Op(c, o)
		if n != want || e != f {
			t.Fatalf("Op(%v, %v) = %v, %d, want %v, %d", c, o, n, e, want, f)
		}
		ends[f]++
		if e != api.OK {
			continue
		}
		sent, _ := op.Apply(o, p)
		left, _ := Point(c, sent)
		told, _ := Point(c, p)
		if right, e := op.Apply(n, told); e != api.OK || left != right {
			t.Fatalf("%v, %v at %v: %v, %v", c, o, p, left, right)
		}
	}
	if ends[api.OK] < 1000 || ends[api.ErrOver] < 500 {
		t.Errorf("the changes are lopsided: %v", ends)
	}
}

func TestGroup(t *testing.T) { // P7.3, P7.5
	d := draw(4)
	ends := map[api.Errno]int{}
	for _, g := range samples(t) {
		for _, c := range append([]Change{example, steep, steeper}, slices.Collect(d.changes(60))...) {
			var want []api.Op
			f := api.OK
			for _, o := range g {
				n, e := opSlow(t, c, o)
				f = max(f, e)
				want = append(want, n)
			}
			slices.SortFunc(want, op.Compare)
			if f != api.OK {
				want = nil
			}
			k, e := Group(c, g)
			if e != f || !slices.Equal(k, want) {
				t.Fatalf("Group(%v) of %d maps = %v, %d, want %v, %d", c, len(g), k, e, want, f)
			}
			if e == api.OK && group.Check(k) != api.OK {
				t.Fatalf("Group(%v) of %d maps is none: %v", c, len(g), k)
			}
			ends[e]++
		}
	}
	if ends[api.OK] < 100 || ends[api.ErrOver] < 100 {
		t.Errorf("the changes are lopsided: %v", ends)
	}
}

func TestIndex(t *testing.T) { // P7.4
	if h, e := Index(example, api.Vec{1, 0, 0}); e != api.OK || h != (api.Vec{1, -1, 0}) {
		t.Errorf("Index(1 0 0) = %v, %d", h, e)
	}
	if h, e := Index(steep, api.Vec{512, -512, 512}); e != api.OK || h != (api.Vec{512, -512512, 512512512}) {
		t.Errorf("Index beyond MaxIndex = %v, %d", h, e)
	}
	d := draw(5)
	for _, c := range append([]Change{steep, steeper}, slices.Collect(d.changes(2000))...) {
		h := api.Vec{d.below(1025) - 512, d.below(1025) - 512, d.below(1025) - 512}
		if got, e := Index(c, h); e != api.OK || api.Vec(wholeOf(api.Mat{h}).times(undone(c.P)).small(t)[0]) != got {
			t.Fatalf("Index(%v, %v) = %v, %d", c, h, got, e)
		}
	}
	for i := range 3 {
		for _, n := range []int{513, -513, math.MaxInt, math.MinInt} {
			var h api.Vec
			h[i] = n
			for _, c := range []Change{example, {}, shear(1001)} {
				if got, e := Index(c, h); e != api.ErrArg || got != (api.Vec{}) {
					t.Errorf("Index(%v, %v) = %v, %d", c, h, got, e)
				}
			}
		}
	}
}

func edges(m api.Metric) api.Mat {
	return api.Mat{{m.AA, m.AB, m.AC}, {m.AB, m.BB, m.BC}, {m.AC, m.BC, m.CC}}
}

func TestMetric(t *testing.T) { // P7.4
	if m, e := Metric(example, api.Metric{AA: 4, BB: 9, CC: 1}); e != api.OK || m != (api.Metric{AA: 4, BB: 13, CC: 1, AB: -4}) {
		t.Errorf("Metric = %v, %d", m, e)
	}
	m := api.Metric{AA: 2, BB: 3, CC: 5, BC: 7, AC: 11, AB: 13}
	if n, e := Metric(Change{P: api.Mat{{0, 0, 1}, {1, 0, 0}, {0, 1, 0}}}, m); e != api.OK || n != (api.Metric{AA: 5, BB: 2, CC: 3, BC: 13, AC: 7, AB: 11}) {
		t.Errorf("Metric of edges that go round = %v, %d", n, e)
	}
	d := draw(6)
	for _, c := range append([]Change{steep, steeper}, slices.Collect(d.changes(2000))...) {
		for _, m := range []api.Metric{d.metric(), {AA: 100000, BB: 100000, CC: 100000, BC: -100000, AC: 100000, AB: -100000}, {AA: 100000, BB: 100000, CC: 100000, BC: 100000, AC: 100000, AB: 100000}} {
			q := undone(c.P)
			want := q.flipped().times(wholeOf(edges(m))).times(q).small(t)
			if n, e := Metric(c, m); e != api.OK || edges(n) != want {
				t.Fatalf("Metric(%v, %v) = %v, %d, want %v", c, m, n, e, want)
			}
		}
	}
}

func (d *draw) metric() api.Metric {
	return api.Metric{AA: 1 + d.below(100000), BB: 1 + d.below(100000), CC: 1 + d.below(100000), BC: d.below(200001) - 100000, AC: d.below(200001) - 100000, AB: d.below(200001) - 100000}
}

func TestMetricsOutsideTheirRange(t *testing.T) { // the chapter's errors
	good := api.Metric{AA: 1, BB: 1, CC: 1}
	for name, c := range map[string]struct {
		set   func(m *api.Metric, n int)
		least int
	}{
		"AA": {func(m *api.Metric, n int) { m.AA = n }, 1},
		"BB": {func(m *api.Metric, n int) { m.BB = n }, 1},
		"CC": {func(m *api.Metric, n int) { m.CC = n }, 1},
		"BC": {func(m *api.Metric, n int) { m.BC = n }, -100000},
		"AC": {func(m *api.Metric, n int) { m.AC = n }, -100000},
		"AB": {func(m *api.Metric, n int) { m.AB = n }, -100000},
	} {
		for _, n := range []int{c.least, 100000} {
			m := good
			c.set(&m, n)
			if got, e := Metric(Change{P: one}, m); e != api.OK || got != m {
				t.Errorf("Metric with %s %d = %v, %d", name, n, got, e)
			}
		}
		for _, n := range []int{c.least - 1, 100001, math.MinInt, math.MaxInt} {
			m := good
			c.set(&m, n)
			for _, change := range []Change{{P: one}, {}, shear(1001)} {
				if got, e := Metric(change, m); e != api.ErrArg || got != (api.Metric{}) {
					t.Errorf("Metric(%v) with %s %d = %v, %d", change, name, n, got, e)
				}
			}
		}
	}
}

func TestThereAndBack(t *testing.T) { // P7.5
	d := draw(7)
	groups := samples(t)
	seen := map[string]int{}
	for range 3000 {
		c := d.change()
		back, e := Back(c)
		if e != api.OK {
			continue
		}
		p := d.point()
		q, _ := Point(c, p)
		if r, e := Point(back, q); e != api.OK || r != p {
			t.Fatalf("%v there and back: %v, %d", p, r, e)
		}
		g := groups[d.below(len(groups))]
		o := g[d.below(len(g))]
		if n, e := Op(c, o); e == api.OK {
			seen["maps"]++
			if r, e := Op(back, n); e != api.OK || r != o {
				t.Fatalf("%v there and back: %v, %d", o, r, e)
			}
		}
		h := api.Vec{d.below(19) - 9, d.below(19) - 9, d.below(19) - 9}
		k, _ := Index(c, h)
		if r, e := Index(back, k); e == api.OK {
			seen["indices"]++
			if r != h {
				t.Fatalf("%v there and back: %v", h, r)
			}
		}
		m := api.Metric{AA: 100, BB: 101, CC: 102, BC: d.below(90), AC: d.below(90), AB: d.below(90)}
		n, _ := Metric(c, m)
		if r, e := Metric(back, n); e == api.OK {
			seen["metrics"]++
			if r != m {
				t.Fatalf("%v there and back: %v", m, r)
			}
		}
	}
	if seen["maps"] < 300 || seen["indices"] < 300 || seen["metrics"] < 300 {
		t.Errorf("too little came back: %v", seen)
	}
}

func TestPhasesStay(t *testing.T) { // P7.5: h . x behind a change is what it was, but for h Q . O/24
	d := draw(8)
	for range 2000 {
		c, p := d.change(), d.point()
		h := api.Vec{d.below(1025) - 512, d.below(1025) - 512, d.below(1025) - 512}
		q, _ := Point(c, p)
		k, e := Index(c, h)
		if e != api.OK {
			t.Fatalf("Index(%v, %v): %d", c, h, e)
		}
		o, _ := frac.Place(24, c.O)
		before, after := 0, 0
		for i := range 3 {
			before += h[i] * p.X[i]
			after += k[i] * (q.X[i] - o.X[i]*(p.M/24))
		}
		if (before-after)%p.M != 0 {
			t.Fatalf("%v at %v, behind %v: %d, %d in %d", h, p, c, before, after, p.M)
		}
	}
}

func TestBrokenChangesAreToldEverywhere(t *testing.T) { // P1, the chapter's errors
	g := []api.Op{op.One()}
	for _, c := range broken {
		for _, origin := range []api.Vec{{}, {-1, math.MaxInt, math.MinInt}} {
			c.c.O = origin
			calls := map[string]func() (bool, api.Errno){
				"Behind, first":  func() (bool, api.Errno) { n, e := Behind(c.c, example); return n == Change{}, e },
				"Behind, second": func() (bool, api.Errno) { n, e := Behind(example, c.c); return n == Change{}, e },
				"Behind, both":   func() (bool, api.Errno) { n, e := Behind(c.c, c.c); return n == Change{}, e },
				"Back":           func() (bool, api.Errno) { n, e := Back(c.c); return n == Change{}, e },
				"Point":          func() (bool, api.Errno) { p, e := Point(c.c, api.Point{M: 24}); return p == api.Point{}, e },
				"Op":             func() (bool, api.Errno) { o, e := Op(c.c, op.One()); return o == api.Op{}, e },
				"Group":          func() (bool, api.Errno) { l, e := Group(c.c, g); return len(l) == 0, e },
				"Index":          func() (bool, api.Errno) { h, e := Index(c.c, api.Vec{512, -512, 0}); return h == api.Vec{}, e },
				"Metric": func() (bool, api.Errno) {
					m, e := Metric(c.c, api.Metric{AA: 1, BB: 1, CC: 1})
					return m == api.Metric{}, e
				},
			}
			for name, call := range calls {
				if zero, e := call(); !zero || e != c.e {
					t.Errorf("%s of %s: %d (zero: %t), want %d", name, c.name, e, zero, c.e)
				}
			}
		}
	}
}

func TestTheLeastErrorIsAnswered(t *testing.T) { // the order of errors
	for _, c := range append(broken, struct {
		name string
		c    Change
		e    api.Errno
	}{"a change", example, api.ErrName}) {
		for _, d := range broken {
			if n, e := Behind(c.c, d.c); e != min(c.e, d.e) || n != (Change{}) {
				t.Errorf("Behind of %s and %s = %v, %d", c.name, d.name, n, e)
			}
			if n, e := Behind(d.c, c.c); e != min(c.e, d.e) || n != (Change{}) {
				t.Errorf("Behind of %s and %s = %v, %d", d.name, c.name, n, e)
			}
		}
		for _, p := range []api.Point{{}, {M: 25}, {M: 24, X: api.Vec{0, 24, 0}}, {M: 192, X: api.Vec{-1, 0, 0}}} {
			if q, e := Point(c.c, p); e != api.ErrForm || q != (api.Point{}) {
				t.Errorf("Point of %s and %v = %v, %d", c.name, p, q, e)
			}
		}
		for _, o := range brokenMaps {
			if n, e := Op(c.c, o.o); e != min(c.e, o.e) || n != (api.Op{}) {
				t.Errorf("Op of %s and %s = %v, %d", c.name, o.name, n, e)
			}
			if l, e := Group(c.c, []api.Op{o.o}); e != min(c.e, o.e) || len(l) != 0 {
				t.Errorf("Group of %s and %s = %v, %d", c.name, o.name, l, e)
			}
		}
		mirrors := []api.Op{{R: minus}, {R: api.Mat{{1, 0, 0}, {0, -1, 0}, {0, 0, 1}}}}
		for name, l := range map[string][]api.Op{"no maps": nil, "no identity": mirrors, "out of order": {op.One(), {R: minus}}, "twice": {op.One(), op.One()}} {
			if k, e := Group(c.c, l); e != min(c.e, api.ErrClose) || len(k) != 0 {
				t.Errorf("Group of %s and %s = %v, %d", c.name, name, k, e)
			}
			// What would be answered has a say only where nothing else is wrong.
			if k, e := Group(steep, l); e != api.ErrClose || len(k) != 0 {
				t.Errorf("Group of a steep change and %s = %v, %d", name, k, e)
			}
		}
		if k, e := Group(c.c, make([]api.Op, 193)); e != api.ErrLong || len(k) != 0 {
			t.Errorf("Group of %s and 193 noughts = %v, %d", c.name, k, e)
		}
	}
}

func TestGroupKeepsToItsOwnMemory(t *testing.T) { // memory
	for _, g := range samples(t) {
		room := append(slices.Clone(g), make([]api.Op, 300)...)
		for i := range room[len(g):] {
			room[len(g)+i].T[0] = -7 - i
		}
		keep := slices.Clone(room)
		first, e := Group(Change{P: minus, O: api.Vec{1, 2, 3}}, room[:len(g)])
		if e != api.OK || !slices.Equal(room, keep) {
			t.Fatalf("Group of %d maps: %d, or what was handed in is changed", len(g), e)
		}
		want := slices.Clone(first)
		clear(first[:cap(first)])
		again, _ := Group(Change{P: minus, O: api.Vec{1, 2, 3}}, room[:len(g)])
		if !slices.Equal(again, want) || !slices.Equal(room, keep) {
			t.Errorf("Group of %d maps: the answer is bound to its argument or to an earlier answer", len(g))
		}
	}
}

package pairs

import (
	"math"
	"slices"
	"testing"

	"facet/api"
	"facet/group"
	"facet/names"
	"facet/op"
	"facet/optext"
	"facet/turn"
)

// Groups of all sorts, by what generates them, beside the known ones.
var samples = [][]string{
	{"-x+1/2,-y,-z"},
	{"-x,y+1/2,-z+1/4"},
	{"-y,x,z+1/4", "x,-y+1/2,z"},
	{"x+1/24,y,z", "x,y+1/8,z"},
	{"x+1/2,y+1/2,z+1/2", "-y,-x,z+1/2", "-x,-y,-z"},
	{"x+100y,-y,z+1/2"},
	{"-x+2y+50z,y,z", "x-2y+50z,-y+50z,z+1/2"},
	{"x+1/24,y,z+1/3", "-x,y+1/2,-z"},
}

// closed answers the group of texts.
func closed(t *testing.T, texts ...string) []api.Op {
	t.Helper()
	var list []api.Op
	for _, s := range texts {
		o, _, e := optext.Read(s)
		if e != api.OK {
			t.Fatalf("no map: %s: %d", s, e)
		}
		list = append(list, o)
	}
	g, e := group.Close(list)
	if e != api.OK {
		t.Fatalf("Close(%v): %d", texts, e)
	}
	return g
}

// groups answers the known groups and the samples.
func groups(t *testing.T) [][]api.Op {
	t.Helper()
	var list [][]api.Op
	for _, name := range names.Known() {
		g, e := names.Group(name)
		if e != api.OK {
			t.Fatalf("Group(%s): %d", name, e)
		}
		list = append(list, g)
	}
	for _, texts := range samples {
		list = append(list, closed(t, texts...))
	}
	return list
}

var finenesses = []int{24, 48, 96, 192}

// one answers the group of the identity alone.
func one() []api.Op {
	return []api.Op{op.One()}
}

func wave(h, k, l int, f complex128) api.Wave {
	return api.Wave{H: api.Vec{h, k, l}, F: f}
}

// draw makes numbers that look like chance, the same ones in every run.
type draw uint64

func (d *draw) below(n int) int {
	*d = *d*6364136223846793005 + 1442695040888963407
	return int(uint64(*d>>33) % uint64(n))
}

// index answers an index with parts up to reach, often one that maps leave as it is.
func (d *draw) index(reach int) api.Vec {
	var h api.Vec
	for i := range h {
		h[i] = d.below(2*reach+1) - reach
		switch d.below(5) {
		case 0, 1:
			h[i] = 0
		case 2:
			h[i] = h[(i+2)%3]
		}
	}
	return h
}

// part answers a float: seldom a NaN with bits of its own, an infinity, a nought, the least one.
func (d *draw) part() float64 {
	switch d.below(24) {
	case 0:
		return math.Float64frombits(0x7ff8000000000000 | uint64(d.below(1<<30)))
	case 1:
		return math.Inf(1 - 2*d.below(2))
	case 2, 3:
		return 0
	case 4, 5:
		return math.Copysign(0, -1)
	case 6:
		return 0x1p-1074
	case 7:
		return -math.MaxFloat64
	}
	return float64(d.below(2000001)-1000000) / 1024
}

func (d *draw) number() complex128 {
	return complex(d.part(), d.part())
}

// waves answers as many waves of unlike indices, or fewer where there are none left.
func (d *draw) waves(n, reach int) []api.Wave {
	var list []api.Wave
	for range n {
		if h := d.index(reach); at(list, h) < 0 {
			list = append(list, api.Wave{H: h, F: d.number()})
		}
	}
	return list
}

// withOpposites answers the list with opposites of some of its waves, of which some are their conjugates.
func (d *draw) withOpposites(list []api.Wave) []api.Wave {
	both := slices.Clone(list)
	for _, w := range list {
		if d.below(3) == 0 || at(both, neg(w.H)) >= 0 {
			continue
		}
		f := conjugate(w.F)
		switch d.below(4) {
		case 0:
			f = w.F
		case 1:
			f = d.number()
		}
		// Not always behind it.
		both = slices.Insert(both, d.below(len(both)+1), api.Wave{H: neg(w.H), F: f})
	}
	return both
}

// atoms answers so many atoms of M m, none of them odd.
func (d *draw) atoms(n, m int) []api.Atom {
	list := make([]api.Atom, n)
	for i := range list {
		list[i] = api.Atom{At: api.Point{M: m, X: api.Vec{d.below(m), d.below(m), d.below(m)}}, Weight: 1 + d.below(50)}
	}
	return list
}

// bound answers how far a part of a wave of these atoms may be from that of one turned from another: each is within 2^-40 (1 + S) of the true one, and a turn may carry both parts' into one.
func bound(g []api.Op, atoms []api.Atom) float64 {
	s := 1
	for _, a := range atoms {
		s += a.Weight * len(g)
	}
	return 3 * 0x1p-40 * float64(s)
}

func mod(n, m int) int {
	return (n%m + m) % m
}

func dot(h, x api.Vec) int {
	return h[0]*x[0] + h[1]*x[1] + h[2]*x[2]
}

func neg(h api.Vec) api.Vec {
	return api.Vec{-h[0], -h[1], -h[2]}
}

// row answers h R.
func row(o api.Op, h api.Vec) api.Vec {
	var k api.Vec
	for j := range 3 {
		k[j] = h[0]*o.R[0][j] + h[1]*o.R[1][j] + h[2]*o.R[2][j]
	}
	return k
}

func plainIndex(h api.Vec) bool {
	return max(h[0], h[1], h[2]) <= 512 && min(h[0], h[1], h[2]) >= -512
}

// far tells whether a map of g turns h beyond MaxIndex.
func far(g []api.Op, h api.Vec) bool {
	return slices.ContainsFunc(g, func(o api.Op) bool { return !plainIndex(row(o, h)) })
}

func conjugate(a complex128) complex128 {
	return complex(real(a), -imag(a))
}

// same tells whether a and b are alike bit by bit, NaNs too.
func same(a, b complex128) bool {
	return math.Float64bits(real(a)) == math.Float64bits(real(b)) && math.Float64bits(imag(a)) == math.Float64bits(imag(b))
}

// alike is the same, but for which NaN a NaN is.
func alike(a, b complex128) bool {
	part := func(x, y float64) bool {
		return math.Float64bits(x) == math.Float64bits(y) || x != x && y != y
	}
	return part(real(a), real(b)) && part(imag(a), imag(b))
}

func sameWave(v, w api.Wave) bool {
	return v.H == w.H && same(v.F, w.F)
}

func sameWaves(a, b []api.Wave) bool {
	return slices.EqualFunc(a, b, sameWave)
}

func sameNumbers(a, b []api.Wave) bool {
	return slices.EqualFunc(a, b, func(v, w api.Wave) bool { return v.H == w.H && alike(v.F, w.F) })
}

// at answers the place of the wave of h in the list, or -1.
func at(list []api.Wave, h api.Vec) int {
	return slices.IndexFunc(list, func(w api.Wave) bool { return w.H == h })
}

// below tells whether a stands ahead of b.
func below(a, b api.Vec) bool {
	for i := range a {
		if a[i] != b[i] {
			return a[i] < b[i]
		}
	}
	return false
}

// orderByHand puts each wave ahead of the first one that it is below.
func orderByHand(list []api.Wave) []api.Wave {
	var l []api.Wave
	for _, w := range list {
		i := 0
		for i < len(l) && below(l[i].H, w.H) {
			i++
		}
		l = slices.Insert(l, i, w)
	}
	return l
}

func friedelByHand(list []api.Wave) []int {
	var places []int
	for i, v := range list {
		for _, w := range list {
			if w.H == neg(v.H) && !(real(v.F) == real(w.F) && imag(v.F) == -imag(w.F)) {
				places = append(places, i)
			}
		}
	}
	return places
}

// turnedByHand answers the turned wave, its four products one by one.
func turnedByHand(o api.Op, w api.Wave) api.Wave {
	z, _ := turn.Of(24-mod(dot(w.H, o.T), 24), 24)
	a, b, c, d := real(w.F), imag(w.F), real(z), imag(z)
	ac, bd, ad, bc := a*c, b*d, a*d, b*c
	return api.Wave{H: row(o, w.H), F: complex(float64(ac)-float64(bd), float64(ad)+float64(bc))}
}

// fillByHand lays one wave behind another, each where its index has none, and sorts them.
func fillByHand(g []api.Op, list []api.Wave) []api.Wave {
	var laid []api.Wave
	lay := func(w api.Wave) {
		if at(laid, w.H) < 0 {
			laid = append(laid, w)
		}
	}
	for _, w := range list {
		lay(w)
		lay(api.Wave{H: neg(w.H), F: conjugate(w.F)})
		for _, o := range g {
			v := turnedByHand(o, w)
			lay(v)
			lay(api.Wave{H: neg(v.H), F: conjugate(v.F)})
		}
	}
	return orderByHand(laid)
}

// halfByHand asks of all indices of the list and their opposites.
func halfByHand(list []api.Wave) []api.Wave {
	var half []api.Wave
	for _, w := range list {
		h := w.H
		if below(h, neg(h)) {
			h = neg(h)
		}
		if at(half, h) >= 0 {
			continue
		}
		if i := at(list, h); i >= 0 {
			half = append(half, list[i])
		} else {
			half = append(half, api.Wave{H: h, F: conjugate(list[at(list, neg(h))].F)})
		}
	}
	return orderByHand(half)
}

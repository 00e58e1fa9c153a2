package factor

import (
	"math"
	"slices"
	"testing"

	"facet/api"
	"facet/group"
	"facet/names"
	"facet/op"
	"facet/optext"
	"facet/turn"
)

// Groups of all sorts, by what generates them, beside the known ones.
var samples = [][]string{
	{"-x+1/2,-y,-z"},
	{"-x,y+1/2,-z+1/4"},
	{"-y,x,z+1/4", "x,-y+1/2,z"},
	{"x+1/24,y,z", "x,y+1/8,z"},
	{"x+1/2,y+1/2,z+1/2", "-y,-x,z+1/2", "-x,-y,-z"},
	{"x+1000y,-y,z+1/2"},
	{"-x+2y+500z,y,z", "x-2y+500z,-y+500z,z+1/2"},
}

// closed answers the group of texts.
func closed(t *testing.T, texts ...string) []api.Op {
	t.Helper()
	var list []api.Op
	for _, s := range texts {
		o, _, e := optext.Read(s)
		if e != api.OK {
			t.Fatalf("no map: %s: %d", s, e)
		}
		list = append(list, o)
	}
	g, e := group.Close(list)
	if e != api.OK {
		t.Fatalf("Close(%v): %d", texts, e)
	}
	return g
}

func known(t *testing.T, name string) []api.Op {
	t.Helper()
	g, e := names.Group(name)
	if e != api.OK {
		t.Fatalf("Group(%s): %d", name, e)
	}
	return g
}

// groups answers the known groups and the samples.
func groups(t *testing.T) [][]api.Op {
	t.Helper()
	var list [][]api.Op
	for _, name := range names.Known() {
		list = append(list, known(t, name))
	}
	for _, texts := range samples {
		list = append(list, closed(t, texts...))
	}
	return list
}

var finenesses = []int{24, 48, 96, 192}

// draw makes numbers that look like chance, the same ones in every run.
type draw uint64

func (d *draw) below(n int) int {
	*d = *d*6364136223846793005 + 1442695040888963407
	return int(uint64(*d>>33) % uint64(n))
}

// place answers a place, often one that maps leave where it is.
func (d *draw) place(m int) api.Point {
	p := api.Point{M: m}
	for i := range p.X {
		switch d.below(5) {
		case 0:
			p.X[i] = d.below(8) * m / 8
		case 1:
			p.X[i] = p.X[(i+2)%3]
		case 2:
			p.X[i] = 0
		default:
			p.X[i] = d.below(m)
		}
	}
	return p
}

// atoms answers so many atoms of M m; none is odd, unless odd is told.
func (d *draw) atoms(n, m int, odd bool) []api.Atom {
	list := make([]api.Atom, n)
	for i := range list {
		reach := []int{3, 100, api.MaxWeight}[d.below(3)]
		list[i] = api.Atom{At: d.place(m), Weight: d.below(2*reach+1) - reach}
		if odd && d.below(3) > 0 {
			list[i].Odd = d.below(2*reach+1) - reach
		}
	}
	return list
}

// index answers an index with parts up to reach, often one that maps leave as it is.
func (d *draw) index(reach int) api.Vec {
	var h api.Vec
	for i := range h {
		h[i] = d.below(2*reach+1) - reach
		switch d.below(5) {
		case 0, 1:
			h[i] = 0
		case 2:
			h[i] = h[(i+2)%3]
		}
	}
	return h
}

// indices answers small and great indices, those with parts at MaxIndex among them.
func indices(seed draw) []api.Vec {
	list := []api.Vec{{}, {1, 0, 0}, {0, -1, 0}, {0, 0, 1}, {0, 2, 0}, {1, 1, 1}, {512, 512, 512}, {-512, 512, -512}, {511, 0, 0}, {0, 0, -511}}
	for range 4 {
		list = append(list, seed.index(4), seed.index(95), seed.index(512))
	}
	return list
}

func mod(n, m int) int {
	return (n%m + m) % m
}

// orbitOf answers the unlike places to which g sends p, in order, in whole numbers of the test's own.
func orbitOf(g []api.Op, p api.Point) []api.Vec {
	var list []api.Vec
	for _, o := range g {
		var x api.Vec
		for i, row := range o.R {
			x[i] = mod(row[0]*p.X[0]+row[1]*p.X[1]+row[2]*p.X[2]+o.T[i]*(p.M/24), p.M)
		}
		list = append(list, x)
	}
	slices.SortFunc(list, func(a, b api.Vec) int { return slices.Compare(a[:], b[:]) })
	return slices.Compact(list)
}

func dot(h, x api.Vec) int {
	return h[0]*x[0] + h[1]*x[1] + h[2]*x[2]
}

// finenessOf answers the M of the atoms.
func finenessOf(atoms []api.Atom) int {
	if len(atoms) == 0 {
		return 24
	}
	return atoms[0].At.M
}

// waveByHand answers the wave step by step: the sums and the products part by part.
func waveByHand(g []api.Op, atoms []api.Atom, h api.Vec) complex128 {
	var re, im float64
	for _, a := range atoms {
		var c, s float64
		for _, x := range orbitOf(g, a.At) {
			w, _ := turn.Of(mod(dot(h, x), a.At.M), a.At.M)
			c, s = c+real(w), s+imag(w)
		}
		weight, odd := float64(a.Weight), float64(a.Odd)
		re += float64(weight*c) - float64(odd*s)
		im += float64(weight*s) + float64(odd*c)
	}
	return complex(re, im)
}

// powers is a number as whole numbers of times the powers of z, from 1 to the last before z^(M/2), which is -1.
type powers []int

// exactByHand answers the true wave as powers of the M-th part of a turn.
func exactByHand(g []api.Op, atoms []api.Atom, h api.Vec) powers {
	m := finenessOf(atoms)
	p := make(powers, m/2)
	for _, a := range atoms {
		for _, x := range orbitOf(g, a.At) {
			p.add(a.Weight, dot(h, x), m)
			p.add(a.Odd, dot(h, x)+m/4, m)
		}
	}
	return p
}

// add puts n times the power j there.
func (p powers) add(n, j, m int) {
	j = mod(j, m)
	if j >= m/2 {
		j, n = j-m/2, -n
	}
	p[j] += n
}

// ring answers the number as the ring of M tells it: z^(M/3) and those behind it are z^(M/6) - 1 turned.
func (p powers) ring() api.Ring {
	m := 2 * len(p)
	r := api.Ring{M: m, C: slices.Clone(p[:m/3])}
	for j, n := range p[m/3:] {
		r.C[j+m/6] += n
		r.C[j] -= n
	}
	return r
}

func sameRing(a, b api.Ring) bool {
	return a.M == b.M && slices.Equal(a.C, b.C)
}

func isNought(r api.Ring) bool {
	return !slices.ContainsFunc(r.C, func(n int) bool { return n != 0 })
}

// same tells whether a and b are alike bit by bit.
func same(a, b complex128) bool {
	return math.Float64bits(real(a)) == math.Float64bits(real(b)) && math.Float64bits(imag(a)) == math.Float64bits(imag(b))
}

func conjugate(a complex128) complex128 {
	return complex(real(a), -imag(a))
}

func neg(h api.Vec) api.Vec {
	return api.Vec{-h[0], -h[1], -h[2]}
}

// row answers h R.
func row(o api.Op, h api.Vec) api.Vec {
	var k api.Vec
	for j := range 3 {
		k[j] = h[0]*o.R[0][j] + h[1]*o.R[1][j] + h[2]*o.R[2][j]
	}
	return k
}

// farthest answers the greatest magnitude among the parts of what g makes of h.
func farthest(g []api.Op, h api.Vec) int {
	most := 0
	for _, o := range g {
		for _, n := range row(o, h) {
			most = max(most, n, -n)
		}
	}
	return most
}

func waveOf(t *testing.T, g []api.Op, atoms []api.Atom, h api.Vec) complex128 {
	t.Helper()
	f, e := Wave(g, atoms, h)
	if e != api.OK {
		t.Fatalf("Wave at %v of %d atoms: %d", h, len(atoms), e)
	}
	return f
}

func exactOf(t *testing.T, g []api.Op, atoms []api.Atom, h api.Vec) api.Ring {
	t.Helper()
	x, e := Exact(g, atoms, h)
	if e != api.OK {
		t.Fatalf("Exact at %v of %d atoms: %d", h, len(atoms), e)
	}
	return x
}

// one answers the group of the identity alone.
func one() []api.Op {
	return []api.Op{op.One()}
}

// atom answers an atom of M 24.
func atom(x, y, z, weight, odd int) api.Atom {
	return api.Atom{At: api.Point{M: 24, X: api.Vec{x, y, z}}, Weight: weight, Odd: odd}
}

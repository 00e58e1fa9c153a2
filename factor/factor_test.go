package factor

import (
	"math"
	"slices"
	"testing"

	"facet/absent"
	"facet/api"
	"facet/names"
	"facet/op"
	"facet/ring"
	"facet/turn"
)

// of answers the number of the ring of 24 with these coefficients, and noughts behind them.
func of(c ...int) api.Ring {
	return api.Ring{M: 24, C: append(slices.Clone(c), make([]int, 8-len(c))...)}
}

func TestPhase(t *testing.T) { // P18.1
	seed := draw(1)
	for _, m := range finenesses {
		for range 50 {
			p := seed.place(m)
			for _, h := range indices(seed) {
				if n, e := Phase(h, p); e != api.OK || n != mod(dot(h, p.X), m) {
					t.Errorf("Phase(%v, %v) = %d, %d", h, p, n, e)
				}
			}
		}
	}
	for _, c := range []struct {
		h    api.Vec
		p    api.Point
		want int
	}{
		{api.Vec{1, 2, 3}, api.Point{M: 48, X: api.Vec{5, 1, 47}}, 4},
		{api.Vec{-1, 0, 0}, api.Point{M: 24, X: api.Vec{5, 0, 0}}, 19},
		{api.Vec{512, 512, 512}, api.Point{M: 192, X: api.Vec{191, 191, 191}}, 0},
		{api.Vec{-512, -512, -511}, api.Point{M: 192, X: api.Vec{191, 191, 191}}, 191},
		{api.Vec{}, api.Point{M: 96, X: api.Vec{1, 2, 3}}, 0},
	} {
		if n, e := Phase(c.h, c.p); e != api.OK || n != c.want {
			t.Errorf("Phase(%v, %v) = %d, %d, want %d", c.h, c.p, n, e, c.want)
		}
	}
}

func TestPhaseWrong(t *testing.T) { // Errors: ErrArg before ErrForm
	right := api.Point{M: 24, X: api.Vec{1, 2, 3}}
	for _, p := range wrongPlaces() {
		if n, e := Phase(api.Vec{1, 0, 0}, p); n != 0 || e != api.ErrForm {
			t.Errorf("Phase(1 0 0, %v) = %d, %d", p, n, e)
		}
	}
	for _, h := range wrongIndices() {
		for _, p := range append(wrongPlaces(), right) {
			if n, e := Phase(h, p); n != 0 || e != api.ErrArg {
				t.Errorf("Phase(%v, %v) = %d, %d", h, p, n, e)
			}
		}
	}
}

func TestWave(t *testing.T) { // P18.2: to the last bit
	for i, g := range groups(t) {
		seed := draw(i)
		for n := range 5 {
			atoms := seed.atoms(n, finenesses[(i+n)%4], n%2 == 0)
			for _, h := range indices(seed) {
				if f, want := waveOf(t, g, atoms, h), waveByHand(g, atoms, h); !same(f, want) {
					t.Errorf("%d maps: Wave(%v, %v) = %v, want %v", len(g), atoms, h, f, want)
				}
			}
		}
	}
}

func TestWaveByHand(t *testing.T) { // P18.2: examples, noughts told apart
	both := closed(t, "-x,-y,-z")
	cosine := 2 * math.Float64frombits(0x3feee8dd4748bf15)
	for _, c := range []struct {
		g     []api.Op
		atoms []api.Atom
		h     api.Vec
		want  complex128
	}{
		{one(), nil, api.Vec{1, 2, 3}, 0},
		{both, []api.Atom{}, api.Vec{}, 0},
		{one(), []api.Atom{atom(0, 0, 0, 6, 0)}, api.Vec{3, -4, 5}, 6},
		{one(), []api.Atom{atom(12, 0, 0, 6, 0)}, api.Vec{1, 0, 0}, -6},
		{one(), []api.Atom{atom(12, 0, 0, 6, 2)}, api.Vec{1, 0, 0}, complex(-6, -2)},
		{one(), []api.Atom{atom(6, 0, 0, 1, 0)}, api.Vec{1, 0, 0}, 1i},
		{one(), []api.Atom{atom(6, 0, 0, 0, 1)}, api.Vec{1, 0, 0}, -1},
		{both, []api.Atom{atom(1, 0, 0, 1, 0)}, api.Vec{1, 0, 0}, complex(cosine, 0)},
		{both, []api.Atom{atom(0, 0, 0, 1, 0)}, api.Vec{1, 0, 0}, 1},
		{both, []api.Atom{atom(12, 0, 0, 1, 0)}, api.Vec{1, 0, 0}, -1},
		{both, []api.Atom{atom(12, 0, 0, 1, 0), atom(12, 0, 0, 1, 0)}, api.Vec{1, 0, 0}, -2},
		{one(), []api.Atom{atom(0, 0, 0, -3, 0)}, api.Vec{}, -3},
		{one(), []api.Atom{atom(0, 0, 0, 0, 0)}, api.Vec{}, 0},
	} {
		if f := waveOf(t, c.g, c.atoms, c.h); !same(f, c.want) {
			t.Errorf("Wave(%v, %v) = %v, want %v", c.atoms, c.h, f, c.want)
		}
	}
	// The whole's examples 3 and 4.
	screw := closed(t, "-x,y+1/2,-z")
	six := []api.Atom{atom(0, 0, 0, 6, 0)}
	if f, k := waveOf(t, screw, six, api.Vec{0, 2, 0}), waveOf(t, screw, six, api.Vec{0, 1, 0}); f != 12 || k != 0 {
		t.Errorf("Wave at 0 2 0 and 0 1 0 = %v, %v", f, k)
	}
	if x, y := exactOf(t, screw, six, api.Vec{0, 2, 0}), exactOf(t, screw, six, api.Vec{0, 1, 0}); !sameRing(x, of(12)) || !sameRing(y, of()) {
		t.Errorf("Exact at 0 2 0 and 0 1 0 = %v, %v", x, y)
	}
}

func TestExact(t *testing.T) { // P18.3
	for i, g := range groups(t) {
		seed := draw(50 + i)
		for n := range 5 {
			atoms := seed.atoms(n, finenesses[(i+n)%4], n%2 == 0)
			for _, h := range indices(seed) {
				if x, want := exactOf(t, g, atoms, h), exactByHand(g, atoms, h).ring(); !sameRing(x, want) {
					t.Errorf("%d maps: Exact(%v, %v) = %v, want %v", len(g), atoms, h, x, want)
				}
			}
		}
	}
}

func TestExactByHand(t *testing.T) { // P18.3: examples
	both := closed(t, "-x,-y,-z")
	for _, c := range []struct {
		g     []api.Op
		atoms []api.Atom
		h     api.Vec
		want  api.Ring
	}{
		{both, nil, api.Vec{1, 2, 3}, of()},
		{one(), []api.Atom{atom(0, 0, 0, 6, 0)}, api.Vec{1, 2, 3}, of(6)},
		{one(), []api.Atom{atom(12, 0, 0, 6, 2)}, api.Vec{1, 0, 0}, of(-6, 0, 0, 0, 0, 0, -2)},
		{both, []api.Atom{atom(1, 0, 0, 1, 0)}, api.Vec{4, 0, 0}, of(1)},
		{both, []api.Atom{atom(0, 0, 0, 0, 1)}, api.Vec{5, 0, 0}, of(0, 0, 0, 0, 0, 0, 1)},
		{one(), []api.Atom{atom(8, 0, 0, 1, 0)}, api.Vec{1, 0, 0}, of(-1, 0, 0, 0, 1)},
		{one(), []api.Atom{atom(11, 0, 0, -1, 0)}, api.Vec{1, 0, 0}, of(0, 0, 0, 1, 0, 0, 0, -1)},
		{one(), []api.Atom{atom(2, 0, 0, 0, 1)}, api.Vec{1, 0, 0}, of(-1, 0, 0, 0, 1)},
		{one(), []api.Atom{atom(18, 0, 0, 0, 1)}, api.Vec{1, 0, 0}, of(1)},
	} {
		if x := exactOf(t, c.g, c.atoms, c.h); !sameRing(x, c.want) {
			t.Errorf("Exact(%v, %v) = %v, want %v", c.atoms, c.h, x, c.want)
		}
	}
}

func TestAll(t *testing.T) { // P18.4
	for i, g := range groups(t) {
		seed := draw(100 + i)
		atoms := seed.atoms(i%4, finenesses[i%4], true)
		list := indices(seed)
		list = append(list, list[0], list[3])
		waves, e := All(g, atoms, list)
		if e != api.OK || len(waves) != len(list) {
			t.Fatalf("All of %d indices: %d waves, %d", len(list), len(waves), e)
		}
		for k, h := range list {
			if waves[k].H != h || !same(waves[k].F, waveOf(t, g, atoms, h)) {
				t.Errorf("All at %v = %v, Wave %v", h, waves[k], waveOf(t, g, atoms, h))
			}
		}
		for _, empty := range [][]api.Vec{nil, {}} {
			if waves, e := All(g, atoms, empty); e != api.OK || len(waves) != 0 {
				t.Errorf("All of no indices = %v, %d", waves, e)
			}
		}
	}
}

func TestWhole(t *testing.T) { // P18.5
	both := closed(t, "-x,-y,-z")
	if w, o, e := Whole(both, []api.Atom{atom(0, 0, 0, 3, 0), atom(1, 0, 0, -1, 4)}); w != 1 || o != 8 || e != api.OK {
		t.Errorf("Whole = %d, %d, %d", w, o, e)
	}
	if w, o, e := Whole(both, nil); w != 0 || o != 0 || e != api.OK {
		t.Errorf("Whole of no atoms = %d, %d, %d", w, o, e)
	}
	for i, g := range groups(t) {
		seed := draw(150 + i)
		for n := range 5 {
			atoms := seed.atoms(n, finenesses[(i+n)%4], true)
			weight, odd := 0, 0
			for _, a := range atoms {
				weight += a.Weight * len(orbitOf(g, a.At))
				odd += a.Odd * len(orbitOf(g, a.At))
			}
			w, o, e := Whole(g, atoms)
			if w != weight || o != odd || e != api.OK {
				t.Errorf("%d maps: Whole(%v) = %d, %d, %d", len(g), atoms, w, o, e)
			}
			want := api.Ring{M: finenessOf(atoms), C: make([]int, finenessOf(atoms)/3)}
			want.C[0], want.C[want.M/4] = w, o
			if x := exactOf(t, g, atoms, api.Vec{}); !sameRing(x, want) {
				t.Errorf("%d maps: Exact at 0 0 0 of %v = %v, want %v", len(g), atoms, x, want)
			}
		}
	}
}

// weightOf answers S.
func weightOf(g []api.Op, atoms []api.Atom) float64 {
	s := 0
	for _, a := range atoms {
		s += (max(a.Weight, -a.Weight) + max(a.Odd, -a.Odd)) * len(orbitOf(g, a.At))
	}
	return float64(s)
}

func TestHowFarOff(t *testing.T) { // P18.6, P7
	for i, g := range groups(t) {
		seed := draw(200 + i)
		for _, n := range []int{0, 1, 5, 40} {
			atoms := seed.atoms(n, finenesses[(i+n)%4], true)
			bound := 0x1p-40 * (1 + weightOf(g, atoms))
			for _, h := range indices(seed)[:8] {
				f, x := waveOf(t, g, atoms, h), exactOf(t, g, atoms, h)
				near, e := turn.Near(x)
				// Near itself may be off by half a last place: a hundredth of the bound is more than that.
				if e != api.OK || math.Abs(real(f)-real(near)) > bound*0.99 || math.Abs(imag(f)-imag(near)) > bound*0.99 {
					t.Errorf("%d maps, %d atoms: Wave at %v = %v, truly near %v, %d", len(g), n, h, f, near, e)
				}
			}
		}
	}
}

func TestAbsent(t *testing.T) { // P5, P18.7: exact waves at absent indices are 0, and only there always
	for i, g := range groups(t) {
		seed := draw(250 + i)
		list := indices(seed)
		for range 20 {
			list = append(list, seed.index(3), seed.index(95))
		}
		for _, h := range list {
			is, e := absent.Is(g, h)
			if e != api.OK {
				t.Fatal(e)
			}
			hasWave := false
			for n := range 12 {
				atoms := seed.atoms(1+n/3, finenesses[n%4], true)
				if n > 3 {
					atoms = []api.Atom{{At: api.Point{M: 192, X: api.Vec{seed.below(192), seed.below(192), seed.below(192)}}, Weight: 1}}
				}
				hasWave = hasWave || !isNought(exactOf(t, g, atoms, h))
				if is && hasWave {
					t.Fatalf("%d maps: %v is absent, and %v has a wave there", len(g), h, atoms)
				}
			}
			if !is && !hasWave && farthest(g, h) <= 95 {
				t.Errorf("%d maps: %v is not absent, and no place has a wave there", len(g), h)
			}
		}
	}
}

func TestTurnedWaves(t *testing.T) { // P6: turned back by h . T
	for i, g := range groups(t) {
		seed := draw(300 + i)
		m := finenesses[i%4]
		atoms := seed.atoms(3, m, true)
		for _, h := range indices(seed) {
			x := exactOf(t, g, atoms, h)
			for k, o := range g {
				if far := farthest([]api.Op{o}, h); far > api.MaxIndex || k%13 != 0 && k > 6 {
					continue
				}
				back, _ := ring.Root(-dot(h, o.T)*(m/24), m)
				want, e := ring.Mul(back, x)
				if y := exactOf(t, g, atoms, row(o, h)); e != api.OK || !sameRing(y, want) {
					t.Errorf("%v at %v: Exact = %v, at what it is turned into %v, want %v", o, h, x, y, want)
				}
			}
		}
	}
}

func TestOpposites(t *testing.T) { // P6, P18.7: where no atom is odd, conjugates; where one is, not
	for i, g := range groups(t) {
		seed := draw(350 + i)
		for n := range 4 {
			atoms := seed.atoms(n, finenesses[(i+n)%4], false)
			for _, h := range indices(seed) {
				if f, k := waveOf(t, g, atoms, h), waveOf(t, g, atoms, neg(h)); k != conjugate(f) {
					t.Errorf("%d maps: Wave(%v, %v) = %v, at its opposite %v", len(g), atoms, h, f, k)
				}
				want, e := ring.Conj(exactOf(t, g, atoms, h))
				if y := exactOf(t, g, atoms, neg(h)); e != api.OK || !sameRing(y, want) {
					t.Errorf("%d maps: Exact(%v, %v) = %v, want %v", len(g), atoms, neg(h), y, want)
				}
			}
		}
	}
	odd := []api.Atom{atom(1, 0, 0, 0, 1)}
	if f, k := waveOf(t, one(), odd, api.Vec{1, 0, 0}), waveOf(t, one(), odd, api.Vec{-1, 0, 0}); k == conjugate(f) {
		t.Errorf("of an odd atom: Wave = %v, at its opposite %v", f, k)
	}
}

func TestListsOfAtoms(t *testing.T) { // P18.7: the sum of both lists; another place of the same orbit
	for i, g := range groups(t) {
		seed := draw(400 + i)
		m := finenesses[i%4]
		a, b := seed.atoms(3, m, true), seed.atoms(2, m, true)
		moved := slices.Clone(a)
		for k := range moved {
			o := g[seed.below(len(g))]
			p, e := op.Apply(o, a[k].At)
			if e != api.OK {
				t.Fatal(e)
			}
			moved[k].At = p
		}
		for _, h := range indices(seed) {
			x := exactOf(t, g, a, h)
			want, e := ring.Add(x, exactOf(t, g, b, h))
			if y := exactOf(t, g, slices.Concat(a, b), h); e != api.OK || !sameRing(y, want) {
				t.Errorf("%d maps at %v: Exact of both = %v, want %v", len(g), h, y, want)
			}
			if y := exactOf(t, g, moved, h); !sameRing(y, x) {
				t.Errorf("%d maps at %v: Exact = %v, of atoms moved by maps %v", len(g), h, x, y)
			}
		}
	}
}

func TestGreatest(t *testing.T) { // P18.7: never ErrOver; MaxAtoms, MaxWeight, MaxOps, MaxIndex at once
	g := known(t, "Fm-3m")
	if len(g) != api.MaxOps {
		t.Fatalf("%d maps", len(g))
	}
	general := api.Point{M: 192, X: api.Vec{1, 7, 33}}
	for _, sign := range []int{1, -1} {
		atoms := make([]api.Atom, api.MaxAtoms)
		for i := range atoms {
			atoms[i] = api.Atom{At: general, Weight: sign * api.MaxWeight, Odd: api.MaxWeight}
		}
		all := 192 * 256 * 1000000
		if w, o, e := Whole(g, atoms); w != sign*all || o != all || e != api.OK {
			t.Errorf("Whole = %d, %d, %d", w, o, e)
		}
		for _, h := range []api.Vec{{}, {2, 0, 0}, {512, -512, 510}, {96, 96, 96}, {192, 0, 0}} {
			want := exactByHand(g, atoms, h).ring()
			if x := exactOf(t, g, atoms, h); !sameRing(x, want) {
				t.Errorf("Exact at %v = %v, want %v", h, x, want)
			}
		}
		if f := waveOf(t, g, atoms, api.Vec{}); f != complex(float64(sign*all), float64(all)) {
			t.Errorf("Wave at 0 0 0 = %v", f)
		}
	}
	waves, e := All(one(), []api.Atom{atom(1, 0, 0, 1, 0)}, make([]api.Vec, api.MaxWaves))
	if e != api.OK || len(waves) != api.MaxWaves || !same(waves[api.MaxWaves-1].F, 1) {
		t.Errorf("All of %d: %d waves, %d", api.MaxWaves, len(waves), e)
	}
}

func TestKnownNames(t *testing.T) { // a test of the tests: the groups that they go through
	if n := len(names.Known()); n < 20 || len(groups(t)) != n+len(samples) {
		t.Errorf("%d known groups", n)
	}
}

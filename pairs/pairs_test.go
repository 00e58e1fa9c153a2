package pairs

import (
	"math"
	"slices"
	"testing"

	"facet/api"
	"facet/factor"
	"facet/group"
	"facet/hkl"
	"facet/op"
	"facet/ring"
	"facet/turn"
)

// ask fails the test where a call that must work answers an error.
func ask[T any](t *testing.T, answer T, e api.Errno) T {
	t.Helper()
	if e != api.OK {
		t.Fatalf("error %d", e)
	}
	return answer
}

func orderOf(t *testing.T, list []api.Wave) []api.Wave {
	t.Helper()
	l, e := Order(list)
	return ask(t, l, e)
}

func friedelOf(t *testing.T, list []api.Wave) []int {
	t.Helper()
	l, e := Friedel(list)
	return ask(t, l, e)
}

func turnOf(t *testing.T, o api.Op, w api.Wave) api.Wave {
	t.Helper()
	v, e := Turn(o, w)
	return ask(t, v, e)
}

func fillOf(t *testing.T, g []api.Op, list []api.Wave) []api.Wave {
	t.Helper()
	l, e := Fill(g, list)
	return ask(t, l, e)
}

func halfOf(t *testing.T, list []api.Wave) []api.Wave {
	t.Helper()
	l, e := Half(list)
	return ask(t, l, e)
}

func TestOrder(t *testing.T) { // P19.1: Order
	if l := orderOf(t, []api.Wave{wave(1, 0, 0, 2), wave(0, 0, 0, 5)}); !sameWaves(l, []api.Wave{wave(0, 0, 0, 5), wave(1, 0, 0, 2)}) {
		t.Errorf("Order = %v", l)
	}
	for _, empty := range [][]api.Wave{nil, {}} {
		if l := orderOf(t, empty); len(l) != 0 {
			t.Errorf("Order of no waves = %v", l)
		}
	}
	for i := range 60 {
		seed := draw(i)
		list := seed.waves(i, []int{1, 3, 512}[i%3])
		if l := orderOf(t, list); !sameWaves(l, orderByHand(list)) {
			t.Errorf("Order(%v) = %v", list, l)
		}
	}
	// Each part counts, the first one most.
	rising := []api.Wave{wave(-512, 512, 512, 1), wave(-1, -512, 512, 2), wave(-1, 0, -512, 3), wave(-1, 0, 511, 4), wave(-1, 0, 512, 5), wave(-1, 1, -512, 6), wave(0, -512, 0, 7), wave(512, -512, -512, 8)}
	falling := slices.Clone(rising)
	slices.Reverse(falling)
	if l := orderOf(t, falling); !sameWaves(l, rising) {
		t.Errorf("Order of a falling list = %v", l)
	}
}

func TestFind(t *testing.T) { // P19.1: Find
	two := []api.Wave{wave(1, 0, 0, 2), wave(0, 0, 0, 5)}
	if f, e := Find(two, api.Vec{1, 0, 0}); f != 2 || e != api.OK {
		t.Errorf("Find at 1 0 0 = %v, %d", f, e)
	}
	for _, h := range []api.Vec{{-1, 0, 0}, {0, 0, 1}, {512, -512, 512}} {
		if f, e := Find(two, h); !same(f, 0) || e != api.ErrNone {
			t.Errorf("Find at %v = %v, %d", h, f, e)
		}
	}
	if f, e := Find(nil, api.Vec{}); !same(f, 0) || e != api.ErrNone {
		t.Errorf("Find in no waves = %v, %d", f, e)
	}
	for i := range 60 {
		seed := draw(50 + i)
		list := seed.waves(i, []int{1, 3, 512}[i%3])
		for _, w := range list {
			if f, e := Find(list, w.H); e != api.OK || !same(f, w.F) {
				t.Errorf("Find at %v = %v, %d, want %v", w.H, f, e, w.F)
			}
			if at(list, neg(w.H)) < 0 {
				if f, e := Find(list, neg(w.H)); e != api.ErrNone || !same(f, 0) {
					t.Errorf("Find at %v = %v, %d", neg(w.H), f, e)
				}
			}
		}
	}
}

func TestFriedel(t *testing.T) { // P19.2
	nan, inf, nought := math.NaN(), math.Inf(1), math.Copysign(0, -1)
	for _, c := range []struct {
		list []api.Wave
		want []int
	}{
		{nil, nil},
		{[]api.Wave{}, nil},
		{[]api.Wave{wave(1, 0, 0, 2+3i), wave(-1, 0, 0, 2-3i)}, nil},
		{[]api.Wave{wave(1, 0, 0, 2+3i), wave(-1, 0, 0, 2+3i)}, []int{0, 1}},
		{[]api.Wave{wave(1, 0, 0, 2+3i), wave(0, 0, 0, 1), wave(-1, 0, 0, 2.5-3i)}, []int{0, 2}},
		{[]api.Wave{wave(1, 0, 0, 2+3i), wave(0, 1, 0, 2+3i), wave(1, 2, 3, 4i)}, nil},
		{[]api.Wave{wave(0, 0, 0, 1+1i)}, []int{0}},
		{[]api.Wave{wave(0, 0, 0, complex(1, nought))}, nil},
		{[]api.Wave{wave(0, 0, 0, 1)}, nil},
		{[]api.Wave{wave(0, 0, 0, complex(nan, 0))}, []int{0}},
		{[]api.Wave{wave(0, 0, 0, complex(0, nan))}, []int{0}},
		{[]api.Wave{wave(0, 0, 0, complex(inf, 0))}, nil},
		{[]api.Wave{wave(0, 0, 0, complex(0, inf))}, []int{0}},
		{[]api.Wave{wave(0, 0, 0, complex(0, 0x1p-1074))}, []int{0}},
		{[]api.Wave{wave(1, 2, 3, complex(nan, 0)), wave(0, 1, 0, 1), wave(-1, -2, -3, complex(nan, 0))}, []int{0, 2}},
		{[]api.Wave{wave(1, 2, 3, complex(1, nan)), wave(0, 1, 0, complex(nan, 1)), wave(-1, -2, -3, 1)}, []int{0, 2}},
		{[]api.Wave{wave(1, 2, 3, complex(inf, -inf)), wave(-1, -2, -3, complex(inf, inf))}, nil},
		{[]api.Wave{wave(1, 2, 3, complex(inf, inf)), wave(-1, -2, -3, complex(inf, inf))}, []int{0, 1}},
		{[]api.Wave{wave(1, 2, 3, complex(nought, nought)), wave(-1, -2, -3, complex(0, nought))}, nil},
		{[]api.Wave{wave(0, 0, -512, 1i), wave(2, -1, 0, 5), wave(0, 0, 512, 1i), wave(-2, 1, 0, 5), wave(0, 0, 0, 1i)}, []int{0, 2, 4}},
	} {
		if l := friedelOf(t, c.list); !slices.Equal(l, c.want) {
			t.Errorf("Friedel(%v) = %v, want %v", c.list, l, c.want)
		}
	}
	told, kept := 0, 0
	for i := range 200 {
		seed := draw(100 + i)
		list := seed.waves(i%27, []int{1, 2, 512}[i%3])
		list = seed.withOpposites(list)
		want := friedelByHand(list)
		if l := friedelOf(t, list); !slices.Equal(l, want) {
			t.Errorf("Friedel(%v) = %v, want %v", list, l, want)
		}
		told, kept = told+len(want), kept+len(list)-len(want)
	}
	if told < 300 || kept < 300 {
		t.Errorf("%d places told, %d not", told, kept)
	}
}

func TestTurn(t *testing.T) { // P19.3: to the last bit
	screw := closed(t, "-x,y+1/2,-z")[0]
	if w := turnOf(t, screw, wave(0, 1, 2, 1+2i)); !sameWave(w, wave(0, 1, -2, -1-2i)) {
		t.Errorf("Turn = %v", w)
	}
	for i, g := range groups(t) {
		seed := draw(300 + i)
		for _, o := range g {
			for range 4 {
				w := api.Wave{H: seed.index(512), F: seed.number()}
				v := turnOf(t, o, w)
				if want := turnedByHand(o, w); v.H != want.H || !alike(v.F, want.F) {
					t.Errorf("Turn(%v, %v) = %v, want %v", o, w, v, want)
				}
			}
		}
	}
}

func TestTurnBySteps(t *testing.T) { // P19.3: the product is made at no phase too, and turns back, not on
	inf, nought := math.Inf(1), math.Copysign(0, -1)
	half := 0.5
	root, _ := turn.Of(1, 6)
	shift := func(parts int) api.Op { return api.Op{R: op.One().R, T: api.Vec{parts, 0, 0}} }
	for _, c := range []struct {
		o    api.Op
		f    complex128
		want complex128
	}{
		{op.One(), complex(nought, nought), complex(0, nought)},
		{op.One(), complex(inf, 0), complex(inf, math.NaN())},
		{op.One(), complex(0, inf), complex(math.NaN(), inf)},
		{shift(6), 1, complex(0, -1)},
		{shift(6), 1i, 1},
		{shift(18), 1, 1i},
		{shift(4), 1, complex(half, -imag(root))},
		{shift(20), 1, complex(half, imag(root))},
		{shift(12), 3 - 4i, -3 + 4i},
	} {
		if v := turnOf(t, c.o, wave(1, 0, 0, c.f)); v.H != (api.Vec{1, 0, 0}) || !alike(v.F, c.want) {
			t.Errorf("Turn(%v, %v) = %v, want %v", c.o, c.f, v, c.want)
		}
	}
	// What is answered may lie beyond MaxIndex.
	shear := api.Op{R: api.Mat{{1, 1000, 0}, {0, -1, 1000}, {0, 0, 1}}, T: api.Vec{0, 0, 6}}
	if v := turnOf(t, shear, wave(512, -512, -511, 2)); !sameWave(v, wave(512, 512512, -512511, -2i)) {
		t.Errorf("Turn = %v", v)
	}
}

func TestTurnIsOfWaves(t *testing.T) { // P19.3, P6: the waves of what a group makes of atoms are turned so
	turned := 0
	for i, g := range groups(t) {
		seed := draw(350 + i)
		m := finenesses[i%4]
		atoms := seed.atoms(3, m)
		for range 6 {
			h := seed.index(24)
			f, e := factor.Wave(g, atoms, h)
			w := api.Wave{H: h, F: ask(t, f, e)}
			x, e := factor.Exact(g, atoms, h)
			exact := ask(t, x, e)
			for k, o := range g {
				if far([]api.Op{o}, h) || k%11 != 0 && k > 6 {
					continue
				}
				v := turnOf(t, o, w)
				there, e := factor.Wave(g, atoms, v.H)
				if d := ask(t, there, e) - v.F; max(math.Abs(real(d)), math.Abs(imag(d))) > bound(g, atoms) {
					t.Errorf("%v at %v: the wave %v, turned %v", o, h, there, v.F)
				}
				back, _ := ring.Root(-dot(h, o.T)*(m/24), m)
				want, _ := ring.Mul(back, exact)
				y, e := factor.Exact(g, atoms, v.H)
				if !slices.Equal(ask(t, y, e).C, want.C) {
					t.Errorf("%v at %v: the exact wave %v, turned %v", o, h, y, want)
				}
				near, _ := turn.Near(want)
				if d := near - v.F; max(math.Abs(real(d)), math.Abs(imag(d))) > bound(g, atoms) {
					t.Errorf("%v at %v: turned %v, truly near %v", o, h, v.F, near)
				}
				if mod(dot(h, o.T), 24) != 0 && v.F != 0 {
					turned++
				}
			}
		}
	}
	if turned < 100 {
		t.Errorf("%d waves were turned by a part of a turn", turned)
	}
}

func TestFillExamples(t *testing.T) { // P19.4
	both := closed(t, "-x,-y,-z")
	screw := closed(t, "-x,y+1/2,-z")
	shift := closed(t, "x+1/4,y,z")
	nought := math.Copysign(0, -1)
	for _, c := range []struct {
		g    []api.Op
		list []api.Wave
		want []api.Wave
	}{
		{both, nil, nil},
		{both, []api.Wave{}, nil},
		{both, []api.Wave{wave(1, 0, 0, 2+3i)}, []api.Wave{wave(-1, 0, 0, 2-3i), wave(1, 0, 0, 2+3i)}},
		{screw, []api.Wave{wave(0, 1, 2, 1+2i), wave(0, -1, -2, 9)}, []api.Wave{wave(0, -1, -2, 1-2i), wave(0, -1, 2, -1+2i), wave(0, 1, -2, -1-2i), wave(0, 1, 2, 1+2i)}},
		{screw, []api.Wave{wave(0, -1, -2, 9), wave(0, 1, 2, 1+2i)}, []api.Wave{wave(0, -1, -2, complex(9, 0)), wave(0, -1, 2, complex(-9, 0)), wave(0, 1, -2, complex(-9, nought)), wave(0, 1, 2, complex(9, nought))}},
		// An absent index keeps its wave: the identity's and what comes later find it there.
		{screw, []api.Wave{wave(0, 1, 0, 1+2i)}, []api.Wave{wave(0, -1, 0, 1-2i), wave(0, 1, 0, 1+2i)}},
		{shift, []api.Wave{wave(1, 0, 0, 1+2i), wave(-1, 0, 0, 7)}, []api.Wave{wave(-1, 0, 0, 1-2i), wave(1, 0, 0, 1+2i)}},
		// The index 0 is its own opposite, and is turned by nothing.
		{both, []api.Wave{wave(0, 0, 0, 1+2i)}, []api.Wave{wave(0, 0, 0, 1+2i)}},
		{screw, []api.Wave{wave(0, 0, 0, complex(nought, nought))}, []api.Wave{wave(0, 0, 0, complex(nought, nought))}},
		// What is laid as it was handed in is not multiplied by 1.
		{one(), []api.Wave{wave(1, 0, 0, complex(nought, math.Inf(1)))}, []api.Wave{wave(-1, 0, 0, complex(nought, math.Inf(-1))), wave(1, 0, 0, complex(nought, math.Inf(1)))}},
	} {
		if l := fillOf(t, c.g, c.list); !sameWaves(l, c.want) {
			t.Errorf("Fill(%v, %v) = %v, want %v", c.g, c.list, l, c.want)
		}
	}
}

func TestFillByHand(t *testing.T) { // P19.4: step by step, on all groups
	grown := 0
	for i, g := range groups(t) {
		seed := draw(400 + i)
		for n := range 12 {
			list := seed.withOpposites(seed.waves(n, []int{1, 3, 512}[n%3]))
			// Others of the orbits, with numbers of their own.
			for _, w := range slices.Clone(list) {
				if k := row(g[seed.below(len(g))], w.H); plainIndex(k) && at(list, k) < 0 {
					list = append(list, api.Wave{H: k, F: seed.number()})
				}
			}
			list = slices.DeleteFunc(list, func(w api.Wave) bool { return far(g, w.H) })
			want := fillByHand(g, list)
			if l := fillOf(t, g, list); !sameNumbers(l, want) {
				t.Errorf("%d maps: Fill(%v) = %v, want %v", len(g), list, l, want)
			}
			if len(want) > 2*len(list) {
				grown++
			}
		}
	}
	if grown < 50 {
		t.Errorf("only %d lists grew", grown)
	}
}

func TestFillOfWaves(t *testing.T) { // P19.4, P6: the waves at few indices tell those of a whole ball
	metric := api.Metric{AA: 30, BB: 30, CC: 30}
	for _, text := range [][]string{{"-x,-y,-z"}, {"-x,y+1/2,-z"}, {"-y,x,z+1/4", "-x,-y,-z"}, {"-x+1/2,-y,z+1/2", "y,z,x"}} {
		g := closed(t, text...)
		seed := draw(450)
		atoms := seed.atoms(4, 48)
		ball, e := hkl.Ball(metric, api.Ratio{Num: 1, Den: 2})
		whole, e2 := factor.All(g, atoms, ask(t, ball, e))
		firsts, e3 := hkl.Firsts(g, ball)
		few, e4 := factor.All(g, atoms, ask(t, firsts, e3))
		ask(t, whole, e2)
		filled := fillOf(t, g, ask(t, few, e4))
		if len(filled) != len(whole) || len(filled) <= len(few) {
			t.Fatalf("%v: %d waves filled to %d, the ball has %d", text, len(few), len(filled), len(whole))
		}
		for i, w := range filled {
			if d := w.F - whole[i].F; w.H != whole[i].H || max(math.Abs(real(d)), math.Abs(imag(d))) > bound(g, atoms) {
				t.Errorf("%v: filled %v, the wave %v", text, w, whole[i])
			}
		}
		// P6: rounded waves at opposites are conjugate by ==.
		if l := friedelOf(t, whole); len(l) != 0 {
			t.Errorf("%v: Friedel of waves of atoms that are not odd = %v", text, l)
		}
		atoms[0].Odd = 5
		odd, e5 := factor.All(g, atoms, ball)
		if l := friedelOf(t, ask(t, odd, e5)); len(l) == 0 {
			t.Errorf("%v: Friedel of waves of odd atoms tells none", text)
		}
	}
}

func TestFillReaches(t *testing.T) { // P19.4, the chapter's errors: MaxIndex at it and one beyond, also where ErrLong is due
	shear := []api.Op{op.One(), {R: api.Mat{{1, 0, 0}, {511, -1, 0}, {0, 0, 1}}}}
	// Here the map that reaches farther stands first.
	ahead := []api.Op{{R: api.Mat{{-1, 0, 0}, {511, 1, 0}, {0, 0, 1}}}, op.One()}
	for _, c := range []struct {
		g []api.Op
		h api.Vec
		e api.Errno
	}{
		{shear, api.Vec{1, 1, 0}, api.OK}, {shear, api.Vec{2, 1, 0}, api.ErrArg}, {shear, api.Vec{1, 2, 0}, api.ErrArg}, {shear, api.Vec{-1, -1, 0}, api.OK}, {shear, api.Vec{-2, -1, 0}, api.ErrArg},
		{shear, api.Vec{512, 0, -512}, api.OK}, {shear, api.Vec{512, -1, 0}, api.OK}, {shear, api.Vec{512, -2, 0}, api.OK}, {shear, api.Vec{512, -3, 0}, api.ErrArg},
		{ahead, api.Vec{-1, 1, 0}, api.OK}, {ahead, api.Vec{-2, 1, 0}, api.ErrArg}, {ahead, api.Vec{1, -1, 0}, api.OK}, {ahead, api.Vec{2, -1, 0}, api.ErrArg}, {ahead, api.Vec{0, 1, 512}, api.OK},
	} {
		if e := group.Check(c.g); e != api.OK || far(c.g, c.h) != (c.e == api.ErrArg) {
			t.Fatalf("a test of the tests: %v, %d", c.h, e)
		}
		for _, list := range [][]api.Wave{{{H: c.h, F: 1}}, {wave(0, 0, 5, 1), {H: c.h, F: 1}, wave(0, 0, 7, 1)}} {
			l, e := Fill(c.g, list)
			if e != c.e || (e == api.OK) != (len(l) > 0) {
				t.Errorf("Fill at %v = %v, %d, want %d", c.h, l, e, c.e)
			}
		}
	}
	// 2049 indices make more than MaxWaves: that is told only where all of them are turned within MaxIndex.
	var list []api.Wave
	for i := range 2049 {
		list = append(list, wave(1+i%500, 0, 1+i/500, 1))
	}
	if l, e := Fill(shear, list); e != api.ErrLong || len(l) != 0 {
		t.Errorf("Fill of 2049 = %d waves, %d", len(l), e)
	}
	if l, e := Fill(shear, append(list, wave(2, 1, 0, 1))); e != api.ErrArg || len(l) != 0 {
		t.Errorf("Fill of 2049 and one that is turned too far = %d waves, %d", len(l), e)
	}
	// The opposite of an index at MaxIndex is at it too.
	if l := fillOf(t, one(), []api.Wave{wave(512, -512, 512, 1)}); len(l) != 2 {
		t.Errorf("Fill at 512 -512 512 = %v", l)
	}
}

func TestFillOfMaxWaves(t *testing.T) { // P19.4, MaxWaves: an answer of it works, one of more is ErrLong
	many := func(n int) []api.Wave {
		var list []api.Wave
		for i := range n {
			list = append(list, wave(1+i%60, 1+i/60%60, 1+i/3600, complex(float64(i), 1)))
		}
		return list
	}
	origin := wave(0, 0, 0, 3)
	four := closed(t, "-x,y+1/2,-z")
	for _, c := range []struct {
		name string
		g    []api.Op
		list []api.Wave
		want int
	}{
		{"2048", one(), many(2048), 4096},
		{"2047 and 0 0 0", one(), append(many(2047), origin), 4095},
		{"2048 and 0 0 0", one(), append(many(2048), origin), -1},
		{"0 0 0 and 2048", one(), append([]api.Wave{origin}, many(2048)...), -1},
		{"2049", one(), many(2049), -1},
		{"4096", one(), many(4096), -1},
		{"1024 of four", four, many(1024), 4096},
		{"1025 of four", four, many(1025), -1},
		{"1024 and 0 0 0 of four", four, append(many(1024), origin), -1},
	} {
		l, e := Fill(c.g, c.list)
		if c.want < 0 && (e != api.ErrLong || len(l) != 0) || c.want >= 0 && (e != api.OK || len(l) != c.want) {
			t.Errorf("Fill of %s: %d waves, %d, want %d", c.name, len(l), e, c.want)
		}
	}
	// A list that is whole already may have MaxWaves waves.
	whole := fillOf(t, one(), many(2048))
	if l := fillOf(t, one(), whole); !sameWaves(l, whole) {
		t.Errorf("Fill of what was filled: %d waves", len(l))
	}
	// As many maps as there may be, all of which lead where there is a wave.
	shifts := closed(t, "x+1/24,y,z", "x,y+1/8,z")
	if len(shifts) != api.MaxOps {
		t.Fatalf("%d maps", len(shifts))
	}
	if l := fillOf(t, shifts, many(2048)); !sameWaves(l, whole) {
		t.Errorf("Fill by %d maps: %d waves", len(shifts), len(l))
	}
}

func TestHalf(t *testing.T) { // P19.5
	nought := math.Copysign(0, -1)
	for _, c := range []struct{ list, want []api.Wave }{
		{nil, nil},
		{[]api.Wave{}, nil},
		{[]api.Wave{wave(-1, 0, 0, 2+3i), wave(0, 1, 0, 4)}, []api.Wave{wave(0, 1, 0, 4), wave(1, 0, 0, 2-3i)}},
		{[]api.Wave{wave(-1, 0, 0, 2+3i), wave(0, 1, 0, 4), wave(0, -1, 0, 7), wave(0, 0, 0, 1)}, []api.Wave{wave(0, 0, 0, 1), wave(0, 1, 0, 4), wave(1, 0, 0, 2-3i)}},
		{[]api.Wave{wave(0, -1, 0, 7), wave(0, 1, 0, 4)}, []api.Wave{wave(0, 1, 0, 4)}},
		{[]api.Wave{wave(0, 0, 0, 1+2i)}, []api.Wave{wave(0, 0, 0, 1+2i)}},
		{[]api.Wave{wave(0, 0, -512, 4)}, []api.Wave{wave(0, 0, 512, complex(4, nought))}},
		{[]api.Wave{wave(-1, 9, 9, complex(nought, nought)), wave(0, -1, 9, 1), wave(0, 0, -1, 2), wave(1, -9, -9, 3)}, []api.Wave{wave(0, 0, 1, complex(2, nought)), wave(0, 1, -9, complex(1, nought)), wave(1, -9, -9, 3)}},
	} {
		if l := halfOf(t, c.list); !sameWaves(l, c.want) {
			t.Errorf("Half(%v) = %v, want %v", c.list, l, c.want)
		}
	}
	for i := range 200 {
		seed := draw(500 + i)
		list := seed.withOpposites(seed.waves(i%27, []int{1, 2, 512}[i%3]))
		if l, want := halfOf(t, list), halfByHand(list); !sameWaves(l, want) {
			t.Errorf("Half(%v) = %v, want %v", list, l, want)
		}
	}
}

func TestWhatFollows(t *testing.T) { // P19.6
	withNaN, plain := 0, 0
	for i, g := range groups(t) {
		seed := draw(700 + i)
		for n := range 8 {
			list := seed.withOpposites(seed.waves(n, 3))
			list = slices.DeleteFunc(list, func(w api.Wave) bool { return far(g, w.H) })
			filled := fillOf(t, g, list)
			told := friedelOf(t, filled)
			for _, at := range told {
				if w := filled[at]; w.H != (api.Vec{}) && w.F == w.F {
					t.Errorf("%d maps: Friedel of what was filled tells %v", len(g), w)
				}
			}
			for at, w := range filled {
				if w.F != w.F && !slices.Contains(told, at) {
					t.Errorf("%d maps: Friedel of what was filled does not tell %v", len(g), w)
				}
			}
			if len(told) > 0 {
				withNaN++
			} else {
				plain++
			}
			again := fillOf(t, one(), halfOf(t, filled))
			if !slices.EqualFunc(again, filled, func(v, w api.Wave) bool { return v.H == w.H }) {
				t.Errorf("%d maps: %d waves were filled, of half of them %d", len(g), len(filled), len(again))
			}
		}
	}
	if withNaN < 20 || plain < 20 {
		t.Errorf("%d lists with places told, %d without", withNaN, plain)
	}
}

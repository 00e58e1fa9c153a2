package factor

import (
	"fmt"
	"math"
	"slices"
	"testing"

	"facet/api"
	"facet/op"
)

func wrongIndices() []api.Vec {
	var list []api.Vec
	for i := range 3 {
		for _, n := range []int{513, -513, math.MaxInt, math.MinInt} {
			var h api.Vec
			h[i] = n
			list = append(list, h)
		}
	}
	return list
}

func wrongPlaces() []api.Point {
	return []api.Point{
		{}, {M: 25}, {M: 12}, {M: -24}, {M: 384}, {M: math.MinInt}, {M: math.MaxInt},
		{M: 24, X: api.Vec{24, 0, 0}}, {M: 24, X: api.Vec{0, -1, 0}}, {M: 48, X: api.Vec{0, 0, 48}}, {M: 192, X: api.Vec{math.MaxInt, 0, 0}}, {M: 96, X: api.Vec{0, math.MinInt, 0}},
	}
}

// wrongAtoms answers an atom of each wrong weight.
func wrongAtoms() []api.Atom {
	var list []api.Atom
	for _, n := range []int{1000001, -1000001, math.MaxInt, math.MinInt} {
		list = append(list, atom(0, 0, 0, n, 0), atom(0, 0, 0, 0, n))
	}
	return list
}

// wrongGroups answers lists that are no groups, by the error of each.
func wrongGroups(t *testing.T) map[api.Errno][][]api.Op {
	t.Helper()
	g := closed(t, "-x,y+1/2,-z")
	long := make([]api.Op, 193)
	for i := range long {
		long[i] = op.One()
	}
	great, flat, shifted := op.One(), op.One(), op.One()
	great.R[0][1] = 1001
	flat.R[0][0] = 0
	shifted.T[1] = 24
	turned := op.One()
	turned.R[0][1] = 1
	return map[api.Errno][][]api.Op{
		api.ErrLong:  {long},
		api.ErrForm:  {{flat}, {shifted}, {op.One(), flat}, {great, shifted}},
		api.ErrOver:  {{great}, {op.One(), great}},
		api.ErrClose: {nil, {}, {g[1], g[0]}, g[:1], {op.One(), op.One()}, {turned}},
	}
}

// refuses asks that all calls but Phase answer this error and nothing beside it.
func refuses(t *testing.T, what string, g []api.Op, atoms []api.Atom, h api.Vec, want api.Errno) {
	t.Helper()
	if f, e := Wave(g, atoms, h); e != want || !same(f, 0) {
		t.Errorf("%s: Wave = %v, %d, want %d", what, f, e, want)
	}
	if x, e := Exact(g, atoms, h); e != want || x.M != 0 || len(x.C) != 0 {
		t.Errorf("%s: Exact = %v, %d, want %d", what, x, e, want)
	}
	for _, list := range [][]api.Vec{{h}, {{}, h}, {h, {}, {1, 2, 3}}} {
		if l, e := All(g, atoms, list); e != want || len(l) != 0 {
			t.Errorf("%s: All = %v, %d, want %d", what, l, e, want)
		}
	}
}

// refusesAtoms asks it of Whole too, which is given no index.
func refusesAtoms(t *testing.T, what string, g []api.Op, atoms []api.Atom, want api.Errno) {
	t.Helper()
	refuses(t, what, g, atoms, api.Vec{1, 2, 3}, want)
	if w, o, e := Whole(g, atoms); e != want || w != 0 || o != 0 {
		t.Errorf("%s: Whole = %d, %d, %d, want %d", what, w, o, e, want)
	}
	if l, e := All(g, atoms, nil); e != want || len(l) != 0 {
		t.Errorf("%s: All of no indices = %v, %d, want %d", what, l, e, want)
	}
}

func TestWrongAlone(t *testing.T) { // Errors: each by itself
	g := closed(t, "-x,-y,-z")
	right := atom(1, 2, 3, 4, 5)
	for _, h := range wrongIndices() {
		refuses(t, fmt.Sprint("index ", h), g, []api.Atom{right}, h, api.ErrArg)
	}
	for _, a := range wrongAtoms() {
		refusesAtoms(t, fmt.Sprint("atom ", a), g, []api.Atom{a}, api.ErrArg)
		refusesAtoms(t, fmt.Sprint("last atom ", a), g, []api.Atom{right, right, a}, api.ErrArg)
	}
	for _, p := range wrongPlaces() {
		refusesAtoms(t, fmt.Sprint("place ", p), g, []api.Atom{{At: p, Weight: 1}}, api.ErrForm)
		refusesAtoms(t, fmt.Sprint("last place ", p), g, []api.Atom{right, right, {At: p}}, api.ErrForm)
		refusesAtoms(t, fmt.Sprint("two like places ", p), g, []api.Atom{{At: p}, {At: p}}, api.ErrForm)
	}
	for want, lists := range wrongGroups(t) {
		for _, list := range lists {
			refusesAtoms(t, fmt.Sprint("group ", len(list)), list, []api.Atom{right}, want)
			refusesAtoms(t, fmt.Sprint("group without atoms ", len(list)), list, nil, want)
		}
	}
	for _, m := range finenesses[1:] {
		other := api.Atom{At: api.Point{M: m}, Weight: 1}
		refusesAtoms(t, fmt.Sprint("unlike ", m), g, []api.Atom{right, other}, api.ErrUnlike)
		refusesAtoms(t, fmt.Sprint("unlike ", m), g, []api.Atom{other, other, right}, api.ErrUnlike)
	}
	refusesAtoms(t, "257 atoms", g, slices.Repeat([]api.Atom{right}, 257), api.ErrLong)
	if l, e := All(g, []api.Atom{right}, make([]api.Vec, 4097)); e != api.ErrLong || len(l) != 0 {
		t.Errorf("All of 4097 indices: %d waves, %d", len(l), e)
	}
}

func TestRightAtTheEdges(t *testing.T) { // Limits: what works at them
	for i := range 3 {
		for _, n := range []int{512, -512} {
			var h api.Vec
			h[i] = n
			for _, w := range []int{1000000, -1000000} {
				atoms := slices.Repeat([]api.Atom{atom(0, 0, 0, w, -w)}, 256)
				if f := waveOf(t, one(), atoms, h); f != complex(float64(256*w), float64(-256*w)) {
					t.Errorf("Wave at %v = %v", h, f)
				}
				if x := exactOf(t, one(), atoms, h); !sameRing(x, of(256*w, 0, 0, 0, 0, 0, -256*w)) {
					t.Errorf("Exact at %v = %v", h, x)
				}
			}
		}
	}
}

// fault is one thing that is wrong with a call.
type fault struct {
	e       api.Errno
	isGroup bool
	g       []api.Op
	atoms   []api.Atom
	h       api.Vec
	list    []api.Vec
}

func TestOrderOfErrors(t *testing.T) { // of several errors the least number, whichever things they are of
	right := atom(1, 2, 3, 4, 5)
	var faults []fault
	for e, lists := range wrongGroups(t) {
		for _, list := range lists {
			faults = append(faults, fault{e: e, isGroup: true, g: list})
		}
	}
	faults = append(faults,
		fault{e: api.ErrArg, h: api.Vec{0, 513, 0}},
		fault{e: api.ErrArg, atoms: []api.Atom{wrongAtoms()[0]}},
		fault{e: api.ErrLong, atoms: slices.Repeat([]api.Atom{right}, 257)},
		fault{e: api.ErrForm, atoms: []api.Atom{{At: api.Point{M: 25}}}},
		fault{e: api.ErrUnlike, atoms: []api.Atom{{At: api.Point{M: 48}}}},
		fault{e: api.ErrLong, list: make([]api.Vec, 4097)},
	)
	for _, a := range faults {
		for _, b := range faults {
			g := closed(t, "-x,-y,-z")
			switch {
			case a.isGroup && b.isGroup:
				continue
			case a.isGroup:
				g = a.g
			case b.isGroup:
				g = b.g
			}
			atoms := slices.Concat([]api.Atom{right}, a.atoms, b.atoms)
			h := api.Vec{a.h[0] + b.h[0], max(a.h[1], b.h[1]), 0}
			want := min(a.e, b.e)
			if a.list == nil && b.list == nil {
				refuses(t, fmt.Sprint("errors ", a.e, " and ", b.e), g, atoms, h, want)
				continue
			}
			if l, e := All(g, atoms, slices.Concat(a.list, b.list, []api.Vec{h})); e != want || len(l) != 0 {
				t.Errorf("errors %d and %d: All = %d waves, %d", a.e, b.e, len(l), e)
			}
		}
	}
}

func TestMemory(t *testing.T) { // DOC.md, Memory
	for i, g := range groups(t) {
		seed := draw(450 + i)
		atoms, list := seed.atoms(3, finenesses[i%4], true), indices(seed)
		wantAll, _ := All(g, atoms, list)
		wantExact := exactOf(t, g, atoms, list[4])
		// What lies behind the lists would be refused, if it were read.
		maps := append(slices.Clone(g), api.Op{})
		room := append(slices.Clone(atoms), api.Atom{At: api.Point{M: 7}, Weight: math.MaxInt})
		far := append(slices.Clone(list), api.Vec{math.MinInt})
		waves, e := All(maps[:len(g)], room[:len(atoms)], far[:len(list)])
		x, f := Exact(maps[:len(g)], room[:len(atoms)], list[4])
		w, o, k := Whole(maps[:len(g)], room[:len(atoms)])
		if e != api.OK || f != api.OK || k != api.OK || !sameWaves(waves, wantAll) || !sameRing(x, wantExact) {
			t.Fatalf("with more behind the lists: All %d, Exact %v, %d, Whole %d, %d, %d", e, x, f, w, o, k)
		}
		if !slices.Equal(maps[:len(g)], g) || !slices.Equal(room[:len(atoms)], atoms) || !slices.Equal(far[:len(list)], list) || maps[len(g)] != (api.Op{}) || room[len(atoms)].At.M != 7 || far[len(list)] != (api.Vec{math.MinInt}) {
			t.Fatal("what was handed in has changed")
		}
		// An answer is new each time.
		waves, x.C = waves[:cap(waves)], x.C[:cap(x.C)]
		for n := range waves {
			waves[n] = api.Wave{H: api.Vec{9, 9, 9}, F: 9}
		}
		for n := range x.C {
			x.C[n] = 99
		}
		again, _ := All(g, atoms, list)
		if y := exactOf(t, g, atoms, list[4]); !sameWaves(again, wantAll) || !sameRing(y, wantExact) {
			t.Fatal("an answer shares its memory with an earlier one")
		}
	}
}

func sameWaves(a, b []api.Wave) bool {
	return slices.EqualFunc(a, b, func(v, w api.Wave) bool { return v.H == w.H && same(v.F, w.F) })
}

package absent

import (
	"math"
	"slices"
	"testing"

	"facet/api"
	"facet/group"
	"facet/hkl"
	"facet/names"
	"facet/op"
	"facet/optext"
)

// Groups of all sorts, by what generates them, beside the known ones.
var samples = [][]string{
	{"-x+1/2,-y,-z"},
	{"-x,-y,-z+1/24"},
	{"-x,y+1/2,-z+1/4"},
	{"-y,x,z+1/2"},
	{"-y,x,z+1/4", "x,-y+1/2,z"},
	{"x+1/24,y,z"},
	{"x+1/24,y,z", "x,y+1/8,z"},
	{"x+1/2,y+1/2,z+1/2", "-y,-x,z+1/2", "-x,-y,-z"},
	{"x+1000y,-y,z+1/2"},
	{"-x+2y+500z,y,z", "x-2y+500z,-y+500z,z+1/2"},
	{"x,-y,z+1/2", "-x+1/2,y,z", "-x,-y,-z"},
}

// maps answers the maps of texts.
func maps(t *testing.T, texts ...string) []api.Op {
	t.Helper()
	var list []api.Op
	for _, s := range texts {
		o, _, e := optext.Read(s)
		if e != api.OK {
			t.Fatalf("no map: %s: %d", s, e)
		}
		list = append(list, o)
	}
	return list
}

// closed answers the group of texts.
func closed(t *testing.T, texts ...string) []api.Op {
	t.Helper()
	g, e := group.Close(maps(t, texts...))
	if e != api.OK {
		t.Fatalf("Close(%v): %d", texts, e)
	}
	return g
}

func known(t *testing.T, name string) []api.Op {
	t.Helper()
	g, e := names.Group(name)
	if e != api.OK {
		t.Fatalf("Group(%s): %d", name, e)
	}
	return g
}

// groups answers the known groups and the samples.
func groups(t *testing.T) [][]api.Op {
	var list [][]api.Op
	for _, name := range names.Known() {
		list = append(list, known(t, name))
	}
	for _, texts := range samples {
		list = append(list, closed(t, texts...))
	}
	return list
}

// draw makes numbers that look like chance, the same ones in every run.
type draw uint64

func (d *draw) below(n int) int {
	*d = *d*6364136223846793005 + 1442695040888963407
	return int(uint64(*d>>33) % uint64(n))
}

// index answers an index with parts up to reach, often one that maps leave as it is.
func (d *draw) index(reach int) api.Vec {
	var h api.Vec
	for i := range h {
		h[i] = d.below(2*reach+1) - reach
		switch d.below(5) {
		case 0, 1:
			h[i] = 0
		case 2:
			h[i] = h[(i+2)%3]
		}
	}
	return h
}

// indices answers small and great indices, those with parts at MaxIndex among them.
func indices(seed draw) []api.Vec {
	list := []api.Vec{{}, {512, 512, 512}, {-512, 512, -512}, {511, 0, 0}, {0, -511, 0}, {0, 0, 511}, {512, 0, 511}}
	for x := -2; x <= 2; x++ {
		for y := -2; y <= 2; y++ {
			for z := -2; z <= 2; z++ {
				list = append(list, api.Vec{x, y, z})
			}
		}
	}
	for range 30 {
		list = append(list, seed.index(12), seed.index(95), seed.index(512))
	}
	return list
}

// row and phase answer h R and h . T modulo 24, in whole numbers of the test's own.
func row(o api.Op, h api.Vec) api.Vec {
	var k api.Vec
	for j := range 3 {
		k[j] = h[0]*o.R[0][j] + h[1]*o.R[1][j] + h[2]*o.R[2][j]
	}
	return k
}

func phase(o api.Op, h api.Vec) int {
	return ((h[0]*o.T[0]+h[1]*o.T[1]+h[2]*o.T[2])%24 + 24) % 24
}

func neg(h api.Vec) api.Vec {
	return api.Vec{-h[0], -h[1], -h[2]}
}

// whyByHand answers the place of the first map that makes h absent, or -1.
func whyByHand(g []api.Op, h api.Vec) int {
	return slices.IndexFunc(g, func(o api.Op) bool { return row(o, h) == h && phase(o, h) != 0 })
}

func isAbsent(t *testing.T, g []api.Op, h api.Vec) bool {
	t.Helper()
	is, e := Is(g, h)
	if e != api.OK {
		t.Fatalf("Is(%v): %d", h, e)
	}
	return is
}

func TestChapterExamples(t *testing.T) { // P14.1, P14.2
	for _, c := range []struct {
		name string
		h    api.Vec
		is   bool
	}{
		{"C2", api.Vec{1, 0, 0}, true}, {"C2", api.Vec{1, 1, 0}, false},
		{"P21", api.Vec{0, 1, 0}, true}, {"P21", api.Vec{0, 2, 0}, false}, {"P21", api.Vec{1, 1, 0}, false}, {"P21", api.Vec{1, 0, 0}, false},
		{"P41", api.Vec{0, 0, 1}, true}, {"P41", api.Vec{0, 0, 2}, true}, {"P41", api.Vec{0, 0, 3}, true}, {"P41", api.Vec{0, 0, 4}, false},
	} {
		if is, e := Is(known(t, c.name), c.h); is != c.is || e != api.OK {
			t.Errorf("Is(%s, %v) = %t, %d", c.name, c.h, is, e)
		}
	}
	for _, c := range []struct {
		name, text string
		h          api.Vec
	}{{"C2", "x+1/2,y+1/2,z", api.Vec{1, 0, 0}}, {"P21", "-x,y+1/2,-z", api.Vec{0, 1, 0}}} {
		if o, e := Why(known(t, c.name), c.h); o != maps(t, c.text)[0] || e != api.OK {
			t.Errorf("Why(%s, %v) = %v, %d", c.name, c.h, o, e)
		}
	}
	if o, e := Why(known(t, "P21"), api.Vec{0, 2, 0}); o != (api.Op{}) || e != api.ErrNone {
		t.Errorf("Why of 0 2 0 = %v, %d", o, e)
	}
	for _, c := range []struct {
		name string
		h    api.Vec
		n    int
		is   bool
	}{
		{"P21", api.Vec{1, 0, 1}, 0, true}, {"P21", api.Vec{1, 1, 0}, 0, false},
		{"P21/c", api.Vec{1, 1, 1}, 0, true}, {"P21/c", api.Vec{5, -3, 2}, 0, true}, {"P212121", api.Vec{1, 1, 0}, 12, true},
	} {
		if n, is, e := Centric(known(t, c.name), c.h); n != c.n || is != c.is || e != api.OK {
			t.Errorf("Centric(%s, %v) = %d, %t, %d", c.name, c.h, n, is, e)
		}
	}
	if is, e := Is(known(t, "P1"), api.Vec{513, 0, 0}); is || e != api.ErrArg {
		t.Errorf("Is of 513 0 0 = %t, %d", is, e)
	}
}

func TestIsAndWhy(t *testing.T) { // P14.1
	absent, present := 0, 0
	for i, g := range groups(t) {
		for _, h := range indices(draw(i)) {
			at := whyByHand(g, h)
			is, e := Is(g, h)
			if is != (at >= 0) || e != api.OK {
				t.Fatalf("Is(%v, %v) = %t, %d", g, h, is, e)
			}
			o, e := Why(g, h)
			if at < 0 && (o != api.Op{} || e != api.ErrNone) || at >= 0 && (o != g[at] || e != api.OK) {
				t.Fatalf("Why(%v, %v) = %v, %d", g, h, o, e)
			}
			if is {
				absent++
			} else {
				present++
			}
		}
	}
	if absent < 500 || present < 500 {
		t.Errorf("%d absent, %d present: the test asks too little", absent, present)
	}
}

func TestAbsentAsWholeNumbers(t *testing.T) { // P14.1: h R is compared with h truly, not modulo anything
	g := closed(t, "x+24y,-y,z+1/2")
	for _, c := range []struct {
		h  api.Vec
		is bool
	}{{api.Vec{1, 0, 1}, false}, {api.Vec{1, 12, 1}, true}, {api.Vec{0, 0, 1}, true}, {api.Vec{1, 12, 2}, false}, {api.Vec{24, 0, 1}, false}} {
		if is := isAbsent(t, g, c.h); is != c.is {
			t.Errorf("Is(%v) = %t", c.h, is)
		}
	}
	// What has a phase of whole turns is not shifted, also far out.
	screw := closed(t, "-y,x,z+1/4")
	for z := -512; z <= 512; z++ {
		if is := isAbsent(t, screw, api.Vec{0, 0, z}); is != (z%4 != 0) {
			t.Errorf("Is(0 0 %d) = %t", z, is)
		}
	}
	fine := closed(t, "x+1/24,y,z")
	for x := -512; x <= 512; x++ {
		if is := isAbsent(t, fine, api.Vec{x, 5, -7}); is != (x%24 != 0) {
			t.Errorf("Is(%d 5 -7) = %t", x, is)
		}
	}
}

func TestCentric(t *testing.T) { // P14.2
	phases := [24]int{}
	none := 0
	for i, g := range groups(t) {
		for _, h := range indices(draw(100 + i)) {
			at := slices.IndexFunc(g, func(o api.Op) bool { return row(o, h) == neg(h) })
			want := 0
			if at >= 0 {
				want = phase(g[at], h)
				phases[want]++
			} else {
				none++
			}
			if n, is, e := Centric(g, h); n != want || is != (at >= 0) || e != api.OK {
				t.Fatalf("Centric(%v, %v) = %d, %t, %d, want %d, %t", g, h, n, is, e, want, at >= 0)
			}
		}
		if n, is, e := Centric(g, api.Vec{}); n != 0 || !is || e != api.OK {
			t.Errorf("Centric(%v, 0 0 0) = %d, %t, %d", g, n, is, e)
		}
	}
	if none < 200 || phases[0] < 200 || phases[12] < 100 || phases[1] == 0 || phases[23] == 0 {
		t.Errorf("%d not centric, phases %v: the test asks too little", none, phases)
	}
}

func TestSort(t *testing.T) { // P14.3
	for i, g := range groups(t) {
		d := draw(200 + i)
		for _, n := range []int{0, 1, 3, 60} {
			var list, present, absent []api.Vec
			for range n {
				h := d.index([]int{1, 4, 512}[d.below(3)])
				for range 1 + d.below(2) {
					list = append(list, h)
					if whyByHand(g, h) >= 0 {
						absent = append(absent, h)
					} else {
						present = append(present, h)
					}
				}
			}
			a, b, e := Sort(g, list)
			if e != api.OK || !slices.Equal(a, present) || !slices.Equal(b, absent) {
				t.Fatalf("Sort(%v, %v) = %v, %v, %d", g, list, a, b, e)
			}
		}
	}
}

func TestTurnedOnesAreAlike(t *testing.T) { // P14.4
	for i, g := range groups(t) {
		if isAbsent(t, g, api.Vec{}) {
			t.Errorf("%v: 0 0 0 is absent", g)
		}
		for _, h := range indices(draw(300 + i)) {
			want := isAbsent(t, g, h)
			both, e := hkl.Both(g, h)
			if e != api.OK {
				t.Fatalf("Both(%v): %d", h, e)
			}
			for _, k := range both {
				is, e := Is(g, k)
				beyond := max(k[0], k[1], k[2]) > 512 || min(k[0], k[1], k[2]) < -512
				if beyond && e != api.ErrArg || !beyond && (e != api.OK || is != want) {
					t.Fatalf("%v: Is(%v) = %t, Is(%v) = %t, %d", g, h, want, k, is, e)
				}
			}
		}
	}
}

// waveOf answers the exact wave at h of the places to which the group sends x, in m-ths, as whole numbers C of DOC.md's ring of m, turned back by back m-ths of a turn.
func waveOf(g []api.Op, m int, x, h api.Vec, back int) []int {
	seen := map[api.Vec]struct{}{}
	c := make([]int, m)
	for _, o := range g {
		var to api.Vec
		for i := range 3 {
			n := o.T[i] * m / 24
			for j := range 3 {
				n += o.R[i][j] * x[j]
			}
			to[i] = (n%m + m) % m
		}
		if _, there := seen[to]; there {
			continue
		}
		seen[to] = struct{}{}
		n := h[0]*to[0] + h[1]*to[1] + h[2]*to[2] - back
		c[(n%m+m)%m]++
	}
	return lowered(c)
}

// lowered answers c in the one way to tell it: each power of the first part from m/3 on is brought down.
func lowered(c []int) []int {
	third := len(c) / 3
	for i := len(c) - 1; i >= third; i-- {
		c[i-third/2] += c[i]
		c[i-third] -= c[i]
	}
	return c[:third]
}

func isNought(c []int) bool {
	return !slices.ContainsFunc(c, func(n int) bool { return n != 0 })
}

// isReal asks whether a number of the ring is its own conjugate.
func isReal(c []int) bool {
	m := 3 * len(c)
	back := make([]int, m)
	for i, n := range c {
		back[(m-i)%m] = n
	}
	return slices.Equal(lowered(back), c)
}

// place answers a place in m-ths, often one that maps leave where it is.
func (d *draw) place() (int, api.Vec) {
	m := 24 << d.below(4)
	parts := []int{2, 4, m, m}[d.below(4)]
	var x api.Vec
	for i := range x {
		x[i] = d.below(parts) * (m / parts)
	}
	return m, x
}

func TestAbsentIsAbsent(t *testing.T) { // P5
	absent := 0
	for i, g := range groups(t) {
		d := draw(400 + i)
		for _, h := range indices(draw(500 + i)) {
			if !isAbsent(t, g, h) {
				continue
			}
			absent++
			for range 4 {
				if m, x := d.place(); !isNought(waveOf(g, m, x, h, 0)) {
					t.Fatalf("%v: at %v, absent, %v in %d-ths has a wave", g, h, x, m)
				}
			}
		}
	}
	if absent < 500 {
		t.Errorf("only %d absent", absent)
	}
}

func TestPresentIsPresent(t *testing.T) { // P5
	present := 0
	for i, g := range groups(t) {
		d := draw(600 + i)
		for _, h := range indices(draw(700 + i)) {
			both, _ := hkl.Both(g, h)
			far := slices.ContainsFunc(both, func(k api.Vec) bool { return max(k[0], k[1], k[2]) > 95 })
			if far || isAbsent(t, g, h) {
				continue
			}
			present++
			found := false
			for tries := 0; tries < 1000 && !found; tries++ {
				found = !isNought(waveOf(g, 192, api.Vec{d.below(192), d.below(192), d.below(192)}, h, 0))
			}
			if !found {
				t.Fatalf("%v: at %v, not absent, no place has a wave", g, h)
			}
		}
	}
	if present < 500 {
		t.Errorf("only %d present", present)
	}
}

func TestCentricWavesAreReal(t *testing.T) { // P14.2: turned back by 48ths of a turn
	turned := 0
	for i, g := range groups(t) {
		d := draw(800 + i)
		for _, h := range indices(draw(900 + i)) {
			n, is, e := Centric(g, h)
			if e != api.OK || !is || isAbsent(t, g, h) {
				continue
			}
			for range 3 {
				m := 48 << d.below(3)
				x := api.Vec{d.below(m), d.below(m), d.below(m)}
				if !isReal(waveOf(g, m, x, h, n*m/48)) {
					t.Fatalf("%v: at %v, turned back by %d 48ths, the wave of %v in %d-ths is not real", g, h, n, x, m)
				}
				if !isReal(waveOf(g, m, x, h, 0)) {
					turned++
				}
			}
		}
	}
	if turned < 100 {
		t.Errorf("only %d waves were not real ahead of it", turned)
	}
}

type refusal struct {
	name string
	list []api.Op
	e    api.Errno
}

// refused answers lists that are no groups in order, with what is answered of each alone; and a group.
func refused(t *testing.T) []refusal {
	over := api.Op{R: api.Mat{{1, 1001, 0}, {0, 1, 0}, {0, 0, 1}}}
	under := api.Op{R: api.Mat{{1, math.MinInt, 0}, {0, 1, 0}, {0, 0, 1}}}
	outside := api.Op{R: op.One().R, T: api.Vec{0, 0, 24}}
	return []refusal{
		{"193 identities", slices.Repeat([]api.Op{op.One()}, 193), api.ErrLong},
		{"193 noughts", make([]api.Op, 193), api.ErrLong},
		{"noughts", []api.Op{{}}, api.ErrForm},
		{"a part of 24", []api.Op{op.One(), outside}, api.ErrForm},
		{"entry 1001, then noughts", []api.Op{over, {}}, api.ErrForm},
		{"entry 1001", []api.Op{over}, api.ErrOver},
		{"the least entry", []api.Op{under, op.One()}, api.ErrOver},
		{"no maps", nil, api.ErrClose},
		{"an empty list", []api.Op{}, api.ErrClose},
		{"no identity", maps(t, "-x,-y,-z"), api.ErrClose},
		{"out of order", maps(t, "x,y,z", "-x,-y,-z"), api.ErrClose},
		{"twice", maps(t, "x,y,z", "x,y,z"), api.ErrClose},
		{"a product lacks", closed(t, "-y,x,z")[1:], api.ErrClose},
		{"a shear", maps(t, "x,y,z", "x+y,y,z"), api.ErrClose},
		{"a group", closed(t, "-y,x,z"), api.OK},
	}
}

// least answers the least error that is one.
func least(list ...api.Errno) api.Errno {
	found := api.OK
	for _, e := range list {
		if e != api.OK && (found == api.OK || e < found) {
			found = e
		}
	}
	return found
}

// asked is an index with what is answered of it alone.
type asked struct {
	h api.Vec
	e api.Errno
}

// edges answers indices at MaxIndex and beyond, at each part.
func edges() []asked {
	list := []asked{{api.Vec{}, api.OK}, {api.Vec{512, -512, 512}, api.OK}, {api.Vec{513, -513, 513}, api.ErrArg}}
	for i := range 3 {
		for _, part := range []int{math.MinInt, -1 << 32, -513, -512, 512, 513, 1 << 32, math.MaxInt} {
			var h api.Vec
			h[i] = part
			e := api.OK
			if part < -512 || part > 512 {
				e = api.ErrArg
			}
			list = append(list, asked{h, e})
		}
	}
	return list
}

func TestWrongGroupsAndIndices(t *testing.T) { // P1, the chapter's errors
	for _, c := range refused(t) {
		for _, a := range edges() {
			want := least(c.e, a.e)
			is, e := Is(c.list, a.h)
			n, centric, f := Centric(c.list, a.h)
			o, k := Why(c.list, a.h)
			ofWhy := want
			if want == api.OK {
				ofWhy = api.ErrNone // the group shifts nothing
			}
			if e != want || f != want || k != ofWhy {
				t.Errorf("%s at %v: Is %d, Centric %d, Why %d, want %d", c.name, a.h, e, f, k, want)
			}
			if is || n != 0 || centric && want != api.OK || o != (api.Op{}) {
				t.Errorf("%s at %v: something beside an error: %t, %d, %t, %v", c.name, a.h, is, n, centric, o)
			}
		}
	}
}

func TestWrongLists(t *testing.T) { // P1, P14.3, MaxWaves: at it and one beyond; MaxIndex
	full := slices.Repeat([]api.Vec{{1, 2, 3}}, 4096)
	long := slices.Repeat([]api.Vec{{1, 2, 3}}, 4097)
	for _, c := range refused(t) {
		for _, a := range edges() {
			for _, l := range []struct {
				list []api.Vec
				e    api.Errno
			}{
				{nil, api.OK}, {[]api.Vec{}, api.OK}, {full, api.OK}, {long, api.ErrLong}, {[]api.Vec{a.h}, a.e}, {[]api.Vec{{1, 0, 0}, a.h}, a.e},
				{append([]api.Vec{a.h}, full...), least(a.e, api.ErrLong)}, {append(slices.Clone(long), a.h), least(a.e, api.ErrLong)},
			} {
				want := least(c.e, l.e)
				present, absent, e := Sort(c.list, l.list)
				if e != want || e != api.OK && len(present)+len(absent) != 0 || e == api.OK && (len(present) != len(l.list) || len(absent) != 0) {
					t.Errorf("Sort of %s and %d indices with %v: %d, %d, %d, want %d", c.name, len(l.list), a.h, len(present), len(absent), e, want)
				}
			}
		}
	}
	gone := slices.Repeat([]api.Vec{{0, 1, 0}}, 4096)
	if present, absent, e := Sort(known(t, "P21"), gone); e != api.OK || len(present) != 0 || !slices.Equal(absent, gone) {
		t.Errorf("Sort of 4096 absent ones: %d, %d, %d", len(present), len(absent), e)
	}
}

func TestMemory(t *testing.T) { // memory
	for i, whole := range groups(t) {
		room := append(slices.Clone(whole), slices.Repeat([]api.Op{{T: api.Vec{-7}}}, 200)...)
		keep := slices.Clone(room)
		g := room[:len(whole)]
		d := draw(1000 + i)
		var list []api.Vec
		for range 30 {
			list = append(list, d.index(3))
		}
		list = append(list, slices.Repeat([]api.Vec{{600, 0, 0}}, 40)...)
		keptList := slices.Clone(list)
		var present, absent []api.Vec
		for _, h := range list[:30] {
			if whyByHand(g, h) >= 0 {
				absent = append(absent, h)
			} else {
				present = append(present, h)
			}
		}
		for range 2 {
			a, b, e := Sort(g, list[:30])
			if e != api.OK || !slices.Equal(a, present) || !slices.Equal(b, absent) {
				t.Fatalf("Sort with room behind it: %v, %v, %d", a, b, e)
			}
			clear(a[:cap(a)])
			if !slices.Equal(b, absent) {
				t.Error("the two lists of Sort share memory")
			}
			clear(b[:cap(b)])
		}
		if !slices.Equal(room, keep) || !slices.Equal(list, keptList) {
			t.Error("what was handed in was changed")
		}
	}
}

package hkl

import (
	"math"
	"slices"
	"testing"

	"facet/api"
	"facet/group"
	"facet/op"
	"facet/optext"
)

// Groups of all sorts, by what generates them.
var samples = [][]string{
	nil,
	{"-x,-y,-z"},
	{"-x,y+1/2,-z"},
	{"-x,y+1/2,-z", "-x,-y,-z"},
	{"-y,x,z+1/4"},
	{"-x,-y,z", "-x,y,-z"},
	{"-y,x,z", "x,-y,z"},
	{"x+1/2,y+1/2,z", "-x,y,-z+1/2", "-x,-y,-z"},
	{"-y,x-y,z+1/3"},
	{"x+2/3,y+1/3,z+1/3", "-y,x-y,z", "y,x,-z"},
	{"x-y,x,z+1/2", "y,x,-z", "-x,-y,-z"},
	{"-x,-y,z", "-x,y,-z", "z,x,y", "y,x,-z", "-x,-y,-z"},
	{"x+1/24,y,z"},
	{"x+1/24,y,z", "x,y+1/8,z"},
	{"x+1000y,-y,z"},
	{"-x+2y+500z,y,z", "x-2y+500z,-y+500z,z+1/2"},
	{"x,y+1/2,z+1/2", "x+1/2,y,z+1/2", "-x,-y,z", "-x,y,-z", "z,x,y", "y,x,-z", "-x,-y,-z"},
	{"x,y+1/2,z+1/2", "x+1/2,y,z+1/2", "-x+3/4,-y+1/4,z+1/2", "-x+1/4,y+1/2,-z+3/4", "z,x,y", "y+3/4,x+1/4,-z+1/2", "-x,-y,-z"},
}

// maps answers the maps of texts.
func maps(t *testing.T, texts ...string) []api.Op {
	t.Helper()
	var list []api.Op
	for _, s := range texts {
		o, _, e := optext.Read(s)
		if e != api.OK {
			t.Fatalf("no map: %s: %d", s, e)
		}
		list = append(list, o)
	}
	return list
}

// closed answers the group of texts.
func closed(t *testing.T, texts ...string) []api.Op {
	t.Helper()
	g, e := group.Close(maps(t, texts...))
	if e != api.OK {
		t.Fatalf("Close(%v): %d", texts, e)
	}
	return g
}

// draw makes numbers that look like chance, the same ones in every run.
type draw uint64

func (d *draw) below(n int) int {
	*d = *d*6364136223846793005 + 1442695040888963407
	return int(uint64(*d>>33) % uint64(n))
}

// index answers an index with parts up to reach, often one that maps leave as it is: a part is often 0, or like another one by magnitude.
func (d *draw) index(reach int) api.Vec {
	var h api.Vec
	for i := range h {
		h[i] = d.below(2*reach+1) - reach
		switch d.below(6) {
		case 0:
			h[i] = 0
		case 1:
			h[i] = h[(i+2)%3]
		case 2:
			h[i] = -h[(i+2)%3]
		}
	}
	return h
}

// indices answers small and great indices, those with parts at MaxIndex among them.
func indices(seed draw) []api.Vec {
	list := []api.Vec{{}, {1, 0, 0}, {0, -1, 0}, {0, 0, 1}, {1, -1, 0}, {1, 2, 3}, {512, 512, 512}, {-512, 512, -512}, {512, 0, -512}, {0, -512, 511}}
	for range 15 {
		list = append(list, seed.index(3), seed.index(12), seed.index(512))
	}
	return list
}

// row answers h R, in whole numbers of the test's own.
func row(h api.Vec, r api.Mat) api.Vec {
	var k api.Vec
	for j := range 3 {
		k[j] = h[0]*r[0][j] + h[1]*r[1][j] + h[2]*r[2][j]
	}
	return k
}

func neg(h api.Vec) api.Vec {
	return api.Vec{-h[0], -h[1], -h[2]}
}

// before tells whether a stands ahead of b.
func before(a, b api.Vec) bool {
	if a[0] != b[0] {
		return a[0] < b[0]
	}
	if a[1] != b[1] {
		return a[1] < b[1]
	}
	return a[2] < b[2]
}

// put lays h where it belongs in a list in order, unless it is there.
func put(list []api.Vec, h api.Vec) []api.Vec {
	for i, k := range list {
		if k == h {
			return list
		}
		if before(h, k) {
			return slices.Insert(list, i, h)
		}
	}
	return append(list, h)
}

// ofByHand and bothByHand go through all maps, those of one matrix too.
func ofByHand(g []api.Op, h api.Vec) []api.Vec {
	var list []api.Vec
	for _, o := range g {
		list = put(list, row(h, o.R))
	}
	return list
}

func bothByHand(g []api.Op, h api.Vec) []api.Vec {
	list := ofByHand(g, h)
	for _, o := range g {
		list = put(list, neg(row(h, o.R)))
	}
	return list
}

func TestChapterExamples(t *testing.T) { // P13.1 to P13.4, P13.6
	o := maps(t, "-y,x,z+1/4")[0]
	g := closed(t, "-y,x,z+1/4")
	if h, e := Turned(o, api.Vec{1, 2, 3}); h != (api.Vec{2, -1, 3}) || e != api.OK {
		t.Errorf("Turned = %v, %d", h, e)
	}
	for _, c := range []struct {
		h    api.Vec
		want int
	}{{api.Vec{1, 2, 3}, 18}, {api.Vec{0, 0, -1}, 18}} {
		if n, e := Phase(o, c.h); n != c.want || e != api.OK {
			t.Errorf("Phase(%v) = %d, %d", c.h, n, e)
		}
	}
	for _, c := range []struct {
		h        api.Vec
		of, both []api.Vec
		count    int
	}{
		{api.Vec{1, 2, 3}, []api.Vec{{-2, 1, 3}, {-1, -2, 3}, {1, 2, 3}, {2, -1, 3}}, []api.Vec{{-2, 1, -3}, {-2, 1, 3}, {-1, -2, -3}, {-1, -2, 3}, {1, 2, -3}, {1, 2, 3}, {2, -1, -3}, {2, -1, 3}}, 1},
		{api.Vec{0, 0, 3}, []api.Vec{{0, 0, 3}}, []api.Vec{{0, 0, -3}, {0, 0, 3}}, 4},
		{api.Vec{}, []api.Vec{{}}, []api.Vec{{}}, 4},
	} {
		if l, e := Of(g, c.h); e != api.OK || !slices.Equal(l, c.of) {
			t.Errorf("Of(%v) = %v, %d", c.h, l, e)
		}
		if l, e := Both(g, c.h); e != api.OK || !slices.Equal(l, c.both) {
			t.Errorf("Both(%v) = %v, %d", c.h, l, e)
		}
		if n, e := Count(g, c.h); e != api.OK || n != c.count {
			t.Errorf("Count(%v) = %d, %d", c.h, n, e)
		}
	}
	if l, e := Firsts(g, []api.Vec{{2, -1, 3}, {0, 0, 3}, {1, 2, 3}}); e != api.OK || !slices.Equal(l, []api.Vec{{-2, 1, -3}, {0, 0, -3}}) {
		t.Errorf("Firsts = %v, %d", l, e)
	}
	if h, e := Turned(o, api.Vec{513, 0, 0}); e != api.ErrArg || h != (api.Vec{}) {
		t.Errorf("Turned of 513 0 0 = %v, %d", h, e)
	}
	if n := Compare(api.Vec{0, 1, 5}, api.Vec{0, 2, -9}); n != -1 {
		t.Errorf("Compare = %d", n)
	}
}

func TestTurnedAndPhase(t *testing.T) { // P13.1, of maps of groups and of maps of none
	var list []api.Op
	for _, texts := range samples {
		list = append(list, closed(t, texts...)...)
	}
	list = append(list, maps(t, "x+y,y,z+23/24", "x+1000y,y-1000z,z", "x,-1000x+y,1000x+1000y+z+1/3", "2x+y,x+y+1/24,-z+1/2")...)
	for i, o := range list {
		for _, h := range indices(draw(i)) {
			if k, e := Turned(o, h); k != row(h, o.R) || e != api.OK {
				t.Fatalf("Turned(%v, %v) = %v, %d, want %v", o, h, k, e, row(h, o.R))
			}
			want := h[0]*o.T[0] + h[1]*o.T[1] + h[2]*o.T[2]
			if n, e := Phase(o, h); n < 0 || n > 23 || (want-n)%24 != 0 || e != api.OK {
				t.Fatalf("Phase(%v, %v) = %d, %d, want %d modulo 24", o, h, n, e, want)
			}
		}
	}
}

func TestTurnedBeyondMaxIndex(t *testing.T) { // P13.1, P13.2: answers have no bound of their own
	o := maps(t, "x,-1000x+y,1000x+1000y+z")[0]
	if h, e := Turned(o, api.Vec{512, -512, 512}); h != (api.Vec{512 + 512000 + 512000, -512 + 512000, 512}) || e != api.OK {
		t.Errorf("Turned = %v, %d", h, e)
	}
	g := closed(t, "x+1000y,-y,z")
	if l, e := Both(g, api.Vec{-512, 1, 0}); e != api.OK || !slices.Equal(l, []api.Vec{{-512, -512001, 0}, {-512, 1, 0}, {512, -1, 0}, {512, 512001, 0}}) {
		t.Errorf("Both = %v, %d", l, e)
	}
	if l, e := Firsts(g, []api.Vec{{512, -1, 0}}); e != api.OK || !slices.Equal(l, []api.Vec{{-512, -512001, 0}}) {
		t.Errorf("Firsts = %v, %d", l, e)
	}
}

func TestOfBothAndCount(t *testing.T) { // P13.2, P13.3, P13.7
	kept, opposed := 0, 0
	for i, texts := range samples {
		g := closed(t, texts...)
		matrices, _ := group.Rotations(g)
		for _, h := range indices(draw(100 + i)) {
			of, e := Of(g, h)
			if want := ofByHand(g, h); e != api.OK || !slices.Equal(of, want) {
				t.Fatalf("Of(%v, %v) = %v, %d, want %v", texts, h, of, e, want)
			}
			both, e := Both(g, h)
			if want := bothByHand(g, h); e != api.OK || !slices.Equal(both, want) {
				t.Fatalf("Both(%v, %v) = %v, %d, want %v", texts, h, both, e, want)
			}
			want := 0
			for _, r := range matrices {
				if row(h, r) == h {
					want++
				}
			}
			count, e := Count(g, h)
			if e != api.OK || count != want || len(of)*count != len(matrices) {
				t.Fatalf("Count(%v, %v) = %d, %d, want %d; Of has %d", texts, h, count, e, want, len(of))
			}
			times := 2
			if slices.Contains(of, neg(h)) {
				times = 1
			}
			if len(both) != times*len(of) || h == (api.Vec{}) && len(both) != 1 {
				t.Fatalf("%v at %v: Of has %d, Both %d", texts, h, len(of), len(both))
			}
			if count > 1 {
				kept++
			}
			if times == 1 {
				opposed++
			}
		}
	}
	if kept < 100 || opposed < 100 {
		t.Errorf("only %d indices were kept by more than one matrix, %d opposed", kept, opposed)
	}
}

func TestCompare(t *testing.T) { // P13.4: any parts
	parts := []int{math.MinInt, -513, -1, 0, 1, 512, math.MaxInt}
	var list []api.Vec
	for _, x := range parts {
		for _, y := range parts {
			for _, z := range parts {
				list = append(list, api.Vec{x, y, z})
			}
		}
	}
	// The list rises as its parts do.
	for i, a := range list {
		for j, b := range list {
			want := 0
			switch {
			case i < j:
				want = -1
			case i > j:
				want = 1
			}
			if n := Compare(a, b); n != want {
				t.Fatalf("Compare(%v, %v) = %d, want %d", a, b, n, want)
			}
		}
	}
}

func TestFirsts(t *testing.T) { // P13.6
	for i, texts := range samples {
		g := closed(t, texts...)
		d := draw(200 + i)
		for _, n := range []int{0, 1, 2, 40} {
			var list, want []api.Vec
			for range n {
				h := d.index([]int{2, 9, 512}[d.below(3)])
				both := bothByHand(g, h)
				list = append(list, h, h)
				// One of another's kind, where it may be handed in.
				if k := both[d.below(len(both))]; max(k[0], k[1], k[2]) <= 512 && min(k[0], k[1], k[2]) >= -512 {
					list = append(list, k)
				}
				want = put(want, both[0])
			}
			if l, e := Firsts(g, list); e != api.OK || !slices.Equal(l, want) {
				t.Fatalf("Firsts(%v, %v) = %v, %d, want %v", texts, list, l, e, want)
			}
		}
	}
}

// wave is a sum of M-th parts of a turn, exactly: how many of each there are.
type wave []int

// waveOf answers the wave at h of the places to which the group sends x, in m-ths.
func waveOf(g []api.Op, m int, x, h api.Vec) wave {
	var places []api.Vec
	for _, o := range g {
		var to api.Vec
		for i := range 3 {
			n := o.T[i] * m / 24
			for j := range 3 {
				n += o.R[i][j] * x[j]
			}
			to[i] = (n%m + m) % m
		}
		places = put(places, to)
	}
	w := make(wave, m)
	for _, p := range places {
		n := h[0]*p[0] + h[1]*p[1] + h[2]*p[2]
		w[(n%m+m)%m]++
	}
	return w
}

// turned answers w turned on by n 24ths of a turn.
func (w wave) turned(n int) wave {
	m := len(w)
	k := make(wave, m)
	for i, count := range w {
		k[((i+n*m/24)%m+m)%m] += count
	}
	return k
}

func (w wave) conjugate() wave {
	k := make(wave, len(w))
	for i, count := range w {
		k[(len(w)-i)%len(w)] = count
	}
	return k
}

// number answers what w is, in the one way to tell it: each power of the first part from M/3 on is brought down, as DOC.md's words say.
func (w wave) number() []int {
	third := len(w) / 3
	c := slices.Clone([]int(w))
	for i := len(c) - 1; i >= third; i-- {
		c[i-third/2] += c[i]
		c[i-third] -= c[i]
	}
	return c[:third]
}

func TestTurnedWaves(t *testing.T) { // P6: exact waves at turned and at opposite indices
	shifted := 0
	for i, texts := range samples {
		g := closed(t, texts...)
		d := draw(300 + i)
		for range 12 {
			m := 24 << d.below(4)
			x, h := api.Vec{d.below(m), d.below(m), d.below(m)}, d.index(9)
			here := waveOf(g, m, x, h)
			if !slices.Equal(waveOf(g, m, x, neg(h)).number(), here.conjugate().number()) {
				t.Fatalf("%v, %v in %d-ths: the waves at %v and its opposite", texts, x, m, h)
			}
			for _, o := range g {
				k, e := Turned(o, h)
				n, f := Phase(o, h)
				if e != api.OK || f != api.OK || !slices.Equal(waveOf(g, m, x, k).number(), here.turned(-n).number()) {
					t.Fatalf("%v, %v in %d-ths: the waves at %v and at %v, phase %d", texts, x, m, h, k, n)
				}
				if n != 0 && slices.ContainsFunc(here.number(), func(c int) bool { return c != 0 }) {
					shifted++
				}
			}
		}
	}
	if shifted < 100 {
		t.Errorf("only %d waves were turned", shifted)
	}
}

type refusal struct {
	name string
	list []api.Op
	e    api.Errno
}

// refused answers lists that are no groups in order, with what is answered of each alone; and a group.
func refused(t *testing.T) []refusal {
	over := api.Op{R: api.Mat{{1, 1001, 0}, {0, 1, 0}, {0, 0, 1}}}
	under := api.Op{R: api.Mat{{1, math.MinInt, 0}, {0, 1, 0}, {0, 0, 1}}}
	outside := api.Op{R: op.One().R, T: api.Vec{0, 0, 24}}
	return []refusal{
		{"193 identities", slices.Repeat([]api.Op{op.One()}, 193), api.ErrLong},
		{"193 noughts", make([]api.Op, 193), api.ErrLong},
		{"noughts", []api.Op{{}}, api.ErrForm},
		{"a part of 24", []api.Op{op.One(), outside}, api.ErrForm},
		{"entry 1001, then noughts", []api.Op{over, {}}, api.ErrForm},
		{"entry 1001", []api.Op{over}, api.ErrOver},
		{"the least entry", []api.Op{under, op.One()}, api.ErrOver},
		{"no maps", nil, api.ErrClose},
		{"an empty list", []api.Op{}, api.ErrClose},
		{"no identity", maps(t, "-x,-y,-z"), api.ErrClose},
		{"out of order", maps(t, "x,y,z", "-x,-y,-z"), api.ErrClose},
		{"twice", maps(t, "x,y,z", "x,y,z"), api.ErrClose},
		{"a product lacks", closed(t, "-y,x,z")[1:], api.ErrClose},
		{"a shear", maps(t, "x,y,z", "x+y,y,z"), api.ErrClose},
		{"a group", closed(t, "-y,x,z"), api.OK},
	}
}

// least answers the least error that is one.
func least(list ...api.Errno) api.Errno {
	found := api.OK
	for _, e := range list {
		if e != api.OK && (found == api.OK || e < found) {
			found = e
		}
	}
	return found
}

// asked is an index with what is answered of it alone.
type asked struct {
	h api.Vec
	e api.Errno
}

// edges answers indices at MaxIndex and beyond, at each part.
func edges() []asked {
	list := []asked{{api.Vec{}, api.OK}, {api.Vec{512, -512, 512}, api.OK}, {api.Vec{513, -513, 513}, api.ErrArg}}
	for i := range 3 {
		for _, part := range []int{math.MinInt, -1 << 32, -513, -512, 512, 513, 1 << 32, math.MaxInt} {
			var h api.Vec
			h[i] = part
			e := api.OK
			if part < -512 || part > 512 {
				e = api.ErrArg
			}
			list = append(list, asked{h, e})
		}
	}
	return list
}

func TestWrongMaps(t *testing.T) { // P1, P13.1, the chapter's errors
	over := api.Op{R: api.Mat{{1, 1001, 0}, {0, 1, 0}, {0, 0, 1}}}
	both := over
	both.T[1] = -1
	for _, c := range []struct {
		o api.Op
		e api.Errno
	}{
		{op.One(), api.OK}, {api.Op{}, api.ErrForm}, {over, api.ErrOver}, {both, api.ErrForm}, {api.Op{R: op.One().R, T: api.Vec{24, 0, 0}}, api.ErrForm}, {api.Op{R: op.One().R, T: api.Vec{0, 0, math.MinInt}}, api.ErrForm},
		{api.Op{R: api.Mat{{2, 0, 0}, {0, 1, 0}, {0, 0, 1}}}, api.ErrForm}, {api.Op{R: api.Mat{{-1001, 0, 0}, {0, 1, 0}, {0, 0, 1}}}, api.ErrOver}, {api.Op{R: api.Mat{{math.MinInt, 0, 0}, {0, math.MaxInt, 0}, {0, 0, 1}}}, api.ErrOver},
	} {
		for _, a := range edges() {
			want := least(c.e, a.e)
			if k, e := Turned(c.o, a.h); e != want || e != api.OK && k != (api.Vec{}) || e == api.OK && k != a.h {
				t.Errorf("Turned(%v, %v) = %v, %d, want %d", c.o, a.h, k, e, want)
			}
			if n, e := Phase(c.o, a.h); e != want || n != 0 {
				t.Errorf("Phase(%v, %v) = %d, %d, want %d", c.o, a.h, n, e, want)
			}
		}
	}
	if n, e := Phase(api.Op{R: op.One().R, T: api.Vec{23, 23, 23}}, api.Vec{513, 0, 0}); n != 0 || e != api.ErrArg {
		t.Errorf("Phase of 513 0 0 = %d, %d", n, e)
	}
}

func TestWrongGroups(t *testing.T) { // P1, P13.2, P13.3, the chapter's errors
	for _, c := range refused(t) {
		for _, a := range edges() {
			want := least(c.e, a.e)
			of, e := Of(c.list, a.h)
			both, f := Both(c.list, a.h)
			count, i := Count(c.list, a.h)
			if e != want || f != want || i != want {
				t.Errorf("%s at %v: Of %d, Both %d, Count %d, want %d", c.name, a.h, e, f, i, want)
			}
			if want != api.OK && len(of)+len(both)+count != 0 {
				t.Errorf("%s at %v: something beside an error: %v, %v, %d", c.name, a.h, of, both, count)
			}
		}
	}
}

func TestWrongLists(t *testing.T) { // P1, P13.6, MaxWaves: at it and one beyond; MaxIndex
	full := slices.Repeat([]api.Vec{{1, 2, 3}}, 4096)
	long := slices.Repeat([]api.Vec{{1, 2, 3}}, 4097)
	for _, c := range refused(t) {
		for _, a := range edges() {
			for _, l := range []struct {
				list []api.Vec
				e    api.Errno
			}{
				{nil, api.OK}, {[]api.Vec{}, api.OK}, {full, api.OK}, {long, api.ErrLong}, {[]api.Vec{a.h}, a.e}, {[]api.Vec{{1, 0, 0}, a.h}, a.e},
				{append([]api.Vec{a.h}, full...), least(a.e, api.ErrLong)}, {append(slices.Clone(long), a.h), least(a.e, api.ErrLong)},
			} {
				want := least(c.e, l.e)
				firsts, e := Firsts(c.list, l.list)
				if e != want || e != api.OK && len(firsts) != 0 {
					t.Errorf("Firsts of %s and %d indices with %v: %v, %d, want %d", c.name, len(l.list), a.h, firsts, e, want)
				}
			}
		}
	}
	// As many unlike indices as may be.
	var many []api.Vec
	for n := range 4096 {
		many = append(many, api.Vec{n / 256, n / 16 % 16, n % 16})
	}
	firsts, e := Firsts(closed(t), many)
	if e != api.OK || len(firsts) != 4096 || firsts[0] != (api.Vec{-15, -15, -15}) || firsts[4095] != (api.Vec{}) {
		t.Errorf("Firsts of 4096 unlike indices: %d, %d", len(firsts), e)
	}
}

func TestMemory(t *testing.T) { // memory
	for i, texts := range samples {
		whole := closed(t, texts...)
		room := append(slices.Clone(whole), slices.Repeat([]api.Op{{T: api.Vec{-7}}}, 200)...)
		keep := slices.Clone(room)
		g := room[:len(whole)]
		d := draw(400 + i)
		h := d.index(9)
		list := append([]api.Vec{h, d.index(9), h}, slices.Repeat([]api.Vec{{600, 0, 0}}, 9)...)
		keptList := slices.Clone(list)
		for range 2 {
			of, e := Of(g, h)
			both, f := Both(g, h)
			firsts, k := Firsts(g, list[:3])
			count, n := Count(g, h)
			if e != api.OK || f != api.OK || k != api.OK || n != api.OK || count*len(of) == 0 {
				t.Fatalf("%v with room behind it: %d, %d, %d, %d", texts, e, f, k, n)
			}
			want := put(put(nil, bothByHand(g, h)[0]), bothByHand(g, list[1])[0])
			if !slices.Equal(of, ofByHand(g, h)) || !slices.Equal(both, bothByHand(g, h)) || !slices.Equal(firsts, want) {
				t.Fatalf("%v: an answer is bound to an earlier one", texts)
			}
			clear(of[:cap(of)])
			clear(both[:cap(both)])
			clear(firsts[:cap(firsts)])
		}
		if !slices.Equal(room, keep) || !slices.Equal(list, keptList) {
			t.Errorf("%v: what was handed in was changed", texts)
		}
	}
}

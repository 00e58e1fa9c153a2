package unit

import (
	"math"
	"slices"
	"testing"

	"facet/api"
	"facet/group"
	"facet/names"
	"facet/op"
	"facet/optext"
	"facet/orbit"
)

// Groups of all sorts, by what generates them.
var samples = [][]string{
	nil,
	{"-x,-y,-z"},
	{"x,y,-z"},
	{"-x,y+1/2,-z", "-x,-y,-z"},
	{"-y,x,z"},
	{"-y,x,z+1/4"},
	{"-x,-y,z", "-x,y,-z"},
	{"-y,x,z", "x,-y,z"},
	{"-y,x,z+1/4", "x,-y+1/2,z"},
	{"x+1/2,y+1/2,z", "-x,y,-z+1/2", "-x,-y,-z"},
	{"x+2/3,y+1/3,z+1/3", "-y,x-y,z", "y,x,-z"},
	{"x-y,x,z+1/2", "y,x,-z", "-x,-y,-z"},
	{"x-y,x,z+1/6"},
	{"z,x,y"},
	{"-x,-y,z", "-x,y,-z", "z,x,y", "y,x,-z", "-x,-y,-z"},
	{"x+1/24,y,z"},
	{"x+1/8,y,z", "x,y+1/8,z"},
	{"x+1000y,-y,z"},
	{"-x+2y+500z,y,z", "x-2y+500z,-y+500z,z+1/2"},
	{"x,y+1/2,z+1/2", "x+1/2,y,z+1/2", "-x,-y,z", "-x,y,-z", "z,x,y", "y,x,-z", "-x,-y,-z"},
	{"x,y+1/2,z+1/2", "x+1/2,y,z+1/2", "-x+3/4,-y+1/4,z+1/2", "-x+1/4,y+1/2,-z+3/4", "z,x,y", "y+3/4,x+1/4,-z+1/2", "-x,-y,-z"},
}

// Sides of grids with few places, alike and unlike.
var grids = []api.Vec{
	{1, 1, 1}, {2, 1, 1}, {1, 2, 1}, {1, 1, 3}, {2, 2, 1}, {1, 4, 4}, {2, 2, 2}, {3, 3, 3}, {3, 3, 1}, {3, 3, 2}, {3, 3, 6}, {4, 4, 4}, {4, 4, 2}, {4, 2, 1}, {2, 4, 3}, {5, 5, 1}, {5, 5, 5}, {6, 6, 6}, {6, 6, 12},
	{8, 8, 8}, {8, 8, 1}, {1, 8, 1}, {3, 8, 5}, {7, 125, 1}, {2, 4, 4}, {24, 1, 1}, {24, 8, 1}, {48, 2, 3}, {1, 1, 24}, {9, 10, 11}, {12, 12, 12}, {192, 1, 1}, {1, 192, 1}, {1, 1, 192}, {10, 5, 2}, {8, 4, 2},
}

// maps answers the maps of texts.
func maps(t *testing.T, texts ...string) []api.Op {
	t.Helper()
	var list []api.Op
	for _, s := range texts {
		o, _, e := optext.Read(s)
		if e != api.OK {
			t.Fatalf("no map: %s: %d", s, e)
		}
		list = append(list, o)
	}
	return list
}

// closed answers the group of texts.
func closed(t *testing.T, texts ...string) []api.Op {
	t.Helper()
	g, e := group.Close(maps(t, texts...))
	if e != api.OK {
		t.Fatalf("Close(%v): %d", texts, e)
	}
	return g
}

// placesByHand answers all places of a grid by their numbers.
func placesByHand(n api.Vec) []api.Vec {
	list := make([]api.Vec, n[0]*n[1]*n[2])
	for i := range list {
		list[i] = api.Vec{i / n[2] / n[1], i / n[2] % n[1], i % n[2]}
	}
	return list
}

// sent answers where o sends the place at, and whether that is a place of the grid: the parts are told as multiples of 1 / (24 n[0] n[1] n[2]), which needs no map that fits.
func sent(o api.Op, n, at api.Vec) (api.Vec, bool) {
	whole := 24 * n[0] * n[1] * n[2]
	var to api.Vec
	for i := range 3 {
		x := o.T[i] * (whole / 24)
		for j := range 3 {
			x += o.R[i][j] * at[j] * (whole / n[j])
		}
		x = (x%whole + whole) % whole
		if x%(whole/n[i]) != 0 {
			return api.Vec{}, false
		}
		to[i] = x / (whole / n[i])
	}
	return to, true
}

// fitsByHand tells whether each map sends each place of the grid to a place of the grid.
func fitsByHand(g []api.Op, n api.Vec) bool {
	for _, at := range placesByHand(n) {
		for _, o := range g {
			if _, there := sent(o, n, at); !there {
				return false
			}
		}
	}
	return true
}

// answers is what a group and a grid that it fits make of each other.
type answers struct {
	firsts               []api.Vec
	counts, owner, fixed []int
}

// byHand goes the long way: for each place all of its images, the least of which is the first of the orbit.
func byHand(g []api.Op, n api.Vec) answers {
	a := answers{fixed: make([]int, len(g))}
	numbers := map[api.Vec]int{}
	for _, at := range placesByHand(n) {
		images := make([]api.Vec, len(g))
		for i, o := range g {
			images[i], _ = sent(o, n, at)
			if images[i] == at {
				a.fixed[i]++
			}
		}
		slices.SortFunc(images, func(p, q api.Vec) int { return slices.Compare(p[:], q[:]) })
		images = slices.Compact(images)
		if images[0] == at {
			numbers[at] = len(a.firsts)
			a.firsts = append(a.firsts, at)
			a.counts = append(a.counts, len(images))
		}
		a.owner = append(a.owner, numbers[images[0]])
	}
	return a
}

// asked makes the three calls that answer lists.
func asked(t *testing.T, g []api.Op, n api.Vec) answers {
	t.Helper()
	firsts, counts, e := Firsts(g, n)
	owner, f := Owner(g, n)
	fixed, h := Fixed(g, n)
	if e != api.OK || f != api.OK || h != api.OK {
		t.Fatalf("%d maps on %v: Firsts %d, Owner %d, Fixed %d", len(g), n, e, f, h)
	}
	return answers{firsts, counts, owner, fixed}
}

func (a answers) equal(b answers) bool {
	return slices.Equal(a.firsts, b.firsts) && slices.Equal(a.counts, b.counts) && slices.Equal(a.owner, b.owner) && slices.Equal(a.fixed, b.fixed)
}

func sum(list []int) int {
	all := 0
	for _, n := range list {
		all += n
	}
	return all
}

func TestChapterExamples(t *testing.T) { // P10.1 to P10.5
	g := closed(t, "-x,-y,-z")
	for _, c := range []struct {
		n    api.Vec
		want answers
	}{
		{api.Vec{2, 2, 1}, answers{[]api.Vec{{0, 0, 0}, {0, 1, 0}, {1, 0, 0}, {1, 1, 0}}, []int{1, 1, 1, 1}, []int{0, 1, 2, 3}, []int{4, 4}}},
		{api.Vec{3, 1, 1}, answers{[]api.Vec{{0, 0, 0}, {1, 0, 0}}, []int{1, 2}, []int{0, 1, 1}, []int{1, 3}}},
	} {
		if got := asked(t, g, c.n); !got.equal(c.want) {
			t.Errorf("on %v: %v, want %v", c.n, got, c.want)
		}
	}
	for _, c := range []struct {
		text string
		n    api.Vec
		e    api.Errno
	}{
		{"x,y+1/2,z", api.Vec{1, 2, 1}, api.OK}, {"x,y+1/2,z", api.Vec{5, 4, 7}, api.OK}, {"x,y+1/2,z", api.Vec{1, 3, 1}, api.ErrUnlike},
		{"-y,x,z", api.Vec{4, 4, 1}, api.OK}, {"-y,x,z", api.Vec{4, 2, 1}, api.ErrUnlike},
		{"x,y,z+1/24", api.Vec{1, 1, 24}, api.OK}, {"x,y,z+1/24", api.Vec{1, 1, 48}, api.OK}, {"x,y,z+1/24", api.Vec{1, 1, 12}, api.ErrUnlike},
		{"x,y,z", api.Vec{193, 1, 1}, api.ErrArg}, {"x,y,z", api.Vec{0, 1, 1}, api.ErrArg}, {"x,y,z", api.Vec{192, 192, 192}, api.ErrLong}, {"x,y,z", api.Vec{64, 64, 64}, api.OK},
	} {
		if e := Fits(closed(t, c.text), c.n); e != c.e {
			t.Errorf("Fits(%s, %v) = %d, want %d", c.text, c.n, e, c.e)
		}
	}
	o := maps(t, "-y,x,z+1/2")[0]
	for _, c := range []struct {
		n, at, want api.Vec
		e           api.Errno
	}{
		{api.Vec{4, 4, 2}, api.Vec{1, 2, 1}, api.Vec{2, 1, 0}, api.OK},
		{api.Vec{4, 4, 2}, api.Vec{4, 0, 0}, api.Vec{}, api.ErrArg},
		{api.Vec{4, 4, 1}, api.Vec{1, 2, 0}, api.Vec{}, api.ErrUnlike},
	} {
		if to, e := Move(o, c.n, c.at); to != c.want || e != c.e {
			t.Errorf("Move(%v, %v) = %v, %d, want %v, %d", c.n, c.at, to, e, c.want, c.e)
		}
	}
}

func TestFitsIsWhatItSays(t *testing.T) { // P10.1: a grid fits just where each of its places is sent to one of it
	fit := 0
	for _, texts := range samples {
		g := closed(t, texts...)
		for _, n := range grids {
			want := api.ErrUnlike
			if fitsByHand(g, n) {
				want = api.OK
				fit++
			}
			if e := Fits(g, n); e != want {
				t.Errorf("Fits(%v, %v) = %d, want %d", texts, n, e, want)
			}
			firsts, counts, e := Firsts(g, n)
			owner, f := Owner(g, n)
			fixed, h := Fixed(g, n)
			if e != want || f != want || h != want {
				t.Errorf("%v on %v: Firsts %d, Owner %d, Fixed %d, want %d", texts, n, e, f, h, want)
			}
			if want != api.OK && len(firsts)+len(counts)+len(owner)+len(fixed) != 0 {
				t.Errorf("%v on %v: lists beside an error", texts, n)
			}
		}
	}
	if fit < 200 || fit > len(samples)*len(grids)-200 {
		t.Errorf("%d of %d fit", fit, len(samples)*len(grids))
	}
}

func TestOrbitsOfGrids(t *testing.T) { // P4, P10.3 to P10.6
	for _, texts := range samples {
		g := closed(t, texts...)
		for _, n := range grids {
			if !fitsByHand(g, n) {
				continue
			}
			got := asked(t, g, n)
			if want := byHand(g, n); !got.equal(want) {
				t.Fatalf("%v on %v: %v, want %v", texts, n, got, want)
			}
			if sum(got.counts) != n[0]*n[1]*n[2] || sum(got.fixed) != len(got.firsts)*len(g) {
				t.Errorf("%v on %v: %d places in orbits, %d fixed, %d firsts", texts, n, sum(got.counts), sum(got.fixed), len(got.firsts))
			}
		}
	}
}

func TestMoveIsWhatItSays(t *testing.T) { // P10.2, of maps of groups and of maps of none
	var list []api.Op
	for _, texts := range samples {
		list = append(list, closed(t, texts...)...)
	}
	list = append(list, maps(t, "x+y,y,z", "x+1000y,y,z", "x-1000y,y-999z,z+1/2", "2x+y,x+y,z", "x+4y,y,z+1/24", "-x,-y+6z,-z+1/3")...)
	for _, n := range grids {
		places := placesByHand(n)
		for i, o := range list {
			fits := fitsByHand([]api.Op{o}, n)
			for j := i % 7; j < len(places); j += 1 + len(places)/20 {
				want, e := api.Vec{}, api.ErrUnlike
				if fits {
					want, _ = sent(o, n, places[j])
					e = api.OK
				}
				if to, f := Move(o, n, places[j]); to != want || f != e {
					t.Fatalf("Move(%v, %v, %v) = %v, %d, want %v, %d", o, n, places[j], to, f, want, e)
				}
			}
		}
	}
}

func TestMoveAtTheLimits(t *testing.T) { // P10.2
	for _, c := range []struct {
		text        string
		n, at, want api.Vec
	}{
		{"x+1000y,y,z", api.Vec{192, 192, 7}, api.Vec{191, 191, 6}, api.Vec{(191 + 1000*191) % 192, 191, 6}},
		{"x-1000y+1000z,y,z+23/24", api.Vec{192, 4, 192}, api.Vec{191, 3, 191}, api.Vec{(191 - 1000*3*48 + 1000*191 + 192*1000) % 192, 3, (191 + 184) % 192}},
		{"-x,-y,-z", api.Vec{192, 192, 7}, api.Vec{0, 0, 0}, api.Vec{0, 0, 0}},
		{"-x+1/2,-y,-z", api.Vec{192, 192, 7}, api.Vec{191, 1, 6}, api.Vec{97, 191, 1}},
	} {
		if to, e := Move(maps(t, c.text)[0], c.n, c.at); to != c.want || e != api.OK {
			t.Errorf("Move(%s, %v, %v) = %v, %d, want %v", c.text, c.n, c.at, to, e, c.want)
		}
	}
}

func TestGridsOfPlaces(t *testing.T) { // P4, P10.2, P10.3: a grid of 48 parts each way along two edges has the places of layer 9
	n := api.Vec{48, 48, 24}
	for _, name := range []string{"P1", "P-1", "P21/c", "P41", "P212121", "P4/mmm", "Pnma"} {
		g, e := names.Group(name)
		if e != api.OK {
			t.Fatalf("Group(%s): %d", name, e)
		}
		firsts, counts, e := Firsts(g, n)
		if e != api.OK {
			t.Fatalf("Firsts of %s: %d", name, e)
		}
		for i := 0; i < len(firsts); i += 1 + len(firsts)/50 {
			at := firsts[i]
			p := api.Point{M: 48, X: api.Vec{at[0], at[1], 2 * at[2]}}
			list, _ := orbit.Of(g, p)
			if len(list) != counts[i] || list[0] != p {
				t.Fatalf("%s: the orbit of %v has %d places, not %d, and begins with %v", name, p, len(list), counts[i], list[0])
			}
		}
	}
}

func TestGreatGrids(t *testing.T) { // P10.3 to P10.6, at MaxPlaces and MaxSide
	for _, c := range []struct {
		name string
		n    api.Vec
	}{{"Fm-3m", api.Vec{64, 64, 64}}, {"P1", api.Vec{64, 64, 64}}, {"P4/mmm", api.Vec{128, 128, 16}}, {"P-1", api.Vec{192, 192, 7}}} {
		g, e := names.Group(c.name)
		if e != api.OK || Fits(g, c.n) != api.OK {
			t.Fatalf("%s on %v: %d, %d", c.name, c.n, e, Fits(g, c.n))
		}
		got := asked(t, g, c.n)
		if sum(got.counts) != c.n[0]*c.n[1]*c.n[2] || sum(got.fixed) != len(got.firsts)*len(g) || len(got.owner) != sum(got.counts) {
			t.Errorf("%s on %v: %d places in orbits, %d fixed, %d firsts, %d owners", c.name, c.n, sum(got.counts), sum(got.fixed), len(got.firsts), len(got.owner))
		}
		held := make([]int, len(got.firsts))
		for _, i := range got.owner {
			held[i]++
		}
		if !slices.Equal(held, got.counts) {
			t.Errorf("%s on %v: Owner and Firsts don't agree", c.name, c.n)
		}
	}
}

// side is sides with what is answered of them alone.
type side struct {
	n api.Vec
	e api.Errno
}

var sides = []side{
	{api.Vec{1, 1, 1}, api.OK}, {api.Vec{4, 4, 2}, api.OK}, {api.Vec{192, 1, 1}, api.OK}, {api.Vec{1, 192, 1}, api.OK}, {api.Vec{1, 1, 192}, api.OK}, {api.Vec{64, 64, 64}, api.OK}, {api.Vec{128, 128, 16}, api.OK}, {api.Vec{192, 192, 7}, api.OK},
	{api.Vec{109, 185, 13}, api.ErrLong}, {api.Vec{64, 64, 65}, api.ErrLong}, {api.Vec{192, 192, 8}, api.ErrLong}, {api.Vec{192, 192, 192}, api.ErrLong},
	{api.Vec{0, 1, 1}, api.ErrArg}, {api.Vec{1, 0, 1}, api.ErrArg}, {api.Vec{1, 1, 0}, api.ErrArg}, {api.Vec{}, api.ErrArg}, {api.Vec{193, 1, 1}, api.ErrArg}, {api.Vec{1, 193, 1}, api.ErrArg}, {api.Vec{1, 1, 193}, api.ErrArg}, {api.Vec{-1, 1, 1}, api.ErrArg}, {api.Vec{1, -1, -1}, api.ErrArg}, {api.Vec{-4, -4, 4}, api.ErrArg},
	{api.Vec{193, 192, 192}, api.ErrArg}, {api.Vec{0, 192, 192}, api.ErrArg}, {api.Vec{math.MinInt, 1, 1}, api.ErrArg}, {api.Vec{1, math.MaxInt, 1}, api.ErrArg}, {api.Vec{1 << 32, 1 << 32, 1}, api.ErrArg}, {api.Vec{math.MinInt, math.MinInt, math.MinInt}, api.ErrArg},
}

type refusal struct {
	name string
	list []api.Op
	e    api.Errno
}

// refused answers lists that are no groups in order, with what is answered of each alone; and the group of the identity.
func refused(t *testing.T) []refusal {
	over := api.Op{R: api.Mat{{1, 1001, 0}, {0, 1, 0}, {0, 0, 1}}}
	under := api.Op{R: api.Mat{{1, math.MinInt, 0}, {0, 1, 0}, {0, 0, 1}}}
	outside := api.Op{R: op.One().R, T: api.Vec{0, 0, 24}}
	return []refusal{
		{"193 identities", slices.Repeat([]api.Op{op.One()}, 193), api.ErrLong},
		{"193 noughts", make([]api.Op, 193), api.ErrLong},
		{"noughts", []api.Op{{}}, api.ErrForm},
		{"a part of 24", []api.Op{op.One(), outside}, api.ErrForm},
		{"entry 1001, then noughts", []api.Op{over, {}}, api.ErrForm},
		{"entry 1001", []api.Op{over}, api.ErrOver},
		{"the least entry", []api.Op{under, op.One()}, api.ErrOver},
		{"no maps", nil, api.ErrClose},
		{"an empty list", []api.Op{}, api.ErrClose},
		{"no identity", maps(t, "-x,-y,-z"), api.ErrClose},
		{"out of order", maps(t, "x,y,z", "-x,-y,-z"), api.ErrClose},
		{"twice", maps(t, "x,y,z", "x,y,z"), api.ErrClose},
		{"a product lacks, and none fits", maps(t, "-y,x,z+1/24", "x,y,z"), api.ErrClose},
		{"a shear", maps(t, "x,y,z", "x+y,y,z"), api.ErrClose},
		{"a group", maps(t, "x,y,z"), api.OK},
	}
}

// least answers the least error that is one.
func least(list ...api.Errno) api.Errno {
	found := api.OK
	for _, e := range list {
		if e != api.OK && (found == api.OK || e < found) {
			found = e
		}
	}
	return found
}

func TestWrongGroupsAndSides(t *testing.T) { // P1, P10.1, P10.3 to P10.5, the chapter's errors
	for _, c := range refused(t) {
		for _, s := range sides {
			want := least(c.e, s.e)
			firsts, counts, e := Firsts(c.list, s.n)
			owner, f := Owner(c.list, s.n)
			fixed, h := Fixed(c.list, s.n)
			if i := Fits(c.list, s.n); i != want || e != want || f != want || h != want {
				t.Errorf("%s on %v: Fits %d, Firsts %d, Owner %d, Fixed %d, want %d", c.name, s.n, i, e, f, h, want)
			}
			if want != api.OK && len(firsts)+len(counts)+len(owner)+len(fixed) != 0 {
				t.Errorf("%s on %v: lists beside an error", c.name, s.n)
			}
		}
	}
}

func TestUnlikeComesLast(t *testing.T) { // the order of errors: a group that doesn't fit on sides that are wrong
	g := closed(t, "-y,x,z+1/4")
	for _, c := range []side{{api.Vec{4, 2, 4}, api.ErrUnlike}, {api.Vec{4, 4, 2}, api.ErrUnlike}, {api.Vec{192, 191, 8}, api.ErrLong}, {api.Vec{193, 2, 4}, api.ErrArg}, {api.Vec{4, 2, 0}, api.ErrArg}} {
		if e := Fits(g, c.n); e != c.e {
			t.Errorf("Fits on %v: %d, want %d", c.n, e, c.e)
		}
		if to, e := Move(g[1], c.n, api.Vec{}); e != c.e || to != (api.Vec{}) {
			t.Errorf("Move on %v: %v, %d, want %d", c.n, to, e, c.e)
		}
	}
}

func TestWrongMoves(t *testing.T) { // P1, P10.2, the chapter's errors
	over := api.Op{R: api.Mat{{1, 1001, 0}, {0, 1, 0}, {0, 0, 1}}}
	both := over
	both.T[1] = -1
	list := []struct {
		o api.Op
		e api.Errno
	}{
		{op.One(), api.OK}, {api.Op{}, api.ErrForm}, {over, api.ErrOver}, {both, api.ErrForm}, {api.Op{R: op.One().R, T: api.Vec{24, 0, 0}}, api.ErrForm}, {api.Op{R: op.One().R, T: api.Vec{0, 0, math.MinInt}}, api.ErrForm},
		{api.Op{R: api.Mat{{2, 0, 0}, {0, 1, 0}, {0, 0, 1}}}, api.ErrForm}, {api.Op{R: api.Mat{{-1001, 0, 0}, {0, 1, 0}, {0, 0, 1}}}, api.ErrOver}, {api.Op{R: api.Mat{{math.MinInt, 0, 0}, {0, math.MaxInt, 0}, {0, 0, 1}}}, api.ErrOver},
	}
	for _, s := range sides {
		for _, c := range list {
			last := api.Vec{s.n[0] - 1, s.n[1] - 1, s.n[2] - 1}
			for _, at := range []api.Vec{{}, last} {
				to, e := Move(c.o, s.n, at)
				if want := least(s.e, c.e); e != want || e != api.OK && to != (api.Vec{}) || e == api.OK && to != at {
					t.Errorf("Move(%v, %v, %v) = %v, %d, want %d", c.o, s.n, at, to, e, want)
				}
			}
			for i := range 3 {
				for _, part := range []int{-1, s.n[i], math.MinInt, math.MaxInt} {
					at := api.Vec{}
					at[i] = part
					if s.e == api.ErrArg {
						at = api.Vec{part, part, part}
					}
					if to, e := Move(c.o, s.n, at); e != api.ErrArg || to != (api.Vec{}) {
						t.Errorf("Move(%v, %v, %v) = %v, %d, want ErrArg", c.o, s.n, at, to, e)
					}
				}
			}
		}
	}
}

func TestMemory(t *testing.T) { // memory
	n := api.Vec{24, 24, 24}
	for _, texts := range samples {
		whole := closed(t, texts...)
		if Fits(whole, n) != api.OK {
			t.Fatalf("%v doesn't fit", texts)
		}
		room := append(slices.Clone(whole), slices.Repeat([]api.Op{{T: api.Vec{-7}}}, 200)...)
		keep := slices.Clone(room)
		g := room[:len(whole)]
		first := asked(t, g, n)
		want := answers{slices.Clone(first.firsts), slices.Clone(first.counts), slices.Clone(first.owner), slices.Clone(first.fixed)}
		clear(first.firsts[:cap(first.firsts)])
		if !slices.Equal(first.counts, want.counts) {
			t.Errorf("%v: the two lists of Firsts share memory", texts)
		}
		clear(first.counts[:cap(first.counts)])
		clear(first.owner[:cap(first.owner)])
		clear(first.fixed[:cap(first.fixed)])
		if got := asked(t, g, n); !got.equal(want) || !slices.Equal(room, keep) {
			t.Errorf("%v: an answer is bound to an earlier one, or what was handed in was changed", texts)
		}
	}
}

package orbit

import (
	"math"
	"slices"
	"testing"

	"facet/api"
	"facet/group"
	"facet/op"
	"facet/optext"
)

// Groups of all sorts, by what generates them.
var samples = [][]string{
	nil,
	{"-x,-y,-z"},
	{"-x,y+1/2,-z", "-x,-y,-z"},
	{"-y,x,z+1/4"},
	{"-x,-y,z", "-x,y,-z"},
	{"-y,x,z", "x,-y,z"},
	{"-y,x,z+1/4", "x,-y+1/2,z"},
	{"x+1/2,y+1/2,z", "-x,y,-z+1/2", "-x,-y,-z"},
	{"x+2/3,y+1/3,z+1/3", "-y,x-y,z", "y,x,-z"},
	{"x-y,x,z+1/2", "y,x,-z", "-x,-y,-z"},
	{"-x,-y,z", "-x,y,-z", "z,x,y", "y,x,-z", "-x,-y,-z"},
	{"x+1/24,y,z"},
	{"x+1/24,y,z", "x,y+1/8,z"},
	{"x+1000y,-y,z"},
	{"-x+2y+500z,y,z", "x-2y+500z,-y+500z,z+1/2"},
	{"x,y+1/2,z+1/2", "x+1/2,y,z+1/2", "-x,-y,z", "-x,y,-z", "z,x,y", "y,x,-z", "-x,-y,-z"},
	{"x,y+1/2,z+1/2", "x+1/2,y,z+1/2", "-x+3/4,-y+1/4,z+1/2", "-x+1/4,y+1/2,-z+3/4", "z,x,y", "y+3/4,x+1/4,-z+1/2", "-x,-y,-z"},
}

// maps answers the maps of texts.
func maps(t *testing.T, texts ...string) []api.Op {
	t.Helper()
	var list []api.Op
	for _, s := range texts {
		o, _, e := optext.Read(s)
		if e != api.OK {
			t.Fatalf("no map: %s: %d", s, e)
		}
		list = append(list, o)
	}
	return list
}

// closed answers the group of texts.
func closed(t *testing.T, texts ...string) []api.Op {
	t.Helper()
	g, e := group.Close(maps(t, texts...))
	if e != api.OK {
		t.Fatalf("Close(%v): %d", texts, e)
	}
	return g
}

// at answers a place in m-ths.
func at(m, x, y, z int) api.Point {
	return api.Point{M: m, X: api.Vec{x, y, z}}
}

// sent answers where o sends p, in whole numbers of the test's own.
func sent(o api.Op, p api.Point) api.Point {
	q := api.Point{M: p.M}
	for i := range 3 {
		n := o.T[i] * p.M / 24
		for j := range 3 {
			n += o.R[i][j] * p.X[j]
		}
		q.X[i] = (n%p.M + p.M) % p.M
	}
	return q
}

// orbitByHand answers the unlike places to which the maps send p, sorted by their numbers.
func orbitByHand(g []api.Op, p api.Point) []api.Point {
	there := map[int]api.Point{}
	var numbers []int
	for _, o := range g {
		q := sent(o, p)
		n := (q.X[0]*1000+q.X[1])*1000 + q.X[2]
		if _, old := there[n]; !old {
			there[n] = q
			numbers = append(numbers, n)
		}
	}
	slices.Sort(numbers)
	var list []api.Point
	for _, n := range numbers {
		list = append(list, there[n])
	}
	return list
}

func siteByHand(g []api.Op, p api.Point) []int {
	var list []int
	for i, o := range g {
		if sent(o, p) == p {
			list = append(list, i)
		}
	}
	return list
}

// draw is a row of numbers that looks like chance and is the same in each run.
type draw uint64

func (d *draw) below(n int) int {
	*d = *d*6364136223846793005 + 1442695040888963407
	return int(uint64(*d>>33) % uint64(n))
}

// place answers a place, often one that maps leave where it is: its parts are told coarsely, and two are often alike.
func (d *draw) place() api.Point {
	m := 24 << d.below(4)
	parts := []int{2, 3, 4, 8, m, m}[d.below(6)]
	p := api.Point{M: m}
	for i := range p.X {
		p.X[i] = d.below(parts) * (m / parts)
		if i > 0 && d.below(3) == 0 {
			p.X[i] = p.X[i-1]
		}
	}
	return p
}

func TestChapterExamples(t *testing.T) { // P9.1 to P9.4
	g := closed(t, "-x,-y,-z")
	for _, c := range []struct {
		p     api.Point
		of    []api.Point
		site  []int
		least api.Point
		by    int
	}{
		{at(24, 1, 2, 3), []api.Point{at(24, 1, 2, 3), at(24, 23, 22, 21)}, []int{1}, at(24, 1, 2, 3), 1},
		{at(24, 12, 0, 0), []api.Point{at(24, 12, 0, 0)}, []int{0, 1}, at(24, 12, 0, 0), 0},
		{at(24, 23, 22, 21), []api.Point{at(24, 1, 2, 3), at(24, 23, 22, 21)}, []int{1}, at(24, 1, 2, 3), 0},
	} {
		if l, e := Of(g, c.p); e != api.OK || !slices.Equal(l, c.of) {
			t.Errorf("Of(%v) = %v, %d", c.p, l, e)
		}
		if l, e := Site(g, c.p); e != api.OK || !slices.Equal(l, c.site) {
			t.Errorf("Site(%v) = %v, %d", c.p, l, e)
		}
		if q, i, e := Least(g, c.p); e != api.OK || q != c.least || i != c.by {
			t.Errorf("Least(%v) = %v, %d, %d", c.p, q, i, e)
		}
	}
	if is, e := Same(g, at(24, 1, 2, 3), at(24, 23, 22, 21)); !is || e != api.OK {
		t.Errorf("Same of opposites = %t, %d", is, e)
	}
	if is, e := Same(g, at(24, 1, 2, 3), at(48, 2, 4, 6)); is || e != api.ErrUnlike {
		t.Errorf("Same of unlike M = %t, %d", is, e)
	}
	screw := closed(t, "-x,y+1/2,-z")
	if l, e := Of(screw, at(24, 0, 0, 0)); e != api.OK || !slices.Equal(l, []api.Point{at(24, 0, 0, 0), at(24, 0, 12, 0)}) {
		t.Errorf("the orbit of the origin by a screw = %v, %d", l, e)
	}
}

func TestOrbitsAndSites(t *testing.T) { // P4, P9.1, P9.2, P9.3, P9.5
	d := draw(1)
	special := 0
	for _, texts := range samples {
		g := closed(t, texts...)
		for range 60 {
			p := d.place()
			l, e := Of(g, p)
			if want := orbitByHand(g, p); e != api.OK || !slices.Equal(l, want) {
				t.Fatalf("Of(%v, %v) = %v, %d, want %v", texts, p, l, e, want)
			}
			site, e := Site(g, p)
			if want := siteByHand(g, p); e != api.OK || !slices.Equal(site, want) {
				t.Fatalf("Site(%v, %v) = %v, %d, want %v", texts, p, site, e, want)
			}
			first := slices.IndexFunc(g, func(o api.Op) bool { return sent(o, p) == l[0] })
			if q, i, e := Least(g, p); e != api.OK || q != l[0] || i != first {
				t.Fatalf("Least(%v, %v) = %v, %d, %d, want %v, %d", texts, p, q, i, e, l[0], first)
			}
			if len(l)*len(site) != len(g) || !slices.Contains(l, p) {
				t.Fatalf("%v at %v: %d places, %d maps of %d", texts, p, len(l), len(site), len(g))
			}
			if len(site) > 1 {
				special++
			}
		}
	}
	if special < 100 {
		t.Errorf("only %d places were left where they are", special)
	}
}

func TestOrbitsAreOneOrApart(t *testing.T) { // P9.4, P9.5
	d := draw(2)
	for _, texts := range samples {
		g := closed(t, texts...)
		for range 12 {
			p := d.place()
			orbit, _ := Of(g, p)
			q := orbit[d.below(len(orbit))]
			if l, e := Of(g, q); e != api.OK || !slices.Equal(l, orbit) {
				t.Fatalf("%v: the orbits of %v and %v: %v, %v, %d", texts, p, q, orbit, l, e)
			}
			other := p
			other.X[d.below(3)] = d.below(p.M)
			theirs, _ := Of(g, other)
			meet := slices.ContainsFunc(theirs, func(r api.Point) bool { return slices.Contains(orbit, r) })
			if meet != slices.Equal(orbit, theirs) {
				t.Fatalf("%v: the orbits of %v and %v have a part in common", texts, p, other)
			}
			for _, c := range []struct {
				p, q api.Point
				is   bool
			}{{p, q, true}, {q, p, true}, {p, p, true}, {p, other, meet}, {other, p, meet}} {
				if is, e := Same(g, c.p, c.q); is != c.is || e != api.OK {
					t.Fatalf("Same(%v, %v, %v) = %t, %d, want %t", texts, c.p, c.q, is, e, c.is)
				}
			}
			o := g[d.below(len(g))]
			for _, r := range orbit {
				if !slices.Contains(orbit, sent(o, r)) {
					t.Fatalf("%v: %v sends %v out of the orbit of %v", texts, o, r, p)
				}
			}
		}
	}
}

func TestAllPlacesFallIntoOrbits(t *testing.T) { // P4: on all places with parts in sixths or quarters of the cell
	for _, c := range []struct {
		maps []string
		n    int // the cell is cut into n parts each way
	}{
		{nil, 4}, {[]string{"-x,-y,-z"}, 6}, {[]string{"-x,y+1/2,-z", "-x,-y,-z"}, 4}, {[]string{"-y,x,z+1/4"}, 4},
		{[]string{"x+2/3,y+1/3,z+1/3", "-y,x-y,z", "y,x,-z"}, 6}, {[]string{"x-y,x,z+1/2", "y,x,-z", "-x,-y,-z"}, 6}, {[]string{"-x,-y,z", "-x,y,-z", "z,x,y", "y,x,-z", "-x,-y,-z"}, 4},
	} {
		g := closed(t, c.maps...)
		firsts, left := 0, 0
		for i := range c.n * c.n * c.n {
			step := 48 / c.n
			p := at(48, i/c.n/c.n*step, i/c.n%c.n*step, i%c.n*step)
			least, _, e := Least(g, p)
			site, f := Site(g, p)
			if e != api.OK || f != api.OK {
				t.Fatalf("%v at %v: %d, %d", c.maps, p, e, f)
			}
			if least == p {
				firsts++
			}
			left += len(site)
		}
		if firsts*len(g) != left {
			t.Errorf("%v: %d orbits, but %d times a place is left where it is by one of %d maps", c.maps, firsts, left, len(g))
		}
	}
}

func TestTheOrderOfPlaces(t *testing.T) { // P9.1, P9.3: the first part counts most, then the second
	g := closed(t, "z,x,y")
	if l, e := Of(g, at(192, 190, 5, 100)); e != api.OK || !slices.Equal(l, []api.Point{at(192, 5, 100, 190), at(192, 100, 190, 5), at(192, 190, 5, 100)}) {
		t.Errorf("Of = %v, %d", l, e)
	}
	if l, e := Of(g, at(96, 0, 10, 9)); e != api.OK || !slices.Equal(l, []api.Point{at(96, 0, 10, 9), at(96, 9, 0, 10), at(96, 10, 9, 0)}) {
		t.Errorf("Of = %v, %d", l, e)
	}
	flat := closed(t, "x,-y,z", "x,y,-z")
	if l, e := Of(flat, at(24, 7, 23, 23)); e != api.OK || !slices.Equal(l, []api.Point{at(24, 7, 1, 1), at(24, 7, 1, 23), at(24, 7, 23, 1), at(24, 7, 23, 23)}) {
		t.Errorf("Of = %v, %d", l, e)
	}
}

func TestTheFirstMapIsTaken(t *testing.T) { // P9.3
	g := maps(t, "-x,-y,z", "-x,y,z", "-y,-x,z", "-y,x,z", "y,-x,z", "y,x,z", "x,-y,z", "x,y,z")
	for _, c := range []struct {
		p  api.Point
		by int
	}{{at(24, 0, 0, 5), 0}, {at(24, 3, 3, 0), 5}, {at(24, 21, 21, 0), 0}, {at(24, 3, 21, 0), 3}, {at(24, 21, 3, 0), 1}, {at(24, 3, 4, 0), 7}, {at(24, 4, 3, 0), 5}} {
		if _, by, e := Least(g, c.p); by != c.by || e != api.OK {
			t.Errorf("Least(%v) by the map %d, %d, want %d", c.p, by, e, c.by)
		}
	}
}

type refusal struct {
	name string
	list []api.Op
	e    api.Errno
}

// refused answers lists that are no groups in order, with what is answered of each alone.
func refused(t *testing.T) []refusal {
	over := api.Op{R: api.Mat{{1, 1001, 0}, {0, 1, 0}, {0, 0, 1}}}
	under := api.Op{R: api.Mat{{1, math.MinInt, 0}, {0, 1, 0}, {0, 0, 1}}}
	outside := api.Op{R: op.One().R, T: api.Vec{0, 0, 24}}
	return []refusal{
		{"193 identities", slices.Repeat([]api.Op{op.One()}, 193), api.ErrLong},
		{"193 noughts", make([]api.Op, 193), api.ErrLong},
		{"noughts", []api.Op{{}}, api.ErrForm},
		{"a part of 24", []api.Op{op.One(), outside}, api.ErrForm},
		{"entry 1001, then noughts", []api.Op{over, {}}, api.ErrForm},
		{"entry 1001", []api.Op{over}, api.ErrOver},
		{"the least entry", []api.Op{under, op.One()}, api.ErrOver},
		{"no maps", nil, api.ErrClose},
		{"an empty list", []api.Op{}, api.ErrClose},
		{"no identity", maps(t, "-x,-y,-z"), api.ErrClose},
		{"out of order", maps(t, "x,y,z", "-x,-y,-z"), api.ErrClose},
		{"twice", maps(t, "x,y,z", "x,y,z"), api.ErrClose},
		{"a product lacks", closed(t, "-y,x,z")[1:], api.ErrClose},
		{"a shear", maps(t, "x,y,z", "x+y,y,z"), api.ErrClose},
		{"a group", closed(t, "-y,x,z"), api.OK},
	}
}

// least answers the least error that is one.
func least(list ...api.Errno) api.Errno {
	found := api.OK
	for _, e := range list {
		if e != api.OK && (found == api.OK || e < found) {
			found = e
		}
	}
	return found
}

var wrongPlaces = []api.Point{{}, at(24, 24, 0, 0), at(24, 0, -1, 0), at(48, 0, 0, 48), at(96, 96, 0, 0), at(192, 0, 192, 0), at(25, 0, 0, 0), at(72, 1, 1, 1), at(384, 0, 0, 0), at(-24, 0, 0, 0), at(0, 0, 0, 0), at(math.MinInt, 0, 0, 0), at(24, math.MinInt, 0, 0), at(192, 0, 0, math.MaxInt)}

func TestWrongGroupsAndPlaces(t *testing.T) { // P1, the chapter's errors
	right := []api.Point{at(24, 0, 0, 0), at(24, 23, 23, 23), at(48, 47, 0, 1), at(192, 191, 191, 191)}
	for _, c := range refused(t) {
		for i, p := range append(slices.Clone(right), wrongPlaces...) {
			ofPlace := api.OK
			if i >= len(right) {
				ofPlace = api.ErrForm
			}
			want := least(c.e, ofPlace)
			l, e := Of(c.list, p)
			site, f := Site(c.list, p)
			q, by, h := Least(c.list, p)
			if e != want || f != want || h != want {
				t.Errorf("%s at %v: Of %d, Site %d, Least %d, want %d", c.name, p, e, f, h, want)
			}
			if want != api.OK && (len(l) != 0 || len(site) != 0 || q != api.Point{} || by != 0) {
				t.Errorf("%s at %v: something beside an error: %v, %v, %v, %d", c.name, p, l, site, q, by)
			}
			for j, r := range append(slices.Clone(right), wrongPlaces...) {
				both := least(want, ofPlace)
				if j >= len(right) {
					both = least(both, api.ErrForm)
				}
				if both == api.OK && p.M != r.M {
					both = api.ErrUnlike
				}
				if is, e := Same(c.list, p, r); e != both || is && both != api.OK {
					t.Errorf("Same, %s, of %v and %v: %t, %d, want %d", c.name, p, r, is, e, both)
				}
			}
		}
	}
}

func TestUnlikeFineness(t *testing.T) { // P9.4: places at one point, told in unlike parts, are not held against each other
	for _, m := range []int{24, 48, 96, 192} {
		for _, n := range []int{24, 48, 96, 192} {
			is, e := Same(closed(t, "-x,-y,-z"), at(m, m/2, 0, 0), at(n, n/2, 0, 0))
			if (m == n) != (is && e == api.OK) || (m != n) != (!is && e == api.ErrUnlike) {
				t.Errorf("Same of %d and %d: %t, %d", m, n, is, e)
			}
		}
	}
}

func TestMemory(t *testing.T) { // memory
	d := draw(3)
	for _, texts := range samples {
		whole := closed(t, texts...)
		room := append(slices.Clone(whole), slices.Repeat([]api.Op{{T: api.Vec{-7}}}, 200)...)
		keep := slices.Clone(room)
		g := room[:len(whole)]
		p := d.place()
		l, _ := Of(g, p)
		site, _ := Site(g, p)
		clear(l[:cap(l)])
		clear(site[:cap(site)])
		l, e := Of(g, p)
		site, f := Site(g, p)
		q, _, h := Least(g, p)
		is, i := Same(g, p, q)
		if e != api.OK || f != api.OK || h != api.OK || i != api.OK || !is || !slices.Equal(room, keep) {
			t.Errorf("the group of %v with room behind it: %d, %d, %d, %d", texts, e, f, h, i)
		}
		if !slices.Equal(l, orbitByHand(g, p)) || !slices.Equal(site, siteByHand(g, p)) {
			t.Errorf("the group of %v: an answer is bound to an earlier one", texts)
		}
	}
}

package names

import (
	"math"
	"slices"
	"strings"
	"testing"

	"facet/api"
	"facet/basis"
	"facet/group"
	"facet/op"
	"facet/optext"
)

// lines is the chapter's table: the name, how many maps the group has, and what generates it.
var lines = []struct {
	name  string
	count int
	maps  []string
}{
	{"C2", 4, []string{"x+1/2,y+1/2,z", "-x,y,-z"}},
	{"C2/c", 8, []string{"x+1/2,y+1/2,z", "-x,y,-z+1/2", "-x,-y,-z"}},
	{"Fd-3m", 192, []string{"x,y+1/2,z+1/2", "x+1/2,y,z+1/2", "-x+3/4,-y+1/4,z+1/2", "-x+1/4,y+1/2,-z+3/4", "z,x,y", "y+3/4,x+1/4,-z+1/2", "-x,-y,-z"}},
	{"Fddd", 32, []string{"x,y+1/2,z+1/2", "x+1/2,y,z+1/2", "-x+3/4,-y+3/4,z", "-x+3/4,y,-z+3/4", "-x,-y,-z"}},
	{"Fm-3m", 192, []string{"x,y+1/2,z+1/2", "x+1/2,y,z+1/2", "-x,-y,z", "-x,y,-z", "z,x,y", "y,x,-z", "-x,-y,-z"}},
	{"Ia-3d", 96, []string{"x+1/2,y+1/2,z+1/2", "-x+1/2,-y,z+1/2", "-x,y+1/2,-z+1/2", "z,x,y", "y+3/4,x+1/4,-z+1/4", "-x,-y,-z"}},
	{"P-1", 2, []string{"-x,-y,-z"}},
	{"P1", 1, nil},
	{"P2", 2, []string{"-x,y,-z"}},
	{"P2/m", 4, []string{"-x,y,-z", "-x,-y,-z"}},
	{"P21", 2, []string{"-x,y+1/2,-z"}},
	{"P21/c", 4, []string{"-x,y+1/2,-z+1/2", "-x,-y,-z"}},
	{"P212121", 4, []string{"-x+1/2,-y,z+1/2", "-x,y+1/2,-z+1/2"}},
	{"P222", 4, []string{"-x,-y,z", "-x,y,-z"}},
	{"P23", 12, []string{"-x,-y,z", "-x,y,-z", "z,x,y"}},
	{"P3", 3, []string{"-y,x-y,z"}},
	{"P31", 3, []string{"-y,x-y,z+1/3"}},
	{"P4", 4, []string{"-y,x,z"}},
	{"P4/mmm", 16, []string{"-y,x,z", "-x,y,-z", "-x,-y,-z"}},
	{"P41", 4, []string{"-y,x,z+1/4"}},
	{"P6", 6, []string{"x-y,x,z"}},
	{"P63/mmc", 24, []string{"x-y,x,z+1/2", "y,x,-z", "-x,-y,-z"}},
	{"Pc", 2, []string{"x,-y,z+1/2"}},
	{"Pm", 2, []string{"x,-y,z"}},
	{"Pm-3m", 48, []string{"-x,-y,z", "-x,y,-z", "z,x,y", "y,x,-z", "-x,-y,-z"}},
	{"Pnma", 8, []string{"-x+1/2,-y,z+1/2", "-x,y+1/2,-z", "-x,-y,-z"}},
	{"R3", 9, []string{"x+2/3,y+1/3,z+1/3", "-y,x-y,z"}},
}

type classLine struct {
	name string
	maps []string
}

// classLines has for each class what generates a group of it, without translations.
var classLines = []classLine{
	{"1", nil},
	{"-1", []string{"-x,-y,-z"}},
	{"2", []string{"-x,y,-z"}},
	{"m", []string{"x,-y,z"}},
	{"2/m", []string{"-x,y,-z", "x,-y,z"}},
	{"222", []string{"-x,-y,z", "-x,y,-z"}},
	{"mm2", []string{"-x,-y,z", "x,-y,z"}},
	{"mmm", []string{"-x,-y,z", "-x,y,-z", "-x,-y,-z"}},
	{"4", []string{"-y,x,z"}},
	{"-4", []string{"y,-x,-z"}},
	{"4/m", []string{"-y,x,z", "x,y,-z"}},
	{"422", []string{"-y,x,z", "-x,y,-z"}},
	{"4mm", []string{"-y,x,z", "x,-y,z"}},
	{"-42m", []string{"y,-x,-z", "-x,y,-z"}},
	{"-42m", []string{"y,-x,-z", "x,-y,z"}}, // mirrors where the other has turns
	{"4/mmm", []string{"-y,x,z", "-x,y,-z", "-x,-y,-z"}},
	{"3", []string{"-y,x-y,z"}},
	{"3", []string{"z,x,y"}},
	{"-3", []string{"-y,x-y,z", "-x,-y,-z"}},
	{"32", []string{"-y,x-y,z", "y,x,-z"}},
	{"32", []string{"-y,x-y,z", "-y,-x,-z"}},
	{"3m", []string{"-y,x-y,z", "y,x,z"}},
	{"-3m", []string{"-y,x-y,z", "y,x,-z", "-x,-y,-z"}},
	{"6", []string{"x-y,x,z"}},
	{"-6", []string{"-x+y,-x,-z"}},
	{"6/m", []string{"x-y,x,z", "x,y,-z"}},
	{"622", []string{"x-y,x,z", "y,x,-z"}},
	{"6mm", []string{"x-y,x,z", "y,x,z"}},
	{"-6m2", []string{"-x+y,-x,-z", "y,x,-z"}},
	{"-6m2", []string{"-x+y,-x,-z", "y,x,z"}},
	{"6/mmm", []string{"x-y,x,z", "y,x,-z", "-x,-y,-z"}},
	{"23", []string{"-x,-y,z", "z,x,y"}},
	{"m-3", []string{"-x,-y,z", "z,x,y", "-x,-y,-z"}},
	{"432", []string{"-y,x,z", "z,x,y"}},
	{"-43m", []string{"y,-x,-z", "z,x,y"}},
	{"m-3m", []string{"-y,x,z", "z,x,y", "-x,-y,-z"}},
}

// maps answers the maps of texts.
func maps(t *testing.T, texts ...string) []api.Op {
	t.Helper()
	var list []api.Op
	for _, s := range texts {
		o, _, e := optext.Read(s)
		if e != api.OK {
			t.Fatalf("no map: %s: %d", s, e)
		}
		list = append(list, o)
	}
	return list
}

// closed answers the group of texts.
func closed(t *testing.T, texts ...string) []api.Op {
	t.Helper()
	return closure(t, maps(t, texts...))
}

func closure(t *testing.T, list []api.Op) []api.Op {
	t.Helper()
	g, e := group.Close(list)
	if e != api.OK {
		t.Fatalf("Close(%v): %d", list, e)
	}
	return g
}

// draw is a row of numbers that looks like chance and is the same in each run.
type draw uint64

func (d *draw) below(n int) int {
	*d = *d*6364136223846793005 + 1442695040888963407
	return int(uint64(*d>>33) % uint64(n))
}

// change answers a change of basis with small entries.
func (d *draw) change(t *testing.T) basis.Change {
	t.Helper()
	c := basis.Change{P: op.One().R, O: api.Vec{d.below(24), d.below(24), d.below(24)}}
	for range 1 + d.below(4) {
		step := basis.Change{P: op.One().R}
		i := d.below(3)
		step.P[i][(i+1+d.below(2))%3] = d.below(5) - 2
		if d.below(3) == 0 {
			step.P[i][i] = -1
		}
		both, e := basis.Behind(step, c)
		if e != api.OK {
			t.Fatalf("Behind(%v, %v): %d", step, c, e)
		}
		c = both
	}
	return c
}

func determinant(r api.Mat) int {
	return r[0][0]*(r[1][1]*r[2][2]-r[1][2]*r[2][1]) - r[0][1]*(r[1][0]*r[2][2]-r[1][2]*r[2][0]) + r[0][2]*(r[1][0]*r[2][1]-r[1][1]*r[2][0])
}

// kindsByTraces counts the kinds by another rule than the document's: a turn's order is told by its matrix's trace.
func kindsByTraces(g []api.Op) [10]int {
	var found [10]int
	seen := map[api.Mat]bool{}
	for _, o := range g {
		if seen[o.R] {
			continue
		}
		seen[o.R] = true
		d := determinant(o.R)
		column := map[int]int{3: 0, -1: 1, 0: 2, 1: 3, 2: 4}[d*(o.R[0][0]+o.R[1][1]+o.R[2][2])]
		if d < 0 {
			column += 5
		}
		found[column]++
	}
	return found
}

func TestChapterExamples(t *testing.T) { // P8.1, P8.2
	if g, e := Group("P41"); e != api.OK || !slices.Equal(g, maps(t, "-x,-y,z+1/2", "-y,x,z+1/4", "y,-x,z+3/4", "x,y,z")) {
		t.Errorf("Group(P41) = %v, %d", g, e)
	}
	if s, e := Name(maps(t, "x,y,z")); s != "P1" || e != api.OK {
		t.Errorf("Name of the identity alone = %s, %d", s, e)
	}
	if s, e := Name(maps(t, "x,y,z", "x,y,z+1/2")); s != "" || e != api.ErrNone {
		t.Errorf("Name of a half = %s, %d", s, e)
	}
	for name, want := range map[string][10]int{"P63/mmc": {1, 7, 2, 0, 2, 1, 7, 2, 0, 2}, "P4/mmm": {1, 5, 0, 2, 0, 1, 5, 0, 2, 0}} {
		g, _ := Group(name)
		if k, e := Kinds(g); k != want || e != api.OK {
			t.Errorf("Kinds of %s = %v, %d", name, k, e)
		}
	}
	for name, want := range map[string]string{"P63/mmc": "6/mmm", "C2": "2", "R3": "3", "Pnma": "mmm", "Fd-3m": "m-3m", "Pm": "m"} {
		g, _ := Group(name)
		if c, e := Class(g); c != want || e != api.OK {
			t.Errorf("Class of %s = %s, %d", name, c, e)
		}
	}
	if c, e := Class(maps(t, "x,-y,z", "x,y,z")); c != "m" || e != api.OK {
		t.Errorf("Class of a mirror = %s, %d", c, e)
	}
}

func TestKnown(t *testing.T) { // P8.1
	var want []string
	for _, l := range lines {
		want = append(want, l.name)
	}
	if l := Known(); !slices.Equal(l, want) || len(l) != 27 || !slices.IsSorted(l) {
		t.Errorf("Known() = %v", l)
	}
}

func TestGroupAndName(t *testing.T) { // P8.1, P8.3
	for _, l := range lines {
		g, e := Group(l.name)
		if want := closed(t, l.maps...); e != api.OK || !slices.Equal(g, want) || len(g) != l.count || group.Check(g) != api.OK {
			t.Errorf("Group(%s): %d maps, %d", l.name, len(g), e)
		}
		if s, e := Name(g); s != l.name || e != api.OK {
			t.Errorf("Name(Group(%s)) = %s, %d", l.name, s, e)
		}
	}
}

func TestNamesByteByByte(t *testing.T) { // P8.1
	for _, l := range lines {
		n := l.name
		for _, s := range []string{strings.ToLower(n), n + " ", " " + n, n + "\x00", n + n, n + "\n", "\ufeff" + n, strings.Replace(n, "/", "∕", 1), strings.Replace(n, "-", "−", 1), strings.ToUpper(n)} {
			if slices.Contains(Known(), s) {
				continue
			}
			if g, e := Group(s); len(g) != 0 || e != api.ErrName {
				t.Errorf("Group(%q): %d maps, %d", s, len(g), e)
			}
		}
	}
	for _, s := range []string{"", "P", "p1", "P1 ", "F", "I", "P21/", "P2/", "P2121", "P63", "\xff", "x,y,z", "C2; C2/c", strings.Repeat("P", 1<<20)} {
		if g, e := Group(s); len(g) != 0 || e != api.ErrName {
			t.Errorf("Group(%.20q): %d maps, %d", s, len(g), e)
		}
	}
}

// nameByHand answers the name of the known group that has just the maps of g, by the test's own table.
func nameByHand(t *testing.T, g []api.Op) (string, api.Errno) {
	for _, l := range lines {
		if l.count == len(g) && !slices.ContainsFunc(maps(t, l.maps...), func(o api.Op) bool { return !slices.Contains(g, o) }) {
			return l.name, api.OK
		}
	}
	return "", api.ErrNone
}

func TestNameOfGroupsNearKnownOnes(t *testing.T) { // P8.1
	d := draw(1)
	found := map[api.Errno]int{}
	check := func(g []api.Op) {
		want, wantE := nameByHand(t, g)
		s, e := Name(g)
		if s != want || e != wantE {
			t.Fatalf("Name(%v) = %s, %d, want %s, %d", g, s, e, want, wantE)
		}
		found[e]++
	}
	for _, l := range lines {
		g := closed(t, l.maps...)
		for range 6 {
			check(closure(t, []api.Op{g[d.below(len(g))], g[d.below(len(g))]})) // a part
			moved, e := basis.Group(basis.Change{P: op.One().R, O: api.Vec{6 * d.below(4), 6 * d.below(4), 6 * d.below(4)}}, g)
			if e != api.OK {
				t.Fatalf("basis.Group: %d", e)
			}
			check(moved)
		}
	}
	if found[api.OK] < 50 || found[api.ErrNone] < 50 {
		t.Errorf("the groups are lopsided: %v", found)
	}
}

func TestKindsAndClass(t *testing.T) { // P8.2, P8.3
	d := draw(2)
	all := map[string]bool{}
	for _, l := range classLines {
		all[l.name] = true
		bare := closed(t, l.maps...)
		for _, half := range [][]string{nil, {"x+1/2,y+1/2,z+1/2"}} {
			first := closed(t, append(slices.Clone(l.maps), half...)...)
			g := first
			for range 4 {
				k, e := Kinds(g)
				sum := 0
				for _, n := range k {
					sum += n
				}
				if e != api.OK || k != kindsByTraces(g) || sum != len(bare) {
					t.Fatalf("Kinds of %s, as %v: %v, %d, want %v", l.name, g, k, e, kindsByTraces(g))
				}
				if c, e := Class(g); c != l.name || e != api.OK {
					t.Fatalf("Class of %s, as %v: %s, %d", l.name, g, c, e)
				}
				if g, e = basis.Group(d.change(t), first); e != api.OK {
					t.Fatalf("basis.Group: %d", e)
				}
			}
		}
	}
	if len(all) != 32 {
		t.Errorf("the table has %d classes", len(all))
	}
}

func TestNamesOfClassesAreUnlike(t *testing.T) { // P8.2: a line of counts tells one class
	byCounts := map[[10]int]string{}
	for _, l := range classLines {
		k, _ := Kinds(closed(t, l.maps...))
		if other, there := byCounts[k]; there && other != l.name {
			t.Errorf("%s and %s have the counts %v", other, l.name, k)
		}
		byCounts[k] = l.name
	}
}

func TestClassOfParts(t *testing.T) { // P8.2: each group has one of the lines
	d := draw(3)
	for _, texts := range [][]string{{"-y,x,z", "z,x,y", "-x,-y,-z"}, {"x-y,x,z", "y,x,-z", "-x,-y,-z"}, lines[2].maps, lines[5].maps} {
		whole := closed(t, texts...)
		for range 150 {
			g := closure(t, []api.Op{whole[d.below(len(whole))], whole[d.below(len(whole))]})
			if k, e := Kinds(g); e != api.OK || k != kindsByTraces(g) {
				t.Fatalf("Kinds(%v) = %v, %d", g, k, e)
			}
			if c, e := Class(g); e != api.OK || !slices.ContainsFunc(classLines, func(l classLine) bool { return l.name == c }) {
				t.Fatalf("Class(%v) = %s, %d", g, c, e)
			}
		}
	}
}

func TestGreatEntriesAndManyTranslations(t *testing.T) { // P8.2
	for _, c := range []struct {
		class string
		maps  []string
	}{
		{"m", []string{"x+1000y,-y,z"}},
		{"2", []string{"x+1000y,-y,-z"}},
		{"mm2", []string{"-x+2y+500z,y,z", "x-2y+500z,-y+500z,z+1/2"}},
		{"1", []string{"x+1/24,y,z", "x,y+1/8,z"}},
		{"-1", []string{"-x+1/24,-y+5/24,-z", "x,y+1/24,z", "x+1/4,y,z"}},
	} {
		g := closed(t, c.maps...)
		if k, e := Kinds(g); e != api.OK || k != kindsByTraces(g) {
			t.Errorf("Kinds of %v = %v, %d", c.maps, k, e)
		}
		if s, e := Class(g); s != c.class || e != api.OK {
			t.Errorf("Class of %v = %s, %d", c.maps, s, e)
		}
		if s, e := Name(g); s != "" || e != api.ErrNone {
			t.Errorf("Name of %v = %s, %d", c.maps, s, e)
		}
	}
}

func TestWrongLists(t *testing.T) { // P1, the chapter's errors
	over := api.Op{R: api.Mat{{1, 1001, 0}, {0, 1, 0}, {0, 0, 1}}}
	under := api.Op{R: api.Mat{{1, math.MinInt, 0}, {0, 1, 0}, {0, 0, 1}}}
	outside := api.Op{R: op.One().R, T: api.Vec{0, 0, 24}}
	for _, c := range []struct {
		name string
		list []api.Op
		e    api.Errno
	}{
		{"193 identities", slices.Repeat([]api.Op{op.One()}, 193), api.ErrLong},
		{"193 noughts", make([]api.Op, 193), api.ErrLong},
		{"noughts", []api.Op{{}}, api.ErrForm},
		{"a part of 24", []api.Op{op.One(), outside}, api.ErrForm},
		{"entry 1001, then noughts", []api.Op{over, {}}, api.ErrForm},
		{"entry 1001", []api.Op{over}, api.ErrOver},
		{"the least entry", []api.Op{under, op.One()}, api.ErrOver},
		{"no maps", nil, api.ErrClose},
		{"an empty list", []api.Op{}, api.ErrClose},
		{"no identity", maps(t, "-x,-y,-z"), api.ErrClose},
		{"out of order", maps(t, "x,y,z", "-x,-y,-z"), api.ErrClose},
		{"twice", maps(t, "x,y,z", "x,y,z"), api.ErrClose},
		{"a product lacks", closed(t, "-y,x,z")[1:], api.ErrClose},
		{"a shear", maps(t, "x,y,z", "x+y,y,z"), api.ErrClose},
	} {
		if s, e := Name(c.list); s != "" || e != c.e {
			t.Errorf("Name of %s: %s, %d, want %d", c.name, s, e, c.e)
		}
		if k, e := Kinds(c.list); k != [10]int{} || e != c.e {
			t.Errorf("Kinds of %s: %v, %d, want %d", c.name, k, e, c.e)
		}
		if s, e := Class(c.list); s != "" || e != c.e {
			t.Errorf("Class of %s: %s, %d, want %d", c.name, s, e, c.e)
		}
	}
}

func TestNothingHandedInIsChangedOrReadBeyond(t *testing.T) { // memory
	for _, l := range lines {
		g := closed(t, l.maps...)
		room := append(slices.Clone(g), slices.Repeat([]api.Op{{T: api.Vec{-7}}}, 200)...)
		keep := slices.Clone(room)
		s, e := Name(room[:len(g)])
		k, f := Kinds(room[:len(g)])
		_, h := Class(room[:len(g)])
		if s != l.name || k != kindsByTraces(g) || e != api.OK || f != api.OK || h != api.OK || !slices.Equal(room, keep) {
			t.Errorf("%s with room behind it: %s, %v, %d, %d, %d", l.name, s, k, e, f, h)
		}
	}
}

func TestAnswersShareNoMemory(t *testing.T) { // memory
	list := Known()
	clear(list[:cap(list)])
	if again := Known(); again[0] != "C2" || again[26] != "R3" {
		t.Errorf("Known() is bound to an earlier answer: %v", again)
	}
	for _, l := range lines {
		g, _ := Group(l.name)
		clear(g[:cap(g)])
		if again, e := Group(l.name); e != api.OK || !slices.Equal(again, closed(t, l.maps...)) {
			t.Errorf("Group(%s) is bound to an earlier answer: %d", l.name, e)
		}
	}
}

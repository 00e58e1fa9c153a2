package sub

import (
	"math"
	"slices"
	"testing"

	"facet/api"
	"facet/group"
	"facet/op"
	"facet/optext"
)

// maps answers the maps of texts.
func maps(t *testing.T, texts ...string) []api.Op {
	t.Helper()
	var list []api.Op
	for _, s := range texts {
		o, _, e := optext.Read(s)
		if e != api.OK {
			t.Fatalf("no map: %s: %d", s, e)
		}
		list = append(list, o)
	}
	return list
}

// closed answers the group of texts.
func closed(t *testing.T, texts ...string) []api.Op {
	t.Helper()
	return closure(t, maps(t, texts...))
}

func closure(t *testing.T, list []api.Op) []api.Op {
	t.Helper()
	g, e := group.Close(list)
	if e != api.OK {
		t.Fatalf("Close(%v): %d", list, e)
	}
	return g
}

// Groups of all sorts, by what generates them.
var samples = [][]string{
	nil,
	{"-x,-y,-z"},
	{"-x,y+1/2,-z", "-x,-y,-z"},
	{"-y,x,z+1/4"},
	{"-x,-y,z", "-x,y,-z"},
	{"-y,x,z", "x,-y,z"},
	{"-y,x,z+1/4", "x,-y+1/2,z"},
	{"x+1/2,y+1/2,z", "-x,y,-z+1/2", "-x,-y,-z"},
	{"x+2/3,y+1/3,z+1/3", "-y,x-y,z", "y,x,-z"},
	{"x-y,x,z+1/2", "y,x,-z", "-x,-y,-z"},
	{"-x,-y,z", "-x,y,-z", "z,x,y"},
	{"-x,-y,z", "-x,y,-z", "z,x,y", "y,x,-z", "-x,-y,-z"},
	{"x+1/24,y,z"},
	{"x+1/2,y,z", "x+1/3,y,z"},
	{"x+1000y,-y,z"},
	{"-x+2y+500z,y,z", "x-2y+500z,-y+500z,z+1/2"},
}

// full generates a group of MaxOps maps, not all of which commute.
var full = []string{"x,y+1/2,z+1/2", "x+1/2,y,z+1/2", "-x+3/4,-y+1/4,z+1/2", "-x+1/4,y+1/2,-z+3/4", "z,x,y", "y+3/4,x+1/4,-z+1/2", "-x,-y,-z"}

// behindSlow answers a behind b as the document says it, in whole numbers of its own.
func behindSlow(a, b api.Op) api.Op {
	var o api.Op
	for i := range 3 {
		part := a.T[i]
		for k := range 3 {
			part += a.R[i][k] * b.T[k]
			for j := range 3 {
				o.R[i][j] += a.R[i][k] * b.R[k][j]
			}
		}
		o.T[i] = (part%24 + 24) % 24
	}
	return o
}

// undoes answers the map of g that undoes a.
func undoes(t *testing.T, g []api.Op, a api.Op) api.Op {
	t.Helper()
	for _, b := range g {
		if behindSlow(a, b) == op.One() {
			return b
		}
	}
	t.Fatalf("nothing undoes %v", a)
	return api.Op{}
}

// sortedPlaces answers the places in g of a set of maps.
func sortedPlaces(g, set []api.Op) []int {
	var list []int
	for i, o := range g {
		if slices.Contains(set, o) {
			list = append(list, i)
		}
	}
	return list
}

// slowCut answers the unlike blocks of g's maps, by their first places.
func slowCut(g []api.Op, block func(a api.Op) []api.Op) [][]int {
	var blocks [][]int
	for i, a := range g {
		if list := sortedPlaces(g, block(a)); list[0] == i {
			blocks = append(blocks, list)
		}
	}
	return blocks
}

func left(a api.Op, h []api.Op) []api.Op {
	var list []api.Op
	for _, b := range h {
		list = append(list, behindSlow(a, b))
	}
	return list
}

func right(a api.Op, h []api.Op) []api.Op {
	var list []api.Op
	for _, b := range h {
		list = append(list, behindSlow(b, a))
	}
	return list
}

func isWithin(g, h []api.Op) bool {
	return !slices.ContainsFunc(h, func(o api.Op) bool { return !slices.Contains(g, o) })
}

func isNormal(g, h []api.Op) bool {
	return !slices.ContainsFunc(g, func(a api.Op) bool {
		return !slices.Equal(sortedPlaces(g, left(a, h)), sortedPlaces(g, right(a, h)))
	})
}

func same(a, b [][]int) bool {
	return slices.EqualFunc(a, b, slices.Equal)
}

// draw is a row of numbers that looks like chance and is the same in each run.
type draw uint64

func (d *draw) below(n int) int {
	*d = *d*6364136223846793005 + 1442695040888963407
	return int(uint64(*d>>33) % uint64(n))
}

// some answers one or two maps of a group.
func (d *draw) some(g []api.Op) []api.Op {
	list := []api.Op{g[d.below(len(g))]}
	if d.below(2) == 0 {
		list = append(list, g[d.below(len(g))])
	}
	return list
}

// parts answers parts of a group: the least, the group itself, and some between.
func (d *draw) parts(t *testing.T, g []api.Op) [][]api.Op {
	list := [][]api.Op{{op.One()}, g}
	for range 6 {
		list = append(list, closure(t, d.some(g)))
	}
	return list
}

func TestChapterExamples(t *testing.T) { // P6.1 to P6.6
	g := closed(t, "-x,-y,z", "-x,y,-z")
	h := closed(t, "-x,-y,z")
	if l, e := Cosets(g, h); e != api.OK || !same(l, [][]int{{0, 3}, {1, 2}}) {
		t.Errorf("Cosets in P222 = %v, %d", l, e)
	}
	if is, e := Normal(g, h); e != api.OK || !is {
		t.Errorf("Normal in P222 = %t, %d", is, e)
	}
	if l, e := Classes(g); e != api.OK || !same(l, [][]int{{0}, {1}, {2}, {3}}) {
		t.Errorf("Classes of P222 = %v, %d", l, e)
	}
	if l, e := Heart(g); e != api.OK || !slices.Equal(l, g) {
		t.Errorf("Heart of P222 = %v, %d", l, e)
	}
	g, h = closed(t, "-y,x,z", "x,-y,z"), closed(t, "x,-y,z")
	if l, e := Cosets(g, h); e != api.OK || !same(l, [][]int{{0, 1}, {2, 4}, {3, 5}, {6, 7}}) {
		t.Errorf("Cosets in 4mm = %v, %d", l, e)
	}
	if is, e := Normal(g, h); e != api.OK || is {
		t.Errorf("Normal in 4mm = %t, %d", is, e)
	}
	if l, e := Classes(g); e != api.OK || !same(l, [][]int{{0}, {1, 6}, {2, 5}, {3, 4}, {7}}) {
		t.Errorf("Classes of 4mm = %v, %d", l, e)
	}
	if l, e := Heart(g); e != api.OK || !slices.Equal(l, maps(t, "-x,-y,z", "x,y,z")) {
		t.Errorf("Heart of 4mm = %v, %d", l, e)
	}
	half, third := closed(t, "x+1/2,y,z"), closed(t, "x+1/3,y,z")
	if l, e := Meet(half, third); e != api.OK || !slices.Equal(l, maps(t, "x,y,z")) {
		t.Errorf("Meet of halves and thirds = %v, %d", l, e)
	}
	if l, e := Join(half, third); e != api.OK || !slices.Equal(l, maps(t, "x,y,z", "x+1/6,y,z", "x+1/3,y,z", "x+1/2,y,z", "x+2/3,y,z", "x+5/6,y,z")) {
		t.Errorf("Join of halves and thirds = %v, %d", l, e)
	}
	if l, e := Join(closed(t, "-x,y+1/2,-z"), closed(t, "-x,-y,-z")); e != api.OK || !slices.Equal(l, maps(t, "-x,-y,-z", "-x,y+1/2,-z", "x,-y+1/2,z", "x,y,z")) {
		t.Errorf("Join to four maps = %v, %d", l, e)
	}
	if is, e := Within(maps(t, "x,y,z"), half); e != api.OK || is {
		t.Errorf("Within the identity alone: %t, %d", is, e)
	}
}

func TestWithinCosetsNormal(t *testing.T) { // P6.1, P6.2, P6.3
	d := draw(1)
	counts := map[string]int{}
	for _, texts := range append(samples, full) {
		g := closed(t, texts...)
		for _, h := range d.parts(t, g) {
			if is, e := Within(g, h); e != api.OK || !is {
				t.Fatalf("Within(%v, %v) = %t, %d", texts, h, is, e)
			}
			if is, e := Within(h, g); e != api.OK || is != (len(g) == len(h)) {
				t.Fatalf("Within(%v, the group of %v) = %t, %d", h, texts, is, e)
			}
			l, e := Cosets(g, h)
			if want := slowCut(g, func(a api.Op) []api.Op { return left(a, h) }); e != api.OK || !same(l, want) || len(l)*len(h) != len(g) {
				t.Fatalf("Cosets(%v, %v) = %v, %d, want %v", texts, h, l, e, want)
			}
			is, e := Normal(g, h)
			if want := isNormal(g, h); e != api.OK || is != want {
				t.Fatalf("Normal(%v, %v) = %t, %d", texts, h, is, e)
			}
			counts["all"]++
			if is {
				counts["normal"]++
			}
		}
	}
	if counts["normal"] < 20 || counts["all"]-counts["normal"] < 20 {
		t.Errorf("the parts are lopsided: %v", counts)
	}
}

func TestNothingIsAskedOfWhatIsNotWithin(t *testing.T) { // P6.1, the chapter's errors
	for _, c := range []struct{ g, h []string }{
		{nil, []string{"-x,-y,-z"}},
		{[]string{"-x,-y,-z"}, []string{"x+1/2,y,z"}},
		{[]string{"x,-y,z"}, []string{"x,-y+1/2,z"}}, // it alone differs, ahead of the identity
		{[]string{"x+1/2,y,z"}, []string{"x+1/4,y,z"}},
		{[]string{"x+1/2,y,z"}, []string{"x+1/2,y+1/2,z"}},
		{[]string{"-y,x,z", "x,-y,z"}, []string{"x,y,-z"}},
		{full, []string{"x+1/2,y,z"}},
	} {
		g, h := closed(t, c.g...), closed(t, c.h...)
		if is, e := Within(g, h); is || e != api.OK {
			t.Errorf("Within(%v, %v) = %t, %d", c.g, c.h, is, e)
		}
		if l, e := Cosets(g, h); len(l) != 0 || e != api.ErrUnlike {
			t.Errorf("Cosets(%v, %v) = %v, %d", c.g, c.h, l, e)
		}
		if is, e := Normal(g, h); is || e != api.ErrUnlike {
			t.Errorf("Normal(%v, %v) = %t, %d", c.g, c.h, is, e)
		}
	}
}

// bothWays hands two groups in, in either order.
func bothWays(g, h []api.Op, check func(g, h []api.Op)) {
	check(g, h)
	check(h, g)
}

func TestMeetAndJoinOfParts(t *testing.T) { // P6.4, P6.7
	d := draw(2)
	for _, texts := range append(samples, full) {
		whole := closed(t, texts...)
		for range 8 {
			a, b := d.some(whole), d.some(whole)
			want := closure(t, slices.Concat(a, b))
			bothWays(closure(t, a), closure(t, b), func(g, h []api.Op) {
				m, e := Meet(g, h)
				if e != api.OK || !slices.Equal(m, slices.DeleteFunc(slices.Clone(g), func(o api.Op) bool { return !slices.Contains(h, o) })) || group.Check(m) != api.OK {
					t.Fatalf("Meet of parts of %v: %v and %v: %v, %d", texts, g, h, m, e)
				}
				j, e := Join(g, h)
				if e != api.OK || !slices.Equal(j, want) {
					t.Fatalf("Join of parts of %v: %v and %v: %v, %d", texts, g, h, j, e)
				}
				if !isWithin(g, m) || !isWithin(h, m) || !isWithin(j, g) || !isWithin(j, h) {
					t.Fatalf("parts of %v: Meet %v, Join %v", texts, m, j)
				}
			})
		}
		if m, e := Meet(whole, whole); e != api.OK || !slices.Equal(m, whole) {
			t.Errorf("Meet of the group of %v with itself: %d maps, %d", texts, len(m), e)
		}
		if j, e := Join(whole, whole); e != api.OK || !slices.Equal(j, whole) {
			t.Errorf("Join of the group of %v with itself: %d maps, %d", texts, len(j), e)
		}
	}
}

func TestJoinAtItsBounds(t *testing.T) { // P6.4
	cubic := []string{"x,y+1/2,z+1/2", "x+1/2,y,z+1/2", "-x,-y,z", "-x,y,-z", "z,x,y"}
	for _, c := range []struct {
		name string
		g, h []string
		n    int // the maps of the answer; none: ErrClose
	}{
		{"halves of 192", append(cubic, "y,x,-z"), append(cubic, "-x,-y,-z"), 192},
		{"192 and a half of it", append(cubic, "-x,-y,-z", "y,x,z"), append(cubic, "y,x,z"), 192},
		{"192 and the identity", full, nil, 192},
		{"192 translations", []string{"x+1/24,y,z"}, []string{"x,y+1/8,z"}, 192},
		{"216 translations", []string{"x+1/24,y,z"}, []string{"x,y+1/3,z", "x,y,z+1/3"}, 0},
		{"576 translations", []string{"x+1/24,y,z"}, []string{"x,y+1/24,z"}, 0},
		{"384, of 192 and 2", full, []string{"x,y,z+1/2"}, 0},
		{"two unlike groups of 192", []string{"x+1/24,y,z", "x,y+1/8,z"}, full, 0},
		{"endless", []string{"x,-y,z"}, []string{"x+y,-y,z"}, 0},
		{"the entry 1000", []string{"-x+2y+500z,y,z"}, []string{"x-2y+500z,-y+500z,z+1/2"}, 4},
		{"the entry 1002", []string{"-x+2y+502z,y,z"}, []string{"x-2y+500z,-y+500z,z"}, 0},
	} {
		bothWays(closed(t, c.g...), closed(t, c.h...), func(g, h []api.Op) {
			j, e := Join(g, h)
			if c.n == 0 {
				if e != api.ErrClose || len(j) != 0 {
					t.Errorf("Join, %s: %d maps, %d", c.name, len(j), e)
				}
				return
			}
			if e != api.OK || len(j) != c.n || group.Check(j) != api.OK || !isWithin(j, g) || !isWithin(j, h) {
				t.Errorf("Join, %s: %d maps, %d", c.name, len(j), e)
			}
		})
	}
}

func TestClassesAndHeart(t *testing.T) { // P6.5, P6.6, P6.7
	for _, texts := range append(samples, full) {
		g := closed(t, texts...)
		back := map[api.Op]api.Op{}
		for _, a := range g {
			back[a] = undoes(t, g, a)
		}
		l, e := Classes(g)
		want := slowCut(g, func(b api.Op) []api.Op {
			var list []api.Op
			for _, a := range g {
				list = append(list, behindSlow(behindSlow(a, b), back[a]))
			}
			return list
		})
		if e != api.OK || !same(l, want) {
			t.Fatalf("Classes(%v) = %v, %d, want %v", texts, l, e, want)
		}
		heart, e := Heart(g)
		var wantHeart, alone []api.Op
		for _, a := range g {
			if !slices.ContainsFunc(g, func(b api.Op) bool { return behindSlow(a, b) != behindSlow(b, a) }) {
				wantHeart = append(wantHeart, a)
			}
		}
		for _, class := range l {
			if len(class) == 1 {
				alone = append(alone, g[class[0]])
			}
		}
		if e != api.OK || !slices.Equal(heart, wantHeart) || !slices.Equal(heart, alone) || group.Check(heart) != api.OK {
			t.Fatalf("Heart(%v) = %v, %d, want %v", texts, heart, e, wantHeart)
		}
		for _, h := range [][]api.Op{g, {op.One()}, heart} {
			if is, e := Normal(g, h); e != api.OK || !is {
				t.Errorf("the group of %v: %v is not normal: %d", texts, h, e)
			}
		}
	}
}

type refusal struct {
	name string
	list []api.Op
	e    api.Errno
}

// refused answers lists that are no groups in order, with what is answered of each alone.
func refused(t *testing.T) []refusal {
	over := api.Op{R: api.Mat{{1, 1001, 0}, {0, 1, 0}, {0, 0, 1}}}
	under := api.Op{R: api.Mat{{1, math.MinInt, 0}, {0, 1, 0}, {0, 0, 1}}}
	outside := api.Op{R: op.One().R, T: api.Vec{0, 0, 24}}
	return []refusal{
		{"193 identities", slices.Repeat([]api.Op{op.One()}, 193), api.ErrLong},
		{"193 noughts", make([]api.Op, 193), api.ErrLong},
		{"noughts", []api.Op{{}}, api.ErrForm},
		{"a part of 24", []api.Op{op.One(), outside}, api.ErrForm},
		{"entry 1001, then noughts", []api.Op{over, {}}, api.ErrForm},
		{"entry 1001", []api.Op{over}, api.ErrOver},
		{"the least entry", []api.Op{under, op.One()}, api.ErrOver},
		{"no maps", nil, api.ErrClose},
		{"no identity", maps(t, "-x,-y,-z"), api.ErrClose},
		{"out of order", maps(t, "x,y,z", "-x,-y,-z"), api.ErrClose},
		{"twice", maps(t, "x,y,z", "x,y,z"), api.ErrClose},
		{"a product lacks", closed(t, "-y,x,z")[1:], api.ErrClose},
		{"a shear", maps(t, "x,y,z", "x+y,y,z"), api.ErrClose},
	}
}

// ofTwo answers what the calls with two groups answer: whether all beside the error is zero, and the error.
func ofTwo(g, h []api.Op) map[string]func() (bool, api.Errno) {
	return map[string]func() (bool, api.Errno){
		"Within": func() (bool, api.Errno) { is, e := Within(g, h); return !is, e },
		"Cosets": func() (bool, api.Errno) { l, e := Cosets(g, h); return len(l) == 0, e },
		"Normal": func() (bool, api.Errno) { is, e := Normal(g, h); return !is, e },
		"Meet":   func() (bool, api.Errno) { l, e := Meet(g, h); return len(l) == 0, e },
		"Join":   func() (bool, api.Errno) { l, e := Join(g, h); return len(l) == 0, e },
	}
}

func ofOne(g []api.Op) map[string]func() (bool, api.Errno) {
	return map[string]func() (bool, api.Errno){
		"Classes": func() (bool, api.Errno) { l, e := Classes(g); return len(l) == 0, e },
		"Heart":   func() (bool, api.Errno) { l, e := Heart(g); return len(l) == 0, e },
	}
}

func TestWrongListsAreToldEverywhere(t *testing.T) { // P1, the chapter's errors
	good := closed(t, "-y,x,z", "x,-y,z")
	for _, c := range refused(t) {
		for name, call := range ofOne(c.list) {
			if zero, e := call(); !zero || e != c.e {
				t.Errorf("%s of %s: %d (zero: %t), want %d", name, c.name, e, zero, c.e)
			}
		}
		for _, d := range append(refused(t), refusal{"a group", good, api.ErrName}) {
			bothWays(c.list, d.list, func(g, h []api.Op) {
				for name, call := range ofTwo(g, h) {
					if zero, e := call(); !zero || e != min(c.e, d.e) {
						t.Errorf("%s of %s and %s: %d (zero: %t), want %d", name, c.name, d.name, e, zero, min(c.e, d.e))
					}
				}
			})
		}
	}
}

// roomy answers a copy of a list with room behind it, and a call that tells whether something there was changed.
func roomy(list []api.Op) ([]api.Op, func() bool) {
	room := append(slices.Clone(list), make([]api.Op, 300)...)
	for i := range room[len(list):] {
		room[len(list)+i].T[0] = -7 - i
	}
	keep := slices.Clone(room)
	return room[:len(list)], func() bool { return !slices.Equal(room, keep) }
}

func TestNothingHandedInIsChangedOrReadBeyond(t *testing.T) { // memory
	d := draw(3)
	for _, texts := range append(samples, full) {
		whole := closed(t, texts...)
		for _, part := range d.parts(t, whole)[:4] {
			g, changedG := roomy(whole)
			h, changedH := roomy(part)
			for name, call := range ofTwo(g, h) {
				if _, e := call(); e != api.OK || changedG() || changedH() {
					t.Errorf("%s of the group of %v: %d; changed: %t, %t", name, texts, e, changedG(), changedH())
				}
			}
			for name, call := range ofOne(g) {
				if _, e := call(); e != api.OK || changedG() {
					t.Errorf("%s of the group of %v: %d; changed: %t", name, texts, e, changedG())
				}
			}
		}
	}
}

// spoil writes over a list and over the spare room behind it.
func spoil[E any](list []E) {
	clear(list[:cap(list)])
}

// spoilBlocks writes over block by block and tells whether one that comes later, or what is answered anew, was touched.
func spoilBlocks(blocks [][]int, again func() [][]int) bool {
	keep := again()
	touched := false
	for i := range blocks {
		spoil(blocks[i])
		for j := i + 1; j < len(blocks); j++ {
			touched = touched || !slices.Equal(blocks[j], keep[j])
		}
	}
	spoil(blocks)
	return touched || !same(again(), keep)
}

func TestAnswersShareNoMemory(t *testing.T) { // memory
	g, h := closed(t, "-y,x,z", "x,-y,z"), closed(t, "x,-y,z")
	keepG, keepH := slices.Clone(g), slices.Clone(h)
	cosets := func() [][]int { l, _ := Cosets(g, h); return l }
	classes := func() [][]int { l, _ := Classes(g); return l }
	if spoilBlocks(cosets(), cosets) {
		t.Error("cosets share memory")
	}
	if spoilBlocks(classes(), classes) {
		t.Error("classes share memory")
	}
	for name, call := range map[string]func() []api.Op{
		"Meet, a part": func() []api.Op { l, _ := Meet(g, h); return l },
		"Meet, itself": func() []api.Op { l, _ := Meet(g, g); return l },
		"Join, a part": func() []api.Op { l, _ := Join(g, h); return l },
		"Join, itself": func() []api.Op { l, _ := Join(h, h); return l },
		"Heart":        func() []api.Op { l, _ := Heart(g); return l },
		"Heart, whole": func() []api.Op { l, _ := Heart(h); return l },
	} {
		first := call()
		want := slices.Clone(first)
		spoil(first)
		if !slices.Equal(call(), want) || !slices.Equal(g, keepG) || !slices.Equal(h, keepH) {
			t.Errorf("%s: the answer is bound to an argument or to an earlier answer", name)
		}
	}
}

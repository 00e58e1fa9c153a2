package group

import (
	"math"
	"slices"
	"testing"

	"facet/api"
	"facet/op"
	"facet/optext"
)

// maps answers the maps of texts.
func maps(t *testing.T, texts ...string) []api.Op {
	t.Helper()
	var list []api.Op
	for _, s := range texts {
		o, _, e := optext.Read(s)
		if e != api.OK {
			t.Fatalf("no map: %s: %d", s, e)
		}
		list = append(list, o)
	}
	return list
}

// closed answers the group of texts.
func closed(t *testing.T, texts ...string) []api.Op {
	t.Helper()
	g, e := Close(maps(t, texts...))
	if e != api.OK {
		t.Fatalf("Close(%v): %d", texts, e)
	}
	return g
}

// Groups of all sorts, by what generates them, with the counts of their matrices and of their translations.
var samples = []struct {
	texts           []string
	turns, centring int
}{
	{nil, 1, 1},
	{[]string{"x,y,z"}, 1, 1},
	{[]string{"-x,-y,-z"}, 2, 1},
	{[]string{"-x,y+1/2,-z", "-x,-y,-z"}, 4, 1},
	{[]string{"-y,x,z+1/4"}, 4, 1},
	{[]string{"-y,x,z+1/24"}, 4, 6},
	{[]string{"-x,-y,z", "-x,y,-z"}, 4, 1},
	{[]string{"x+1/2,y+1/2,z", "-x,y,-z+1/2", "-x,-y,-z"}, 4, 2},
	{[]string{"x+2/3,y+1/3,z+1/3", "-y,x-y,z"}, 3, 3},
	{[]string{"x-y,x,z+1/2", "y,x,-z", "-x,-y,-z"}, 24, 1},
	{[]string{"-y,x,z", "x,-y,z"}, 8, 1},
	{[]string{"-x,-y,z", "-x,y,-z", "z,x,y", "y,x,-z", "-x,-y,-z"}, 48, 1},
	{[]string{"x+1/2,y+1/2,z+1/2", "-x+1/2,-y,z+1/2", "-x,y+1/2,-z+1/2", "z,x,y", "y+3/4,x+1/4,-z+1/4", "-x,-y,-z"}, 48, 2},
	{[]string{"x,y+1/2,z+1/2", "x+1/2,y,z+1/2", "-x,-y,z", "-x,y,-z", "z,x,y", "y,x,-z", "-x,-y,-z"}, 48, 4},
	{[]string{"x,y+1/2,z+1/2", "x+1/2,y,z+1/2", "-x+3/4,-y+1/4,z+1/2", "-x+1/4,y+1/2,-z+3/4", "z,x,y", "y+3/4,x+1/4,-z+1/2", "-x,-y,-z"}, 48, 4},
	{[]string{"x+1/24,y,z"}, 1, 24},
	{[]string{"x+1/8,y,z", "x,y+1/24,z"}, 1, 192},
	{[]string{"x+1/2,y,z", "x+1/3,y,z"}, 1, 6},
	{[]string{"x+1000y,-y,z"}, 2, 1},
	{[]string{"-y+500z,x-y-500z,z"}, 3, 1},
	{[]string{"-x+2y+500z,y,z", "x-2y+500z,-y+500z,z+1/2"}, 4, 1}, // one behind the other has the entry 1000
}

// Lists that generate no group of at most MaxOps maps in form.
var open = [][]string{
	{"x+y,y,z"},
	{"x+y+1/2,y,z", "-x,-y,-z"},
	{"-x,y,z", "x+y,-y,z"},
	{"x,y,z", "x-1000y,y,z"},
	{"2x+y,x+y,z"},
	{"x+1/24,y,z", "x,y+1/24,z"},
	{"x+1/24,y,z", "x,y+1/8,z", "-x,-y,-z"},
	{"x+1/6,y,z", "x,y+1/6,z", "x,y,z+1/6"},
	{"z,x,y", "-y,x,z", "-x,-y,-z", "x+1/6,y,z"},
	{"-y+500z,x-y-501z,z"}, // done twice it has the entry 1001
	{"-y-500z,x-y+501z,z+1/3"},
	{"-x+2y+502z,y,z", "x-2y+500z,-y+500z,z"}, // one behind the other has the entry 1002
	{"x+1000y,-y,z", "x-1000y,-y,z"},
	{"-y+500z,x-y-500z,z", "-x,-y,z"},
}

// The ways in which a list is refused whatever it generates, with a list that is right beside it.
func refused(t *testing.T) []refusal {
	over := api.Op{R: api.Mat{{1, 1001, 0}, {0, 1, 0}, {0, 0, 1}}}
	under := api.Op{R: api.Mat{{1, math.MinInt, 0}, {0, 1, 0}, {0, 0, 1}}}
	wide := api.Op{R: over.R, T: api.Vec{0, 0, 24}}
	outside := api.Op{R: op.One().R, T: api.Vec{-1, 0, 0}}
	double := api.Op{R: api.Mat{{2, 0, 0}, {0, 1, 0}, {0, 0, 1}}}
	great := api.Op{R: api.Mat{{1001, 0, 0}, {0, 1, 0}, {0, 0, 1}}}
	shear := maps(t, "x+y,y,z")[0]
	one := op.One()
	return []refusal{
		{"noughts", []api.Op{{}}, api.ErrForm},
		{"a part below 0", []api.Op{one, outside}, api.ErrForm},
		{"determinant 2", []api.Op{one, double}, api.ErrForm},
		{"entry 1001", []api.Op{over}, api.ErrOver},
		{"the least entry", []api.Op{under, one}, api.ErrOver},
		{"entry 1001, determinant 1001", []api.Op{great}, api.ErrOver},
		{"entry 1001, a part of 24", []api.Op{wide}, api.ErrForm},
		{"entry 1001, then noughts", []api.Op{over, one, {}}, api.ErrForm},
		{"noughts, then entry 1001", []api.Op{{}, over}, api.ErrForm},
		{"a shear, then entry 1001", []api.Op{shear, over}, api.ErrOver},
		{"a shear, then noughts", []api.Op{shear, {}}, api.ErrForm},
		{"193 identities", slices.Repeat([]api.Op{one}, 193), api.ErrLong},
		{"193 noughts", make([]api.Op, 193), api.ErrLong},
		{"500 great entries", slices.Repeat([]api.Op{over}, 500), api.ErrLong},
		{"192 noughts", make([]api.Op, 192), api.ErrForm},
	}
}

type refusal struct {
	name string
	list []api.Op
	e    api.Errno
}

// behind answers a behind b as the document says it, in whole numbers of its own.
func behind(a, b api.Op) api.Op {
	var o api.Op
	for i := range 3 {
		part := a.T[i]
		for k := range 3 {
			part += a.R[i][k] * b.T[k]
			for j := range 3 {
				o.R[i][j] += a.R[i][k] * b.R[k][j]
			}
		}
		o.T[i] = (part%24 + 24) % 24
	}
	return o
}

func within(m api.Mat) bool {
	for _, row := range m {
		for _, n := range row {
			if n < -1000 || n > 1000 {
				return false
			}
		}
	}
	return true
}

// slowClose puts all maps of the list behind all that it finds, without any haste.
func slowClose(list []api.Op) ([]api.Op, api.Errno) {
	found := []api.Op{op.One()}
	for i := 0; i < len(found); i++ {
		for _, o := range list {
			p := behind(found[i], o)
			if !within(p.R) {
				return nil, api.ErrClose
			}
			if !slices.Contains(found, p) {
				found = append(found, p)
			}
			if len(found) > 192 {
				return nil, api.ErrClose
			}
		}
	}
	slices.SortFunc(found, op.Compare)
	return found, api.OK
}

// isGroup asks the document's words of a list: unlike maps in order, the identity, any behind any.
func isGroup(g []api.Op) bool {
	for i := range g {
		if i > 0 && op.Compare(g[i-1], g[i]) >= 0 {
			return false
		}
		for _, b := range g {
			if !slices.Contains(g, behind(g[i], b)) {
				return false
			}
		}
	}
	return slices.Contains(g, op.One())
}

// draw is a row of numbers that looks like chance and is the same in each run.
type draw uint64

func (d *draw) below(n int) int {
	*d = *d*6364136223846793005 + 1442695040888963407
	return int(uint64(*d>>33) % uint64(n))
}

func (d *draw) mix(list []api.Op) {
	for i := range list {
		j := i + d.below(len(list)-i)
		list[i], list[j] = list[j], list[i]
	}
}

// list answers a few maps that often generate a group: of one lattice, told in one other basis, with coarse translations.
func (d *draw) list(t *testing.T) []api.Op {
	square := maps(t, "-y,x,z", "z,x,y", "x,-y,z", "-x,-y,-z", "-x,y,-z", "y,x,-z", "x,y,z")
	hexagon := maps(t, "x-y,x,z", "-y,x-y,z", "y,x,-z", "-x,-y,-z", "x,y,-z", "x,y,z")
	pool := [][]api.Op{square, hexagon}[d.below(2)]
	there, back := op.One(), op.One()
	for range d.below(4) {
		i := d.below(3)
		j, n := (i+1+d.below(2))%3, d.below(13)-6
		up, down := op.One(), op.One()
		up.R[i][j], down.R[i][j] = n, -n
		there, back = behind(up, there), behind(back, down)
	}
	step := []int{24, 12, 8, 6, 4, 1}[d.below(6)]
	var list []api.Op
	for range d.below(5) {
		o := pool[d.below(len(pool))]
		for i := range o.T {
			o.T[i] = d.below(24) / step * step
		}
		if o = behind(behind(there, o), back); within(o.R) {
			list = append(list, o)
		}
	}
	return list
}

func TestCloseExamples(t *testing.T) { // P5.1
	for _, c := range []struct{ list, want []string }{
		{nil, []string{"x,y,z"}},
		{[]string{"-x,-y,-z"}, []string{"-x,-y,-z", "x,y,z"}},
		{[]string{"-y,x,z+1/4"}, []string{"-x,-y,z+1/2", "-y,x,z+1/4", "y,-x,z+3/4", "x,y,z"}},
		{[]string{"-x,y+1/2,-z", "-x,-y,-z"}, []string{"-x,-y,-z", "-x,y+1/2,-z", "x,-y+1/2,z", "x,y,z"}},
		{[]string{"x,y,z+1/2", "x,y,z", "x,y,z+1/2"}, []string{"x,y,z", "x,y,z+1/2"}},
		{[]string{"-y+500z,x-y-500z,z"}, []string{"-x+y+1000z,-x+500z,z", "-y+500z,x-y-500z,z", "x,y,z"}},
	} {
		if g, e := Close(maps(t, c.list...)); e != api.OK || !slices.Equal(g, maps(t, c.want...)) {
			t.Errorf("Close(%v) = %v, %d, want %v", c.list, g, e, c.want)
		}
	}
}

func TestCloseMakesTheLeastGroup(t *testing.T) { // P3, P5.1, P5.6
	d := draw(1)
	for _, c := range samples {
		list := maps(t, c.texts...)
		g, e := Close(list)
		want, _ := slowClose(list)
		if e != api.OK || !slices.Equal(g, want) || len(g) != c.turns*c.centring || !isGroup(g) {
			t.Fatalf("Close(%v): %d maps, %d, want %d", c.texts, len(g), e, c.turns*c.centring)
		}
		if again, e := Close(g); e != api.OK || !slices.Equal(again, g) {
			t.Errorf("Close of the group of %v: %d maps, %d", c.texts, len(again), e)
		}
		mixed := slices.Clone(g)
		d.mix(mixed)
		if again, e := Close(mixed); e != api.OK || !slices.Equal(again, g) {
			t.Errorf("Close of the group of %v out of order: %d maps, %d", c.texts, len(again), e)
		}
		for range 5 {
			part, e := Close(mixed[:d.below(min(4, len(mixed)+1))])
			if e != api.OK || len(g)%len(part) != 0 || !isGroup(part) || slices.ContainsFunc(part, func(o api.Op) bool { return !slices.Contains(g, o) }) {
				t.Errorf("Close of some maps of the group of %v: %v, %d", c.texts, part, e)
			}
			d.mix(mixed)
		}
	}
}

func TestCloseSaysWhereThereIsNoGroup(t *testing.T) { // P3, P5.1
	for _, texts := range open {
		list := maps(t, texts...)
		for range list {
			if g, e := Close(list); e != api.ErrClose || len(g) != 0 {
				t.Errorf("Close(%v): %d maps, %d", texts, len(g), e)
			}
			list = append(list[1:], list[0])
		}
	}
	for _, texts := range samples {
		full := slices.Repeat(maps(t, append([]string{"x,y,z"}, texts.texts...)...), 192)[:192]
		if g, e := Close(full); e != api.OK || len(g) != texts.turns*texts.centring {
			t.Errorf("Close of 192 maps, all of %v: %d maps, %d", texts.texts, len(g), e)
		}
	}
}

func TestCloseOfManyLists(t *testing.T) { // P3, P5.1
	d := draw(2)
	ends := map[api.Errno]int{}
	for range 1500 {
		list := d.list(t)
		want, f := slowClose(list)
		g, e := Close(list)
		if e != f || !slices.Equal(g, want) {
			t.Fatalf("Close(%v): %d maps, %d, want %d, %d", list, len(g), e, len(want), f)
		}
		ends[e]++
	}
	if ends[api.OK] < 300 || ends[api.ErrClose] < 300 {
		t.Errorf("the lists are lopsided: %v", ends)
	}
}

func TestCheckKnowsGroups(t *testing.T) { // P5.2
	for _, c := range samples {
		g := closed(t, c.texts...)
		if e := Check(g); e != api.OK {
			t.Errorf("Check of the group of %v: %d", c.texts, e)
		}
		for i := range g {
			without := slices.Delete(slices.Clone(g), i, i+1)
			if e := Check(without); (e == api.OK) != isGroup(without) || e != api.OK && e != api.ErrClose {
				t.Errorf("Check of the group of %v without the map %d: %d", c.texts, i, e)
			}
			if i == 0 {
				continue
			}
			swapped := slices.Clone(g)
			swapped[i-1], swapped[i] = swapped[i], swapped[i-1]
			if e := Check(swapped); e != api.ErrClose {
				t.Errorf("Check of the group of %v with the maps %d and %d swapped: %d", c.texts, i-1, i, e)
			}
		}
		want := api.ErrClose
		if len(g) == 192 {
			want = api.ErrLong
		}
		if e := Check(slices.Insert(slices.Clone(g), 0, g[0])); e != want {
			t.Errorf("Check of the group of %v with its first map twice: %d, want %d", c.texts, e, want)
		}
	}
	for _, texts := range append(open, nil, []string{"x,y,z", "-x,-y,-z"}, []string{"x,y,z", "x,y,z+1/2", "x,y,z+2/3"}, []string{"x,y,z", "x,y,z"}, []string{"-x,-y,-z"}, []string{"x,y,z", "x+y,y,z"}) {
		if e := Check(maps(t, texts...)); e != api.ErrClose {
			t.Errorf("Check(%v) = %d", texts, e)
		}
	}
}

func TestFind(t *testing.T) { // P5.3
	for _, c := range samples {
		g := closed(t, c.texts...)
		for i, o := range g {
			if at, e := Find(g, o); at != i || e != api.OK {
				t.Errorf("Find of the map %d of the group of %v: %d, %d", i, c.texts, at, e)
			}
		}
		for _, o := range maps(t, "x+7y,y,z", "-y+1/8,x-y+1/24,z+5/24", "x+1/24,y+1/24,z+1/24") {
			if at, e := Find(g, o); at != 0 || e != api.ErrNone {
				t.Errorf("Find of a map that the group of %v lacks: %d, %d", c.texts, at, e)
			}
		}
	}
	g := closed(t, "-y,x,z+1/4")
	if at, e := Find(g, maps(t, "y,-x,z+3/4")[0]); at != 2 || e != api.OK {
		t.Errorf("Find = %d, %d", at, e)
	}
	if at, e := Find(g, maps(t, "y,-x,z")[0]); at != 0 || e != api.ErrNone {
		t.Errorf("Find of another = %d, %d", at, e)
	}
}

func TestFindAnswersTheLeastError(t *testing.T) { // P5.3
	list := []refusal{{"a group", closed(t, "-y,x,z+1/4"), api.OK}, {"no group", maps(t, "x,y,z", "-x,-y,-z"), api.ErrClose}, {"no maps", nil, api.ErrClose}}
	for _, c := range append(list, refused(t)...) {
		for _, d := range refused(t) {
			if len(d.list) > 1 {
				continue
			}
			want := d.e
			if c.e != api.OK {
				want = min(c.e, d.e)
			}
			if at, e := Find(c.list, d.list[0]); at != 0 || e != want {
				t.Errorf("Find in %s of %s = %d, %d, want %d", c.name, d.name, at, e, want)
			}
		}
		want := c.e
		if want == api.OK {
			want = api.ErrNone
		}
		if at, e := Find(c.list, maps(t, "x+5y,y,z")[0]); at != 0 || e != want {
			t.Errorf("Find in %s of a map that it lacks = %d, %d, want %d", c.name, at, e, want)
		}
	}
}

func TestTableAndInverses(t *testing.T) { // P5.4
	for _, c := range samples {
		g := closed(t, c.texts...)
		table, e := Table(g)
		back, f := Inverses(g)
		if e != api.OK || f != api.OK || len(table) != len(g) || len(back) != len(g) {
			t.Fatalf("Table and Inverses of the group of %v: %d rows, %d; %d places, %d", c.texts, len(table), e, len(back), f)
		}
		one := slices.Index(g, op.One())
		for i := range g {
			if len(table[i]) != len(g) || table[i][back[i]] != one || table[back[i]][i] != one {
				t.Fatalf("the group of %v: the map %d is not undone by the map %d", c.texts, i, back[i])
			}
			for j := range g {
				if g[table[i][j]] != behind(g[i], g[j]) {
					t.Fatalf("the group of %v: the map %d behind the map %d is not the map %d", c.texts, i, j, table[i][j])
				}
			}
		}
	}
	table, e := Table(maps(t, "-x,-y,-z", "x,y,z"))
	if e != api.OK || !slices.EqualFunc(table, [][]int{{1, 0}, {0, 1}}, slices.Equal) {
		t.Errorf("Table = %v, %d", table, e)
	}
	back, e := Inverses(closed(t, "-y,x,z+1/4"))
	if e != api.OK || !slices.Equal(back, []int{0, 2, 1, 3}) {
		t.Errorf("Inverses = %v, %d", back, e)
	}
}

func TestRotationsAndCentring(t *testing.T) { // P5.5, P5.6
	for _, c := range samples {
		g := closed(t, c.texts...)
		turns, e := Rotations(g)
		steps, f := Centring(g)
		if e != api.OK || f != api.OK || len(turns) != c.turns || len(steps) != c.centring || len(turns)*len(steps) != len(g) {
			t.Fatalf("the group of %v: %d matrices, %d; %d translations, %d", c.texts, len(turns), e, len(steps), f)
		}
		for i, r := range turns {
			if i > 0 && op.Compare(api.Op{R: turns[i-1]}, api.Op{R: r}) >= 0 {
				t.Errorf("the group of %v: the matrices %v and %v are not in order", c.texts, turns[i-1], r)
			}
			if !slices.ContainsFunc(g, func(o api.Op) bool { return o.R == r }) {
				t.Errorf("the group of %v has no matrix %v", c.texts, r)
			}
		}
		for i, v := range steps {
			if i > 0 && slices.Compare(steps[i-1][:], v[:]) >= 0 || i == 0 && v != (api.Vec{}) {
				t.Errorf("the group of %v: the translations %v are not in order", c.texts, steps)
			}
			if !slices.Contains(g, api.Op{R: op.One().R, T: v}) {
				t.Errorf("the group of %v has no translation %v", c.texts, v)
			}
		}
	}
	g := maps(t, "x,y,z", "x+1/2,y+1/2,z")
	turns, e := Rotations(g)
	steps, f := Centring(g)
	if e != api.OK || f != api.OK || !slices.Equal(turns, []api.Mat{op.One().R}) || !slices.Equal(steps, []api.Vec{{}, {12, 12, 0}}) {
		t.Errorf("Rotations = %v, %d; Centring = %v, %d", turns, e, steps, f)
	}
}

func TestWrongListsAreToldEverywhere(t *testing.T) { // P1, P5.2, the chapter's errors
	lists := refused(t)
	for _, texts := range append(open, nil, []string{"x,y,z", "-x,-y,-z"}, []string{"x,y,z", "x,y,z"}, []string{"-x,-y,-z"}) {
		lists = append(lists, refusal{"no group", maps(t, texts...), api.ErrClose})
	}
	for _, c := range lists {
		calls := map[string]func() (bool, api.Errno){
			"Check":     func() (bool, api.Errno) { return true, Check(c.list) },
			"Find":      func() (bool, api.Errno) { at, e := Find(c.list, op.One()); return at == 0, e },
			"Table":     func() (bool, api.Errno) { l, e := Table(c.list); return len(l) == 0, e },
			"Inverses":  func() (bool, api.Errno) { l, e := Inverses(c.list); return len(l) == 0, e },
			"Rotations": func() (bool, api.Errno) { l, e := Rotations(c.list); return len(l) == 0, e },
			"Centring":  func() (bool, api.Errno) { l, e := Centring(c.list); return len(l) == 0, e },
		}
		if c.e != api.ErrClose { // Close asks no order and no group
			calls["Close"] = func() (bool, api.Errno) { l, e := Close(c.list); return len(l) == 0, e }
		}
		for name, call := range calls {
			if zero, e := call(); !zero || e != c.e {
				t.Errorf("%s of %s %v: %d (zero: %t), want %d", name, c.name, c.list[:min(3, len(c.list))], e, zero, c.e)
			}
		}
	}
}

// callAll makes all calls with a list, whatever they answer.
func callAll(list []api.Op) {
	Close(list)
	Check(list)
	Find(list, op.One())
	Table(list)
	Inverses(list)
	Rotations(list)
	Centring(list)
}

func TestNothingHandedInIsChangedOrReadBeyond(t *testing.T) { // memory
	for _, c := range samples {
		g := closed(t, c.texts...)
		mixed := slices.Clone(g)
		slices.Reverse(mixed)
		for _, list := range [][]api.Op{g, mixed, maps(t, c.texts...)} {
			room := append(slices.Clone(list), make([]api.Op, 300)...)
			front := room[:len(list)]
			callAll(front)
			if !slices.Equal(front, list) || slices.ContainsFunc(room[len(list):], func(o api.Op) bool { return o != api.Op{} }) {
				t.Errorf("a list of the group of %v was changed", c.texts)
			}
			got, e := Close(front)
			if e != api.OK || !slices.Equal(got, g) {
				t.Errorf("Close of a list of the group of %v with spare room: %d maps, %d", c.texts, len(got), e)
			}
		}
	}
}

func TestAnswersShareNoMemory(t *testing.T) { // memory
	g := closed(t, "-y,x,z+1/4", "x+1/2,y+1/2,z")
	keep := slices.Clone(g)
	first, _ := Close(g)
	spoil(first)
	again, _ := Close(g)
	if !slices.Equal(g, keep) || !slices.Equal(again, keep) {
		t.Error("what Close answered is bound to its argument or to an earlier answer")
	}
	table, _ := Table(g)
	whole, _ := Table(g)
	for i := range table {
		spoil(table[i])
		for j := range table {
			if j > i && !slices.Equal(table[j], whole[j]) {
				t.Fatalf("the rows %d and %d of the table share memory", i, j)
			}
		}
	}
	if fresh, _ := Table(g); !slices.EqualFunc(fresh, whole, slices.Equal) {
		t.Error("tables share memory")
	}
	back, _ := Inverses(g)
	turns, _ := Rotations(g)
	steps, _ := Centring(g)
	wantBack, wantTurns, wantSteps := slices.Clone(back), slices.Clone(turns), slices.Clone(steps)
	spoil(back)
	spoil(turns)
	spoil(steps)
	back, _ = Inverses(g)
	turns, _ = Rotations(g)
	steps, _ = Centring(g)
	if !slices.Equal(back, wantBack) || !slices.Equal(turns, wantTurns) || !slices.Equal(steps, wantSteps) || !slices.Equal(g, keep) {
		t.Error("an answer is bound to an earlier one")
	}
}

// spoil writes over a list and over the spare room behind it.
func spoil[E any](list []E) {
	list = list[:cap(list)]
	clear(list)
}

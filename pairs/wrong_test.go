package pairs

import (
	"fmt"
	"math"
	"slices"
	"testing"

	"facet/api"
	"facet/op"
)

func wrongIndices() []api.Vec {
	list := []api.Vec{{513, -513, 513}}
	for i := range 3 {
		for _, n := range []int{513, -513, 1 << 32, -1 << 32, math.MaxInt, math.MinInt} {
			var h api.Vec
			h[i] = n
			list = append(list, h)
		}
	}
	return list
}

// many answers so many waves of unlike indices.
func many(n int) []api.Wave {
	list := make([]api.Wave, n)
	for i := range list {
		list[i] = wave(i%100, i/100, 1, 1)
	}
	return list
}

// flaw is a list or a group of which something is wrong.
type flaw struct {
	name string
	e    api.Errno
	list []api.Wave
	g    []api.Op
}

// listFlaws answers lists that are not right, and what is answered of each.
func listFlaws() []flaw {
	flaws := []flaw{
		{name: "4097 waves", e: api.ErrLong, list: many(4097)},
		{name: "4097 alike", e: api.ErrLong, list: make([]api.Wave, 4097)},
		{name: "9000 waves", e: api.ErrLong, list: many(9000)},
		{name: "twice", e: api.ErrExists, list: []api.Wave{wave(1, 0, 0, 2), wave(1, 0, 0, 2)}},
		{name: "twice, unlike numbers", e: api.ErrExists, list: []api.Wave{wave(0, 0, 0, 2), wave(1, 0, 0, 2), wave(0, 0, 0, 3)}},
		{name: "twice in 4096", e: api.ErrExists, list: append(many(4095), wave(0, 0, 1, 1))},
		{name: "beyond, in 4097", e: api.ErrArg, list: append(many(4096), wave(0, 0, -513, 1))},
		{name: "beyond, ahead of 4097", e: api.ErrArg, list: append([]api.Wave{wave(0, 513, 0, 1)}, many(4097)...)},
		{name: "beyond, twice", e: api.ErrArg, list: []api.Wave{wave(513, 0, 0, 1), wave(513, 0, 0, 1)}},
		{name: "twice, then beyond", e: api.ErrArg, list: []api.Wave{wave(1, 0, 0, 1), wave(1, 0, 0, 1), wave(0, 0, 513, 1)}},
	}
	for _, h := range wrongIndices() {
		flaws = append(flaws, flaw{name: fmt.Sprint("index ", h), e: api.ErrArg, list: []api.Wave{{H: h, F: 1}}},
			flaw{name: fmt.Sprint("last index ", h), e: api.ErrArg, list: []api.Wave{wave(1, 2, 3, 1), {H: h, F: 1}}})
	}
	return flaws
}

// groupFlaws answers lists that are no groups.
func groupFlaws(t *testing.T) []flaw {
	t.Helper()
	g := closed(t, "-x,y+1/2,-z")
	great, flat, shifted, shear := op.One(), op.One(), op.One(), op.One()
	great.R[0][1] = 1001
	flat.R[0][0] = 0
	shifted.T[1] = 24
	shear.R[0][1] = 1
	return []flaw{
		{name: "193 maps", e: api.ErrLong, g: slices.Repeat(one(), 193)},
		{name: "flat", e: api.ErrForm, g: []api.Op{flat}},
		{name: "shifted", e: api.ErrForm, g: []api.Op{op.One(), shifted}},
		{name: "great and shifted", e: api.ErrForm, g: []api.Op{great, shifted}},
		{name: "great", e: api.ErrOver, g: []api.Op{op.One(), great}},
		{name: "no maps", e: api.ErrClose},
		{name: "no maps at all", e: api.ErrClose, g: []api.Op{}},
		{name: "out of order", e: api.ErrClose, g: []api.Op{g[1], g[0]}},
		{name: "no identity", e: api.ErrClose, g: g[:1]},
		{name: "twice", e: api.ErrClose, g: []api.Op{op.One(), op.One()}},
		{name: "a shear", e: api.ErrClose, g: []api.Op{op.One(), shear}},
		{name: "a shear alone", e: api.ErrClose, g: []api.Op{shear}},
	}
}

func TestWrongLists(t *testing.T) { // Errors: of all calls with a list
	for _, c := range listFlaws() {
		if l, e := Order(c.list); e != c.e || len(l) != 0 {
			t.Errorf("%s: Order = %d waves, %d, want %d", c.name, len(l), e, c.e)
		}
		if l, e := Friedel(c.list); e != c.e || len(l) != 0 {
			t.Errorf("%s: Friedel = %v, %d, want %d", c.name, l, e, c.e)
		}
		if l, e := Half(c.list); e != c.e || len(l) != 0 {
			t.Errorf("%s: Half = %d waves, %d, want %d", c.name, len(l), e, c.e)
		}
		if l, e := Fill(closed(t, "-x,-y,-z"), c.list); e != c.e || len(l) != 0 {
			t.Errorf("%s: Fill = %d waves, %d, want %d", c.name, len(l), e, c.e)
		}
		// Also where h is found, and where it is not: ErrNone is only of a list that is right.
		for _, h := range []api.Vec{{1, 0, 0}, {7, 7, 7}} {
			if f, e := Find(c.list, h); e != c.e || !same(f, 0) {
				t.Errorf("%s: Find at %v = %v, %d, want %d", c.name, h, f, e, c.e)
			}
		}
		for _, h := range wrongIndices() {
			if f, e := Find(c.list, h); e != api.ErrArg || !same(f, 0) {
				t.Errorf("%s: Find at %v = %v, %d", c.name, h, f, e)
			}
		}
	}
	for _, h := range wrongIndices() {
		for _, list := range [][]api.Wave{nil, many(1), many(4096)} {
			if f, e := Find(list, h); e != api.ErrArg || !same(f, 0) {
				t.Errorf("Find at %v in %d waves = %v, %d", h, len(list), f, e)
			}
		}
	}
}

func TestListsAtTheEdges(t *testing.T) { // MaxWaves and MaxIndex: at them all calls work
	full := many(4096)
	if l := orderOf(t, full); len(l) != 4096 || l[0].H != (api.Vec{0, 0, 1}) {
		t.Errorf("Order of 4096: %d", len(l))
	}
	if f, e := Find(full, full[4095].H); f != 1 || e != api.OK {
		t.Errorf("Find in 4096 = %v, %d", f, e)
	}
	if l := friedelOf(t, full); len(l) != 0 {
		t.Errorf("Friedel of 4096 = %v", l)
	}
	if l := halfOf(t, full); len(l) != 4096 {
		t.Errorf("Half of 4096: %d", len(l))
	}
	far := []api.Wave{wave(-512, 512, -512, 1i), wave(512, -512, 512, 1i)}
	if l := orderOf(t, far); !sameWaves(l, far) {
		t.Errorf("Order = %v", l)
	}
	if l := friedelOf(t, far); !slices.Equal(l, []int{0, 1}) {
		t.Errorf("Friedel = %v", l)
	}
	if l := halfOf(t, far); !sameWaves(l, far[1:]) {
		t.Errorf("Half = %v", l)
	}
	if l := fillOf(t, closed(t, "-x,-y,-z"), far); !sameWaves(l, []api.Wave{far[0], wave(512, -512, 512, -1i)}) {
		t.Errorf("Fill = %v", l)
	}
}

func TestWrongMaps(t *testing.T) { // Errors: of Turn
	over, under, both, outside := op.One(), op.One(), op.One(), op.One()
	over.R[0][1], both.R[0][1] = 1001, 1001
	under.R[2][0] = math.MinInt
	both.T[1], outside.T[2] = -1, 24
	for _, c := range []struct {
		o api.Op
		e api.Errno
	}{
		{api.Op{}, api.ErrForm}, {over, api.ErrOver}, {under, api.ErrOver}, {both, api.ErrForm}, {outside, api.ErrForm},
		{api.Op{R: api.Mat{{2, 0, 0}, {0, 1, 0}, {0, 0, 1}}}, api.ErrForm}, {api.Op{R: api.Mat{{math.MaxInt, 0, 0}, {0, 1, 0}, {0, 0, 1}}}, api.ErrOver},
	} {
		if w, e := Turn(c.o, wave(1, 2, 3, 4+5i)); e != c.e || !sameWave(w, api.Wave{}) {
			t.Errorf("Turn(%v) = %v, %d, want %d", c.o, w, e, c.e)
		}
		for _, h := range wrongIndices() {
			if w, e := Turn(c.o, api.Wave{H: h, F: 1}); e != api.ErrArg || !sameWave(w, api.Wave{}) {
				t.Errorf("Turn(%v, %v) = %v, %d", c.o, h, w, e)
			}
		}
	}
	for _, h := range wrongIndices() {
		if w, e := Turn(op.One(), api.Wave{H: h, F: 1}); e != api.ErrArg || !sameWave(w, api.Wave{}) {
			t.Errorf("Turn of %v = %v, %d", h, w, e)
		}
	}
}

func TestWrongGroups(t *testing.T) { // Errors: of Fill, of group and list the least
	for _, c := range groupFlaws(t) {
		for _, list := range [][]api.Wave{nil, many(3), many(4096), {wave(512, 512, 0, 1)}} {
			if l, e := Fill(c.g, list); e != c.e || len(l) != 0 {
				t.Errorf("%s, %d waves: Fill = %d waves, %d, want %d", c.name, len(list), len(l), e, c.e)
			}
		}
		for _, d := range listFlaws() {
			if l, e := Fill(c.g, d.list); e != min(c.e, d.e) || len(l) != 0 {
				t.Errorf("%s, %s: Fill = %d waves, %d, want %d", c.name, d.name, len(l), e, min(c.e, d.e))
			}
		}
	}
	// What is turned too far, and what would be too long, are asked only where group and list are right.
	steep := []api.Op{op.One(), {R: api.Mat{{1, 0, 0}, {999, -1, 0}, {0, 0, 1}}}}
	for _, c := range []struct {
		name string
		g    []api.Op
		list []api.Wave
		e    api.Errno
	}{
		{"a turned index beyond", steep, []api.Wave{wave(0, 1, 0, 1)}, api.ErrArg},
		{"and one twice", steep, []api.Wave{wave(0, 1, 0, 1), wave(0, 1, 0, 1)}, api.ErrExists},
		{"and maps out of order", []api.Op{steep[1], steep[0]}, []api.Wave{wave(0, 1, 0, 1)}, api.ErrClose},
		{"and maps too many", slices.Repeat(steep, 97), []api.Wave{wave(0, 1, 0, 1)}, api.ErrLong},
		{"of a wave that an earlier one leads to", steep, []api.Wave{wave(0, 0, 1, 1), wave(0, 1, 0, 1), wave(0, -1, 0, 1)}, api.ErrArg},
		{"too long an answer", one(), many(4096), api.ErrLong},
		{"and one twice", one(), append(many(4095), wave(0, 0, 1, 1)), api.ErrExists},
		{"and maps out of order", []api.Op{steep[1], steep[0]}, many(2100), api.ErrClose},
	} {
		if l, e := Fill(c.g, c.list); e != c.e || len(l) != 0 {
			t.Errorf("%s: Fill = %d waves, %d, want %d", c.name, len(l), e, c.e)
		}
	}
}

// spoiled answers a copy with something wrong behind its end.
func spoiled(list []api.Wave) []api.Wave {
	return append(slices.Clone(list), slices.Repeat([]api.Wave{wave(math.MinInt, 0, 0, 7)}, 9)...)
}

func TestMemory(t *testing.T) { // DOC.md, Memory
	for i, g := range groups(t) {
		seed := draw(900 + i)
		list := seed.withOpposites(seed.waves(9, 5))
		list = slices.DeleteFunc(list, func(w api.Wave) bool { return far(g, w.H) })
		maps := append(slices.Clone(g), api.Op{T: api.Vec{-7}}, api.Op{})
		room := spoiled(list)
		kept := slices.Clone(room)
		handed := room[:len(list)]
		for range 2 {
			ordered := orderOf(t, handed)
			told := friedelOf(t, handed)
			filled := fillOf(t, maps[:len(g)], handed)
			half := halfOf(t, handed)
			if !sameWaves(ordered, orderByHand(list)) || !slices.Equal(told, friedelByHand(list)) || !sameNumbers(filled, fillByHand(g, list)) || !sameWaves(half, halfByHand(list)) {
				t.Fatalf("%d maps: an answer is bound to an earlier one, or to what lies behind a list", len(g))
			}
			clear(ordered[:cap(ordered)])
			clear(told[:cap(told)])
			clear(filled[:cap(filled)])
			clear(half[:cap(half)])
		}
		if !sameWaves(room, kept) || !slices.Equal(maps[:len(g)], g) || maps[len(g)] != (api.Op{T: api.Vec{-7}}) {
			t.Errorf("%d maps: what was handed in has changed", len(g))
		}
	}
}

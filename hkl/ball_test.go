package hkl

import (
	"math"
	"math/big"
	"slices"
	"testing"

	"facet/api"
	"facet/cell"
)

var brick = api.Metric{AA: 4, BB: 9, CC: 16}

// metric answers a metric of three columns with parts up to reach.
func (d *draw) metric(reach int) api.Metric {
	for {
		var edges [3]api.Vec
		for i := range edges {
			edges[i] = api.Vec{d.below(2*reach+1) - reach, d.below(2*reach+1) - reach, d.below(2*reach+1) - reach}
		}
		product := func(i, j int) int {
			return edges[i][0]*edges[j][0] + edges[i][1]*edges[j][1] + edges[i][2]*edges[j][2]
		}
		m := api.Metric{AA: product(0, 0), BB: product(1, 1), CC: product(2, 2), BC: product(1, 2), AC: product(0, 2), AB: product(0, 1)}
		if cell.Check(m) == api.OK {
			return m
		}
	}
}

// ratio answers num over den in lowest terms.
func ratio(num, den int64) api.Ratio {
	r := big.NewRat(num, den)
	return api.Ratio{Num: int(r.Num().Int64()), Den: int(r.Denom().Int64())}
}

// ballByHand asks each index with parts up to reach, in order.
func ballByHand(t *testing.T, m api.Metric, limit api.Ratio, reach int) []api.Vec {
	t.Helper()
	var list []api.Vec
	for x := -reach; x <= reach; x++ {
		for y := -reach; y <= reach; y++ {
			for z := -reach; z <= reach; z++ {
				h := api.Vec{x, y, z}
				r, e := cell.Spacing(m, h)
				c, f := cell.Compare(r, limit)
				if e != api.OK || f != api.OK {
					t.Fatalf("Spacing(%v, %v), against %v: %d, %d", m, h, limit, e, f)
				}
				if c <= 0 {
					list = append(list, h)
				}
			}
		}
	}
	return list
}

func TestBallExamples(t *testing.T) { // P13.5
	want := []api.Vec{{-1, 0, 0}, {0, -1, -1}, {0, -1, 0}, {0, -1, 1}, {0, 0, -2}, {0, 0, -1}, {0, 0, 0}, {0, 0, 1}, {0, 0, 2}, {0, 1, -1}, {0, 1, 0}, {0, 1, 1}, {1, 0, 0}}
	if l, e := Ball(brick, ratio(1, 4)); e != api.OK || !slices.Equal(l, want) {
		t.Errorf("Ball = %v, %d", l, e)
	}
	if l, e := Ball(brick, api.Ratio{Num: 0, Den: 1}); e != api.OK || !slices.Equal(l, []api.Vec{{}}) {
		t.Errorf("Ball of 0 = %v, %d", l, e)
	}
	for _, c := range []struct {
		limit api.Ratio
		e     api.Errno
	}{{api.Ratio{Num: -1, Den: 1}, api.ErrForm}, {api.Ratio{Num: 2, Den: 4}, api.ErrForm}, {api.Ratio{Num: 1000, Den: 1}, api.ErrLong}} {
		if l, e := Ball(brick, c.limit); e != c.e || len(l) != 0 {
			t.Errorf("Ball of %v = %v, %d", c.limit, l, e)
		}
	}
}

func TestBallIsWhatItSays(t *testing.T) { // P13.5, against cell.Spacing of all indices that could be there
	d := draw(1)
	greatest := 0
	for _, reach := range []int{1, 2, 4, 9, 40, 182} {
		for range 25 {
			m := d.metric(reach)
			wide := max(m.AA, m.BB, m.CC)
			// No index of the ball has a part beyond the root of limit times the widest edge's square: 7, or somewhat less.
			for _, limit := range []api.Ratio{ratio(49, int64(wide)), ratio(int64(d.below(49*1000)), int64(wide)*1000), ratio(1, int64(m.AA)), ratio(int64(m.BB), int64(wide*wide))} {
				want := ballByHand(t, m, limit, 8)
				l, e := Ball(m, limit)
				if e != api.OK || !slices.Equal(l, want) {
					t.Fatalf("Ball(%v, %v) = %v, %d, want %v", m, limit, l, e, want)
				}
				greatest = max(greatest, len(l))
				for i, h := range l {
					if l[len(l)-1-i] != neg(h) {
						t.Fatalf("Ball(%v, %v): %v without its opposite", m, limit, h)
					}
				}
			}
		}
	}
	if greatest < 1000 {
		t.Errorf("the greatest ball has %d indices", greatest)
	}
}

func TestBallAtASpacing(t *testing.T) { // P13.5: at most, not below
	d := draw(2)
	asked := 0
	for range 40 {
		m := d.metric(12)
		h := api.Vec{d.below(3), d.below(3), 1 + d.below(3)}
		r, _ := cell.Spacing(m, h)
		// A little below r, with as great numbers as there may be.
		under := ratio(int64(r.Num)*(1<<31)-1, int64(r.Den)*(1<<31))
		if r.Num >= 1<<31 || r.Den >= 1<<31 {
			t.Fatalf("Spacing(%v, %v) = %v", m, h, r)
		}
		at, e := Ball(m, r)
		below, f := Ball(m, under)
		if e == api.ErrLong && f == api.ErrLong {
			continue
		}
		asked++
		if e != api.OK || f != api.OK || !slices.Contains(at, h) || !slices.Contains(at, neg(h)) || slices.Contains(below, h) || slices.Contains(below, neg(h)) {
			t.Errorf("Ball(%v) at %v and below it: %d, %d", m, r, e, f)
		}
		for _, k := range at {
			s, _ := cell.Spacing(m, k)
			if slices.Contains(below, k) == (s == r) {
				t.Errorf("Ball(%v) below %v: %v", m, r, k)
			}
		}
	}
	if asked < 30 {
		t.Errorf("only %d balls were small enough", asked)
	}
}

func TestBallAtMaxBall(t *testing.T) { // P13.5, MaxBall: at it and one beyond, on each edge, truly
	set := [3]func(*api.Metric, int){
		func(m *api.Metric, n int) { m.AA = n }, func(m *api.Metric, n int) { m.BB = n }, func(m *api.Metric, n int) { m.CC = n },
	}
	most := math.MaxInt
	for _, c := range []struct {
		square int
		limit  api.Ratio
		ends   int // how far the ball reaches on the long edge; 0: ErrLong
		others int // and on the others
	}{
		{4225, api.Ratio{Num: 1, Den: 1}, 0, 0},
		{4224, api.Ratio{Num: 1, Den: 1}, 64, 1},
		{4096, api.Ratio{Num: 1, Den: 1}, 64, 1},
		{4095, api.Ratio{Num: 1, Den: 1}, 63, 1},
		{100000, api.Ratio{Num: 169, Den: 4000}, 0, 0},
		{100000, api.Ratio{Num: 56, Den: 1333}, 64, 0},
		{4225, api.Ratio{Num: most, Den: most - 1}, 0, 0},
		{4225, api.Ratio{Num: most - 1, Den: most}, 64, 0},
		{4224, api.Ratio{Num: most, Den: most - 1}, 64, 1},
		{4, api.Ratio{Num: 1 << 62, Den: 1}, 0, 0},
		{64, api.Ratio{Num: 1 << 60, Den: 1}, 0, 0},
		{64, api.Ratio{Num: most, Den: 1}, 0, 0},
		{100000, api.Ratio{Num: 1, Den: 1 << 62}, 0, -1},
		{100000, api.Ratio{Num: 3, Den: most}, 0, -1},
		{16, api.Ratio{Num: 1<<62 + 1, Den: 1 << 62}, 4, 1},
		{16, api.Ratio{Num: 1<<62 - 1, Den: 1 << 62}, 3, 0},
	} {
		for i := range 3 {
			m := api.Metric{AA: 1, BB: 1, CC: 1}
			set[i](&m, c.square)
			l, e := Ball(m, c.limit)
			switch {
			case c.others < 0:
				if e != api.OK || !slices.Equal(l, []api.Vec{{}}) {
					t.Errorf("Ball(%v, %v) = %v, %d, want the origin", m, c.limit, l, e)
				}
			case c.ends == 0:
				if e != api.ErrLong || len(l) != 0 {
					t.Errorf("Ball(%v, %v) = %v, %d, want ErrLong", m, c.limit, l, e)
				}
			default:
				var end api.Vec
				end[i] = c.ends
				if e != api.OK || len(l) != 2*c.ends+1+4*c.others || !slices.Contains(l, end) || !slices.Contains(l, neg(end)) {
					t.Errorf("Ball(%v, %v) = %v, %d, want %d on the long edge, %d on the others", m, c.limit, l, e, c.ends, c.others)
				}
			}
		}
	}
}

func TestBallReachesOnSkewEdges(t *testing.T) { // P13.5: few indices, far out
	for _, m := range []api.Metric{
		{AA: 100000, BB: 100000, CC: 100000, BC: 99999, AC: 99999, AB: 99999},
		{AA: 100000, BB: 100000, CC: 100000, BC: -49999, AC: -49999, AB: -49999},
		{AA: 100000, BB: 100000, CC: 100000, BC: 99999, AC: -99999, AB: -99999},
		{AA: 1000, BB: 90000, CC: 70000, BC: -79000, AC: -8000, AB: 9000},
	} {
		for _, limit := range []api.Ratio{ratio(1, 1000), ratio(1, 2000), ratio(1, 5000)} {
			if e := cell.Check(m); e != api.OK {
				t.Fatalf("Check(%v): %d", m, e)
			}
			want := ballByHand(t, m, limit, 12)
			if l, e := Ball(m, limit); e != api.OK || !slices.Equal(l, want) {
				t.Errorf("Ball(%v, %v): %d indices, %d, want %d", m, limit, len(l), e, len(want))
			}
		}
	}
	flat := api.Metric{AA: 100000, BB: 100000, CC: 100000, BC: 99999, AC: 99999, AB: 99999}
	l, e := Ball(flat, ratio(56, 1333))
	if e != api.OK || !slices.Contains(l, api.Vec{64, 64, 64}) || !slices.Contains(l, api.Vec{-64, -64, -64}) {
		t.Errorf("Ball of a flat cell: %d indices, %d", len(l), e)
	}
}

func TestBallOfMaxWaves(t *testing.T) { // P13.5, MaxWaves: a ball has an odd count, so 4095 and 4097 are next to it
	m := api.Metric{AA: 101, BB: 113, CC: 127, BC: 7, AC: -11, AB: 5}
	limit := ratio(1, 1)
	list := ballByHand(t, m, limit, 14)
	slices.SortFunc(list, func(a, b api.Vec) int {
		r, _ := cell.Spacing(m, a)
		s, _ := cell.Spacing(m, b)
		c, _ := cell.Compare(r, s)
		return c
	})
	if len(list) < 4097 {
		t.Fatalf("only %d indices", len(list))
	}
	last, _ := cell.Spacing(m, list[4094])
	next, _ := cell.Spacing(m, list[4096])
	if last == next {
		t.Fatalf("the spacings of %v and %v are alike", list[4094], list[4096])
	}
	want := slices.Clone(list[:4095])
	slices.SortFunc(want, Compare)
	if l, e := Ball(m, last); e != api.OK || !slices.Equal(l, want) {
		t.Errorf("Ball of 4095: %d, %d", len(l), e)
	}
	for _, r := range []api.Ratio{next, limit, ratio(40, 1)} {
		if l, e := Ball(m, r); e != api.ErrLong || len(l) != 0 {
			t.Errorf("Ball(%v, %v): %d, %d, want ErrLong", m, r, len(l), e)
		}
	}
}

func TestWrongBalls(t *testing.T) { // P1, P13.5, the chapter's errors
	for _, c := range []struct {
		m api.Metric
		e api.Errno
	}{
		{brick, api.OK},
		{api.Metric{}, api.ErrArg},
		{api.Metric{AA: 4, BB: 9}, api.ErrArg},
		{api.Metric{AA: 1, BB: 1, CC: api.MaxMetric + 1, AB: 1}, api.ErrArg},
		{api.Metric{AA: 1, BB: 1, CC: 1, BC: math.MinInt}, api.ErrArg},
		{api.Metric{AA: 1, BB: 1, CC: 1, AB: 1}, api.ErrForm},
		{api.Metric{AA: 2, BB: 2, CC: 2, BC: -1, AC: -1, AB: -1}, api.ErrForm},
	} {
		for _, l := range []struct {
			limit api.Ratio
			e     api.Errno
			long  bool // asked only of what is right
		}{
			{api.Ratio{Num: 1, Den: 4}, api.OK, false}, {api.Ratio{Num: 0, Den: 1}, api.OK, false},
			{api.Ratio{}, api.ErrForm, false}, {api.Ratio{Num: 1}, api.ErrForm, false}, {api.Ratio{Num: 0, Den: 2}, api.ErrForm, false}, {api.Ratio{Num: 1, Den: -1}, api.ErrForm, false}, {api.Ratio{Num: -1, Den: -1}, api.ErrForm, false},
			{api.Ratio{Num: 2000, Den: 2}, api.ErrForm, false}, {api.Ratio{Num: -1, Den: 4}, api.ErrForm, false}, {api.Ratio{Num: math.MinInt, Den: 1}, api.ErrForm, false}, {api.Ratio{Num: math.MinInt, Den: math.MinInt}, api.ErrForm, false}, {api.Ratio{Num: math.MaxInt, Den: math.MaxInt}, api.ErrForm, false},
			{api.Ratio{Num: 1000, Den: 1}, api.OK, true}, {api.Ratio{Num: math.MaxInt, Den: 1}, api.OK, true}, {api.Ratio{Num: 20, Den: 1}, api.OK, true},
		} {
			want := least(c.e, l.e)
			if want == api.OK && l.long {
				want = api.ErrLong
			}
			list, e := Ball(c.m, l.limit)
			if e != want || e != api.OK && len(list) != 0 || e == api.OK && !slices.Contains(list, api.Vec{}) {
				t.Errorf("Ball(%v, %v) = %v, %d, want %d", c.m, l.limit, list, e, want)
			}
		}
	}
}

func TestBallMemory(t *testing.T) { // memory
	l, _ := Ball(brick, ratio(1, 4))
	want := slices.Clone(l)
	clear(l[:cap(l)])
	if l, e := Ball(brick, ratio(1, 4)); e != api.OK || !slices.Equal(l, want) {
		t.Errorf("Ball = %v, %d: bound to an earlier answer", l, e)
	}
}

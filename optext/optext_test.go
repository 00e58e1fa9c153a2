package optext

import (
	"math"
	"regexp"
	"strconv"
	"strings"
	"testing"

	"facet/api"
	"facet/op"
)

var one = api.Mat{{1, 0, 0}, {0, 1, 0}, {0, 0, 1}}

// draw is a row of numbers that looks like chance and is the same in each run.
type draw uint64

func (d *draw) below(n int) int {
	*d = *d*6364136223846793005 + 1442695040888963407
	return int(uint64(*d>>33) % uint64(n))
}

// op answers a map in form, with entries as great as come of it.
func (d *draw) op() api.Op {
	o := op.One()
	for range 1 + d.below(6) {
		r := one
		if d.below(3) == 0 {
			r = api.Mat{{0, 0, -1}, {1, 0, 0}, {0, 1, 0}}
		}
		i := d.below(3)
		r[i][(i+1+d.below(2))%3] += d.below(25) - 12
		if d.below(2) == 0 {
			for j := range 3 {
				r[i][j] = -r[i][j]
			}
		}
		step, e := op.Make(r, api.Vec{d.below(24), d.below(24), d.below(24)})
		if e != api.OK {
			continue
		}
		if p, e := op.Mul(step, o); e == api.OK {
			o = p
		}
	}
	return o
}

func TestWrite(t *testing.T) { // P4.1
	for _, c := range []struct {
		r api.Mat
		t api.Vec
		s string
	}{
		{one, api.Vec{}, "x,y,z"},
		{api.Mat{{0, -1, 0}, {1, -1, 0}, {0, 0, 1}}, api.Vec{0, 0, 8}, "-y,x-y,z+1/3"},
		{api.Mat{{1, 2, 0}, {0, 1, 0}, {0, -3, -1}}, api.Vec{12, 1, 23}, "x+2y+1/2,y+1/24,-3y-z+23/24"},
		{api.Mat{{-1, 0, 0}, {0, -1, 0}, {0, 0, -1}}, api.Vec{6, 18, 16}, "-x+1/4,-y+3/4,-z+2/3"},
		{api.Mat{{0, 1000, 1}, {1, 0, 0}, {0, 1, 0}}, api.Vec{}, "1000y+z,x,y"},
		{api.Mat{{1, -1000, 10}, {0, 1, -2}, {0, 0, 1}}, api.Vec{}, "x-1000y+10z,y-2z,z"},
		{api.Mat{{2, 1, 1}, {1, 1, 0}, {0, 0, 1}}, api.Vec{0, 0, 2}, "2x+y+z,x+y,z+1/12"},
	} {
		if s, e := Write(api.Op{R: c.r, T: c.t}); s != c.s || e != api.OK {
			t.Errorf("Write(%v, %v) = %s, %d, want %s", c.r, c.t, s, e, c.s)
		}
	}
	over := api.Mat{{1, 0, -1001}, {0, 1, 0}, {0, 0, 1}}
	for _, c := range []struct {
		o api.Op
		e api.Errno
	}{
		{api.Op{}, api.ErrForm}, {api.Op{R: one, T: api.Vec{0, 24, 0}}, api.ErrForm}, {api.Op{R: one, T: api.Vec{0, 0, -1}}, api.ErrForm}, {api.Op{R: api.Mat{{2, 0, 0}, {0, 1, 0}, {0, 0, 1}}}, api.ErrForm},
		{api.Op{R: over}, api.ErrOver}, {api.Op{R: api.Mat{{math.MinInt}}}, api.ErrOver}, {api.Op{R: over, T: api.Vec{24, 0, 0}}, api.ErrForm},
	} {
		if s, e := Write(c.o); s != "" || e != c.e {
			t.Errorf("Write(%v) = %s, %d, want %d", c.o, s, e, c.e)
		}
	}
}

func TestFraction(t *testing.T) { // P4.1, P4.3
	all := strings.Fields("0 1/24 1/12 1/8 1/6 5/24 1/4 7/24 1/3 3/8 5/12 11/24 1/2 13/24 7/12 5/8 2/3 17/24 3/4 19/24 5/6 7/8 11/12 23/24")
	for n := -72; n < 96; n++ {
		want := (n + 72) % 24
		if s := Fraction(n); s != all[want] {
			t.Errorf("Fraction(%d) = %s, want %s", n, s, all[want])
		}
		if m, at, e := ReadFraction(Fraction(n)); m != want || at != 0 || e != api.OK {
			t.Errorf("ReadFraction(Fraction(%d)) = %d, %d, %d", n, m, at, e)
		}
	}
	if a, b := Fraction(math.MaxInt), Fraction(math.MinInt); a != "7/24" || b != "2/3" {
		t.Errorf("Fraction of the greatest and the least: %s, %s", a, b)
	}
}

func TestReadWhatIsWritten(t *testing.T) { // P4.3
	d := draw(1)
	for range 2000 {
		o := d.op()
		s, e := Write(o)
		if e != api.OK {
			t.Fatalf("Write(%v): %d", o, e)
		}
		for _, text := range []string{s, strings.Join(pieces(s), " "), "   " + strings.Join(pieces(s), "   ") + "  "} {
			if p, at, e := Read(text); p != o || at != 0 || e != api.OK {
				t.Fatalf("Read(%s) = %v, %d, %d, want %v", text, p, at, e, o)
			}
		}
	}
}

var (
	tokenPattern    = regexp.MustCompile(`[0-9]+|[^ 0-9]`)
	fractionPattern = regexp.MustCompile(`n/n|n$|ns`)
	termPattern     = regexp.MustCompile(`^s?([xyz]|n[xyz]|n/n|n)(s([xyz]|n[xyz]|n/n|n))*$`)
)

// pieces cuts a text into its tokens, by a pattern.
func pieces(s string) []string {
	return tokenPattern.FindAllString(s, -1)
}

func TestRead(t *testing.T) { // P4.2
	for s, want := range map[string]api.Op{
		" 1/2 - x , +y,z-1/4 ":                 {R: api.Mat{{-1, 0, 0}, {0, 1, 0}, {0, 0, 1}}, T: api.Vec{12, 0, 18}},
		"1x,0+y,z+25/1":                        {R: one},
		"z+1000y,x,y":                          {R: api.Mat{{0, 1000, 1}, {1, 0, 0}, {0, 1, 0}}},
		"-1000z+ x , y - 0,z":                  {R: api.Mat{{1, 0, -1000}, {0, 1, 0}, {0, 0, 1}}},
		"x+999/999,y-999/24,0/7+z":             {R: one, T: api.Vec{0, 9, 0}},
		"x+y+z+1/2,-1/2+z+y,z":                 {R: api.Mat{{1, 1, 1}, {0, 1, 1}, {0, 0, 1}}, T: api.Vec{12, 12, 0}},
		"2x+y+7/8+3z,x+y,z-23/24":              {R: api.Mat{{2, 1, 3}, {1, 1, 0}, {0, 0, 1}}, T: api.Vec{21, 0, 1}},
		"x,y,z" + strings.Repeat(" ", 65536-5): {R: one},
	} {
		if o, at, e := Read(s); o != want || at != 0 || e != api.OK {
			t.Errorf("Read(%.40s) = %v, %d, %d, want %v", s, o, at, e, want)
		}
	}
}

func TestReadTellsThePlaceOfTheFault(t *testing.T) { // P4.2
	for _, c := range []struct {
		s  string
		at int
		e  api.Errno
	}{
		{"", 0, api.ErrText}, {"x,y", 3, api.ErrText}, {"x,y,z,", 5, api.ErrText}, {"x,x+x,z", 4, api.ErrText}, {"x y,z,z", 2, api.ErrText}, {"x,y,X", 4, api.ErrText}, {"x,y,1/5+z", 4, api.ErrText}, {"x,y,01+z", 4, api.ErrText}, {"x,y,1/0+z", 4, api.ErrText}, {"x,y,0z", 4, api.ErrText}, {"x,y,1001z", 4, api.ErrText}, {"1/2+x+1/3,y,z", 6, api.ErrText}, {"x,y,z/2", 5, api.ErrText}, {"x,x,z", 0, api.ErrForm}, {"x,1/2,z", 0, api.ErrForm}, {"--x,y,z", 1, api.ErrText},
		{"5000x;y", 0, api.ErrText}, {"1/5;y", 0, api.ErrText}, {"1/;y", 2, api.ErrText}, {"1000/;y", 0, api.ErrText}, {"1/0x,y,z", 0, api.ErrText}, {"1/2x,y,z", 3, api.ErrText},
		{"x,y,2 5 z", 6, api.ErrText}, {"x,y,z ;", 6, api.ErrText}, {"x+", 2, api.ErrText}, {"x,y,z+", 6, api.ErrText}, {"x,,z", 2, api.ErrText}, {",x,y", 0, api.ErrText}, {"x,y,z z", 6, api.ErrText}, {"x,y,z\n", 5, api.ErrText}, {"x,\ty,z", 2, api.ErrText}, {"x,y,\u00a0z", 4, api.ErrText}, {"x,y,z\xff", 5, api.ErrText}, {"x,y,z+\u0661", 6, api.ErrText}, {"x,y,é", 4, api.ErrText}, {"x,y,1é", 5, api.ErrText}, {"x,y,1000é", 4, api.ErrText}, {"x,y,z\x00", 5, api.ErrText},
		{"x,y,001z", 4, api.ErrText}, {"x,y,1/02+z", 4, api.ErrText}, {"x,y,1/1000+z", 4, api.ErrText}, {"x,y,999+z", 0, api.OK}, {"x,y,1000+z", 4, api.ErrText}, {"x,y,00+z", 4, api.ErrText}, {"x,y,1/ 5", 4, api.ErrText}, {"x,y, 1 / 48", 5, api.ErrText}, {"x,y,2/48+z", 0, api.OK}, {"x,y,0/0+z", 4, api.ErrText}, {"x,y,1/2/2+z", 7, api.ErrText}, {"x,y,1/+2", 6, api.ErrText}, {"x,y,/2+z", 4, api.ErrText}, {"x,y,1/x", 6, api.ErrText}, {"x,y,1/", 6, api.ErrText}, {"x,y,1/2", 0, api.ErrForm}, {"x,y,1/2 3", 8, api.ErrText}, {"x,y,z+z", 6, api.ErrText}, {"x,y,z+2z", 7, api.ErrText}, {"x,y,z+0z", 6, api.ErrText}, {"x,y,z+1/2+2/1/", 10, api.ErrText},
		// A row with all letters and a fraction takes no further term, so no further sign either.
		{"x+y+z+1/2+x,y,z", 9, api.ErrText}, {"x+y+z+1/2-1/3,y,z", 9, api.ErrText}, {"1/2+x+y+z+,y,z", 9, api.ErrText}, {"x+y+z+x,y,z", 6, api.ErrText}, {"x+y+1/2+1/2,y,z", 8, api.ErrText},
		{"x,y,z+" + strings.Repeat("9", 60000), 6, api.ErrText}, {"x,y," + strings.Repeat("1", 60000) + "z", 4, api.ErrText}, {"x,y,z+" + strings.Repeat("0", 60000), 6, api.ErrText},
		{strings.Repeat(" ", 65536), 65536, api.ErrText}, {strings.Repeat(" ", 65537), 0, api.ErrLong}, {"x,y,z" + strings.Repeat(" ", 65536-4), 0, api.ErrLong}, {"x,y,z" + strings.Repeat("\u00a0", 40000), 0, api.ErrLong},
		{"x,y,2z", 0, api.ErrForm}, {"1000x,1000y,1000z", 0, api.ErrForm}, {"0,0,0", 0, api.ErrForm}, {"x+y,x+y,;", 8, api.ErrText},
	} {
		o, at, e := Read(c.s)
		if at != c.at || e != c.e || (e != api.OK) != (o == api.Op{}) {
			t.Errorf("Read(%.30q) = %v, At %d, %d, want %d, %d", c.s, o, at, e, c.at, c.e)
		}
	}
}

func TestReadFraction(t *testing.T) { // P4.2
	for _, c := range []struct {
		s     string
		n, at int
		e     api.Errno
	}{
		{"-1/3", 16, 0, api.OK}, {" 0 ", 0, 0, api.OK}, {"+3/4", 18, 0, api.OK}, {"7", 0, 0, api.OK}, {"- 5 / 24", 19, 0, api.OK}, {"999/24", 15, 0, api.OK}, {"-999/24", 9, 0, api.OK}, {"-0", 0, 0, api.OK}, {"0/999", 0, 0, api.OK}, {"999/999", 0, 0, api.OK}, {"999", 0, 0, api.OK}, {"3/72", 1, 0, api.OK},
		{"1/2 1", 0, 4, api.ErrText}, {"2/", 0, 2, api.ErrText}, {"1/7", 0, 0, api.ErrText}, {"+", 0, 1, api.ErrText}, {"", 0, 0, api.ErrText}, {"  ", 0, 2, api.ErrText}, {"x", 0, 0, api.ErrText}, {"1x", 0, 1, api.ErrText}, {"0x", 0, 1, api.ErrText}, {"1000x", 0, 0, api.ErrText}, {"1001x", 0, 0, api.ErrText}, {"999x", 0, 3, api.ErrText}, {"01x", 0, 0, api.ErrText}, {"1/2x", 0, 3, api.ErrText}, {"1/0x", 0, 0, api.ErrText}, {"--1", 0, 1, api.ErrText}, {"1,", 0, 1, api.ErrText}, {"1+1", 0, 1, api.ErrText}, {"1/2/3", 0, 3, api.ErrText}, {"1/-2", 0, 2, api.ErrText}, {"-1000", 0, 1, api.ErrText}, {"/2", 0, 0, api.ErrText}, {"1 2", 0, 2, api.ErrText}, {"1/01", 0, 0, api.ErrText}, {"00", 0, 0, api.ErrText}, {"1/1000", 0, 0, api.ErrText}, {" 1/5;", 0, 1, api.ErrText}, {"1;", 0, 1, api.ErrText},
		{strings.Repeat(" ", 65535) + "1", 0, 0, api.OK}, {strings.Repeat(" ", 65536), 0, 65536, api.ErrText}, {strings.Repeat(" ", 65536) + "1", 0, 0, api.ErrLong},
	} {
		if n, at, e := ReadFraction(c.s); n != c.n || at != c.at || e != c.e {
			t.Errorf("ReadFraction(%.30q) = %d, %d, %d, want %d, %d, %d", c.s, n, at, e, c.n, c.at, c.e)
		}
	}
}

// oracle finds faults as the chapter words them: a token can't stand where no text of the kind begins so.
type oracle struct {
	begins map[string]bool
	fits   func(kinds string) bool
	ends   []string // what may bring a beginning to its end
	letter bool     // can letters stand?
}

func fitsRow(kinds string) bool {
	fractions := len(fractionPattern.FindAllString(kinds, -1))
	return termPattern.MatchString(kinds) && fractions <= 1 && strings.Count(kinds, "x") <= 1 && strings.Count(kinds, "y") <= 1 && strings.Count(kinds, "z") <= 1
}

func fitsMap(kinds string) bool {
	rows := strings.Split(kinds, ",")
	return len(rows) == 3 && fitsRow(rows[0]) && fitsRow(rows[1]) && fitsRow(rows[2])
}

func mapOracle() *oracle {
	a := &oracle{begins: map[string]bool{}, fits: fitsMap, letter: true}
	for _, term := range []string{"", "x", "y", "z", "n"} {
		a.ends = append(a.ends, term, term+",x", term+",x,x")
	}
	return a
}

func fractionOracle() *oracle {
	fits := regexp.MustCompile(`^s?n(/n)?$`).MatchString
	return &oracle{begins: map[string]bool{}, fits: fits, ends: []string{"", "n"}}
}

func (a *oracle) canBegin(kinds string) bool {
	known, ok := a.begins[kinds]
	if !ok {
		for _, end := range a.ends {
			known = known || a.fits(kinds+end)
		}
		a.begins[kinds] = known
	}
	return known
}

// fault answers the place of the first fault of the tokens, or -1.
func (a *oracle) fault(s string) int {
	places := tokenPattern.FindAllStringIndex(s, -1)
	kinds := ""
	for _, p := range places {
		kinds += kindLetter(s[p[0]:p[1]])
	}
	fractions := 0
	for i, p := range places {
		text := s[p[0]:p[1]]
		switch {
		case kinds[i] == ',':
			fractions = 0
		case kinds[i] != 'n':
		case i > 0 && kinds[i-1] == '/' && i > 1 && kinds[i-2] == 'n':
			n, _ := strconv.Atoi(s[places[i-2][0]:places[i-2][1]])
			d, ok := rightNumber(text, 1, 999)
			if !ok || 24*n%d != 0 {
				return places[i-2][0]
			}
		case a.letter && i+1 < len(kinds) && strings.ContainsRune("xyz", rune(kinds[i+1])):
			if _, ok := rightNumber(text, 1, 1000); !ok {
				return p[0]
			}
		default:
			fractions++
			if _, ok := rightNumber(text, 0, 999); !ok || fractions > 1 {
				return p[0]
			}
		}
		if !a.canBegin(kinds[:i+1]) {
			return p[0]
		}
	}
	if !a.fits(kinds) {
		return len(s)
	}
	return -1
}

func kindLetter(text string) string {
	switch {
	case text[0] >= '0' && text[0] <= '9':
		return "n"
	case text == "+" || text == "-":
		return "s"
	case strings.Contains("xyz,/", text):
		return text
	}
	return "?"
}

func rightNumber(text string, low, high int) (int, bool) {
	n, err := strconv.Atoi(text)
	return n, err == nil && strconv.Itoa(n) == text && n >= low && n <= high
}

func holdAgainstOracles(t *testing.T, s string, forMap, forFraction *oracle) {
	t.Helper()
	want := forMap.fault(s)
	_, at, e := Read(s)
	if want >= 0 && (e != api.ErrText || at != want) || want < 0 && (e == api.ErrText || at != 0) {
		t.Fatalf("Read(%q): At %d, %d, want %d", s, at, e, want)
	}
	want = forFraction.fault(s)
	_, at, e = ReadFraction(s)
	if want >= 0 && (e != api.ErrText || at != want) || want < 0 && (e != api.OK || at != 0) {
		t.Fatalf("ReadFraction(%q): At %d, %d, want %d", s, at, e, want)
	}
}

func TestFaultsOfAllShortTexts(t *testing.T) { // P4.2
	forMap, forFraction := mapOracle(), fractionOracle()
	const signs = "xz05/+,; "
	var grow func(s string)
	grow = func(s string) {
		holdAgainstOracles(t, s, forMap, forFraction)
		if len(s) < 5 {
			for _, r := range signs {
				grow(s + string(r))
			}
		}
	}
	grow("")
}

func TestFaultsOfLongerTexts(t *testing.T) { // P4.2
	forMap, forFraction := mapOracle(), fractionOracle()
	usual := []string{"x", "y", "z", "+", "+", "-", ",", ",", "1/2", "5/24", "3x", "2y", "12z", "1/5", "0", "7", "/", " ", "01", "1000", "1001", "999", "?", "+x", "-y", "+z"}
	d := draw(2)
	for range 40000 {
		s := ""
		for range 1 + d.below(14) {
			s += usual[d.below(len(usual))]
		}
		holdAgainstOracles(t, s, forMap, forFraction)
	}
	for range 20000 { // texts that are right but for one token
		o := d.op()
		s, _ := Write(o)
		list := pieces(s)
		list[d.below(len(list))] = usual[d.below(len(usual))]
		holdAgainstOracles(t, strings.Join(list, ""), forMap, forFraction)
	}
}

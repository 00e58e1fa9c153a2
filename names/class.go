package names

// kind is a kind of matrices, numbered as the columns of a class's line.
type kind int

const (
	turn1 kind = iota
	turn2
	turn3
	turn4
	turn6
	flip1 // the kinds that change hands
	flip2
	flip3
	flip4
	flip6
	kinds // how many there are
)

// counts is how many matrices there are of each kind.
type counts = [kinds]int

// tellings is the kinds as layer 3 tells them.
var tellings = [kinds]int{turn1: 1, turn2: 2, turn3: 3, turn4: 4, turn6: 6, flip1: -1, flip2: -2, flip3: -3, flip4: -4, flip6: -6}

// class is a class of groups by its name, and what Kinds counts in each group of it.
type class struct {
	name   string
	counts counts
}

// classes answers all classes; no two of them have the same counts.
func classes() []class {
	return []class{
		{"1", counts{1, 0, 0, 0, 0, 0, 0, 0, 0, 0}},
		{"-1", counts{1, 0, 0, 0, 0, 1, 0, 0, 0, 0}},
		{"2", counts{1, 1, 0, 0, 0, 0, 0, 0, 0, 0}},
		{"m", counts{1, 0, 0, 0, 0, 0, 1, 0, 0, 0}},
		{"2/m", counts{1, 1, 0, 0, 0, 1, 1, 0, 0, 0}},
		{"222", counts{1, 3, 0, 0, 0, 0, 0, 0, 0, 0}},
		{"mm2", counts{1, 1, 0, 0, 0, 0, 2, 0, 0, 0}},
		{"mmm", counts{1, 3, 0, 0, 0, 1, 3, 0, 0, 0}},
		{"4", counts{1, 1, 0, 2, 0, 0, 0, 0, 0, 0}},
		{"-4", counts{1, 1, 0, 0, 0, 0, 0, 0, 2, 0}},
		{"4/m", counts{1, 1, 0, 2, 0, 1, 1, 0, 2, 0}},
		{"422", counts{1, 5, 0, 2, 0, 0, 0, 0, 0, 0}},
		{"4mm", counts{1, 1, 0, 2, 0, 0, 4, 0, 0, 0}},
		{"-42m", counts{1, 3, 0, 0, 0, 0, 2, 0, 2, 0}},
		{"4/mmm", counts{1, 5, 0, 2, 0, 1, 5, 0, 2, 0}},
		{"3", counts{1, 0, 2, 0, 0, 0, 0, 0, 0, 0}},
		{"-3", counts{1, 0, 2, 0, 0, 1, 0, 2, 0, 0}},
		{"32", counts{1, 3, 2, 0, 0, 0, 0, 0, 0, 0}},
		{"3m", counts{1, 0, 2, 0, 0, 0, 3, 0, 0, 0}},
		{"-3m", counts{1, 3, 2, 0, 0, 1, 3, 2, 0, 0}},
		{"6", counts{1, 1, 2, 0, 2, 0, 0, 0, 0, 0}},
		{"-6", counts{1, 0, 2, 0, 0, 0, 1, 0, 0, 2}},
		{"6/m", counts{1, 1, 2, 0, 2, 1, 1, 2, 0, 2}},
		{"622", counts{1, 7, 2, 0, 2, 0, 0, 0, 0, 0}},
		{"6mm", counts{1, 1, 2, 0, 2, 0, 6, 0, 0, 0}},
		{"-6m2", counts{1, 3, 2, 0, 0, 0, 4, 0, 0, 2}},
		{"6/mmm", counts{1, 7, 2, 0, 2, 1, 7, 2, 0, 2}},
		{"23", counts{1, 3, 8, 0, 0, 0, 0, 0, 0, 0}},
		{"m-3", counts{1, 3, 8, 0, 0, 1, 3, 8, 0, 0}},
		{"432", counts{1, 9, 8, 6, 0, 0, 0, 0, 0, 0}},
		{"-43m", counts{1, 3, 8, 0, 0, 0, 6, 0, 6, 0}},
		{"m-3m", counts{1, 9, 8, 6, 0, 1, 9, 8, 6, 0}},
	}
}

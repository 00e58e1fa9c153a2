package optext

import "facet/api"

type kind int

const (
	end kind = iota
	blank
	letter
	sign
	comma
	slash
	number
	stranger // what no token begins with
)

// token is a piece of a text, with the place of its first byte.
type token struct {
	kind kind
	at   int
	text string
}

// cut answers the tokens of s without its blanks, the last of them the end. So behind each other token one more stands.
func cut(s string) []token {
	var list []token
	last := blank
	for at, r := range s {
		k := kindOf(r)
		switch {
		case k == number && last == number:
			n := &list[len(list)-1]
			n.text = s[n.at : at+1]
		case k != blank:
			list = append(list, token{kind: k, at: at, text: s[at : at+1]})
		}
		last = k
	}
	return append(list, token{kind: end, at: len(s)})
}

func kindOf(r rune) kind {
	switch {
	case r == ' ':
		return blank
	case r >= 'x' && r <= 'z':
		return letter
	case r == '+' || r == '-':
		return sign
	case r == ',':
		return comma
	case r == '/':
		return slash
	case r >= '0' && r <= '9':
		return number
	}
	return stranger
}

// row is what the terms of one row have told so far. An entry that is 0 had no letter yet.
type row struct {
	entries  [3]int
	part     int
	fraction bool
}

// readRow reads a row from the front of list, and answers what is left of it. Where it fails, what is left begins with the token at fault.
func readRow(list []token) (row, []token, bool) {
	var found row
	for first := true; ; first = false {
		way := 1
		switch {
		case list[0].kind == sign:
			if found.full() {
				return row{}, list, false
			}
			way, list = wayOf(list[0]), list[1:]
		case !first:
			return found, list, true
		}
		rest, ok := found.readTerm(list, way)
		if !ok {
			return row{}, rest, false
		}
		list = rest
	}
}

// full tells whether no term is left that could join the row, so that no sign can stand behind it either.
func (f *row) full() bool {
	return f.fraction && f.entries[0] != 0 && f.entries[1] != 0 && f.entries[2] != 0
}

func (f *row) readTerm(list []token, way int) ([]token, bool) {
	switch {
	case list[0].kind == letter:
		return f.readLetter(list, way)
	case list[0].kind == number && list[1].kind == letter:
		k, ok := whole(list[0].text, 1, api.MaxEntry)
		if !ok {
			return list, false
		}
		return f.readLetter(list[1:], way*k)
	case list[0].kind == number && !f.fraction:
		n, rest, ok := readFraction(list)
		f.part, f.fraction = residue(way*n), ok
		return rest, ok
	}
	return list, false
}

func (f *row) readLetter(list []token, entry int) ([]token, bool) {
	column := list[0].text[0] - 'x'
	if f.entries[column] != 0 {
		return list, false
	}
	f.entries[column] = entry
	return list[1:], true
}

// readFraction reads n or n/d, of which n stands in front of list, and answers its 24ths and what is left. Where it fails, what is left begins with the token at fault.
func readFraction(list []token) (int, []token, bool) {
	const most = 999
	n, ok := whole(list[0].text, 0, most)
	if !ok {
		return 0, list, false
	}
	if list[1].kind != slash {
		return api.Parts * n, list[1:], true
	}
	if list[2].kind != number {
		return 0, list[2:], false
	}
	d, ok := whole(list[2].text, 1, most)
	if !ok || api.Parts*n%d != 0 {
		return 0, list, false
	}
	return api.Parts * n / d, list[3:], true
}

// whole answers the number that digits are, if they have no nought in front and it lies from low to high. It stops at the first digit that leads beyond: there may be very many.
func whole(digits string, low, high int) (int, bool) {
	if digits[0] == '0' && len(digits) > 1 {
		return 0, false
	}
	n := 0
	for _, r := range digits {
		n = 10*n + int(r-'0')
		if n > high {
			return 0, false
		}
	}
	return n, n >= low
}

func wayOf(t token) int {
	if t.text == "-" {
		return -1
	}
	return 1
}

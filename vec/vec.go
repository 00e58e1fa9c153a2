// Package vec is layer 1: matrices of three rows and three columns, columns and rows, of whole numbers. See shared/doc/01-vec.md.
package vec

import (
	"cmp"

	"facet/api"
)

// Identity answers the matrix with ones on its diagonal and noughts beside it.
func Identity() api.Mat {
	return api.Mat{{1, 0, 0}, {0, 1, 0}, {0, 0, 1}}
}

// Check answers ErrOver if an entry of m lies beyond MaxEntry by magnitude.
func Check(m api.Mat) api.Errno {
	for _, row := range m {
		if e := within(row, api.MaxEntry); e != api.OK {
			return e
		}
	}
	return api.OK
}

// Mul answers the product a b.
func Mul(a, b api.Mat) (api.Mat, api.Errno) {
	if e := Check(a); e != api.OK {
		return api.Mat{}, e
	}
	if e := Check(b); e != api.OK {
		return api.Mat{}, e
	}
	return product(a, b), api.OK
}

// Apply answers the column m v.
func Apply(m api.Mat, v api.Vec) (api.Vec, api.Errno) {
	if e := checkBoth(m, v); e != api.OK {
		return api.Vec{}, e
	}
	return api.Vec{dot(m[0], v), dot(m[1], v), dot(m[2], v)}, api.OK
}

// Left answers the row v m.
func Left(v api.Vec, m api.Mat) (api.Vec, api.Errno) {
	if e := checkBoth(m, v); e != api.OK {
		return api.Vec{}, e
	}
	t := flip(m)
	return api.Vec{dot(v, t[0]), dot(v, t[1]), dot(v, t[2])}, api.OK
}

// Transpose answers m with its rows as columns.
func Transpose(m api.Mat) (api.Mat, api.Errno) {
	if e := Check(m); e != api.OK {
		return api.Mat{}, e
	}
	return flip(m), api.OK
}

// Det answers the determinant of m.
func Det(m api.Mat) (int, api.Errno) {
	if e := Check(m); e != api.OK {
		return 0, e
	}
	return determinant(m), api.OK
}

// Trace answers the sum of m's diagonal.
func Trace(m api.Mat) (int, api.Errno) {
	if e := Check(m); e != api.OK {
		return 0, e
	}
	return m[0][0] + m[1][1] + m[2][2], api.OK
}

// Adjugate answers the matrix that m multiplies to its determinant times the identity.
func Adjugate(m api.Mat) (api.Mat, api.Errno) {
	if e := Check(m); e != api.OK {
		return api.Mat{}, e
	}
	return cofactors(m), api.OK
}

// Inverse answers the matrix that undoes m, whose determinant must be 1 or -1.
func Inverse(m api.Mat) (api.Mat, api.Errno) {
	if e := Check(m); e != api.OK {
		return api.Mat{}, e
	}
	d := determinant(m)
	if d != 1 && d != -1 {
		return api.Mat{}, api.ErrForm
	}
	a := cofactors(m)
	for i := range a {
		for j := range a[i] {
			a[i][j] *= d
		}
	}
	return a, api.OK
}

// Order answers the least n above 0 for which the n-th power of m, whose determinant must be 1 or -1, is the identity.
//
// The sixth power itself may be too great for an int. Therefore powers of m are held against powers of what undoes it: none that is made here has an entry beyond 3 * 10^13, so that all of them are true.
func Order(m api.Mat) (int, api.Errno) {
	back, e := Inverse(m)
	if e != api.OK {
		return 0, e
	}
	square, backSquare := product(m, m), product(back, back)
	switch {
	case m == Identity():
		return 1, api.OK
	case m == back:
		return 2, api.OK
	case square == back:
		return 3, api.OK
	case square == backSquare:
		return 4, api.OK
	case product(square, square) == backSquare:
		return 6, api.OK
	}
	return 0, api.ErrNone
}

// Compare answers -1, 0 or 1 by the first entry, row by row, in which a and b differ.
func Compare(a, b api.Mat) int {
	for i := range a {
		for j := range a[i] {
			if c := cmp.Compare(a[i][j], b[i][j]); c != 0 {
				return c
			}
		}
	}
	return 0
}

// within answers ErrOver if a number of v lies beyond bound by magnitude. (The least int has no magnitude of its own in an int, so both ends are asked.)
func within(v [3]int, bound int) api.Errno {
	for _, n := range v {
		if n < -bound || n > bound {
			return api.ErrOver
		}
	}
	return api.OK
}

func checkBoth(m api.Mat, v api.Vec) api.Errno {
	if e := Check(m); e != api.OK {
		return e
	}
	return within(v, api.MaxPart)
}

func dot(a, b [3]int) int {
	return a[0]*b[0] + a[1]*b[1] + a[2]*b[2]
}

func flip(m api.Mat) api.Mat {
	var t api.Mat
	for i := range t {
		for j := range t[i] {
			t[i][j] = m[j][i]
		}
	}
	return t
}

func product(a, b api.Mat) api.Mat {
	columns := flip(b)
	var p api.Mat
	for i := range p {
		for j := range p[i] {
			p[i][j] = dot(a[i], columns[j])
		}
	}
	return p
}

func cofactors(m api.Mat) api.Mat {
	var a api.Mat
	for i := range a {
		for j := range a[i] {
			a[i][j] = minor(m, j, i)
		}
	}
	return a
}

// minor answers the signed determinant of m without row i and column j. Going round (modulo 3) from i and j instead of up brings the sign with it.
func minor(m api.Mat, i, j int) int {
	r, s := (i+1)%3, (i+2)%3
	c, d := (j+1)%3, (j+2)%3
	return m[r][c]*m[s][d] - m[r][d]*m[s][c]
}

func determinant(m api.Mat) int {
	return m[0][0]*minor(m, 0, 0) + m[0][1]*minor(m, 0, 1) + m[0][2]*minor(m, 0, 2)
}

// Package frac is layer 2: translations in 24ths of the cell's edges, and places in M-ths. See shared/doc/02-frac.md.
package frac

import (
	"cmp"

	"facet/api"
	"facet/plain"
)

// Add answers the translation a + b, its parts from 0 to 23.
func Add(a, b api.Vec) api.Vec {
	a, b = residues(a, api.Parts), residues(b, api.Parts)
	for i := range a {
		a[i] = plain.Residue(a[i]+b[i], api.Parts)
	}
	return a
}

// Sub answers the translation a - b, its parts from 0 to 23.
func Sub(a, b api.Vec) api.Vec {
	return Add(a, Neg(b))
}

// Neg answers the translation -a, its parts from 0 to 23.
func Neg(a api.Vec) api.Vec {
	return opposites(a, api.Parts)
}

// Times answers the translation n times a, its parts from 0 to 23.
func Times(n int, a api.Vec) api.Vec {
	n, a = plain.Residue(n, api.Parts), residues(a, api.Parts)
	for i := range a {
		a[i] = plain.Residue(n*a[i], api.Parts)
	}
	return a
}

// Form tells whether p is a place in form.
func Form(p api.Point) bool {
	return plain.IsFineness(p.M) && p.X == residues(p.X, p.M)
}

// Place answers the place v in m-ths, brought into the cell.
func Place(m int, v api.Vec) (api.Point, api.Errno) {
	if !plain.IsFineness(m) {
		return api.Point{}, api.ErrArg
	}
	return api.Point{M: m, X: residues(v, m)}, api.OK
}

// Shift answers the place p moved by t 24ths.
func Shift(p api.Point, t api.Vec) (api.Point, api.Errno) {
	if !Form(p) {
		return api.Point{}, api.ErrForm
	}
	t = residues(t, api.Parts)
	for i := range p.X {
		p.X[i] = plain.Residue(p.X[i]+t[i]*(p.M/api.Parts), p.M)
	}
	return p, api.OK
}

// Minus answers the place p less q; both must have one M.
func Minus(p, q api.Point) (api.Point, api.Errno) {
	if !Form(p) || !Form(q) {
		return api.Point{}, api.ErrForm
	}
	if p.M != q.M {
		return api.Point{}, api.ErrUnlike
	}
	for i := range p.X {
		p.X[i] = plain.Residue(p.X[i]-q.X[i], p.M)
	}
	return p, api.OK
}

// Opposite answers the place -p.
func Opposite(p api.Point) (api.Point, api.Errno) {
	if !Form(p) {
		return api.Point{}, api.ErrForm
	}
	return api.Point{M: p.M, X: opposites(p.X, p.M)}, api.OK
}

// Finer answers the place p in m-ths.
func Finer(p api.Point, m int) (api.Point, api.Errno) {
	if !plain.IsFineness(m) {
		return api.Point{}, api.ErrArg
	}
	if !Form(p) {
		return api.Point{}, api.ErrForm
	}
	if m%p.M != 0 {
		return api.Point{}, api.ErrArg
	}
	for i := range p.X {
		p.X[i] *= m / p.M
	}
	p.M = m
	return p, api.OK
}

// Order answers -1, 0 or 1 by the points at which p and q lie, whatever their M.
func Order(p, q api.Point) (int, api.Errno) {
	if !Form(p) || !Form(q) {
		return 0, api.ErrForm
	}
	for i := range p.X {
		if c := cmp.Compare(p.X[i]*q.M, q.X[i]*p.M); c != 0 {
			return c, api.OK
		}
	}
	return 0, api.OK
}

func residues(v api.Vec, m int) api.Vec {
	for i := range v {
		v[i] = plain.Residue(v[i], m)
	}
	return v
}

// opposites takes residues ahead of the sign: the least int has no opposite.
func opposites(v api.Vec, m int) api.Vec {
	v = residues(v, m)
	for i := range v {
		v[i] = plain.Residue(-v[i], m)
	}
	return v
}

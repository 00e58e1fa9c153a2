package unit

import (
	"facet/api"
	"facet/plain"
)

// step is a map that fits a grid, told in the grid's own parts: it sends the place at to r at + t, modulo the sides n. All its numbers are residues, so that no part of what it makes is below 0.
type step struct {
	r    api.Mat
	t, n api.Vec
}

// toStep answers o, a map in form, as a step on the grid with the sides n, and false if it doesn't fit.
func toStep(o api.Op, n api.Vec) (step, bool) {
	s := step{n: n}
	for i, side := range n {
		for j, other := range n {
			if o.R[i][j]*side%other != 0 {
				return step{}, false
			}
			s.r[i][j] = plain.Residue(o.R[i][j]*side/other, side)
		}
		if o.T[i]*side%api.Parts != 0 {
			return step{}, false
		}
		s.t[i] = o.T[i] * side / api.Parts
	}
	return s, true
}

// part answers the part i of the place to which s sends at.
func (s *step) part(i int, at api.Vec) int {
	r := &s.r[i]
	return (r[0]*at[0] + r[1]*at[1] + r[2]*at[2] + s.t[i]) % s.n[i]
}

func (s *step) send(at api.Vec) api.Vec {
	return api.Vec{s.part(0, at), s.part(1, at), s.part(2, at)}
}

// keeps tells whether s sends at to itself. It leaves off at the first part that is another: most places are not kept, and Fixed asks of all of them.
func (s *step) keeps(at api.Vec) bool {
	return s.part(0, at) == at[0] && s.part(1, at) == at[1] && s.part(2, at) == at[2]
}

// fixed answers how many places s sends to themselves.
func (s *step) fixed() int {
	count := 0
	each(s.n, func(at api.Vec) {
		if s.keeps(at) {
			count++
		}
	})
	return count
}

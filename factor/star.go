package factor

import (
	"facet/api"
	"facet/errno"
	"facet/frac"
	"facet/group"
	"facet/orbit"
	"facet/plain"
	"facet/ring"
	"facet/turn"
)

// star is an atom's weights, and the unlike places at which it stands.
type star struct {
	weight, odd int
	places      []api.Point
}

// spread answers where the group g sends each of the atoms.
func spread(g []api.Op, atoms []api.Atom) ([]star, api.Errno) {
	if e := errno.Least(group.Check(g), checkAtoms(atoms)); e != api.OK {
		return nil, e
	}
	stars := make([]star, len(atoms))
	for i, a := range atoms {
		places, _ := orbit.Of(g, a.At)
		stars[i] = star{a.Weight, a.Odd, places}
	}
	return stars, api.OK
}

// checkAtoms goes on behind an atom at fault: a later one may have an error of a lesser number.
func checkAtoms(atoms []api.Atom) api.Errno {
	e := api.OK
	if len(atoms) > api.MaxAtoms {
		e = api.ErrLong
	}
	for _, a := range atoms {
		e = errno.Least(e, checkWeights(a), checkPlace(a.At))
		if a.At.M != atoms[0].At.M {
			e = errno.Least(e, api.ErrUnlike)
		}
	}
	return e
}

func checkWeights(a api.Atom) api.Errno {
	for _, n := range [2]int{a.Weight, a.Odd} {
		if n < -api.MaxWeight || n > api.MaxWeight {
			return api.ErrArg
		}
	}
	return api.OK
}

func checkPlace(p api.Point) api.Errno {
	if !frac.Form(p) {
		return api.ErrForm
	}
	return api.OK
}

// fineness answers the M in which the places of the atoms are told.
func fineness(atoms []api.Atom) int {
	if len(atoms) == 0 {
		return api.Parts
	}
	return atoms[0].At.M
}

// phase answers h . X of a place in form, modulo its M.
func phase(h api.Vec, p api.Point) int {
	return plain.Residue(h[0]*p.X[0]+h[1]*p.X[1]+h[2]*p.X[2], p.M)
}

// circle answers the complex numbers nearest to the points at all m-ths of a turn.
func circle(m int) []complex128 {
	list := make([]complex128, m)
	for j := range list {
		list[j], _ = turn.Of(j, m)
	}
	return list
}

// gathered answers the number in which each M-th part of a turn stands as often as counts tells. A third of the powers has the shape of a number of the ring already; the other two thirds have it, turned.
func gathered(counts []int) api.Ring {
	m := len(counts)
	third := m / 3
	first := api.Ring{M: m, C: counts[:third]}
	second := api.Ring{M: m, C: counts[third : 2*third]}
	last := api.Ring{M: m, C: counts[2*third:]}
	return sum(m, first, turned(second, third), turned(last, 2*third))
}

// turned answers r turned by j M-ths. Waves of so few atoms stay far within MaxRing.
func turned(r api.Ring, j int) api.Ring {
	root, _ := ring.Root(j, r.M)
	r, _ = ring.Mul(root, r)
	return r
}

// sum answers the sum of numbers of the ring of m, which here stays far within MaxRing.
func sum(m int, list ...api.Ring) api.Ring {
	total, _ := ring.Int(0, m)
	for _, r := range list {
		total, _ = ring.Add(total, r)
	}
	return total
}

package reduce

import (
	"facet/api"
	"facet/plain"
	"facet/vec"
)

// pair is two of the four edges: a, b, c and d by the numbers 0 to 3.
type pair struct{ u, v int }

// obtuse makes steps till there is none to make.
//
// No number wraps round on the way. The four squares' sum is at most 12 * MaxMetric at first and falls with each step, so that no product of two edges is ever beyond that; and a vector of such a length has no part beyond 10^9, since the determinant is at least 1.
func obtuse(m api.Metric) (api.Metric, api.Mat, int) {
	all := vec.Identity()
	for count := 0; ; count++ {
		behind, p, made := step(m)
		if !made {
			return m, all, count
		}
		m, all = behind, plain.Mul(all, p)
	}
}

// step asks nothing of m's entries: what steps have made may pass MaxMetric.
func step(m api.Metric) (api.Metric, api.Mat, bool) {
	sharp, found := firstSharp(m)
	if !found {
		return m, vec.Identity(), false
	}
	p := sharp.turn()
	return plain.Turned(m, p), p, true
}

// firstSharp answers the first pair of edges whose product is above 0.
func firstSharp(m api.Metric) (pair, bool) {
	edges := [4]api.Vec{{1, 0, 0}, {0, 1, 0}, {0, 0, 1}, {-1, -1, -1}}
	for _, two := range [6]pair{{1, 2}, {0, 2}, {0, 1}, {0, 3}, {1, 3}, {2, 3}} {
		if plain.Dot(m, edges[two.u], edges[two.v]) > 0 {
			return two, true
		}
	}
	return pair{}, false
}

// turn answers the matrix of the step that a sharp pair asks for. Only what the new edges have of u is new: row u.
func (two pair) turn() api.Mat {
	p := vec.Identity()
	for j := range p[two.u] {
		if j != two.v {
			p[two.u][j] = 1
		}
	}
	p[two.u][two.u] = -1
	return p
}

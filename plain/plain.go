// Package plain holds what several layers need of numbers, matrices, metrics and indices and no layer lists: products beyond the bounds that layer 1 asks for, the ranges of metrics and indices, and the counts of parts in which places and turns are told. Products of matrices, rows and metrics ask nothing: who calls sees to it that nothing wraps round.
package plain

import (
	"cmp"
	"math/bits"

	"facet/api"
)

// IsFineness tells whether m is one of the four counts of parts in which places and turns are told.
func IsFineness(m int) bool {
	return m == 24 || m == 48 || m == 96 || m == 192
}

// Residue answers n modulo m, m above 0, from 0 to m-1 also where n is below 0.
func Residue(n, m int) int {
	n %= m
	if n < 0 {
		n += m
	}
	return n
}

// CompareProducts answers -1, 0 or 1 as a*b is less than c*d, equal to it, or greater. The products stand in two words each: one would not do for numbers of any size.
func CompareProducts(a, b, c, d uint64) int {
	high, low := bits.Mul64(a, b)
	otherHigh, otherLow := bits.Mul64(c, d)
	if high != otherHigh {
		return cmp.Compare(high, otherHigh)
	}
	return cmp.Compare(low, otherLow)
}

// Row answers the row v m.
func Row(v api.Vec, m api.Mat) api.Vec {
	var row api.Vec
	for k, line := range m {
		for j, entry := range line {
			row[j] += v[k] * entry
		}
	}
	return row
}

// Opposite answers -h.
func Opposite(h api.Vec) api.Vec {
	return api.Vec{-h[0], -h[1], -h[2]}
}

// Mul answers the product a b.
func Mul(a, b api.Mat) api.Mat {
	var p api.Mat
	for i := range a {
		p[i] = Row(a[i], b)
	}
	return p
}

// Dot answers the product of the vectors u and v, which are told by the edges of m.
func Dot(m api.Metric, u, v api.Vec) int {
	return u[0]*(m.AA*v[0]+m.AB*v[1]+m.AC*v[2]) + u[1]*(m.AB*v[0]+m.BB*v[1]+m.BC*v[2]) + u[2]*(m.AC*v[0]+m.BC*v[1]+m.CC*v[2])
}

// Turned answers the metric of the edges that are the columns of p, told by those of m.
func Turned(m api.Metric, p api.Mat) api.Metric {
	a, b, c := column(p, 0), column(p, 1), column(p, 2)
	return api.Metric{
		AA: Dot(m, a, a), BB: Dot(m, b, b), CC: Dot(m, c, c),
		BC: Dot(m, b, c), AC: Dot(m, a, c), AB: Dot(m, a, b),
	}
}

// Adjugate answers the matrix that m's matrix multiplies to its determinant times the identity: it is the same across as well, and so may be told as a metric is.
func Adjugate(m api.Metric) api.Metric {
	return api.Metric{
		AA: m.BB*m.CC - m.BC*m.BC, BB: m.AA*m.CC - m.AC*m.AC, CC: m.AA*m.BB - m.AB*m.AB,
		BC: m.AC*m.AB - m.AA*m.BC, AC: m.AB*m.BC - m.BB*m.AC, AB: m.AC*m.BC - m.CC*m.AB,
	}
}

func column(p api.Mat, j int) api.Vec {
	return api.Vec{p[0][j], p[1][j], p[2][j]}
}

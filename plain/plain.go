// Package plain holds what several layers need of matrices and metrics and no layer lists: products beyond the bounds that layer 1 asks for, and the range of a metric's entries. Products ask nothing: who calls sees to it that nothing wraps round.
package plain

import "facet/api"

// Row answers the row v m.
func Row(v api.Vec, m api.Mat) api.Vec {
	var row api.Vec
	for k, line := range m {
		for j, entry := range line {
			row[j] += v[k] * entry
		}
	}
	return row
}

// Mul answers the product a b.
func Mul(a, b api.Mat) api.Mat {
	var p api.Mat
	for i := range a {
		p[i] = Row(a[i], b)
	}
	return p
}

// Matrix answers the products of a metric's edges as a matrix.
func Matrix(m api.Metric) api.Mat {
	return api.Mat{{m.AA, m.AB, m.AC}, {m.AB, m.BB, m.BC}, {m.AC, m.BC, m.CC}}
}

// Dot answers the product of the vectors u and v, which are told by the edges of m.
func Dot(m api.Metric, u, v api.Vec) int {
	row := Row(u, Matrix(m))
	return row[0]*v[0] + row[1]*v[1] + row[2]*v[2]
}

// Turned answers the metric of the edges that are the columns of p, told by those of m.
func Turned(m api.Metric, p api.Mat) api.Metric {
	a, b, c := column(p, 0), column(p, 1), column(p, 2)
	return api.Metric{
		AA: Dot(m, a, a), BB: Dot(m, b, b), CC: Dot(m, c, c),
		BC: Dot(m, b, c), AC: Dot(m, a, c), AB: Dot(m, a, b),
	}
}

// CheckEntries answers ErrArg if an entry of m lies outside its range.
func CheckEntries(m api.Metric) api.Errno {
	for _, square := range [3]int{m.AA, m.BB, m.CC} {
		if square < 1 || square > api.MaxMetric {
			return api.ErrArg
		}
	}
	for _, n := range [3]int{m.BC, m.AC, m.AB} {
		if n < -api.MaxMetric || n > api.MaxMetric {
			return api.ErrArg
		}
	}
	return api.OK
}

func column(p api.Mat, j int) api.Vec {
	return api.Vec{p[0][j], p[1][j], p[2][j]}
}

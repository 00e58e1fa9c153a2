package plain

import "facet/api"

// CheckEntries answers ErrArg if an entry of m lies outside its range.
func CheckEntries(m api.Metric) api.Errno {
	for _, square := range [3]int{m.AA, m.BB, m.CC} {
		if square < 1 || square > api.MaxMetric {
			return api.ErrArg
		}
	}
	for _, n := range [3]int{m.BC, m.AC, m.AB} {
		if n < -api.MaxMetric || n > api.MaxMetric {
			return api.ErrArg
		}
	}
	return api.OK
}

// CheckIndex answers ErrArg if a part of the index h lies beyond MaxIndex.
func CheckIndex(h api.Vec) api.Errno {
	for _, part := range h {
		if part < -api.MaxIndex || part > api.MaxIndex {
			return api.ErrArg
		}
	}
	return api.OK
}

// CheckIndices answers ErrArg if a part of any index of the list lies beyond MaxIndex, else ErrLong if the list is too long.
func CheckIndices(list []api.Vec) api.Errno {
	for _, h := range list {
		if e := CheckIndex(h); e != api.OK {
			return e
		}
	}
	if len(list) > api.MaxWaves {
		return api.ErrLong
	}
	return api.OK
}

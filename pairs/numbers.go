package pairs

import (
	"slices"

	"facet/api"
	"facet/cplx"
	"facet/hkl"
	"facet/plain"
)

// numbers has the waves' numbers by their indices.
type numbers map[api.Vec]complex128

// collected answers the numbers of the list, or what is wrong with it.
func collected(list []api.Wave) (numbers, api.Errno) {
	indices := make([]api.Vec, len(list))
	for i, w := range list {
		indices[i] = w.H
	}
	if e := plain.CheckIndices(indices); e != api.OK {
		return nil, e
	}
	all := make(numbers, len(list))
	for _, w := range list {
		all[w.H] = w.F
	}
	if len(all) < len(list) {
		return nil, api.ErrExists
	}
	return all, api.OK
}

// lay puts the wave there, then its opposite, each where its index has none yet. (The opposite of the index 0 is that index.)
func (laid numbers) lay(w api.Wave) {
	for _, v := range [2]api.Wave{w, opposite(w)} {
		if _, isLaid := laid[v.H]; !isLaid {
			laid[v.H] = v.F
		}
	}
}

// waves answers them all, in order.
func (laid numbers) waves() []api.Wave {
	list := make([]api.Wave, 0, len(laid))
	for h, f := range laid {
		list = append(list, api.Wave{H: h, F: f})
	}
	return inOrder(list)
}

// checkTurned answers ErrArg if one of the matrices turns an index of the list into one that could not be handed in.
func checkTurned(matrices []api.Mat, list []api.Wave) api.Errno {
	for _, w := range list {
		for _, r := range matrices {
			if e := plain.CheckIndex(plain.Row(w.H, r)); e != api.OK {
				return e
			}
		}
	}
	return api.OK
}

// opposite answers the wave of a real density at the opposite index.
func opposite(w api.Wave) api.Wave {
	return api.Wave{H: plain.Opposite(w.H), F: cplx.Conj(w.F)}
}

// inOrder sorts the list, which it takes over.
func inOrder(list []api.Wave) []api.Wave {
	slices.SortFunc(list, func(a, b api.Wave) int { return hkl.Compare(a.H, b.H) })
	return list
}

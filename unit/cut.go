package unit

import (
	"slices"

	"facet/api"
)

// orbits is a grid's places, cut into orbits: the first place of each and the count of its places; and for each place the number of its orbit.
type orbits struct {
	firsts []api.Vec
	counts []int
	owner  []int
}

// nobody stands for the number of an orbit till it is known.
const nobody = -1

// cut answers the orbits of a group on the grid with the sides n; list is the group's maps as steps.
func cut(list []step, n api.Vec) orbits {
	found := orbits{owner: slices.Repeat([]int{nobody}, places(n))}
	each(n, func(at api.Vec) {
		// An earlier place of the same orbit would have claimed this one.
		if found.owner[number(n, at)] == nobody {
			found.claim(list, n, at)
		}
	})
	return found
}

// claim adds the orbit whose first place is at.
func (found *orbits) claim(list []step, n, at api.Vec) {
	mine, count := len(found.firsts), 0
	for i := range list {
		to := number(n, list[i].send(at))
		if found.owner[to] == nobody {
			found.owner[to] = mine
			count++
		}
	}
	found.firsts = append(found.firsts, at)
	found.counts = append(found.counts, count)
}

// each hands all places of the grid with the sides n to do, one by one, in order.
func each(n api.Vec, do func(at api.Vec)) {
	for x := range n[0] {
		for y := range n[1] {
			for z := range n[2] {
				do(api.Vec{x, y, z})
			}
		}
	}
}

// places answers how many places the grid with the sides n has.
func places(n api.Vec) int {
	return n[0] * n[1] * n[2]
}

// number answers where the place at stands in the order of the grid's places.
func number(n, at api.Vec) int {
	return (at[0]*n[1]+at[1])*n[2] + at[2]
}

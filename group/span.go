package group

import (
	"facet/api"
	"facet/op"
)

// span is a group that grows: its maps as they were found, the identity first, and the few that generate all of them.
type span struct {
	maps   []api.Op
	has    map[api.Op]struct{}
	makers []api.Op
}

func newSpan() *span {
	s := &span{has: map[api.Op]struct{}{}}
	s.add(op.One())
	return s
}

func (s *span) add(o api.Op) {
	s.has[o] = struct{}{}
	s.maps = append(s.maps, o)
}

// take grows the span to the least group that has o too. It answers false if that has too many maps or one that is not in form.
//
// What the span was stays its first part, and it grows by cosets of that part, each of which begins with its own first map; so only these must be multiplied by the makers: where a maker sends the first of a coset, it sends the whole coset.
func (s *span) take(o api.Op) bool {
	if _, there := s.has[o]; there {
		return true
	}
	s.makers = append(s.makers, o)
	part := len(s.maps)
	for first := 0; first < len(s.maps); first += part {
		for _, m := range s.makers {
			if !s.takeCoset(m, s.maps[first], part) {
				return false
			}
		}
	}
	return true
}

// takeCoset adds the coset of m behind b, unless it is there: each map of the first part, then b, then m.
func (s *span) takeCoset(m, b api.Op, part int) bool {
	first, e := op.Mul(m, b)
	if e != api.OK {
		return false
	}
	if _, there := s.has[first]; there {
		return true
	}
	// A coset has no map in common with another, so all of it would be new.
	if len(s.maps)+part > api.MaxOps {
		return false
	}
	for _, a := range s.maps[:part] {
		o, e := op.Mul(first, a)
		if e != api.OK {
			return false
		}
		s.add(o)
	}
	return true
}

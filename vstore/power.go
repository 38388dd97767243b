package vstore

import (
	"slices"

	"linnet/api"
	"linnet/path"
)

// How the power is.
const (
	powerOn   = iota
	powerSome // for some acts yet
	powerOff
)

// begin is what each act asks first: the power, and paths that are ones.
func (s *Store) begin(paths ...string) api.Errno {
	if s == nil {
		return api.ErrOff
	}
	s.ops++
	s.spend()
	if s.power == powerOff {
		return api.ErrOff
	}
	for _, p := range paths {
		if !path.Valid(p) {
			return api.ErrArg
		}
	}
	return api.OK
}

// spend counts an act against the Cut.
func (s *Store) spend() {
	switch {
	case s.power != powerSome:
	case s.left == 0:
		s.power = powerOff
	default:
		s.left--
	}
}

// Cut takes the power away, later.
func (s *Store) Cut(n int) {
	if s == nil || s.power == powerOff {
		return
	}
	s.power, s.left = powerSome, max(n, 0)
}

// Ops is how many acts.
func (s *Store) Ops() int {
	if s == nil {
		return 0
	}
	return s.ops
}

// Crash is what is left.
func (s *Store) Crash(picks ...int) *Store {
	if s == nil {
		return nil
	}
	left := &Store{room: s.room, clock: s.clock}
	pick, picks := next(picks)
	for _, e := range s.held(pick) {
		pick = 0
		if slices.Contains(e.node.loose, true) {
			pick, picks = next(picks)
		}
		left.names = append(left.names, entry{e.path, e.node.crashed(pick)})
	}
	left.kept = slices.Clone(left.names)
	return left
}

// next is the first pick, and those behind it.
func next(picks []int) (int, []int) {
	if len(picks) == 0 {
		return 0, nil
	}
	return picks[0], picks[1:]
}

// held is the names with as many of the acts that are not safe as the pick says.
func (s *Store) held(pick int) tree {
	n := len(s.acts) + 1
	p := pick % n
	if p < 0 {
		p += n
	}
	names := slices.Clone(s.kept)
	names.apply(s.acts[:p]...)
	return names
}

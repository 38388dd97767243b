package sched

const maxNext = 10000

// Next is who is visited.
func (s *Sched) Next(q int) []Visit {
	n := min(q, maxNext, s.Total())
	if n < 1 {
		return nil
	}
	told := make([]Visit, 0, n)
	at, block := s.behind(s.last)
round:
	for ; ; at = 0 {
		for ; at < len(s.rings); at, block = at+1, 0 {
			for r := s.rings[at]; block < r.blocks; block++ {
				told = append(told, Visit{r.path, block})
				if len(told) == n {
					break round
				}
			}
		}
	}
	s.last = told[n-1]
	return told
}

// Round is how long a ring is.
func Round(total, q int) int {
	if q < 1 || total < 0 {
		return 0
	}
	calls := total / q
	if total%q > 0 {
		calls++
	}
	return calls
}

// behind is the place of a ring, and the block in it, where those behind a visit begin; the visit's own path or block need not be there any more. The place is behind all rings if the visit has no path, since path.Less puts what is not Valid behind what is: so the first one of all is next.
func (s *Sched) behind(v Visit) (at, block int) {
	at, there := s.place(v.Path)
	if there {
		block = v.Block + 1
	}
	return at, block
}

package calls

import (
	"math"
	"slices"
)

// closed is the rank of those that can be on no round any more with what is still to be met.
const closed = math.MaxInt

// search goes along the calls, each call as deep as it leads, and finds who comes to itself.
// The calls that are gone through stand in a list: a chain may be longer than a stack can bear.
type search struct {
	calls web
	met   int
	rank  []int // by when each was met, from 1 on; 0: not yet
	low   []int // the least rank among those that are open to which each is known to come
	done  []int // how many of its calls were gone along
	path  []int // each is called by the one ahead
	open  []int // those that were met and are not closed, by their ranks
	first int   // the least number on a round
}

// firstRound tells the first procedure that comes to itself.
func (w web) firstRound() (int, bool) {
	s := &search{
		calls: w,
		rank:  make([]int, len(w)),
		low:   make([]int, len(w)),
		done:  make([]int, len(w)),
		first: len(w),
	}
	for i := range w {
		if s.rank[i] == 0 {
			s.from(i)
		}
	}
	return s.first, s.first < len(w)
}

func (s *search) from(start int) {
	s.meet(start)
	for len(s.path) > 0 {
		at := s.path[len(s.path)-1]
		if s.done[at] == len(s.calls[at]) {
			s.leave(at)
			continue
		}
		to := s.calls[at][s.done[at]]
		s.done[at]++
		if s.rank[to] == 0 {
			s.meet(to)
		} else {
			s.low[at] = min(s.low[at], s.rank[to])
		}
	}
}

func (s *search) meet(i int) {
	s.met++
	s.rank[i], s.low[i] = s.met, s.met
	s.path = append(s.path, i)
	s.open = append(s.open, i)
}

// leave goes back from the path's last one to the one that calls it.
func (s *search) leave(at int) {
	s.path = s.path[:len(s.path)-1]
	if last := len(s.path) - 1; last >= 0 {
		s.low[s.path[last]] = min(s.low[s.path[last]], s.low[at])
	}
	if s.low[at] == s.rank[at] {
		s.close(at)
	}
}

// close ends all that was met from at on: each of these comes to at and at to each, or at is alone.
func (s *search) close(at int) {
	from := len(s.open) - 1
	for s.open[from] != at {
		from--
	}
	round := s.open[from:len(s.open):len(s.open)]
	s.open = s.open[:from]
	for _, i := range round {
		s.rank[i] = closed
	}
	if len(round) > 1 || slices.Contains(s.calls[at], at) {
		s.first = min(s.first, slices.Min(round))
	}
}

package relax

import "gangway/api"

// section: a list under work.
type section struct {
	pieces []piece
	at     []int   // each piece's place, and one more: where the last one ends
	short  []*jump // the free jumps that are not long
	rounds int
}

// lay finds the least layout of a list that may be.
func lay(l []Item) (*section, api.Errno) {
	labels, e := labelsOf(l)
	if e != api.OK {
		return nil, e
	}
	s := &section{at: make([]int, len(l)+1)}
	for k, i := range l {
		s.add(pieceOf(k, i, labels))
	}
	if e := s.settle(); e != api.OK {
		return nil, e
	}
	return s, api.OK
}

func (s *section) add(p piece) {
	s.pieces = append(s.pieces, p)
	if j, ok := p.(*jump); ok {
		s.short = append(s.short, j)
	}
}

// settle goes on, round by round, until all short jumps reach.
func (s *section) settle() api.Errno {
rounds:
	for {
		s.rounds++
		s.findPlaces()
		if s.size() > api.MaxBytes {
			return api.ErrSize
		}
		for k, j := range s.short {
			if !s.reaches(&j.code) {
				s.lengthen(k)
				continue rounds
			}
		}
		return api.OK
	}
}

func (s *section) findPlaces() {
	at := 0
	for k, p := range s.pieces {
		s.at[k] = at
		at += room(p, at)
	}
	s.at[len(s.pieces)] = at
}

func (s *section) size() int { return s.at[len(s.pieces)] }

// lengthen makes all jumps long, from the k-th short one on, that do not reach by this round's places.
func (s *section) lengthen(k int) {
	reaching := s.short[:k]
	for _, j := range s.short[k:] {
		if s.reaches(&j.code) {
			reaching = append(reaching, j)
		} else {
			j.lengthen()
		}
	}
	s.short = reaching
}

// reaches: of code with a near Target.
func (s *section) reaches(c *code) bool {
	way := s.at[c.goal] - s.at[c.item+1]
	return way >= -128 && way <= 127
}

// checkBound looks at the jumps that may not become long, ahead of all bytes: no other error comes ahead of theirs.
func (s *section) checkBound() api.Errno {
	for _, p := range s.pieces {
		c, ok := p.(*code)
		if !ok || !c.bound {
			continue
		}
		if c.goal == none {
			return api.ErrLabel
		}
		if !s.reaches(c) {
			return api.ErrOverflow
		}
	}
	return api.OK
}

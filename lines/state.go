package lines

import (
	"bytes"

	"gangway/api"
	"gangway/leb"
)

// maxState: how far an At and a Line may go, told or not.
const maxState = 1 << 62

// event is one thing that is told: a row, or that the sequence ends: where it starts, and its size.
type event struct {
	row         Row
	ends        bool
	start, size int
}

// state is the state machine: the commands that it does, the row that it would tell, and what it told.
type state struct {
	b     []byte
	at    int
	row   Row
	start int
	rows  int // told in this sequence
	seqs  int // ended
	ended bool
	told  chan event
}

// newState has a channel with room for all that may be told: no command tells more than one thing, and a program that may be has no more than its limits.
func newState(b []byte) *state {
	room := min(len(b), maxSeqs*(api.MaxRows+1))
	return &state{b: b, ended: true, told: make(chan event, room)}
}

// seqsOf are the sequences that the commands tell, and whether they are right, up to the last sequence's end.
func seqsOf(b []byte) ([]Seq, bool) {
	s := newState(b)
	if !s.run() {
		return nil, false
	}
	return gathered(s.told), true
}

// run does all commands, as long as they are right, and answers whether the last one ended a sequence.
func (s *state) run() bool {
	numbered := commands()
sequences:
	for s.at < len(s.b) {
		if !s.begin() {
			break sequences
		}
		for !s.ended {
			if s.at == len(s.b) || !s.do(numbered) {
				break sequences
			}
		}
	}
	close(s.told)
	return s.ended
}

// begin answers whether there may be one more sequence: rows of another one would find no room.
func (s *state) begin() bool {
	s.row, s.start, s.rows, s.ended = firstRow(), 0, 0, false
	return s.seqs < maxSeqs
}

// gathered makes sequences of all that was told: rows belong to the end behind them.
func gathered(told <-chan event) []Seq {
	var l []Seq
	var rows []Row
	for {
		select {
		case x, more := <-told:
			switch {
			case !more:
				return l
			case x.ends:
				l = append(l, Seq{Start: x.start, Size: x.size, Rows: rows})
				rows = nil
			default:
				rows = append(rows, x.row)
			}
		}
	}
}

// commands are what the numbers below special do. Each answers whether it is whole, and may stand there.
func commands() [special]func(*state) bool {
	return [special]func(*state) bool{
		extended:    (*state).extended,
		tellRow:     (*state).tellRow,
		advance:     (*state).advance,
		advanceLine: (*state).advanceLine,
		setFile:     (*state).setFile,
		setColumn:   (*state).setColumn,
		6:           (*state).none,
		7:           (*state).none,
		advanceMost: (*state).advanceMost,
		9:           (*state).none,
		10:          (*state).none,
		11:          (*state).none,
		12:          (*state).none,
	}
}

// do does the next command.
func (s *state) do(numbered [special]func(*state) bool) bool {
	c := int(s.b[s.at])
	s.at++
	if c < special {
		return numbered[c](s)
	}
	c -= special
	return s.moveAt(c/lineRange) && s.moveLine(c%lineRange+lineBase) && s.tellRow()
}

func (s *state) none() bool { return false }

func (s *state) tellRow() bool {
	if s.rows == api.MaxRows {
		return false
	}
	s.rows++
	s.told <- event{row: s.row}
	return true
}

func (s *state) advance() bool {
	n, ok := s.uleb()
	return ok && n >= 0 && s.moveAt(n)
}

func (s *state) advanceMost() bool { return s.moveAt(mostAdvance) }

func (s *state) advanceLine() bool {
	n, end, e := leb.ReadSleb(s.b, s.at)
	s.at = end
	return e == api.OK && s.moveLine(n)
}

func (s *state) setFile() (ok bool) {
	s.row.File, ok = s.uleb()
	return ok
}

func (s *state) setColumn() (ok bool) {
	s.row.Column, ok = s.uleb()
	return ok
}

func (s *state) extended() bool {
	command := s.b[s.at-1:]
	switch {
	case bytes.HasPrefix(command, []byte(endsHere)):
		s.at += len(endsHere) - 1
		return s.end()
	case bytes.HasPrefix(command, []byte(beginsAt)):
		s.at += len(beginsAt) - 1
		return s.setStart()
	}
	return false
}

func (s *state) end() bool {
	s.seqs++
	s.ended = true
	s.told <- event{ends: true, start: s.start, size: s.row.At}
	return true
}

// setStart: another one may follow, as long as nothing was told.
func (s *state) setStart() bool {
	start, e := leb.Get(s.b, s.at, addressSize, false)
	s.at += addressSize
	s.start = start
	return e == api.OK && s.rows == 0 && s.row.At == 0
}

func (s *state) moveAt(n int) (ok bool) {
	s.row.At, ok = moved(s.row.At, n)
	return ok
}

func (s *state) moveLine(n int) (ok bool) {
	s.row.Line, ok = moved(s.row.Line, n)
	return ok
}

func moved(from, by int) (int, bool) {
	n, e := leb.Add(from, by)
	return n, e == api.OK && isWithin(n, 0, maxState)
}

// uleb: a number of 2^63 and above comes as one below 0, which no row may have.
func (s *state) uleb() (int, bool) {
	n, end, e := leb.ReadUleb(s.b, s.at)
	s.at = end
	return n, e == api.OK
}

package lines_test

import (
	"bytes"
	"math/big"
	"math/rand/v2"
	"strings"

	"gangway/api"
	"gangway/lines"
)

// The model: bytes taken off the front one by one, numbers without limits, every rule asked for itself.

func modelUleb(n uint64) []byte {
	b := []byte{byte(n % 128)}
	for n /= 128; n > 0; n /= 128 {
		b[len(b)-1] += 128
		b = append(b, byte(n%128))
	}
	return b
}

func modelSleb(n int) []byte {
	var b []byte
	for {
		low := ((n % 128) + 128) % 128
		n = (n - low) / 128
		if n == 0 && low < 64 || n == -1 && low >= 64 {
			return append(b, byte(low))
		}
		b = append(b, byte(low+128))
	}
}

func modelCheck(p lines.Program) bool {
	right := len(p.Files) <= mostFiles && len(p.Seqs) <= mostSeqs
	for _, f := range p.Files {
		right = right && len(f) >= 1 && len(f) <= 255 && !strings.Contains(f, "\x00")
	}
	for _, s := range p.Seqs {
		right = right && s.Start >= 0 && s.Start <= mostStart && s.Size >= 0 && s.Size <= 1<<20
		right = right && len(s.Rows) >= 1 && len(s.Rows) <= mostRows
		for k, r := range s.Rows {
			right = right && r.At >= 0 && r.At <= s.Size && (k == 0 || s.Rows[k-1].At <= r.At)
			right = right && r.File >= 1 && r.File <= len(p.Files)
			right = right && r.Line >= 0 && r.Line <= mostLine && r.Column >= 0 && r.Column <= mostColumn
		}
	}
	return right
}

// modelRow is a row behind another one.
func modelRow(from, to lines.Row) []byte {
	var b []byte
	if to.File != from.File {
		b = join(b, []byte{4}, modelUleb(uint64(to.File)))
	}
	if to.Column != from.Column {
		b = join(b, []byte{5}, modelUleb(uint64(to.Column)))
	}
	a, l := to.At-from.At, to.Line-from.Line
	if l < -5 || l > 8 {
		b = join(b, []byte{3}, modelSleb(l))
		l = 0
	}
	if l+5+14*a+13 > 255 {
		if a >= 17 && l+5+14*(a-17)+13 <= 255 {
			b = append(b, 8)
			a -= 17
		} else {
			b = join(b, []byte{2}, modelUleb(uint64(a)))
			a = 0
		}
	}
	return append(b, byte(l+5+14*a+13))
}

func modelWrite(p lines.Program) ([]byte, []int, api.Errno) {
	if !modelCheck(p) {
		return nil, nil, api.ErrLine
	}
	var b []byte
	ahead := len(unit(p.Files, nil))
	var at []int
	for _, s := range p.Seqs {
		at = append(at, ahead+len(b)+3)
		b = append(b, begin(s.Start)...)
		last := row(0, 1, 1, 0)
		for _, r := range s.Rows {
			b = append(b, modelRow(last, r)...)
			last = r
		}
		if s.Size != last.At {
			b = append(append(b, 2), modelUleb(uint64(s.Size-last.At))...)
		}
		b = append(b, 0, 1, 1)
	}
	b = unit(p.Files, b)
	if len(b) > 1<<20 {
		return nil, nil, api.ErrSize
	}
	return b, at, api.OK
}

// bytesLeft are taken off the front. It is short once there were too few.
type bytesLeft struct {
	b     []byte
	short bool
}

func (l *bytesLeft) take(n int) []byte {
	if n > len(l.b) {
		l.short = true
		return make([]byte, n)
	}
	taken := l.b[:n]
	l.b = l.b[n:]
	return taken
}

func (l *bytesLeft) is(want ...byte) bool { return bytes.Equal(l.take(len(want)), want) }

func (l *bytesLeft) number(size int) *big.Int {
	n := new(big.Int)
	for k, x := range l.take(size) {
		n.Add(n, new(big.Int).Lsh(big.NewInt(int64(x)), uint(8*k)))
	}
	return n
}

// leb is a number in groups of seven bits; one of more than ten bytes, or that does not fit into 64 bits, is none.
func (l *bytesLeft) leb(signed bool) *big.Int {
	n := new(big.Int)
	for k := 0; k < 10; k++ {
		x := int64(l.take(1)[0])
		n.Add(n, new(big.Int).Lsh(big.NewInt(x%128), uint(7*k)))
		if x >= 128 {
			continue
		}
		if signed && x >= 64 {
			n.Sub(n, new(big.Int).Lsh(big.NewInt(1), uint(7*k+7)))
		}
		if signed && !n.IsInt64() || !signed && !n.IsUint64() {
			l.short = true
		}
		return n
	}
	l.short = true
	return n
}

// modelFiles is the first part.
func modelFiles(l *bytesLeft) ([]string, bool) {
	length := l.number(4).Int64()
	right := length == int64(len(l.b)) && l.is(5, 0, 8, 0)
	length = l.number(4).Int64()
	before := len(l.b)
	right = right && l.is(1, 1, 1, 251, 14, 13) && l.is(0, 1, 1, 1, 1, 0, 0, 0, 1, 0, 0, 1) && l.is(1, 1, 8, 1, 0, 1, 1, 8)
	room := len(l.b)
	count := l.leb(false)
	if !right || l.short || count.Cmp(big.NewInt(mostFiles)) > 0 || room-len(l.b) != len(modelUleb(count.Uint64())) {
		return nil, false
	}
	var files []string
	for range count.Int64() {
		name := ""
		for x := l.take(1)[0]; x != 0; x = l.take(1)[0] {
			name += string([]byte{x})
		}
		files = append(files, name)
	}
	return files, !l.short && length == int64(before-len(l.b))
}

// modelState has numbers without limits.
type modelState struct {
	at, file, line, column, start *big.Int
	rows                          []lines.Row
}

func newModelState() *modelState {
	return &modelState{at: big.NewInt(0), file: big.NewInt(1), line: big.NewInt(1), column: big.NewInt(0), start: big.NewInt(0)}
}

// int is a number as a program has it; -1 stands for all that are no ints.
func asInt(n *big.Int) int {
	if !n.IsInt64() {
		return -1
	}
	return int(n.Int64())
}

func (s *modelState) move(at, line *big.Int) bool {
	s.at = new(big.Int).Add(s.at, at)
	s.line = new(big.Int).Add(s.line, line)
	most := new(big.Int).Lsh(big.NewInt(1), 62)
	return s.at.Cmp(most) <= 0 && s.line.Sign() >= 0 && s.line.Cmp(most) <= 0
}

func (s *modelState) tell() {
	s.rows = append(s.rows, row(asInt(s.at), asInt(s.file), asInt(s.line), asInt(s.column)))
}

// command does one; ends: a sequence ended by it.
func (s *modelState) command(l *bytesLeft) (right, ends bool) {
	right = true
	none := big.NewInt(0)
	switch c := int64(l.take(1)[0]); c {
	case 0:
		switch string(l.take(2)) {
		case "\x01\x01":
			ends = true
		case "\x09\x02":
			s.start = l.number(8)
			right = len(s.rows) == 0 && s.at.Sign() == 0
		default:
			right = false
		}
	case 1:
		s.tell()
	case 2:
		right = s.move(l.leb(false), none)
	case 3:
		right = s.move(none, l.leb(true))
	case 4:
		s.file = l.leb(false)
	case 5:
		s.column = l.leb(false)
	case 8:
		right = s.move(big.NewInt(17), none)
	case 6, 7, 9, 10, 11, 12:
		right = false
	default:
		right = s.move(big.NewInt((c-13)/14), big.NewInt((c-13)%14-5))
		s.tell()
	}
	return right && !l.short, ends
}

func modelRead(b []byte) (lines.Program, api.Errno) {
	if len(b) > 1<<20 {
		return lines.Program{}, api.ErrSize
	}
	l := &bytesLeft{b: b}
	files, right := modelFiles(l)
	p := lines.Program{Files: files}
	s := newModelState()
	whole := true
	for right && len(l.b) > 0 {
		whole = false
		var ends bool
		right, ends = s.command(l)
		if right && ends {
			p.Seqs = append(p.Seqs, seq(asInt(s.start), asInt(s.at), s.rows...))
			s, whole = newModelState(), true
		}
	}
	if !right || !whole || !modelCheck(p) {
		return lines.Program{}, api.ErrLine
	}
	return p, api.OK
}

func modelFind(l []lines.Program, addr int) (file string, found lines.Row, ok bool) {
	for _, p := range l {
		for _, s := range p.Seqs {
			away := new(big.Int).Sub(big.NewInt(int64(addr)), big.NewInt(int64(s.Start)))
			if away.Sign() < 0 || away.Cmp(big.NewInt(int64(s.Size))) >= 0 {
				continue
			}
			for _, r := range s.Rows {
				if big.NewInt(int64(r.At)).Cmp(away) > 0 {
					continue
				}
				file, found, ok = "", r, true
				for k, name := range p.Files {
					if k+1 == r.File {
						file = name
					}
				}
			}
			if ok {
				return file, found, true
			}
		}
	}
	return "", lines.Row{}, false
}

// anyProgram is one that may be, with numbers near the edges.
func anyProgram(random *rand.Rand) lines.Program {
	p := lines.Program{Files: names(pick(random, []int{0, 1, 1, 2, 3, 127, 128, 255}))}
	for k := range p.Files {
		if random.IntN(20) == 0 {
			p.Files[k] = strings.Repeat("x", pick(random, []int{1, 2, 254, 255}))
		}
	}
	if len(p.Files) == 0 {
		return p
	}
	for range random.IntN(5) {
		p.Seqs = append(p.Seqs, anySeq(random, len(p.Files)))
	}
	return p
}

func anySeq(random *rand.Rand, files int) lines.Seq {
	s := seq(pick(random, []int{0, 1, 4096, 1 << 32, mostStart - 1, mostStart}), 0)
	last := row(0, 1, 1, 0)
	for range 1 + random.IntN(12) {
		last.At += pick(random, []int{0, 0, 1, 2, 15, 16, 17, 18, 33, 34, 35, random.IntN(40), 127, 128, 20000})
		if random.IntN(3) == 0 {
			last.File = 1 + random.IntN(files)
		}
		last.Line += random.IntN(24) - 10
		if random.IntN(6) == 0 {
			last.Line = pick(random, []int{0, 1, 64, 65, 66, mostLine - 1, mostLine})
		}
		last.Line = min(max(last.Line, 0), mostLine)
		if random.IntN(3) == 0 {
			last.Column = pick(random, []int{0, 1, 127, 128, mostColumn})
		}
		s.Rows = append(s.Rows, last)
	}
	s.Size = last.At + pick(random, []int{0, 1, 127, 128, 1<<20 - last.At})
	return s
}

// anyNumber has groups of seven bits, padded or not, at times too many, or not ended.
func anyNumber(random *rand.Rand) []byte {
	b := modelUleb(pick(random, []uint64{0, 1, 2, 3, 5, 17, 63, 64, 127, 128, 65535, 65536, 1 << 20, 1<<20 + 1, 1<<31 - 1, 1 << 31, 1 << 62, 1<<62 + 1, 1<<63 - 1, 1 << 63, 1<<64 - 5, 1<<64 - 1}))
	if random.IntN(3) > 0 {
		b = []byte{byte(1 + random.IntN(3))}
	}
	switch random.IntN(12) {
	case 0:
		b[len(b)-1] += 128
		b = append(b, bytes.Repeat([]byte{128}, random.IntN(9))...)
		b = append(b, pick(random, []byte{0, 0, 0, 1, 2, 127, 128}))
	case 1:
		return modelSleb(pick(random, []int{-1, -2, -5, -64, -65, -1 << 31, -1 << 62, -1 << 63}))
	}
	return b
}

// anyCommands are mostly right.
func anyCommands(random *rand.Rand) []byte {
	var b []byte
	for range random.IntN(12) {
		switch random.IntN(40) {
		case 0:
			b = join(b, begin(pick(random, []int{0, 1, 4096, mostStart, mostStart + 1, -1, -1 << 63})))
		case 1, 2:
			b = join(b, []byte{18}, end(), begin(pick(random, []int{0, 1, 4096, mostStart})))
		case 3:
			b = append(b, 0, 1, 1)
		case 4:
			b = append(b, pick(random, []byte{0, 6, 7, 9, 10, 11, 12}))
		case 5, 6, 7, 8, 9:
			b = join(b, []byte{pick(random, []byte{2, 3, 4, 5})}, anyNumber(random))
		case 10, 11, 12:
			b = append(b, pick(random, []byte{1, 8, 13, 254, 255}))
		default:
			b = append(b, byte(13+random.IntN(243)))
		}
	}
	return append(b, pick(random, [][]byte{{}, end(), end(), end()})...)
}

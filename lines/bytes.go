package lines

import (
	"bytes"

	"gangway/api"
	"gangway/leb"
)

// Commands, by their numbers. Those from special on tell a row.
const (
	extended    = 0
	tellRow     = 1
	advance     = 2
	advanceLine = 3
	setFile     = 4
	setColumn   = 5
	advanceMost = 8
	special     = 13
)

// Extended commands: all bytes of an end, those ahead of the address of a beginning.
const (
	endsHere = "\x00\x01\x01"
	beginsAt = "\x00\x09\x02"
)

const (
	lastSpecial = 255
	lineBase    = -5 // the least step of a line that a special command has
	lineRange   = 14 // how many such steps there are
	mostAdvance = (lastSpecial - special) / lineRange

	wordSize    = 4
	addressSize = 8
)

// What the first part always has: between its lengths, the version and the size of addresses; behind them, how commands are to be read, a directory without a name, and the form of files.
const (
	unitKind     = "\x05\x00\x08\x00"
	commandRules = "\x01\x01\x01\xfb\x0e\x0d" + "\x00\x01\x01\x01\x01\x00\x00\x00\x01\x00\x00\x01"
	directory    = "\x01\x01\x08\x01\x00"
	fileForm     = "\x01\x01\x08"

	always      = commandRules + directory + fileForm
	countsFiles = wordSize + len(unitKind) + wordSize + len(always) // the place of their number
)

// firstPart is what stands ahead of so many bytes of commands.
func firstPart(files []string, commands int) []byte {
	behind := append([]byte(always), leb.Uleb(len(files))...)
	for _, name := range files {
		behind = append(append(behind, name...), 0)
	}
	b := word(len(unitKind) + wordSize + len(behind) + commands)
	b = append(b, unitKind...)
	b = append(b, word(len(behind))...)
	return append(b, behind...)
}

func word(n int) []byte {
	b, _ := leb.Put(n, wordSize)
	return b
}

// filesOf are the files of a unit, and where its commands begin. The first part must be just what would be written.
func filesOf(b []byte) (files []string, end int, ok bool) {
	count, end, e := leb.ReadUleb(b, countsFiles)
	if e != api.OK || !isWithin(count, 0, maxFiles) {
		return nil, 0, false
	}
	for range count {
		name, behind, e := leb.Text(b, end)
		if e != api.OK {
			return nil, 0, false
		}
		files, end = append(files, name), behind
	}
	return files, end, bytes.Equal(b[:end], firstPart(files, len(b)-end))
}

// pieces are the bytes of units, one behind the other. Of one that is not whole it is all that is left, which can't be read.
func pieces(b []byte) [][]byte {
	var l [][]byte
	for len(b) > 0 {
		size := len(b)
		if length, e := leb.Get(b, 0, wordSize, false); e == api.OK {
			size = min(size, wordSize+length)
		}
		l = append(l, b[:size])
		b = b[size:]
	}
	return l
}

func appendSeq(b []byte, s Seq) []byte {
	start, _ := leb.Put(s.Start, addressSize)
	b = append(append(b, beginsAt...), start...)
	last := firstRow()
	for _, r := range s.Rows {
		b = appendRow(b, last, r)
		last = r
	}
	if rest := s.Size - last.At; rest != 0 {
		b = appendUleb(b, advance, rest)
	}
	return append(b, endsHere...)
}

// firstRow is the state that a sequence begins with.
func firstRow() Row { return Row{File: 1, Line: 1} }

// appendRow takes the state from one row to the next, and tells that.
func appendRow(b []byte, from, to Row) []byte {
	if to.File != from.File {
		b = appendUleb(b, setFile, to.File)
	}
	if to.Column != from.Column {
		b = appendUleb(b, setColumn, to.Column)
	}
	at, line := to.At-from.At, to.Line-from.Line
	if !isWithin(line, lineBase, lineBase+lineRange-1) {
		b = append(append(b, advanceLine), leb.Sleb(line)...)
		line = 0
	}
	switch {
	case specialOf(at, line) <= lastSpecial:
	case at >= mostAdvance && specialOf(at-mostAdvance, line) <= lastSpecial:
		b = append(b, advanceMost)
		at -= mostAdvance
	default:
		b = appendUleb(b, advance, at)
		at = 0
	}
	return append(b, byte(specialOf(at, line)))
}

func appendUleb(b []byte, command byte, n int) []byte {
	return append(append(b, command), leb.Uleb(n)...)
}

func specialOf(at, line int) int { return line - lineBase + lineRange*at + special }

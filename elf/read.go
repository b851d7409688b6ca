package elf

import (
	"gangway/api"
	"gangway/leb"
)

// reader: of bytes, one number behind the other. It gives up by a panic with an error's number.
type reader struct {
	b  []byte
	at int
}

// answered: what a reader answers, or the error's number that it gave up with.
func answered[T any](read func() T) (answer T, e api.Errno) {
	defer func() {
		if x := recover(); x != nil {
			var nothing T
			answer, e = nothing, x.(api.Errno)
		}
	}()
	return read(), api.OK
}

// insist: where this does not hold, the bytes are not what is read.
func insist(holds bool) {
	if !holds {
		panic(api.ErrElf)
	}
}

// times: so many things, read one behind the other.
func times[T any](count int, read func() T) []T {
	var l []T
	for range count {
		l = append(l, read())
	}
	return l
}

func (r *reader) number(size int) int {
	n, e := leb.Get(r.b, r.at, size, false)
	insist(e == api.OK)
	r.at += size
	return n
}

func (r *reader) half() int { return r.number(2) }

func (r *reader) word() int { return r.number(4) }

func (r *reader) long() int { return r.number(8) }

// piece: bytes that are still the argument's own.
func (r *reader) piece(at, size int) []byte {
	insist(within(at, 0, len(r.b)) && within(size, 0, len(r.b)-at))
	return r.b[at : at+size]
}

func (r *reader) rela() Rela { return Rela{At: r.long(), Type: r.long(), Add: r.long()} }

func (r *reader) entry() Entry { return Entry{Tag: r.long(), Value: r.long()} }

// relas: all, up to the end of the bytes.
func (r *reader) relas() []Rela {
	var l []Rela
	for r.at < len(r.b) {
		x := r.rela()
		insist(isRela(x))
		l = kept(l, x, api.MaxRelocs)
	}
	return few(l, api.MaxRelocs)
}

// entries: those ahead of the one that ends them.
func (r *reader) entries() []Entry {
	insist(len(r.b)%entrySize == 0)
	var l []Entry
	for x := r.entry(); x.Tag != 0; x = r.entry() {
		insist(isEntry(x))
		l = kept(l, x, maxEntries)
	}
	return few(l, maxEntries)
}

// kept: one more; but of too many no more than tell that. (All are read, since one that may not be is told first.)
func kept[T any](l []T, x T, most int) []T {
	if len(l) > most {
		return l
	}
	return append(l, x)
}

func few[T any](l []T, most int) []T {
	if len(l) > most {
		panic(api.ErrSize)
	}
	return l
}

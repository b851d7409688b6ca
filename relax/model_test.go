package relax_test

import (
	"math/rand/v2"
	"reflect"
	"slices"

	"gangway/api"
	"gangway/encode"
	"gangway/forms"
	"gangway/relax"
)

// The model: labels are looked for from the beginning each time, places are summed up anew for each, and a near operand is written as the one without a name that has the distance as its number.

// modelMayBe puts what the kind says into an item without anything, and holds it against the one that is there.
func modelMayBe(i relax.Item) bool {
	want := relax.Item{Kind: i.Kind}
	switch i.Kind {
	case relax.Code:
		want.Inst = i.Inst
	case relax.Raw:
		want.Data = i.Data
	case relax.Mark:
		want.Name = i.Name
	case relax.Align, relax.Space:
		want.N, want.Fill = i.N, i.Fill
	}
	if len(i.Data) == 0 {
		i.Data, want.Data = nil, nil
	}
	powers := []int{1, 2, 4, 8, 16, 32, 64, 128, 256, 512, 1024, 2048, 4096}
	right := map[int]bool{
		relax.Code:  true,
		relax.Raw:   true,
		relax.Mark:  len(i.Name) > 0,
		relax.Align: slices.Contains(powers, i.N),
		relax.Space: i.N >= 0 && i.N <= 1048576,
	}
	return right[i.Kind] && reflect.DeepEqual(i, want)
}

func modelCheck(l []relax.Item) api.Errno {
	arg, form, label := false, false, false
	for k, i := range l {
		arg = arg || !modelMayBe(i)
		form = form || i.Kind == relax.Code && forms.Check(i.Inst) != api.OK
		if len(l) <= 100 && i.Kind == relax.Mark {
			label = label || modelMark(l, i.Name) != k
		}
	}
	switch {
	case len(l) > mostItems:
		return api.ErrSize
	case arg:
		return api.ErrArg
	case form:
		return api.ErrForm
	case label:
		return api.ErrLabel
	}
	return api.OK
}

// modelMark is the place of a label's first Mark in the list, or -1.
func modelMark(l []relax.Item, name string) int {
	return slices.IndexFunc(l, func(i relax.Item) bool { return i.Kind == relax.Mark && i.Name == name })
}

func modelNear(l []relax.Item, o api.Operand) bool {
	return o.Name != "" && o.Mod == api.Plain && (o.Kind == api.Target || o.Kind == api.Mem && o.Rip) && modelMark(l, o.Name) >= 0
}

func modelIsJump(i relax.Item) bool {
	return i.Kind == relax.Code && (i.Inst.Op == api.Jmp || i.Inst.Op == api.Jcc)
}

func modelIsFree(l []relax.Item, k int) bool {
	to := l[k].Inst.To
	return modelIsJump(l[k]) && to.Kind == api.Target && modelNear(l, to) && !l[k].Inst.Short
}

// modelInst is the instruction as it is laid out.
func modelInst(l []relax.Item, k int, long []bool) api.Inst {
	i := l[k].Inst
	if modelIsFree(l, k) {
		i.Short = !long[k]
	}
	return i
}

func modelLength(l []relax.Item, k int, long []bool) int {
	i := modelInst(l, k, long)
	switch {
	case modelIsFree(l, k) && !long[k]:
		return 2
	case modelIsFree(l, k) && i.Op == api.Jmp:
		return 5
	case modelIsFree(l, k):
		return 6
	}
	n, _ := encode.Length(i)
	return n
}

// modelPlace is where the k-th item begins: its own bytes do not count.
func modelPlace(l []relax.Item, k int, long []bool) int {
	at := 0
	for n := range k {
		i := l[n]
		switch i.Kind {
		case relax.Code:
			at += modelLength(l, n, long)
		case relax.Raw:
			at += len(i.Data)
		case relax.Align:
			for at%i.N != 0 {
				at++
			}
		case relax.Space:
			at += i.N
		}
	}
	return at
}

func modelReaches(l []relax.Item, k int, long []bool) bool {
	way := modelPlace(l, modelMark(l, l[k].Inst.To.Name), long) - modelPlace(l, k+1, long)
	return -128 <= way && way <= 127
}

// modelRound is the jumps that are long behind a round.
func modelRound(l []relax.Item, long []bool) []bool {
	after := slices.Clone(long)
	for k := range l {
		after[k] = long[k] || modelIsFree(l, k) && !modelReaches(l, k, long)
	}
	return after
}

func modelLayout(l []relax.Item) (relax.Laid, api.Errno) {
	if e := modelCheck(l); e != api.OK {
		return relax.Laid{}, e
	}
	x := relax.Laid{Long: make([]bool, len(l))}
	for {
		x.Rounds++
		x.Size = modelPlace(l, len(l), x.Long)
		if x.Size > 1048576 {
			return relax.Laid{}, api.ErrSize
		}
		after := modelRound(l, x.Long)
		if slices.Equal(after, x.Long) {
			break
		}
		x.Long = after
	}
	for k := range l {
		x.At = append(x.At, modelPlace(l, k, x.Long))
	}
	return x, api.OK
}

// modelShort is the error of the first jump that is Short and may not be.
func modelShort(l []relax.Item, x relax.Laid) api.Errno {
	for k, i := range l {
		if !modelIsJump(i) || !i.Inst.Short || i.Inst.To.Name == "" {
			continue
		}
		if !modelNear(l, i.Inst.To) {
			return api.ErrLabel
		}
		if !modelReaches(l, k, x.Long) {
			return api.ErrOverflow
		}
	}
	return api.OK
}

// modelCode is an instruction's bytes: with the distance as a number, where it has a near operand.
func modelCode(l []relax.Item, k int, x relax.Laid) ([]byte, []api.Hole, api.Errno) {
	i := modelInst(l, k, x.Long)
	for _, o := range []*api.Operand{&i.To, &i.From} {
		if modelNear(l, *o) {
			o.N += modelPlace(l, modelMark(l, o.Name), x.Long) - modelPlace(l, k+1, x.Long)
			o.Name = ""
		}
	}
	b, holes, e := encode.Bytes(i)
	if e != api.OK {
		return nil, nil, api.ErrOverflow
	}
	return b, holes, api.OK
}

func modelBytes(l []relax.Item) (b []byte, relocs []api.Reloc, labels []relax.Label, e api.Errno) {
	x, e := modelLayout(l)
	if e == api.OK {
		e = modelShort(l, x)
	}
	if e != api.OK {
		return nil, nil, nil, e
	}
	for k, i := range l {
		at := modelPlace(l, k, x.Long)
		switch i.Kind {
		case relax.Code:
			c, holes, e := modelCode(l, k, x)
			if e != api.OK {
				return nil, nil, nil, e
			}
			b = append(b, c...)
			for _, h := range holes {
				relocs = append(relocs, api.Reloc{At: at + h.At, Type: h.Type, Symbol: h.Name, Add: h.Add})
			}
		case relax.Raw:
			b = append(b, i.Data...)
		case relax.Mark:
			labels = append(labels, relax.Label{Name: i.Name, At: at})
		case relax.Align, relax.Space:
			for len(b) < modelPlace(l, k+1, x.Long) {
				b = append(b, i.Fill)
			}
		}
	}
	return b, relocs, labels, api.OK
}

// anyNames are those that random items have: some of them labels.
func anyNames() []string { return []string{"a", "b", "c", "d", "e", "f", "g", "h"} }

// anyCode is an instruction that may be, with a name or without.
func anyCode(random *rand.Rand) relax.Item {
	name := pick(random, anyNames())
	return items(pick(random, []string{
		"nop", "ret", "movl $7, %eax", "movq 8(%rbp), %rax", "jmp .+5", "jne short .-3", "jmp *%rax", "call *(%rax)", "leaq 9(%rip), %rax",
		"call " + name, "call " + name + "@plt", "jmp " + name + "@plt", "jg " + name + "@plt", "jmp *" + name + "(%rip)", "call *" + name + "-4(%rip)",
		"leaq " + name + "(%rip), %rdi", "movl $5, " + name + "+8(%rip)", "addb $1, " + name + "-1(%rip)", "pushq " + name + "(%rip)",
		"movq " + name + "@gotpcrel(%rip), %rax", "movq " + name + "@gottpoff(%rip), %rax", "movq %fs:" + name + "@tpoff, %rax", "leaq " + name + "@dtpoff+4(%rax), %rax",
	}))[0]
}

func anyJump(random *rand.Rand) relax.Item {
	name := pick(random, anyNames())
	return items(pick(random, []string{"jmp ", "jmp ", "je ", "jg "}) + name)[0]
}

// anyRoom is an item of bytes, mostly so many that some jumps over it just reach.
func anyRoom(random *rand.Rand) relax.Item {
	switch n := random.IntN(10); {
	case n < 2:
		return raw(make([]byte, random.IntN(70))...)
	case n < 5:
		return space(pick(random, []int{0, 1, 2, 3, 5, 30, 40, 55, 60, 61, 62, 63, 64, 110, 118, 120, 121, 122, 123, 124, 125, 126, 127, 128}), byte(random.IntN(256)))
	default:
		return space(random.IntN(45), byte(random.IntN(256)))
	}
}

// anyItems are items that may be, with all names as labels but some; alignments, if they are asked for.
func anyItems(random *rand.Rand, most int, aligned bool) []relax.Item {
	var l []relax.Item
	for range random.IntN(most + 1) {
		switch n := random.IntN(20); {
		case n < 3:
			l = append(l, anyCode(random))
		case n < 12:
			l = append(l, anyJump(random))
		case n < 13 && aligned:
			l = append(l, alignTo(1<<random.IntN(7), byte(random.IntN(256))))
		default:
			l = append(l, anyRoom(random))
		}
	}
	for _, name := range anyNames()[:8-random.IntN(2)*random.IntN(3)] {
		l = slices.Insert(l, random.IntN(len(l)+1), mark(name))
	}
	return l
}

// tighten puts so much room into the way of some jump that it just reaches, as long as no other one grows.
func tighten(random *rand.Rand, l []relax.Item) []relax.Item {
	k := random.IntN(len(l))
	if !modelIsFree(l, k) {
		return l
	}
	none := make([]bool, len(l)+1)
	to := modelMark(l, l[k].Inst.To.Name)
	way := modelPlace(l, to, none) - modelPlace(l, k+1, none)
	slack := random.IntN(4)
	if n := 127 - slack - way; to > k && n >= 0 {
		return slices.Insert(l, pick(random, []int{k + 1, to}), space(n, 7))
	}
	if n := 128 - slack + way; to < k && n >= 0 {
		return slices.Insert(l, pick(random, []int{to + 1, k}), space(n, 7))
	}
	return l
}

// anyTight are items with jumps of which one that grows takes others with it.
func anyTight(random *rand.Rand, most int, aligned bool) []relax.Item {
	l := anyItems(random, most, aligned)
	for range 12 {
		l = tighten(random, l)
	}
	return l
}

package opt

import (
	"mortise/api"
	"mortise/ir"
	"mortise/word"
)

// fact is what is known about a register: that it is a number, or that it is equal to another register.
type fact struct {
	isNumber bool
	value    int // the number, or the other register
}

// folder folds a block, and knows what is known at its next instruction.
type folder struct {
	known  map[int]fact
	equals map[int][]int // which registers became equal to one, so that a write need not go through all that is known
}

func (f *folder) block(b *api.Block) {
	clear(f.known)
	clear(f.equals)
	for k := range b.Code {
		i := &b.Code[k]
		f.replaceReads(i)
		if n, ok := f.result(i); ok {
			*i = api.Instr{Op: api.IConst, Dst: i.Dst, N: n}
		}
		f.learn(i)
	}
	f.end(&b.End)
}

// same is the register to which one is known to be equal, or that one itself.
func (f *folder) same(r int) int {
	if k, ok := f.known[r]; ok && !k.isNumber {
		return k.value
	}
	return r
}

// number is the number that a register is known to be.
func (f *folder) number(r int) (n int, ok bool) {
	k := f.known[r]
	return k.value, k.isNumber
}

// replaceReads replaces the registers that an instruction reads.
func (f *folder) replaceReads(i *api.Instr) {
	reads := ir.Reads(*i)
	for k, r := range reads {
		reads[k] = f.same(r)
	}
	switch {
	case i.Op == api.ICall:
		i.Args = reads
	case len(reads) > 1:
		i.A, i.B = reads[0], reads[1]
	case len(reads) > 0:
		i.A = reads[0]
	}
}

// result is what an instruction writes, if that follows from what is known.
func (f *folder) result(i *api.Instr) (n int, ok bool) {
	a, isKnown := f.number(i.A)
	if !isKnown {
		return 0, false
	}
	switch i.Op {
	case api.ICopy:
		return a, true
	case api.IConv:
		return word.Wrap(i.Type, a), true
	case api.IBin:
		if b, isKnown := f.number(i.B); isKnown {
			n, trap := word.Bin(i.Type, i.S, a, b)
			return n, trap == api.NoTrap
		}
	}
	return 0, false
}

// learn takes in what an instruction writes.
func (f *folder) learn(i *api.Instr) {
	to := ir.Writes(*i)
	if to < 0 {
		return
	}
	f.forget(to)
	switch {
	case i.Op == api.IConst:
		f.known[to] = fact{isNumber: true, value: i.N}
	case i.Op == api.ICopy && i.A != to:
		f.known[to] = fact{value: i.A}
		f.equals[i.A] = append(f.equals[i.A], to)
	}
}

// forget lets go what is known about a register, and about those that are equal to it.
func (f *folder) forget(r int) {
	delete(f.known, r)
	for _, other := range f.equals[r] {
		if f.known[other] == (fact{value: r}) { // it may have been written since
			delete(f.known, other)
		}
	}
	delete(f.equals, r)
}

func (f *folder) end(e *api.End) {
	if endReads(*e) {
		e.A = f.same(e.A)
	}
	if e.Kind != api.Branch {
		return
	}
	switch n, isKnown := f.number(e.A); {
	case isKnown && n == 0:
		*e = api.End{Kind: api.Jump, To: e.Else}
	case isKnown || e.To == e.Else:
		*e = api.End{Kind: api.Jump, To: e.To}
	}
}

// endReads tells whether an end reads its A.
func endReads(e api.End) bool {
	return e.Kind == api.Branch || e.Kind == api.Return && e.A >= 0
}

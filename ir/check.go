package ir

import (
	"mortise/api"
	"mortise/word"
)

// maxRegisters is how many registers a function may have.
const maxRegisters = 4096

// checker checks a function of a module.
type checker struct {
	api.Module
	function api.Code
}

// need is a register that must be there, and what is required of its type: that may lean on whatever else is named, and is asked only when all of it is known to be there.
type need struct {
	register int
	fits     func(t int) bool
}

// isValue tells whether a register may have a type.
func isValue(t int) bool { return t == api.Int || t == api.Long }

// is requires a type.
func is(want int) func(int) bool {
	return func(t int) bool { return t == want }
}

// check is the function's first error.
func (c *checker) check() api.Errno {
	if wrong := c.head(); wrong != api.OK {
		return wrong
	}
	for _, b := range c.function.Blocks {
		for _, i := range b.Code {
			if wrong := c.instruction(i); wrong != api.OK {
				return wrong
			}
		}
		if wrong := c.end(b.End); wrong != api.OK {
			return wrong
		}
	}
	return api.OK
}

// head is the first error of what stands around the blocks.
func (c *checker) head() api.Errno {
	f := c.function
	if len(f.Blocks) == 0 || len(f.Blocks) > api.MaxBlocks || len(f.Regs) > maxRegisters {
		return api.ErrMany
	}
	if f.Params < 0 || f.Params > len(f.Regs) {
		return api.ErrRange
	}
	for _, t := range f.Regs {
		if !isValue(t) {
			return api.ErrType
		}
	}
	if !isValue(f.Type) && f.Type != api.Void {
		return api.ErrType
	}
	return api.OK
}

func (c *checker) instruction(i api.Instr) api.Errno {
	if !hasForm(i) {
		return api.ErrForm
	}
	needs := c.needs(i)
	switch {
	case !c.exist(needs) || !c.hasPlace(i):
		return api.ErrRange
	case i.Op == api.ICall && len(i.Args) != c.Funcs[i.N].Params:
		return api.ErrArgs
	case !c.fit(needs):
		return api.ErrType
	}
	return api.OK
}

// hasForm tells whether there are such an Op, such a sign, and such a type to convert to.
func hasForm(i api.Instr) bool {
	switch i.Op {
	case api.IBin:
		return isComparison(i.S) || isArithmetic(i.S)
	case api.IConv:
		return isValue(i.Type) || i.Type == api.Char
	}
	return i.Op >= api.IConst && i.Op <= api.IOut
}

func isComparison(sign string) bool {
	switch sign {
	case "==", "!=", "<", "<=", ">", ">=":
		return true
	}
	return false
}

func isArithmetic(sign string) bool {
	switch sign {
	case "+", "-", "*", "/", "%", "&", "|", "^", "<<", ">>":
		return true
	}
	return false
}

// exist tells whether the registers are there.
func (c *checker) exist(needs []need) bool {
	for _, n := range needs {
		if n.register < 0 || n.register >= len(c.function.Regs) {
			return false
		}
	}
	return true
}

// fit tells whether the registers, which are there, have the types that are required.
func (c *checker) fit(needs []need) bool {
	for _, n := range needs {
		if !n.fits(c.function.Regs[n.register]) {
			return false
		}
	}
	return true
}

// hasPlace tells whether the N of an instruction, whose registers are there, is an index of its kind, or a value of its type.
func (c *checker) hasPlace(i api.Instr) bool {
	switch i.Op {
	case api.IConst:
		return word.Wrap(c.function.Regs[i.Dst], i.N) == i.N
	case api.ILoad, api.IStore:
		return c.hasGlobal(i.N) && c.Globals[i.N].Size > 0
	case api.IGet, api.ISet:
		return c.hasGlobal(i.N) && c.Globals[i.N].Size == 0
	case api.ICall:
		return i.N >= 0 && i.N < len(c.Funcs) && c.Funcs[i.N].Params <= len(c.Funcs[i.N].Regs)
	}
	return true
}

func (c *checker) hasGlobal(n int) bool { return n >= 0 && n < len(c.Globals) }

// end is the first error of a block's end.
func (c *checker) end(e api.End) api.Errno {
	switch e.Kind {
	case api.Jump:
		return c.leadsTo([]int{e.To})
	case api.Branch:
		return c.leadsTo([]int{e.To, e.Else}, need{e.A, is(api.Int)})
	case api.Return:
		if e.A >= 0 {
			return c.leadsTo(nil, need{e.A, is(c.function.Type)}) // no register is Void
		}
		if c.function.Type == api.Void {
			return api.OK
		}
		return api.ErrType
	}
	return api.ErrForm
}

// leadsTo is the first error of an end that leads to blocks, and needs registers.
func (c *checker) leadsTo(blocks []int, needs ...need) api.Errno {
	switch {
	case !c.haveBlocks(blocks) || !c.exist(needs):
		return api.ErrRange
	case !c.fit(needs):
		return api.ErrType
	}
	return api.OK
}

func (c *checker) haveBlocks(l []int) bool {
	for _, b := range l {
		if b < 0 || b >= len(c.function.Blocks) {
			return false
		}
	}
	return true
}

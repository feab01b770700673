package ir

import "mortise/api"

// needs are the registers that an instruction reads and writes.
func (c *checker) needs(i api.Instr) []need {
	switch i.Op {
	case api.IConst:
		return []need{{i.Dst, isValue}}
	case api.ICopy:
		return []need{{i.A, isValue}, {i.Dst, func(t int) bool { return t == c.function.Regs[i.A] }}}
	case api.IBin:
		return []need{{i.A, is(i.Type)}, {i.B, is(i.Type)}, {i.Dst, is(resultType(i))}}
	case api.IConv:
		return []need{{i.A, isValue}, {i.Dst, is(heldAs(i.Type))}}
	case api.ILoad:
		return []need{{i.A, is(api.Long)}, {i.Dst, c.holdsElement(i.N)}}
	case api.IStore:
		return []need{{i.A, is(api.Long)}, {i.B, c.holdsElement(i.N)}}
	case api.IGet:
		return []need{{i.Dst, c.holdsScalar(i.N)}}
	case api.ISet:
		return []need{{i.A, c.holdsScalar(i.N)}}
	case api.ICall:
		return c.callNeeds(i)
	case api.IIn:
		return []need{{i.Dst, is(api.Long)}}
	case api.IOut:
		return []need{{i.A, is(api.Long)}}
	}
	return nil
}

// callNeeds are the registers that a call reads and writes.
func (c *checker) callNeeds(i api.Instr) []need {
	out := make([]need, 0, len(i.Args)+1)
	for k, a := range i.Args {
		out = append(out, need{a, func(t int) bool { return t == c.Funcs[i.N].Regs[k] }})
	}
	if i.Dst >= 0 {
		out = append(out, need{i.Dst, func(t int) bool { return t == c.Funcs[i.N].Type }})
	}
	return out
}

// holdsElement requires the type in which an array's elements are held.
func (c *checker) holdsElement(array int) func(int) bool {
	return func(t int) bool { return t == heldAs(c.Globals[array].Type) }
}

// holdsScalar requires a scalar's type.
func (c *checker) holdsScalar(scalar int) func(int) bool {
	return func(t int) bool { return t == c.Globals[scalar].Type }
}

// heldAs is the type of a register that holds a number of a type.
func heldAs(t int) int {
	if t == api.Long {
		return api.Long
	}
	return api.Int
}

// resultType is the type of what a binary sign makes.
func resultType(i api.Instr) int {
	if isComparison(i.S) {
		return api.Int
	}
	return i.Type
}

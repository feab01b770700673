package wasm

import (
	"slices"

	"mortise/api"
)

// checker checks a function of a module.
type checker struct {
	api.WModule
	api.WFunc
	localTypes []int // of its Params and its Locals
}

// check is the function's first error.
func (c *checker) check() api.Errno {
	switch {
	case !c.hasTypes():
		return api.ErrType
	case !c.isNested():
		return api.ErrRange
	}
	return c.body()
}

func (c *checker) hasTypes() bool {
	for _, t := range c.localTypes {
		if !isValue(t) {
			return false
		}
	}
	return c.Type == api.Void || isValue(c.Type)
}

// isNested tells whether each list but the last one, the body, is referred to exactly once, from a later one, and no other place is: then all lists are within the body, and none is within itself.
func (c *checker) isNested() bool {
	if len(c.Lists) == 0 {
		return false
	}
	references := make([]int, len(c.Lists))
	for at, l := range c.Lists {
		for _, i := range l {
			for _, to := range listsOf(i) {
				if !isPlace(to, at) {
					return false
				}
				references[to]++
			}
		}
	}
	return !slices.ContainsFunc(references[:len(references)-1], func(n int) bool { return n != 1 })
}

// body is the first error of the lists, which are nested: each one is checked where it is referred to. Those that are not at their end wait in a list of their own, so that no depth is too great.
func (c *checker) body() api.Errno {
	waiting := []*list{{checker: c, code: c.Lists[len(c.Lists)-1]}}
	for len(waiting) > 0 {
		l := waiting[len(waiting)-1]
		if len(l.code) == 0 {
			if !l.mayEnd() {
				return api.ErrStack
			}
			waiting = waiting[:len(waiting)-1]
			continue
		}
		i := l.code[0]
		l.code = l.code[1:]
		if wrong := l.instruction(i); wrong != api.OK {
			return wrong
		}
		for _, at := range slices.Backward(listsOf(i)) {
			waiting = append(waiting, l.within(at))
		}
	}
	return api.OK
}

// results are the types of what a function returns.
func results(f api.WFunc) []int {
	if f.Type == api.Void {
		return nil
	}
	return []int{f.Type}
}

// signature is what a call of a function pops, and what it pushes.
func (c *checker) signature(n int) (pops, pushes []int) {
	switch n {
	case inFunction:
		return nil, []int{api.Long}
	case outFunction:
		return []int{api.Long}, nil
	case trapFunction:
		return []int{api.Int}, nil
	}
	callee := c.Funcs[n-imported]
	return callee.Params, results(callee)
}

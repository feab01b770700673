package sample

import (
	"slices"

	"mortise/api"
)

// Changed is a module each of whose functions was changed in some ways, one after the other.
func Changed(m api.Module, changes ...func(api.Code) api.Code) api.Module {
	out := api.Module{Globals: m.Globals}
	for _, c := range m.Funcs {
		for _, change := range changes {
			c = change(c)
		}
		out.Funcs = append(out.Funcs, c)
	}
	return out
}

// Keeps tells whether a run after a change keeps to what the one before did in as many steps: if that had ended, this one ended in the same way; and what was output is output.
func Keeps(before, after api.Run) bool {
	if before.Status != api.Going {
		return SameRun(before, after)
	}
	return isWithin(before.Out, after.Out)
}

// Apart tells what is wrong with how a change takes a function: that stays as it is, also behind its lists' ends; what becomes of it is new memory, no two lists of which share any; and it is the same again.
func Apart(change func(api.Code) api.Code, original api.Code) string {
	c := room(original)
	before := wholeRoom(c)
	first, second := change(c), change(c)
	switch {
	case !SameCode(first, second):
		return "another one"
	case !ListsAreApart(first):
		return "lists share memory"
	}
	scribble(first)
	switch {
	case !SameCode(wholeRoom(c), before):
		return "the function was changed"
	case !SameCode(second, change(c)):
		return "one was changed by another"
	}
	return ""
}

// room is a function whose lists have memory behind their ends, which is not 0.
func room(c api.Code) api.Code {
	c.Regs = append(slices.Clone(c.Regs), 77, 88)[:len(c.Regs)]
	c.Blocks = append(slices.Clone(c.Blocks), api.Block{End: api.End{Kind: 77}})[:len(c.Blocks)]
	for k := range c.Blocks {
		code := append(slices.Clone(c.Blocks[k].Code), api.Instr{Op: 77})[:len(c.Blocks[k].Code)]
		for n := range code {
			code[n].Args = append(slices.Clone(code[n].Args), 77)[:len(code[n].Args)]
		}
		c.Blocks[k].Code = code
	}
	return c
}

// wholeRoom is a function with all that stands behind the ends of its lists.
func wholeRoom(c api.Code) api.Code {
	c.Regs = slices.Clone(c.Regs[:cap(c.Regs)])
	c.Blocks = slices.Clone(c.Blocks[:cap(c.Blocks)])
	for k := range c.Blocks {
		code := slices.Clone(c.Blocks[k].Code[:cap(c.Blocks[k].Code)])
		for n := range code {
			code[n].Args = slices.Clone(code[n].Args[:cap(code[n].Args)])
		}
		c.Blocks[k].Code = code
	}
	return c
}

// scribble overwrites all of a function's lists, and what stands behind their ends.
func scribble(c api.Code) {
	for p := range numbers(c) {
		*p = -99
	}
}

// ListsAreApart tells whether no two lists of a function share memory, their ends and what stands behind them included.
func ListsAreApart(c api.Code) bool {
	seen := map[*int]int{}
	for p := range numbers(c) {
		seen[p]++
		if seen[p] > 1 {
			return false
		}
	}
	return true
}

// numbers are the places of a number of each entry of a function's lists, also behind their ends.
func numbers(c api.Code) func(yield func(*int) bool) {
	var l []*int
	add := func(list []int) {
		list = list[:cap(list)]
		for k := range list {
			l = append(l, &list[k])
		}
	}
	add(c.Regs)
	blocks := c.Blocks[:cap(c.Blocks)]
	for k := range blocks {
		l = append(l, &blocks[k].End.Kind)
		code := blocks[k].Code[:cap(blocks[k].Code)]
		for n := range code {
			l = append(l, &code[n].Op)
			add(code[n].Args)
		}
	}
	return slices.Values(l)
}

// Strange are functions that ir.Check never accepts, or hardly: what they name is mostly not there.
func Strange(yield func(api.Code) bool) {
	const least, greatest = -1 << 63, 1<<63 - 1
	for _, n := range []int{least, -65, -64, -1, 0, 1, 2, 3, 7, 63, 64, 65, 4096, 1 << 31, greatest} {
		for kind := -1; kind < 5; kind++ {
			for op := -1; op < 14; op++ {
				i := api.Instr{Op: op, Type: n, Dst: n, A: n, B: n, N: n, S: "/", Args: []int{n, least}}
				e := api.End{Kind: kind, A: n, To: n, Else: n}
				c := api.Code{Type: n, Params: n, Regs: []int{n, api.Int}, Blocks: []api.Block{{Code: []api.Instr{i, i}, End: e}}}
				if !yield(c) {
					return
				}
				c.Blocks = []api.Block{{End: api.End{Kind: api.Jump, To: 1}}, {Code: []api.Instr{i}, End: e}, {End: e}}
				if !yield(c) {
					return
				}
			}
		}
	}
	yield(api.Code{})
}

package sample

import "mortise/api"

// Tangle is a main of up to so many blocks that lead anywhere, the same for the same seed; its registers are an Int, which is mostly what was read last, and a Long.
func Tangle(seed, most int) api.Code {
	d := newDice(seed)
	c := api.Code{Name: "main", Type: api.Int, Regs: []int{api.Int, api.Long}}
	count := 1 + d.below(most)
	isBareOften := d.below(3)
	for k := range count {
		b := api.Block{End: api.End{Kind: api.Jump, To: d.below(count)}}
		if d.below(3) > isBareOften {
			b.Code = append(b.Code, api.Instr{Op: api.IIn, Dst: 1}, api.Instr{Op: api.IConv, Type: api.Int, A: 1})
		}
		if d.below(3) > isBareOften {
			b.Code = append(b.Code, api.Instr{Op: api.IConst, Dst: 1, N: k}, api.Instr{Op: api.IOut, A: 1})
		}
		switch d.below(8) {
		case 0:
			b.End = api.End{Kind: api.Return}
		case 1, 2, 3, 4, 5:
			b.End.Kind, b.End.Else = api.Branch, d.below(count)
		}
		c.Blocks = append(c.Blocks, b)
	}
	return c
}

// Small are all mains of so many blocks, each of which has one instruction, with the block's number, or, if some may be empty, none.
func Small(count int, mayBeEmpty bool) func(yield func(c api.Code) bool) {
	ends := endsAmong(count)
	kinds := len(ends)
	if mayBeEmpty {
		kinds *= 2
	}
	total := 1
	for range count {
		total *= kinds
	}
	return func(yield func(api.Code) bool) {
		for number := range total {
			c := api.Code{Name: "main", Type: api.Int, Regs: []int{api.Int}}
			for k := range count {
				kind := number % kinds
				number /= kinds
				b := api.Block{End: ends[kind%len(ends)]}
				if kind < len(ends) {
					b.Code = []api.Instr{{Op: api.IConst, N: k}}
				}
				c.Blocks = append(c.Blocks, b)
			}
			if !yield(c) {
				return
			}
		}
	}
}

// endsAmong are all ends of a block of a function with so many of them.
func endsAmong(count int) []api.End {
	l := []api.End{{Kind: api.Return}}
	for to := range count {
		l = append(l, api.End{Kind: api.Jump, To: to})
		for other := range count {
			l = append(l, api.End{Kind: api.Branch, To: to, Else: other})
		}
	}
	return l
}

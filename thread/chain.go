package thread

import "mortise/api"

// chain is a block while passes are performed: one of the function's, and those that were appended to it.
type chain struct {
	parts   []int // those blocks, in the order of their instructions
	isEmpty bool  // they have no instructions
	end     api.End
}

func (c chain) isBare() bool { return c.isEmpty && c.end.Kind == api.Jump }

// add appends another chain.
func (c *chain) add(other chain) {
	c.parts = append(c.parts, other.parts...)
	c.isEmpty = c.isEmpty && other.isEmpty
	c.end = other.end
}

// single are a function's blocks, before any is appended to another.
func single(blocks []api.Block) []chain {
	l := make([]chain, len(blocks))
	for k, b := range blocks {
		l[k] = chain{[]int{k}, len(b.Code) == 0, b.End}
	}
	return l
}

// joined are the blocks that chains of a function's blocks make.
func joined(blocks []api.Block, l []chain) []api.Block {
	out := make([]api.Block, len(l))
	for k, c := range l {
		for _, at := range c.parts {
			out[k].Code = append(out[k].Code, blocks[at].Code...)
		}
		out[k].End = c.end
	}
	return out
}

// Package clone copies what the layers change: a copy shares no memory with what it was made of.
package clone

import (
	"slices"
	"strings"

	"mortise/api"
)

// Code is a copy of a function.
func Code(c api.Code) api.Code {
	c.Name = strings.Clone(c.Name)
	c.Regs = slices.Clone(c.Regs)
	c.Blocks = slices.Clone(c.Blocks)
	for k := range c.Blocks {
		c.Blocks[k] = Block(c.Blocks[k])
	}
	return c
}

// Block is a copy of a block.
func Block(b api.Block) api.Block {
	b.Code = slices.Clone(b.Code)
	for k := range b.Code {
		i := &b.Code[k]
		i.S, i.Args = strings.Clone(i.S), slices.Clone(i.Args)
	}
	return b
}

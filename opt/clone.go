package opt

import (
	"slices"
	"strings"

	"mortise/api"
)

// cloned is a function that shares nothing with another one.
func cloned(c api.Code) api.Code {
	c.Name = strings.Clone(c.Name)
	c.Regs = slices.Clone(c.Regs)
	c.Blocks = slices.Clone(c.Blocks)
	for k := range c.Blocks {
		code := slices.Clone(c.Blocks[k].Code)
		for n := range code {
			i := &code[n]
			i.S, i.Args = strings.Clone(i.S), slices.Clone(i.Args)
		}
		c.Blocks[k].Code = code
	}
	return c
}

package check

import (
	"slices"
	"strings"

	"mortise/api"
)

// unchecked is a copy of a program, without what checking tells.
func unchecked(p api.Program) api.Program {
	out := api.Program{Globals: slices.Clone(p.Globals), Funcs: slices.Clone(p.Funcs), Nodes: slices.Clone(p.Nodes)}
	for i := range out.Globals {
		g := &out.Globals[i]
		g.Name = strings.Clone(g.Name)
	}
	for i := range out.Funcs {
		f := &out.Funcs[i]
		f.Name, f.Params, f.Vars = strings.Clone(f.Name), slices.Clone(f.Params), nil
		for j := range f.Params {
			f.Params[j].Name = strings.Clone(f.Params[j].Name)
		}
	}
	for i := range out.Nodes {
		n := &out.Nodes[i]
		n.S, n.Kids, n.Ref = strings.Clone(n.S), slices.Clone(n.Kids), 0
		if n.Op != api.ENumber { // the text tells a number's type
			n.Type = 0
		}
	}
	return out
}

package emit

import (
	"strings"

	"mortise/api"
	"mortise/check"
	"mortise/clone"
	"mortise/dom"
	"mortise/lower"
	"mortise/opt"
	"mortise/parse"
	"mortise/thread"
)

// changes are what settings ask to be done to each function, one after the other. The first one is a copy, whatever they ask for.
func changes(settings int) []func(api.Code) api.Code {
	asked := func(bit int, change func(api.Code) api.Code) func(api.Code) api.Code {
		return func(c api.Code) api.Code {
			if settings&bit == 0 {
				return c
			}
			return change(c)
		}
	}
	l := []func(api.Code) api.Code{
		clone.Code,
		asked(Thread, thread.Thread),
		asked(Fold, opt.Fold),
		asked(Dead, opt.Dead),
	}
	if settings&Twice != 0 {
		l = append(l, l...)
	}
	return l
}

// changed is a module each of whose functions was changed in some ways, one after the other.
func changed(m api.Module, changes ...func(api.Code) api.Code) api.Module {
	var out api.Module
	for _, g := range m.Globals {
		g.Name = strings.Clone(g.Name)
		out.Globals = append(out.Globals, g)
	}
	for _, c := range m.Funcs {
		for _, change := range changes {
			c = change(c)
		}
		out.Funcs = append(out.Funcs, c)
	}
	return out
}

// checked is the checked program of tokens.
func checked(tokens []api.Token) (api.Program, api.Diag) {
	p, wrong := parse.Parse(tokens)
	if wrong.No != api.OK {
		return api.Program{}, wrong
	}
	return check.Check(p)
}

// compiled is a checked program as a module of Wasm.
func compiled(p api.Program, settings int) (api.WModule, api.Errno) {
	m, wrong := lower.Lower(p)
	if wrong != api.OK {
		return api.WModule{}, wrong
	}
	return split(Better(m, settings))
}

// split is a module as one of Wasm, after its functions got loops with one entry each.
func split(m api.Module) (api.WModule, api.Errno) {
	out := api.Module{Globals: m.Globals}
	for _, c := range m.Funcs {
		c, wrong := dom.Split(c, api.MaxBlocks)
		if wrong != api.OK {
			return api.WModule{}, wrong
		}
		out.Funcs = append(out.Funcs, c)
	}
	return Emit(out)
}

package wat

import (
	"slices"

	"mortise/api"
)

// bodyReader reads a function's lists.
type bodyReader struct {
	*reader
	ended  [][]api.W // the lists that were read, in the order in which they end
	around int       // how many blocks, loops and ifs are open
}

// module reads the whole text.
func (r *reader) module() api.WModule {
	var m api.WModule
	r.expect(toMemory)
	m.Memory = r.number()
	r.expect(toFuncs)
	for r.accept("(", "func") {
		m.Funcs = append(m.Funcs, r.function())
	}
	r.expect(toMain)
	m.Main = r.number() - imported
	r.expect(toEnd)
	r.end()
	return m
}

// function reads what stands behind the word func.
func (r *reader) function() api.WFunc {
	f := api.WFunc{Name: r.name()}
	if r.accept("(", "param") {
		f.Params = r.types()
	}
	if r.accept("(", "result") {
		f.Type = r.valueType()
		r.expect(")")
	}
	if r.accept("(", "local") {
		f.Locals = r.types()
	}
	b := &bodyReader{reader: r}
	b.list(")")
	f.Lists = b.ended
	return f
}

// list reads a list, and the token behind it, which is one of some; it is the list's number, and that token.
func (b *bodyReader) list(ends ...string) (at int, end string) {
	var l []api.W
	for {
		token := b.next()
		if slices.Contains(ends, token) {
			b.ended = append(b.ended, l)
			return len(b.ended) - 1, token
		}
		l = append(l, b.instruction(token))
	}
}

// instruction reads what stands behind an instruction's first token.
func (b *bodyReader) instruction(token string) api.W {
	i, ok := b.meanings[token]
	if !ok {
		panic(fault(api.ErrForm))
	}
	if hasNumber(i.Op) {
		i.N = b.number()
	}
	if hasLists(i.Op) {
		b.nest(&i)
	}
	return i
}

// nest reads an instruction's lists.
func (b *bodyReader) nest(i *api.W) {
	if b.around == api.MaxBlocks {
		panic(fault(api.ErrDeep))
	}
	b.around++
	if i.Op == api.WIf {
		i.Body, i.Other = b.branches()
	} else {
		i.Body, _ = b.list("end")
	}
	b.around--
}

// branches reads the lists of an if.
func (b *bodyReader) branches() (yes, no int) {
	yes, end := b.list("else", "end")
	if end == "end" {
		return yes, -1
	}
	no, _ = b.list("end")
	return yes, no
}

package wat

import (
	"strconv"
	"strings"

	"mortise/api"
)

// writer writes tokens.
type writer struct {
	text strings.Builder
}

// bodyWriter writes a function's lists.
type bodyWriter struct {
	*writer
	lists   [][]api.W
	isBegun []bool  // the lists that have begun: each of them stands in one place
	open    []begun // those that are written, each around the next one, or behind it, the body first
}

// begun is a list that is written.
type begun struct {
	code []api.W // what was not written yet
	end  string  // the token behind it
}

func (w *writer) tokens(l ...string) {
	for _, s := range l {
		if w.text.Len() > 0 {
			w.text.WriteByte(' ')
		}
		w.text.WriteString(s)
	}
}

func (w *writer) number(n int) { w.tokens(strconv.Itoa(n)) }

func (w *writer) module(m api.WModule) {
	w.tokens(toMemory)
	w.number(m.Memory)
	w.tokens(toFuncs)
	for _, f := range m.Funcs {
		w.function(f)
	}
	w.tokens(toMain)
	w.number(m.Main + imported)
	w.tokens(toEnd)
	w.text.WriteByte('\n')
}

func (w *writer) function(f api.WFunc) {
	w.tokens("(", "func", "$"+f.Name)
	w.types("param", f.Params...)
	if f.Type != api.Void {
		w.types("result", f.Type)
	}
	w.types("local", f.Locals...)
	b := &bodyWriter{writer: w, lists: f.Lists, isBegun: make([]bool, len(f.Lists))}
	b.body()
}

// types writes what types something has, if there are some.
func (w *writer) types(what string, types ...int) {
	if len(types) == 0 {
		return
	}
	w.tokens("(", what)
	for _, t := range types {
		w.tokens(typeWords[t])
	}
	w.tokens(")")
}

// body writes the function's instructions, and the parenthesis that ends it.
func (b *bodyWriter) body() {
	b.begin(len(b.lists)-1, ")")
	for len(b.open) > 0 {
		last := &b.open[len(b.open)-1]
		if len(last.code) == 0 {
			b.tokens(last.end)
			b.open = b.open[:len(b.open)-1]
			continue
		}
		i := last.code[0]
		last.code = last.code[1:]
		b.instruction(i)
	}
}

// begin begins a list, behind which a token stands.
func (b *bodyWriter) begin(at int, end string) {
	if b.isBegun[at] {
		panic("a list in two places")
	}
	b.isBegun[at] = true
	b.open = append(b.open, begun{b.lists[at], end})
}

// instruction writes an instruction up to its lists, and begins those, the first one last.
func (b *bodyWriter) instruction(i api.W) {
	b.tokens(word(i))
	if hasNumber(i.Op) {
		b.number(i.N)
	}
	switch {
	case i.Op == api.WIf && i.Other >= 0:
		b.begin(i.Other, "end")
		b.begin(i.Body, "else")
	case hasLists(i.Op):
		b.begin(i.Body, "end")
	}
}

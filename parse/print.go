package parse

import (
	"slices"
	"strconv"
	"strings"

	"mortise/api"
)

// Print is a program's text.
func Print(p api.Program) (text string) {
	defer func() {
		if recover() != nil { // only nodes that no text has can bring it here
			text = ""
		}
	}()
	w := &writer{nodes: p.Nodes, seen: make([]bool, len(p.Nodes))}
	for _, g := range p.Globals {
		w.global(g)
	}
	for _, f := range p.Funcs {
		w.function(f)
	}
	return w.text.String()
}

// writer writes a program's tokens.
type writer struct {
	text  strings.Builder
	begun bool // whether the line has a token
	nodes []api.Node
	seen  []bool // the nodes that were written: each of them stands in one place
}

// piece is a part of a node's text: a token, or, if that is none, a node.
type piece struct {
	token string
	node  int
}

func (w *writer) global(g api.Global) {
	w.tokens(typeNames[g.Type], g.Name)
	if g.Size != 0 {
		w.tokens("[", strconv.Itoa(g.Size), "]")
	}
	w.tokens(";")
	w.endLine()
}

func (w *writer) function(f api.Func) {
	w.tokens(typeNames[f.Type], f.Name, "(")
	for i, p := range f.Params {
		if i > 0 {
			w.tokens(",")
		}
		w.tokens(typeNames[p.Type], p.Name)
	}
	w.tokens(")")
	w.tree(f.Body)
	w.endLine()
}

func (w *writer) tokens(l ...string) {
	for _, s := range l {
		if w.begun {
			w.text.WriteByte(' ')
		}
		w.text.WriteString(s)
		w.begun = true
	}
}

func (w *writer) endLine() {
	w.text.WriteByte('\n')
	w.begun = false
}

// tree writes a node with all that is below it; what is still to be written waits in a list, the next piece last.
func (w *writer) tree(root int) {
	waiting := []piece{{node: root}}
	for len(waiting) > 0 {
		last := len(waiting) - 1
		next := waiting[last]
		waiting = waiting[:last]
		if next.token != "" {
			w.tokens(next.token)
			continue
		}
		if w.seen[next.node] {
			panic("a node in two places")
		}
		w.seen[next.node] = true
		l := w.pieces(w.nodes[next.node])
		slices.Reverse(l)
		waiting = append(waiting, l...)
	}
}

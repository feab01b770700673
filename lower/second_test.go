package lower

import (
	"strconv"
	"strings"
	"testing"

	"mortise/api"
	"mortise/read"
	"mortise/sample"
)

// A second reading of the chapter: it writes lines in the form of sample.ShowCode, in which blocks have names, and numbers them by the lines at last.
type writer struct {
	p     api.Program
	f     api.Func
	regs  string
	lines []string
	names int
}

func (w *writer) line(l ...string) { w.lines = append(w.lines, strings.Join(l, "")) }

func (w *writer) fresh(t int) int {
	w.regs += string(" il"[t])
	return len(w.regs) - 1
}

func (w *writer) block(s string) string {
	w.names++
	return s + "#" + strconv.Itoa(w.names) + "#"
}

// fill writes an instruction from pairs of a letter and a number.
func fill(op string, l ...any) string {
	for i := 0; i+1 < len(l); i += 2 {
		op += sample.Field(l[i].(string), l[i+1].(int))
	}
	return op
}

func (w *writer) has(r, t int) bool { return string(w.regs[r]) == string(" il?"[t]) }

func (w *writer) conv(r, t int) int {
	if w.has(r, t) {
		return r
	}
	to := api.Int
	if t == api.Long {
		to = api.Long
	}
	d := w.fresh(to)
	w.line(fill("conv", "t", t, "d", d, "a", r))
	return d
}

func (w *writer) konst(t, n int) int {
	d := w.fresh(t)
	w.line(fill("const", "d", d, "n", n))
	return d
}

func (w *writer) sign(t, d, a, b int, s string) int {
	w.line(fill("bin", "t", t, "d", d, "a", a, "b", b), " ", s)
	return d
}

func (w *writer) truth(r int) int {
	if w.has(r, api.Int) {
		return r
	}
	z := w.konst(api.Long, 0)
	return w.sign(api.Long, w.fresh(api.Int), r, z, "!=")
}

func (w *writer) fork(r int, to, or string) {
	w.line(fill("branch", "a", r), " to", to, " or", or)
}

func (w *writer) shortcut(n api.Node) int {
	r := w.fresh(api.Int)
	R, S, E := w.block("R"), w.block("S"), w.block("E")
	left := w.truth(w.value(n.Kids[0]))
	n2 := 0
	if n.S == "||" {
		w.fork(left, S, R)
		n2 = 1
	} else {
		w.fork(left, R, S)
	}
	w.line("begin ", R)
	c := w.truth(w.value(n.Kids[1]))
	w.sign(api.Int, r, c, w.konst(api.Int, 0), "!=")
	w.line("jump to", E)
	w.line("begin ", S)
	w.line(fill("const", "d", r, "n", n2))
	w.line("jump to", E)
	w.line("begin ", E)
	return r
}

func (w *writer) value(i int) int {
	n := w.p.Nodes[i]
	if n.Op == api.EBinary && (n.S == "&&" || n.S == "||") {
		return w.shortcut(n)
	}
	if n.Op == api.ECall {
		return w.called(n)
	}
	var r, types []int
	for _, k := range n.Kids {
		r = append(r, w.value(k))
		types = append(types, w.p.Nodes[k].Type)
	}
	switch n.Op {
	case api.ENumber:
		return w.konst(n.Type, n.N)
	case api.EName:
		if n.Ref >= 0 {
			return n.Ref
		}
		d := w.fresh(n.Type)
		w.line(fill("get", "d", d, "n", -1-n.Ref))
		return d
	case api.EIndex:
		a := w.conv(r[0], api.Long)
		d := w.fresh(n.Type)
		w.line(fill("load", "d", d, "a", a, "n", n.Ref))
		return d
	case api.ECast:
		return w.conv(r[0], n.To)
	case api.EIn:
		d := w.fresh(api.Long)
		w.line(fill("in", "d", d))
		return d
	}
	return w.operation(n, r, types)
}

func (w *writer) operation(n api.Node, r, types []int) int {
	if n.Op == api.EBinary {
		t := max(types[0], types[1])
		if n.S == "<<" || n.S == ">>" {
			t = types[0]
		}
		a := w.conv(r[0], t)
		b := w.conv(r[1], t)
		return w.sign(t, w.fresh(n.Type), a, b, n.S)
	}
	if n.S == "-" {
		z := w.konst(n.Type, 0)
		return w.sign(n.Type, w.fresh(n.Type), z, r[0], "-")
	}
	if n.S == "~" {
		z := w.konst(n.Type, -1)
		return w.sign(n.Type, w.fresh(n.Type), r[0], z, "^")
	}
	z := w.konst(types[0], 0)
	return w.sign(types[0], w.fresh(api.Int), r[0], z, "==")
}

func (w *writer) called(n api.Node) int {
	f := w.p.Funcs[n.Ref]
	args := ""
	for i, k := range n.Kids {
		args += " " + strconv.Itoa(w.conv(w.value(k), f.Params[i].Type))
	}
	d := -1
	if f.Type != api.Void {
		d = w.fresh(n.Type)
	}
	w.line(fill("call", "d", d, "n", n.Ref), args)
	return d
}

func (w *writer) statement(i int) {
	n := w.p.Nodes[i]
	switch n.Op {
	case api.SBlock:
		for _, k := range n.Kids {
			w.statement(k)
		}
	case api.SGoto:
		w.line("jump tolabel ", n.S, "#")
		w.line("begin ", w.block("after"))
	case api.SLabel:
		w.line("jump tolabel ", n.S, "#")
		w.line("begin label ", n.S, "#")
		w.statement(n.Kids[0])
	case api.SReturn:
		r := -1
		if len(n.Kids) > 0 {
			r = w.conv(w.value(n.Kids[0]), w.f.Type)
		}
		w.line(fill("return", "a", r))
		w.line("begin ", w.block("after"))
	case api.SExpr:
		w.value(n.Kids[0])
	case api.SIf, api.SWhile:
		w.control(n)
	default:
		w.effect(n)
	}
}

func (w *writer) effect(n api.Node) {
	r := w.value(n.Kids[0])
	switch {
	case n.Op == api.SOut:
		w.line(fill("out", "a", w.conv(r, api.Long)))
	case n.Op == api.SStore:
		v := w.value(n.Kids[1])
		a := w.conv(r, api.Long)
		if w.p.Globals[n.Ref].Type == api.Long {
			v = w.conv(v, api.Long)
		} else {
			v = w.conv(v, api.Int)
		}
		w.line(fill("store", "a", a, "b", v, "n", n.Ref))
	case n.Ref < 0:
		r = w.conv(r, w.p.Globals[-1-n.Ref].Type)
		w.line(fill("set", "a", r, "n", -1-n.Ref))
	default:
		r = w.conv(r, w.f.Vars[n.Ref])
		w.line(fill("copy", "d", n.Ref, "a", r))
	}
}

func (w *writer) control(n api.Node) {
	H, T, F, E := w.block("H"), w.block("T"), w.block("F"), w.block("E")
	back := E
	if n.Op == api.SWhile {
		w.line("jump to", H)
		w.line("begin ", H)
		back = H
	}
	c := w.truth(w.value(n.Kids[0]))
	if len(n.Kids) == 3 {
		w.fork(c, T, F)
	} else {
		w.fork(c, T, E)
	}
	w.line("begin ", T)
	w.statement(n.Kids[1])
	w.line("jump to", back)
	if len(n.Kids) == 3 {
		w.line("begin ", F)
		w.statement(n.Kids[2])
		w.line("jump to", E)
	}
	w.line("begin ", E)
}

// secondReading is what sample.ShowCode would make of a function.
func secondReading(p api.Program, f api.Func) string {
	w := &writer{p: p, f: f}
	for _, t := range f.Vars {
		w.fresh(t)
	}
	w.statement(f.Body)
	if f.Type == api.Void {
		w.line("return a-1")
	} else {
		w.line(fill("return", "a", w.konst(f.Type, 0)))
	}
	text := strings.Join(w.lines, ", ")
	number := 0
	for _, l := range w.lines {
		if name, ok := strings.CutPrefix(l, "begin "); ok {
			number++
			text = strings.ReplaceAll(text, " to"+name, " to"+strconv.Itoa(number))
			text = strings.ReplaceAll(text, " or"+name, " or"+strconv.Itoa(number))
			text = strings.Replace(text, ", "+l+", ", " | ", 1)
		}
	}
	return w.regs + ": " + text
}

// P7.1: made programs become the same modules by a second reading of the chapter.
func TestSecondReading(t *testing.T) {
	for seed := range 700 {
		text := sample.Program(seed, seed%5)
		p := read.Checked(text)
		m, no := Lower(p)
		if no == api.ErrMany {
			continue
		}
		if no != api.OK || len(m.Funcs) != len(p.Funcs) {
			t.Fatal(seed, no)
		}
		for i, f := range p.Funcs {
			if got, want := sample.ShowCode(m.Funcs[i]), secondReading(p, f); got != want {
				t.Fatalf("seed %d, %s:\n%s, want\n%s\n%s", seed, f.Name, got, want, text)
			}
		}
	}
}

package sample

import (
	"strconv"
	"strings"

	"mortise/api"
)

// operations are the names of instructions; their Op is the place among them.
const operations = "? const copy bin conv load store get set call in out"

// ends are the names of ends; their Kind is the place among them.
const ends = "? jump branch return"

// ShowModule is a module as a text: a line for each global, and for each function.
func ShowModule(m api.Module) string {
	s := ""
	for _, g := range m.Globals {
		s += g.Name + Field("t", g.Type) + Field("size", g.Size) + Field("at", g.At) + "\n"
	}
	for _, f := range m.Funcs {
		s += f.Name + Field("t", f.Type) + Field("p", f.Params) + " " + ShowCode(f) + "\n"
	}
	return s
}

// ShowCode is a function's registers and blocks as a text: their types, and then the blocks' instructions and ends, each field that is not 0 with its letter: "il: const n1, conv t2 d1, jump to1 | return".
func ShowCode(c api.Code) string {
	regs := ""
	for _, r := range c.Regs {
		regs += pickLetter(r)
	}
	var blocks []string
	for _, b := range c.Blocks {
		blocks = append(blocks, ShowBlock(b))
	}
	return regs + ": " + strings.Join(blocks, " | ")
}

// pickLetter is the letter of a register's type.
func pickLetter(t int) string {
	switch t {
	case api.Int:
		return "i"
	case api.Long:
		return "l"
	}
	return "?"
}

// ShowBlock is a block as a text.
func ShowBlock(b api.Block) string {
	s := ""
	for _, i := range b.Code {
		s += ShowInstr(i) + ", "
	}
	e := b.End
	return s + word(ends, e.Kind) + Field("a", e.A) + Field("to", e.To) + Field("or", e.Else)
}

// ShowInstr is an instruction as a text.
func ShowInstr(i api.Instr) string {
	s := word(operations, i.Op) + Field("t", i.Type) + Field("d", i.Dst) + Field("a", i.A) + Field("b", i.B) + Field("n", i.N)
	if i.S != "" {
		s += " " + i.S
	}
	for _, a := range i.Args {
		s += " " + strconv.Itoa(a)
	}
	return s
}

// Field is a letter and a number, or nothing for 0.
func Field(name string, v int) string {
	if v == 0 {
		return ""
	}
	return " " + name + strconv.Itoa(v)
}

func word(l string, i int) string {
	words := strings.Fields(l)
	if i < 0 || i >= len(words) {
		i = 0
	}
	return words[i]
}

// Code is the function that ShowCode shows as this text, an Int without a name and without parameters.
func Code(text string) api.Code {
	regs, rest, _ := strings.Cut(text, ":")
	c := api.Code{Type: api.Int}
	for _, r := range regs {
		c.Regs = append(c.Regs, strings.IndexRune(" il", r))
	}
	for _, b := range strings.Split(rest, " | ") {
		lines := strings.Split(b, ", ")
		var l []api.Instr
		for _, s := range lines[:len(lines)-1] {
			l = append(l, instruction(s))
		}
		c.Blocks = append(c.Blocks, api.Block{Code: l, End: blockEnd(lines[len(lines)-1])})
	}
	return c
}

// place is where a word stands among words.
func place(l, word string) int {
	for i, w := range strings.Fields(l) {
		if w == word {
			return i
		}
	}
	panic("no such word: " + word)
}

func instruction(text string) api.Instr {
	l := strings.Fields(text)
	i := api.Instr{Op: place(operations, l[0])}
	for _, s := range l[1:] {
		if n, err := strconv.Atoi(s); err == nil {
			i.Args = append(i.Args, n)
			continue
		}
		if !setField(s, "t", &i.Type) && !setField(s, "d", &i.Dst) && !setField(s, "a", &i.A) && !setField(s, "b", &i.B) && !setField(s, "n", &i.N) {
			i.S = s
		}
	}
	return i
}

func blockEnd(text string) api.End {
	l := strings.Fields(text)
	e := api.End{Kind: place(ends, l[0])}
	for _, s := range l[1:] {
		if !setField(s, "a", &e.A) && !setField(s, "to", &e.To) && !setField(s, "or", &e.Else) {
			panic("no such field: " + s)
		}
	}
	return e
}

// setField sets what a letter and a number tell, if that is the letter.
func setField(s, name string, to *int) bool {
	rest, ok := strings.CutPrefix(s, name)
	n, err := strconv.Atoi(rest)
	if ok && err == nil {
		*to = n
		return true
	}
	return false
}

package wat

import (
	"regexp"
	"strconv"
	"strings"

	"mortise/api"
)

// A second reading of the chapter: all tokens ahead of the grammar, which takes them by their places; what a word means is taken from its letters.

var (
	tokenForm  = regexp.MustCompile(`^(?:[()]|"[^"\n]*"|[^()" \n]+)`)
	digitsForm = regexp.MustCompile(`^-?[0-9]+$`)
	numberForm = regexp.MustCompile(`^(0|-?[1-9][0-9]*)$`)
	nameForm   = regexp.MustCompile(`^\$[a-z_][a-z_0-9]{0,23}$`)
	signForm   = regexp.MustCompile(`^(add|sub|mul|(div|rem)_s|and|or|xor|shl|shr_s|eq|ne|[lg][te]_s)$`)
)

// secondTokens are a text's tokens; what is none is "?", the last one.
func secondTokens(text string) []string {
	var l []string
	for {
		for text != "" && (text[0] == ' ' || text[0] == '\n') {
			text = text[1:]
		}
		if text == "" {
			return l
		}
		s := tokenForm.FindString(text)
		if s == "" {
			return append(l, "?\"")
		}
		l = append(l, s)
		text = text[len(s):]
	}
}

// secondReader goes through tokens; after its first error it goes on without reading.
type secondReader struct {
	tokens []string
	at     int
	no     api.Errno
}

func (r *secondReader) fail(no api.Errno) {
	if r.no == api.OK {
		r.no = no
	}
}

// look is a token further on.
func (r *secondReader) look(further int) string {
	if r.no != api.OK || r.at+further >= len(r.tokens) {
		return ""
	}
	return r.tokens[r.at+further]
}

func (r *secondReader) take() string {
	s := r.look(0)
	r.at++
	return s
}

func (r *secondReader) want(l ...string) {
	for _, s := range l {
		if r.take() != s {
			r.fail(api.ErrForm)
		}
	}
}

func (r *secondReader) number() int {
	s := r.take()
	if !digitsForm.MatchString(s) {
		r.fail(api.ErrForm)
		return 0
	}
	n, err := strconv.ParseInt(s, 10, 64)
	if !numberForm.MatchString(s) || err != nil {
		r.fail(api.ErrRange)
	}
	return int(n)
}

// kind is the type of a word, 0 if it has none.
func kind(s string) int {
	return map[string]int{"i32": api.Int, "i64": api.Long}[s]
}

func (r *secondReader) kinds() (l []int) {
	for {
		k := kind(r.take())
		if k == 0 {
			r.fail(api.ErrForm)
			return nil
		}
		l = append(l, k)
		if r.look(0) == ")" {
			r.at++
			return l
		}
	}
}

func secondParse(text string) (api.WModule, api.Errno) {
	r := &secondReader{tokens: secondTokens(text)}
	var m api.WModule
	r.want("(", "module")
	for _, x := range [][3]string{{"in", "result", "i64"}, {"out", "param", "i64"}, {"trap", "param", "i32"}} {
		r.want("(", "import", `"env"`, `"`+x[0]+`"`, "(", "func", "(", x[1], x[2], ")", ")", ")")
	}
	r.want("(", "memory", "1", ")", "(", "global", "i32", "(", "i32.const")
	m.Memory = r.number()
	r.want(")", ")")
	for r.look(1) == "func" {
		r.want("(", "func")
		m.Funcs = append(m.Funcs, r.function())
	}
	r.want("(", "export", `"main"`, "(", "func")
	m.Main = r.number() - 3
	r.want(")", ")", ")")
	if r.no == api.OK && r.at != len(r.tokens) {
		r.fail(api.ErrForm)
	}
	if r.no != api.OK {
		return api.WModule{}, r.no
	}
	return m, api.OK
}

func (r *secondReader) function() (f api.WFunc) {
	name := r.take()
	if !nameForm.MatchString(name) {
		r.fail(api.ErrForm)
		return
	}
	f.Name = name[1:]
	for state := 0; r.look(0) == "("; {
		r.at++
		switch s := r.take(); {
		case s == "param" && state < 1:
			state, f.Params = 1, r.kinds()
		case s == "result" && state < 2:
			l := r.kinds()
			if len(l) != 1 {
				r.fail(api.ErrForm)
				return
			}
			state, f.Type = 2, l[0]
		case s == "local" && state < 3:
			state, f.Locals = 3, r.kinds()
		default:
			r.fail(api.ErrForm)
		}
	}
	f.Lists = r.body()
	return f
}

// frame is a list that is read, and the instruction of the list around it that refers to it.
type frame struct {
	code   []api.W
	opener string
	owner  int // the place of that instruction
}

// body reads a body with a stack of frames in place of recursion.
func (r *secondReader) body() (ended [][]api.W) {
	open := []frame{{opener: "func"}}
	for r.no == api.OK {
		top := &open[len(open)-1]
		s := r.take()
		switch {
		case s == ")" && top.opener == "func":
			return append(ended, top.code)
		case s == "else" && top.opener == "if", s == "end" && top.opener != "func":
			ended = append(ended, top.code)
			opener := &open[len(open)-2].code[top.owner]
			if top.opener == "else" {
				opener.Other = len(ended) - 1
			} else {
				opener.Body = len(ended) - 1
			}
			if s == "end" {
				open = open[:len(open)-1]
			} else {
				*top = frame{opener: "else", owner: top.owner}
			}
		case s == "block" || s == "loop" || s == "if":
			if len(open) > api.MaxBlocks {
				r.fail(api.ErrDeep)
			}
			i := api.W{Op: map[string]int{"block": api.WBlock, "loop": api.WLoop, "if": api.WIf}[s]}
			if s == "if" {
				i.Other = -1
			}
			top.code = append(top.code, i)
			open = append(open, frame{opener: s, owner: len(top.code) - 1})
		default:
			top.code = append(top.code, r.instruction(s))
		}
	}
	return nil
}

// instruction is one without lists.
func (r *secondReader) instruction(s string) api.W {
	if i, ok := map[string]api.W{
		"return": {Op: api.WReturn}, "unreachable": {Op: api.WTrap}, "drop": {Op: api.WDrop}, "i32.wrap_i64": {Op: api.WWrap}, "i64.extend_i32_s": {Op: api.WExtend},
		"i32.load8_s": {Op: api.WLoad, Type: api.Int, N: 1}, "i32.load": {Op: api.WLoad, Type: api.Int, N: 4}, "i64.load": {Op: api.WLoad, Type: api.Long, N: 8},
		"i32.store8": {Op: api.WStore, Type: api.Int, N: 1}, "i32.store": {Op: api.WStore, Type: api.Int, N: 4}, "i64.store": {Op: api.WStore, Type: api.Long, N: 8},
	}[s]; ok {
		return i
	}
	if op := map[string]int{"local.get": api.WGet, "local.set": api.WSet, "call": api.WCall, "br": api.WBr, "br_if": api.WBrIf}[s]; op != 0 {
		return api.W{Op: op, N: r.number()}
	}
	word, rest, _ := strings.Cut(s, ".")
	i := api.W{Op: api.WBin, Type: kind(word), S: rest}
	isSign := signForm.MatchString(rest)
	switch {
	case i.Type != 0 && rest == "const":
		i = api.W{Op: api.WConst, Type: i.Type, N: r.number()}
	case i.Type != 0 && rest == "eqz":
		i = api.W{Op: api.WEqz, Type: i.Type}
	case i.Type == 0 || !isSign:
		r.fail(api.ErrForm)
	}
	return i
}

// secondPrint is a module's text, built from the inside.
func secondPrint(m api.WModule) string {
	s := ahead[:strings.Index(ahead, "16")] + strconv.Itoa(m.Memory) + " ) )"
	for _, f := range m.Funcs {
		s += " ( func $" + f.Name + secondTypes("param", f.Params)
		if f.Type != api.Void {
			s += secondTypes("result", []int{f.Type})
		}
		s += secondTypes("local", f.Locals) + secondList(f, len(f.Lists)-1) + " )"
	}
	return s + ` ( export "main" ( func ` + strconv.Itoa(m.Main+3) + " ) ) )\n"
}

func secondTypes(what string, types []int) string {
	if len(types) == 0 {
		return ""
	}
	s := " ( " + what
	for _, t := range types {
		s += map[int]string{api.Int: " i32", api.Long: " i64"}[t]
	}
	return s + " )"
}

func secondList(f api.WFunc, at int) string {
	s := ""
	for _, i := range f.Lists[at] {
		s += " " + secondWord(i)
		switch {
		case i.Op == api.WBlock || i.Op == api.WLoop || i.Op == api.WIf && i.Other < 0:
			s += secondList(f, i.Body) + " end"
		case i.Op == api.WIf:
			s += secondList(f, i.Body) + " else" + secondList(f, i.Other) + " end"
		}
	}
	return s
}

func secondWord(i api.W) string {
	t, n := map[int]string{api.Int: "i32", api.Long: "i64"}[i.Type], strconv.Itoa(i.N)
	bytes := t + n
	return map[int]string{
		api.WConst: t + ".const " + n, api.WGet: "local.get " + n, api.WSet: "local.set " + n, api.WCall: "call " + n, api.WBr: "br " + n, api.WBrIf: "br_if " + n,
		api.WBin: t + "." + i.S, api.WEqz: t + ".eqz", api.WWrap: "i32.wrap_i64", api.WExtend: "i64.extend_i32_s",
		api.WLoad:  map[string]string{"i321": "i32.load8_s", "i324": "i32.load", "i648": "i64.load"}[bytes],
		api.WStore: map[string]string{"i321": "i32.store8", "i324": "i32.store", "i648": "i64.store"}[bytes],
		api.WBlock: "block", api.WLoop: "loop", api.WIf: "if", api.WReturn: "return", api.WTrap: "unreachable", api.WDrop: "drop",
	}[i.Op]
}

package check

import (
	"slices"

	"mortise/api"
)

// second is a second reading of the chapter: it keeps no scopes, but looks back for each name, and asks each node for its error. Its nodes are in the order in which they were finished.
type second struct {
	p      api.Program
	parent []int // of each node, -1 for the bodies
	owner  []int // the function in whose body each node is
}

func newSecond(p api.Program) *second {
	s := &second{p: p, parent: make([]int, len(p.Nodes)), owner: make([]int, len(p.Nodes))}
	for f, x := range p.Funcs {
		s.parent[x.Body], s.owner[x.Body] = -1, f
	}
	for i := len(p.Nodes) - 1; i >= 0; i-- {
		for _, k := range p.Nodes[i].Kids {
			s.parent[k], s.owner[k] = i, s.owner[i]
		}
	}
	return s
}

// block is the innermost block around a node, -1 around a body.
func (s *second) block(i int) int {
	i = s.parent[i]
	for i >= 0 && s.p.Nodes[i].Op != api.SBlock {
		i = s.parent[i]
	}
	return i
}

// number is the number of the variable that an SLocal declares.
func (s *second) number(local int) int {
	n := len(s.p.Funcs[s.owner[local]].Params)
	for i := range local {
		if s.owner[i] == s.owner[local] && s.p.Nodes[i].Op == api.SLocal {
			n++
		}
	}
	return n
}

// denoted tells the sort of what a name denotes at a node ("" for nothing), its Ref, and its type.
func (s *second) denoted(i int, name string) (sort string, ref, kind int) {
	f := s.p.Funcs[s.owner[i]]
	for b := s.block(i); b >= 0; b = s.block(b) {
		if j := s.localBefore(i, b, name); j >= 0 {
			return "variable", s.number(j), s.p.Nodes[j].To
		}
		if b == f.Body {
			if j := slices.IndexFunc(f.Params, func(a api.Param) bool { return a.Name == name }); j >= 0 {
				return "variable", j, f.Params[j].Type
			}
		}
	}
	for j, g := range s.p.Globals {
		if g.Name == name && g.Size == 0 {
			return "scalar", -1 - j, g.Type
		}
		if g.Name == name {
			return "array", j, map[int]int{api.Long: api.Long, api.Int: api.Int, api.Char: api.Int}[g.Type]
		}
	}
	for j, g := range s.p.Funcs {
		if g.Name == name {
			return "function", j, g.Type
		}
	}
	return "", 0, 0
}

// localBefore is the last SLocal with a name in a block ahead of a node, -1 if there is none.
func (s *second) localBefore(i, block int, name string) int {
	for j := i - 1; j >= 0; j-- {
		if n := s.p.Nodes[j]; n.Op == api.SLocal && n.S == name && s.block(j) == block {
			return j
		}
	}
	return -1
}

// typeOf is an expression's type, if there is no error in it; 0 for all else.
func (s *second) typeOf(i int) int {
	n := s.p.Nodes[i]
	switch n.Op {
	case api.ENumber:
		return n.Type
	case api.EIn:
		return api.Long
	case api.EName, api.EIndex, api.ECall:
		_, _, kind := s.denoted(i, n.S)
		return kind
	case api.EUnary:
		if n.S == "!" {
			return api.Int
		}
		return s.typeOf(n.Kids[0])
	case api.ECast:
		return map[int]int{api.Long: api.Long, api.Int: api.Int, api.Char: api.Int}[n.To]
	case api.EBinary:
		if slices.Contains([]string{"==", "!=", "<", "<=", ">", ">=", "&&", "||"}, n.S) {
			return api.Int
		}
		left, right := s.typeOf(n.Kids[0]), s.typeOf(n.Kids[1])
		if n.S == "<<" || n.S == ">>" {
			return left
		}
		return max(left, right) // Int is 1, Long is 2
	}
	return 0
}

// refOf is the Ref of a node without an error.
func (s *second) refOf(i int) int {
	n := s.p.Nodes[i]
	switch n.Op {
	case api.EName, api.EIndex, api.ECall, api.SAssign, api.SStore:
		_, ref, _ := s.denoted(i, n.S)
		return ref
	case api.SLocal:
		return s.number(i)
	}
	return 0
}

// wrongName is the error of a name that must denote one of some sorts.
func (s *second) wrongName(i int, sorts ...string) api.Errno {
	sort, _, _ := s.denoted(i, s.p.Nodes[i].S)
	switch {
	case sort == "":
		return api.ErrName
	case !slices.Contains(sorts, sort):
		return api.ErrType
	}
	return api.OK
}

// wrongValue is the error of the kids that must be values.
func (s *second) wrongValue(kids []int) api.Errno {
	for _, k := range kids {
		if s.typeOf(k) == api.Void {
			return api.ErrType
		}
	}
	return api.OK
}

// wrong is the error of a node whose kids have none.
func (s *second) wrong(i int) api.Errno {
	n := s.p.Nodes[i]
	f := s.p.Funcs[s.owner[i]]
	var l []api.Errno
	switch n.Op {
	case api.EName:
		l = append(l, s.wrongName(i, "variable", "scalar"))
	case api.EIndex, api.SStore:
		l = append(l, s.wrongName(i, "array"), s.wrongValue(n.Kids))
	case api.SAssign:
		l = append(l, s.wrongName(i, "variable", "scalar"), s.wrongValue(n.Kids))
	case api.EUnary, api.ECast, api.EBinary, api.SOut:
		l = append(l, s.wrongValue(n.Kids))
	case api.SIf, api.SWhile:
		l = append(l, s.wrongValue(n.Kids[:1]))
	case api.ECall:
		l = append(l, s.wrongName(i, "function"), s.wrongCount(i), s.wrongValue(n.Kids))
	case api.SLocal:
		l = append(l, s.wrongValue(n.Kids), s.wrongLocal(i))
	case api.SGoto:
		if !slices.ContainsFunc(s.labels(s.owner[i]), func(j int) bool { return s.p.Nodes[j].S == n.S }) {
			l = append(l, api.ErrLabel)
		}
	case api.SReturn:
		if len(n.Kids) == 0 && f.Type != api.Void || len(n.Kids) == 1 && f.Type == api.Void {
			l = append(l, api.ErrType)
		}
		l = append(l, s.wrongValue(n.Kids))
	}
	for _, no := range l {
		if no != api.OK {
			return no
		}
	}
	return api.OK
}

func (s *second) wrongCount(i int) api.Errno {
	if sort, ref, _ := s.denoted(i, s.p.Nodes[i].S); sort == "function" && len(s.p.Funcs[ref].Params) != len(s.p.Nodes[i].Kids) {
		return api.ErrArgs
	}
	return api.OK
}

func (s *second) wrongLocal(i int) api.Errno {
	f, name, block := s.p.Funcs[s.owner[i]], s.p.Nodes[i].S, s.block(i)
	isParam := block == f.Body && slices.ContainsFunc(f.Params, func(a api.Param) bool { return a.Name == name })
	switch {
	case isParam || s.localBefore(i, block, name) >= 0:
		return api.ErrTwice
	case s.number(i) >= 64:
		return api.ErrMany
	}
	return api.OK
}

// labels are the SLabels of a function.
func (s *second) labels(f int) []int {
	var l []int
	for i, n := range s.p.Nodes {
		if s.owner[i] == f && n.Op == api.SLabel {
			l = append(l, i)
		}
	}
	return l
}

// names tells whether a global or a function has a name: of the first so many of each.
func (s *second) names(globals, functions int, name string) bool {
	return slices.ContainsFunc(s.p.Globals[:globals], func(g api.Global) bool { return g.Name == name }) ||
		slices.ContainsFunc(s.p.Funcs[:functions], func(f api.Func) bool { return f.Name == name })
}

// errors yields all errors of a program, in their order.
func (s *second) errors(yield func(api.Errno, int) bool) {
	told := func(is bool, no api.Errno, at int) bool { return is && !yield(no, at) }
	size := 0
	for i, g := range s.p.Globals {
		size += map[int]int{api.Char: 1, api.Int: 4, api.Long: 8}[g.Type] * (g.Size + max(0, 1-g.Size))
		if told(s.names(i, 0, g.Name), api.ErrTwice, g.At) || told(size > 4096, api.ErrMany, g.At) {
			return
		}
	}
	for i, f := range s.p.Funcs {
		params := map[string]int{}
		for _, a := range f.Params {
			params[a.Name]++
		}
		if told(i >= 32, api.ErrMany, f.At) || told(s.names(len(s.p.Globals), i, f.Name), api.ErrTwice, f.At) || told(len(f.Params) > 8, api.ErrMany, f.At) || told(len(params) < len(f.Params), api.ErrTwice, f.At) {
			return
		}
	}
	for i := range s.p.Funcs {
		labels := s.labels(i)
		for j, k := range labels {
			n := s.p.Nodes[k]
			if told(slices.ContainsFunc(labels[:j], func(m int) bool { return s.p.Nodes[m].S == n.S }), api.ErrTwice, n.At) {
				return
			}
		}
		for j, n := range s.p.Nodes { // the order of visits
			if s.owner[j] != i {
				continue
			}
			if no := s.wrong(j); told(no != api.OK, no, n.At) {
				return
			}
		}
	}
	s.mainErrors(yield)
}

func (s *second) mainErrors(yield func(api.Errno, int) bool) {
	i := slices.IndexFunc(s.p.Funcs, func(f api.Func) bool { return f.Name == "main" })
	if i < 0 {
		yield(api.ErrMain, 0)
	} else if f := s.p.Funcs[i]; f.Type != api.Int || len(f.Params) > 0 {
		yield(api.ErrMain, f.At)
	}
}

// check is what Check must answer.
func (s *second) check() (api.Program, api.Diag) {
	for no, at := range s.errors {
		return api.Program{}, api.Diag{No: no, At: at}
	}
	out := unshared(s.p)
	for i := range out.Nodes {
		out.Nodes[i].Type, out.Nodes[i].Ref = s.typeOf(i), s.refOf(i)
	}
	for i := range out.Funcs {
		f := &out.Funcs[i]
		f.Vars = nil
		for _, a := range f.Params {
			f.Vars = append(f.Vars, a.Type)
		}
		for j, n := range s.p.Nodes {
			if s.owner[j] == i && n.Op == api.SLocal {
				f.Vars = append(f.Vars, n.To)
			}
		}
	}
	return out, api.Diag{}
}

// unshared is a copy of a program; an empty list is as none.
func unshared(p api.Program) api.Program {
	out := api.Program{Globals: append([]api.Global(nil), p.Globals...), Funcs: append([]api.Func(nil), p.Funcs...), Nodes: append([]api.Node(nil), p.Nodes...)}
	for i := range out.Funcs {
		out.Funcs[i].Params = append([]api.Param(nil), out.Funcs[i].Params...)
		out.Funcs[i].Vars = append([]int(nil), out.Funcs[i].Vars...)
	}
	for i := range out.Nodes {
		out.Nodes[i].Kids = append([]int(nil), out.Nodes[i].Kids...)
	}
	return out
}

package wasm

import (
	"slices"
	"strings"

	"mortise/api"
	"mortise/word"
)

// A second reading of the chapter, by which package wasm is held: one stack for all lists of a function, of which a part belongs to the list that is checked, and a table of letters for what is popped and pushed; and runs by recursion, in which a list answers how far to go back, and each value knows its type.

// row is what the chapter's table says: what an instruction pops and pushes, a letter each (see typesOf).
type row struct{ pops, pushes string }

func table() map[int]row {
	return map[int]row{
		api.WConst: {"", "t"}, api.WGet: {"", "v"}, api.WSet: {"v", ""}, api.WBin: {"tt", "c"}, api.WEqz: {"t", "i"},
		api.WWrap: {"l", "i"}, api.WExtend: {"i", "l"}, api.WLoad: {"i", "t"}, api.WStore: {"it", ""}, api.WCall: {"p", "r"},
		api.WBlock: {}, api.WLoop: {}, api.WIf: {"i", ""}, api.WBrIf: {"bi", "b"}, api.WBr: {"b", ""}, api.WReturn: {"f", ""}, api.WTrap: {}, api.WDrop: {"?", ""},
	}
}

// signsOfWord are the signs of package word, each with its own here.
func signsOfWord() map[string]string {
	here := strings.Fields("add sub mul div_s rem_s and or xor shl shr_s eq ne lt_s le_s gt_s ge_s")
	there := strings.Fields("+ - * / % & | ^ << >> == != < <= > >=")
	out := map[string]string{}
	for k, s := range here {
		out[s] = there[k]
	}
	return out
}

func isComparing(sign string) bool {
	return slices.Contains(strings.Fields("eq ne lt_s le_s gt_s ge_s"), sign)
}

// returned are the types of what a function of a type returns.
func returned(t int) []int {
	if t == api.Void {
		return nil
	}
	return []int{t}
}

// callee is the function with a number, as it is called.
func callee(m api.WModule, n int) api.WFunc {
	given := []api.WFunc{{Type: api.Long}, {Params: []int{api.Long}}, {Params: []int{api.Int}}}
	return append(given, m.Funcs...)[n]
}

func localsOf(f api.WFunc) []int { return append(slices.Clone(f.Params), f.Locals...) }

// secondChecker checks a function.
type secondChecker struct {
	m     api.WModule
	f     api.WFunc
	stack []int
	bases []int  // for each list that is checked where its part of the stack begins
	left  []bool // for each of them whether what is not there counts as present
}

// anything is a type that counts as each.
const anything = -1000

func (c *secondChecker) typesOf(letters string, i api.W) []int {
	var out []int
	for _, letter := range letters {
		switch letter {
		case 't':
			out = append(out, i.Type)
		case 'v':
			out = append(out, localsOf(c.f)[i.N])
		case 'c':
			out = append(out, map[bool]int{true: api.Int, false: i.Type}[isComparing(i.S)])
		case 'i':
			out = append(out, api.Int)
		case 'l':
			out = append(out, api.Long)
		case 'p':
			out = append(out, callee(c.m, i.N).Params...)
		case 'r':
			out = append(out, returned(callee(c.m, i.N).Type)...)
		case 'f':
			out = append(out, returned(c.f.Type)...)
		case 'b':
			if i.N == len(c.bases)-1 {
				out = append(out, returned(c.f.Type)...)
			}
		case '?':
			out = append(out, anything)
		}
	}
	return out
}

// headError is what is wrong with a function, its instructions left aside.
func headError(f api.WFunc) api.Errno {
	for _, t := range append(localsOf(f), returned(f.Type)...) {
		if t != api.Int && t != api.Long {
			return api.ErrType
		}
	}
	if len(f.Lists) == 0 {
		return api.ErrRange
	}
	from := map[int][]int{}
	for at, l := range f.Lists {
		for _, i := range l {
			if i.Op == api.WBlock || i.Op == api.WLoop || i.Op == api.WIf {
				from[i.Body] = append(from[i.Body], at)
			}
			if i.Op == api.WIf && i.Other >= 0 {
				from[i.Other] = append(from[i.Other], at)
			}
		}
	}
	for to := range from {
		if to < 0 || to >= len(f.Lists)-1 { // the body can't be within a list
			return api.ErrRange
		}
	}
	for at := range f.Lists[1:] {
		if len(from[at]) != 1 || from[at][0] <= at {
			return api.ErrRange
		}
	}
	return api.OK
}

// secondCheck is what Check returns, by the second reading.
func secondCheck(m api.WModule) api.Errno {
	if m.Memory < 0 || m.Memory > 4096 {
		return api.ErrRange
	}
	for _, f := range m.Funcs {
		if e := headError(f); e != api.OK {
			return e
		}
		c := &secondChecker{m: m, f: f}
		if e := c.list(len(f.Lists) - 1); e != api.OK {
			return e
		}
	}
	for k, f := range m.Funcs {
		if k == m.Main && f.Type == api.Int && len(f.Params) == 0 {
			return api.OK
		}
	}
	return api.ErrMain
}

// list is the first error of a list; its part of the stack is gone then.
func (c *secondChecker) list(at int) api.Errno {
	c.bases, c.left = append(c.bases, len(c.stack)), append(c.left, false)
	for _, i := range c.f.Lists[at] {
		if e := c.instruction(i); e != api.OK {
			return e
		}
	}
	due := ""
	if len(c.bases) == 1 {
		due = "f"
	}
	last := len(c.bases) - 1
	if !c.pop(c.typesOf(due, api.W{})) || len(c.stack) != c.bases[last] {
		return api.ErrStack
	}
	c.bases, c.left = c.bases[:last], c.left[:last]
	return api.OK
}

func (c *secondChecker) pop(types []int) bool {
	last := len(c.bases) - 1
	for k := len(types) - 1; k >= 0; k-- {
		if len(c.stack) == c.bases[last] {
			if !c.left[last] {
				return false
			}
			continue
		}
		t := c.stack[len(c.stack)-1]
		c.stack = c.stack[:len(c.stack)-1]
		if t != types[k] && types[k] != anything {
			return false
		}
	}
	return true
}

func (c *secondChecker) instruction(i api.W) api.Errno {
	r, known := table()[i.Op]
	typed := strings.Contains(r.pops+r.pushes, "t")
	bytes := []int{i.Type, i.N}
	sized := slices.ContainsFunc([][]int{{api.Int, 1}, {api.Int, 4}, {api.Long, 8}}, func(l []int) bool { return slices.Equal(l, bytes) })
	switch {
	case !known, i.Op == api.WBin && signsOfWord()[i.S] == "", typed && word.Width(i.Type) < 32:
		return api.ErrForm
	case (i.Op == api.WLoad || i.Op == api.WStore) && !sized:
		return api.ErrForm
	}
	counts := map[int]int{api.WGet: len(localsOf(c.f)), api.WSet: len(localsOf(c.f)), api.WCall: 3 + len(c.m.Funcs), api.WBr: len(c.bases), api.WBrIf: len(c.bases)}
	if count, ok := counts[i.Op]; ok && (i.N < 0 || i.N >= count) || i.Op == api.WConst && word.Wrap(i.Type, i.N) != i.N {
		return api.ErrRange
	}
	if !c.pop(c.typesOf(r.pops, i)) {
		return api.ErrStack
	}
	c.stack = append(c.stack, c.typesOf(r.pushes, i)...)
	last := len(c.bases) - 1
	if i.Op == api.WBr || i.Op == api.WReturn || i.Op == api.WTrap {
		c.stack, c.left[last] = c.stack[:c.bases[last]], true
	}
	return c.inner(i)
}

// inner is the first error of an instruction's lists.
func (c *secondChecker) inner(i api.W) api.Errno {
	if i.Op != api.WBlock && i.Op != api.WLoop && i.Op != api.WIf {
		return api.OK
	}
	if e := c.list(i.Body); e != api.OK || i.Op != api.WIf || i.Other < 0 {
		return e
	}
	return c.list(i.Other)
}

// value is a number that knows its type.
type value struct{ t, n int }

// secondMachine runs a module.
type secondMachine struct {
	m      api.WModule
	run    api.Run
	input  []int
	steps  int
	memory map[int]int // the bytes that are not 0
	stack  []value
	open   int
	fault  string // what must not be found in a run of a valid module
}

// level is a list that is executed: the function, its locals, how many lists are around it, and where the body's part of the stack begins, and its own.
type level struct {
	f           api.WFunc
	locals      []value
	around      int
	floor, base int
}

// onward is how a list ended that was executed to its end: otherwise it's the list to which it went.
const onward = -1

// secondRun is what Run returns, by the second reading; and what was found that must not be.
func secondRun(m api.WModule, input []int, steps int) (api.Run, string) {
	s := &secondMachine{m: m, input: input, steps: steps, memory: map[int]int{}}
	s.call(m.Funcs[m.Main], nil)
	if !s.hasEnded() && s.fault == "" {
		s.end(api.Done, s.stack[0].n)
	}
	return s.run, s.fault
}

// hasEnded tells whether the run is over.
func (s *secondMachine) hasEnded() bool { return s.run.Status != 0 }

func (s *secondMachine) end(status, code int) { s.run.Status, s.run.Code = status, code }

// pop pops a value that belongs to a list, and has a type.
func (s *secondMachine) pop(l level, t int) int {
	if len(s.stack) <= l.base {
		s.fault = "nothing is left on the stack"
		s.end(-1, 0)
		return 0
	}
	v := s.stack[len(s.stack)-1]
	s.stack = s.stack[:len(s.stack)-1]
	if t != anything && v.t != t {
		s.fault = "another type"
	}
	return v.n
}

func (s *secondMachine) push(t, n int) {
	if word.Wrap(t, n) != n {
		s.fault = "no value of its type"
	}
	s.stack = append(s.stack, value{t, n})
}

// call calls a function with arguments.
func (s *secondMachine) call(f api.WFunc, arguments []int) {
	if s.open == 32 {
		s.end(api.Trapped, api.TrapCalls)
		return
	}
	s.open++
	l := level{f: f, floor: len(s.stack), base: len(s.stack)}
	for k, t := range localsOf(f) {
		v := value{t: t}
		if k < len(arguments) {
			v.n = arguments[k]
		}
		l.locals = append(l.locals, v)
	}
	s.list(l, len(f.Lists)-1)
	if !s.hasEnded() && len(s.stack) != l.floor+len(returned(f.Type)) {
		s.fault = "too much, or not enough, is returned"
	}
	s.open--
}

// list executes a list; it is the list to which it goes, counted from this one.
func (s *secondMachine) list(l level, at int) int {
	for _, i := range l.f.Lists[at] {
		if s.hasEnded() {
			return onward
		}
		if s.steps < 1 {
			s.end(api.Going, 0)
			return onward
		}
		s.steps--
		to := s.instruction(l, i)
		if to >= 0 {
			return to
		}
	}
	return onward
}

// inner executes a list of an instruction; it is the list to which it goes, counted from the one around it.
func (s *secondMachine) inner(l level, at int, isLoop bool) int {
	l.around++
	l.base = len(s.stack)
	for {
		to := s.list(l, at)
		switch {
		case to == 0 && isLoop:
			s.stack = s.stack[:l.base]
		case to == 0:
			s.stack = s.stack[:l.base]
			return onward
		case to > 0:
			return to - 1
		default:
			return onward
		}
	}
}

// leave goes to the end of the body, with what is returned.
func (s *secondMachine) leave(l level) int {
	var kept []value
	for _, t := range returned(l.f.Type) {
		kept = append(kept, value{t, s.pop(l, t)})
	}
	s.stack = append(s.stack[:l.floor], kept...)
	return l.around
}

// branch goes to a list.
func (s *secondMachine) branch(l level, n int) int {
	if n == l.around {
		return s.leave(l)
	}
	return n
}

// operands pops what an instruction pops, the last one first, and is that in its order.
func (s *secondMachine) operands(l level, types ...int) []int {
	out := make([]int, len(types))
	for k := len(types) - 1; k >= 0; k-- {
		out[k] = s.pop(l, types[k])
	}
	return out
}

// instruction executes an instruction; it is the list to which it goes.
func (s *secondMachine) instruction(l level, i api.W) int {
	switch i.Op {
	case api.WConst:
		s.push(i.Type, i.N)
	case api.WGet:
		s.push(l.locals[i.N].t, l.locals[i.N].n)
	case api.WSet:
		l.locals[i.N].n = s.pop(l, l.locals[i.N].t)
	case api.WDrop:
		s.pop(l, anything)
	case api.WTrap:
		s.end(api.Trapped, 5)
	case api.WBlock, api.WLoop:
		return s.inner(l, i.Body, i.Op == api.WLoop)
	case api.WIf:
		if s.pop(l, api.Int) != 0 {
			return s.inner(l, i.Body, false)
		} else if i.Other >= 0 {
			return s.inner(l, i.Other, false)
		}
	case api.WBrIf:
		if s.pop(l, api.Int) != 0 {
			return s.branch(l, i.N)
		}
	case api.WBr:
		return s.branch(l, i.N)
	case api.WReturn:
		return s.leave(l)
	case api.WCall:
		s.callNumber(l, i.N)
	case api.WLoad, api.WStore:
		s.access(l, i)
	default:
		s.compute(l, i)
	}
	return onward
}

func (s *secondMachine) compute(l level, i api.W) {
	switch i.Op {
	case api.WBin:
		o := s.operands(l, i.Type, i.Type)
		v, trap := word.Bin(i.Type, signsOfWord()[i.S], o[0], o[1])
		if trap != api.NoTrap {
			s.end(api.Trapped, trap)
			return
		}
		s.push(map[bool]int{true: api.Int, false: i.Type}[isComparing(i.S)], v)
	case api.WEqz:
		v, _ := word.Bin(i.Type, "==", s.pop(l, i.Type), 0)
		s.push(api.Int, v)
	case api.WWrap:
		s.push(api.Int, int(int32(s.pop(l, api.Long))))
	case api.WExtend:
		s.push(api.Long, s.pop(l, api.Int))
	}
}

// access loads or stores, byte by byte.
func (s *secondMachine) access(l level, i api.W) {
	v := 0
	if i.Op == api.WStore {
		v = s.pop(l, i.Type)
	}
	address := s.pop(l, api.Int)
	if address < 0 || address+i.N > s.m.Memory {
		s.end(api.Trapped, api.TrapIndex)
		return
	}
	if i.Op == api.WStore {
		for k := range i.N {
			s.memory[address+k] = v >> (8 * k) & 255
		}
		return
	}
	for k := range i.N {
		v += s.memory[address+k] << (8 * k)
	}
	s.push(i.Type, word.Wrap(map[int]int{1: api.Char, 4: api.Int, 8: api.Long}[i.N], v))
}

func (s *secondMachine) callNumber(l level, n int) {
	f := callee(s.m, n)
	arguments := s.operands(l, f.Params...)
	switch n {
	case 0:
		v := 0
		if len(s.input) > 0 {
			v, s.input = s.input[0], s.input[1:]
		}
		s.push(api.Long, v)
	case 1:
		s.run.Out = append(s.run.Out, arguments[0])
	case 2:
		s.end(api.Trapped, arguments[0])
	default:
		s.call(f, arguments)
	}
}

package wasm

import (
	"slices"

	"mortise/api"
	"mortise/word"
)

// list is a list that is checked.
type list struct {
	*checker
	code   []api.W // what was not checked yet
	around int     // how many lists are around it
	stack  []int   // the types of the values that belong to it
	isLeft bool    // behind what leaves it, whatever is popped and is not there counts as present
}

// within is a list to which the last instruction referred: its part of the stack is cut off behind this list's, and pushing to it never overwrites what another list pushes.
func (l *list) within(at int) *list {
	end := len(l.stack)
	return &list{checker: l.checker, code: l.Lists[at], around: l.around + 1, stack: l.stack[end:end:end]}
}

// instruction is an instruction's first error, that of its lists left aside.
func (l *list) instruction(i api.W) api.Errno {
	switch {
	case !hasForm(i):
		return api.ErrForm
	case !l.hasPlace(i):
		return api.ErrRange
	}
	pops, pushes := l.effect(i)
	if !l.pop(pops) {
		return api.ErrStack
	}
	l.stack = append(l.stack, pushes...)
	switch i.Op {
	case api.WBr, api.WReturn, api.WTrap:
		l.stack, l.isLeft = l.stack[:0], true
	}
	return api.OK
}

// hasPlace tells whether the N of an instruction is a local, a function or a list around it, or a value of its type.
func (l *list) hasPlace(i api.W) bool {
	switch i.Op {
	case api.WConst:
		return word.Wrap(i.Type, i.N) == i.N
	case api.WGet, api.WSet:
		return isPlace(i.N, len(l.localTypes))
	case api.WCall:
		return isPlace(i.N, imported+len(l.Funcs))
	case api.WBr, api.WBrIf:
		return isPlace(i.N, l.around+1)
	}
	return true
}

// effect is what an instruction pops, the last of it from the top, and what it pushes.
func (l *list) effect(i api.W) (pops, pushes []int) {
	switch i.Op {
	case api.WConst:
		return nil, []int{i.Type}
	case api.WGet:
		return nil, []int{l.localTypes[i.N]}
	case api.WSet:
		return []int{l.localTypes[i.N]}, nil
	case api.WBin:
		return []int{i.Type, i.Type}, []int{resultType(i)}
	case api.WEqz:
		return []int{i.Type}, []int{api.Int}
	case api.WWrap:
		return []int{api.Long}, []int{api.Int}
	case api.WExtend:
		return []int{api.Int}, []int{api.Long}
	case api.WLoad:
		return []int{api.Int}, []int{i.Type}
	case api.WStore:
		return []int{api.Int, i.Type}, nil
	case api.WCall:
		return l.signature(i.N)
	case api.WDrop:
		return []int{l.top()}, nil
	}
	return l.turn(i)
}

// turn is the same for what may go on elsewhere.
func (l *list) turn(i api.W) (pops, pushes []int) {
	switch i.Op {
	case api.WIf:
		return []int{api.Int}, nil
	case api.WBr:
		return l.carries(i.N), nil
	case api.WBrIf:
		carried := l.carries(i.N)
		return append(carried, api.Int), l.carries(i.N)
	case api.WReturn:
		return results(l.WFunc), nil
	}
	return nil, nil
}

// carries is what a branch takes with it: to the body what is returned.
func (l *list) carries(n int) []int {
	if n == l.around {
		return results(l.WFunc)
	}
	return nil
}

// top is the type of the last value; if there is none, that of any one.
func (l *list) top() int {
	if len(l.stack) == 0 {
		return api.Int
	}
	return l.stack[len(l.stack)-1]
}

// pop pops values of some types, the last of them first, and tells whether they are there.
func (l *list) pop(types []int) bool {
	for _, t := range slices.Backward(types) {
		last := len(l.stack) - 1
		if last < 0 {
			return l.isLeft // as for those below it
		}
		if l.stack[last] != t {
			return false
		}
		l.stack = l.stack[:last]
	}
	return true
}

// mayEnd tells whether a list, all of which was checked, leaves on its stack what it must.
func (l *list) mayEnd() bool { return l.pop(l.carries(0)) && len(l.stack) == 0 }

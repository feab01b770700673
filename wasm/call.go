package wasm

import (
	"mortise/api"
	"mortise/course"
	"mortise/word"
)

// call is an open call of a function.
type call struct {
	*machine
	function *api.WFunc
	locals   []int
	stack    []int
	lists    []begun // the lists that have begun and not ended, each around the next one, the body first
}

// begun is a list that has begun.
type begun struct {
	code   []api.W
	next   int // the instruction that is to be begun
	base   int // how much of the stack belongs to the lists around it
	isLoop bool
}

// run executes the function's body.
func (c *call) run() {
	c.begin(len(c.function.Lists)-1, false)
	for len(c.lists) > 0 {
		l := &c.lists[len(c.lists)-1]
		if l.next == len(l.code) {
			c.lists = c.lists[:len(c.lists)-1]
			continue
		}
		l.next++
		c.Step()
		c.do(&l.code[l.next-1])
	}
}

// begin begins a list.
func (c *call) begin(at int, isLoop bool) {
	c.lists = append(c.lists, begun{code: c.function.Lists[at], base: len(c.stack), isLoop: isLoop})
}

func (c *call) push(v int) { c.stack = append(c.stack, v) }

func (c *call) pop() int {
	last := len(c.stack) - 1
	v := c.stack[last]
	c.stack = c.stack[:last]
	return v
}

// do executes an instruction.
func (c *call) do(i *api.W) {
	switch i.Op {
	case api.WConst:
		c.push(i.N)
	case api.WGet:
		c.push(c.locals[i.N])
	case api.WSet:
		c.locals[i.N] = c.pop()
	case api.WBin:
		b, a := c.pop(), c.pop()
		c.push(course.Bin(i.Type, operation(i.S), a, b))
	case api.WEqz:
		c.push(isZero(c.pop()))
	case api.WWrap:
		c.push(word.Wrap(api.Int, c.pop()))
	case api.WExtend: // the same number
	case api.WLoad:
		c.push(c.load(c.pop(), i.N))
	case api.WStore:
		v, address := c.pop(), c.pop()
		c.store(address, i.N, v)
	case api.WCall:
		c.callNumber(i.N)
	case api.WDrop:
		c.pop()
	case api.WTrap:
		course.Trap(trapReached)
	default:
		c.turn(i)
	}
}

// isZero is 1 for 0, and otherwise 0.
func isZero(v int) int {
	if v == 0 {
		return 1
	}
	return 0
}

// turn executes an instruction that may go on elsewhere.
func (c *call) turn(i *api.W) {
	switch i.Op {
	case api.WBlock:
		c.begin(i.Body, false)
	case api.WLoop:
		c.begin(i.Body, true)
	case api.WIf:
		if c.pop() != 0 {
			c.begin(i.Body, false)
		} else if i.Other >= 0 {
			c.begin(i.Other, false)
		}
	case api.WBr:
		c.branch(i.N)
	case api.WBrIf:
		if c.pop() != 0 {
			c.branch(i.N)
		}
	case api.WReturn:
		c.leave()
	}
}

// branch goes to the end of a list, or to the beginning of a loop: what belongs to the lists that are left is removed.
func (c *call) branch(n int) {
	to := len(c.lists) - 1 - n
	if to == 0 {
		c.leave()
		return
	}
	l := &c.lists[to]
	c.stack = c.stack[:l.base]
	if !l.isLoop {
		c.lists = c.lists[:to]
		return
	}
	l.next = 0
	c.lists = c.lists[:to+1]
}

// leave goes to the function's end: what is returned is on top.
func (c *call) leave() { c.lists = c.lists[:0] }

// callNumber calls the function with a number.
func (c *call) callNumber(n int) {
	switch n {
	case inFunction:
		c.push(c.Read())
	case outFunction:
		c.Write(c.pop())
	case trapFunction:
		course.Trap(c.pop())
	default:
		c.callOwn(n - imported)
	}
}

// callOwn calls one of the module's functions.
func (c *call) callOwn(n int) {
	f := &c.Funcs[n]
	base := len(c.stack) - len(f.Params)
	v := c.call(n, c.stack[base:])
	c.stack = c.stack[:base]
	if f.Type != api.Void {
		c.push(v)
	}
}

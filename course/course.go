// Package course is what runs of all kinds have in common: what they read and output, their steps, the calls that are open, and what ends them early.
package course

import (
	"mortise/api"
	"mortise/word"
)

// Course is how far a run has come.
type Course struct {
	Out   []int // what was output
	input []int // what was not read yet
	steps int   // that are left
	calls int   // that are open
}

// Ending is how a run ends early: by a trap, or as no step is left. Whoever runs something recovers from it.
type Ending struct{ Status, Code int }

// New is the course of a run that is to begin.
func New(input []int, steps int) Course { return Course{input: input, steps: steps} }

// Step takes a step, or ends the run as none is left.
func (c *Course) Step() {
	if c.steps <= 0 {
		panic(Ending{Status: api.Going})
	}
	c.steps--
}

// Trap ends the run by a trap.
func Trap(number int) { panic(Ending{api.Trapped, number}) }

// Open opens a call, or traps if no more may be open.
func (c *Course) Open() {
	if c.calls >= api.MaxCalls {
		Trap(api.TrapCalls)
	}
	c.calls++
}

// Close ends the call that was opened last.
func (c *Course) Close() { c.calls-- }

// Read is the next input, 0 after the last one.
func (c *Course) Read() int {
	if len(c.input) == 0 {
		return 0
	}
	v := c.input[0]
	c.input = c.input[1:]
	return v
}

// Write outputs a number.
func (c *Course) Write(v int) { c.Out = append(c.Out, v) }

// Bin is what an operation makes of two numbers; its trap ends the run.
func Bin(t int, op string, a, b int) int {
	v, number := word.Bin(t, op, a, b)
	if number != api.NoTrap {
		Trap(number)
	}
	return v
}

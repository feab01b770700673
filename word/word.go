// Package word is layer 1: numbers, and what is done with them: see shared/doc/01-word.md.
package word

import "mortise/api"

// widths is made anew for each call: a map at package level could be changed.
func widths() map[int]int {
	return map[int]int{api.Char: 8, api.Int: 32, api.Long: 64}
}

// Width is a type's bits.
func Width(t int) int { return widths()[t] }

// Wrap is a number, brought to a type.
func Wrap(t, v int) int {
	// A type without a width needs no case of its own: all 64 bits are shifted out.
	out := uint(64 - Width(t))
	return v << out >> out
}

// Bin is what an operation makes of two numbers, and the trap.
func Bin(t int, op string, a, b int) (int, int) {
	switch t {
	case api.Int:
		return operate(t, op, int32(a), int32(b))
	case api.Long:
		return operate(t, op, int64(a), int64(b))
	}
	return 0, api.NoTrap
}

// Package stock holds modules for the tests of the layers above lower.
package stock

import (
	"mortise/api"
	"mortise/lower"
	"mortise/read"
	"mortise/sample"
)

// Modules are made modules, named by their seeds, and made programs that were lowered, named by numbers below 0.
func Modules(yield func(name int, m api.Module) bool) {
	for seed := range 1500 {
		if !yield(seed, sample.Module(seed, seed%5)) {
			return
		}
	}
	for seed := range 200 {
		m, no := lower.Lower(read.Checked(sample.Program(seed, seed%5)))
		if no == api.OK && !yield(-1-seed, m) {
			return
		}
	}
}

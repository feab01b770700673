package wasm

import (
	"testing"

	"mortise/api"
	"mortise/sample"
)

// Shorter ways to write modules in tests; lists are written as sample.ShowLists shows them.

const (
	leastInt  = -1 << 31
	leastLong = -1 << 63
)

// someLocals are the types of the locals of each function that is written here.
func someLocals() []int { return []int{api.Int, api.Long, api.Int, api.Long} }

// function is a function without parameters.
func function(kind int, lists string) api.WFunc {
	return api.WFunc{Type: kind, Locals: someLocals(), Lists: sample.Lists(lists)}
}

// takes is a function whose first locals are its parameters.
func takes(params, kind int, lists string) api.WFunc {
	l := someLocals()
	return api.WFunc{Type: kind, Params: l[:params], Locals: l[params:], Lists: sample.Lists(lists)}
}

// alone is a module of main alone, with 16 bytes of memory.
func alone(lists string) api.WModule { return with(lists) }

// with is a module of main, and of functions with the numbers 4 and above.
func with(lists string, others ...api.WFunc) api.WModule {
	return api.WModule{Funcs: append([]api.WFunc{function(api.Int, lists)}, others...), Memory: 16}
}

func done(code int, out ...int) api.Run { return api.Run{Out: out, Status: api.Done, Code: code} }

func trapped(number int, out ...int) api.Run {
	return api.Run{Out: out, Status: api.Trapped, Code: number}
}

// runs are the runs of a module.
func runs(m api.WModule) sample.Runs {
	return func(input []int, steps int) api.Run { return Run(m, input, steps) }
}

// trial is a module, its input, how many steps it takes till it ends, and its run with as many.
type trial struct {
	name  string
	m     api.WModule
	input []int
	steps int
	run   api.Run
}

// try runs modules with the steps that they need, with more, and with fewer.
func try(t *testing.T, l []trial) {
	t.Helper()
	for _, x := range l {
		if wrong := Check(x.m); wrong != api.OK {
			t.Errorf("%s: error %d", x.name, wrong)
			continue
		}
		if wrong := runs(x.m).Take(x.input, x.steps, x.run); wrong != "" {
			t.Errorf("%s, %s", x.name, wrong)
		}
	}
}

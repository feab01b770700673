package wasm

import (
	"math"
	"testing"

	"mortise/api"
	"mortise/sample"
)

// The chapter's examples.
func TestExamples(t *testing.T) {
	one := func(lists string) api.WModule {
		return api.WModule{Funcs: []api.WFunc{{Name: "f", Type: api.Int, Lists: sample.Lists(lists)}}}
	}
	seven := one("const t1 n7")
	if wrong := Check(seven); wrong != api.OK {
		t.Error(wrong)
	}
	if run := Run(seven, nil, 1); !sample.SameRun(run, done(7)) {
		t.Error(run)
	}
	if wrong := Check(one("br | loop")); wrong != api.ErrStack {
		t.Error(wrong)
	}
	forever := one("br | loop, const t1")
	if wrong := Check(forever); wrong != api.OK {
		t.Error(wrong)
	}
	if run := Run(forever, nil, 1000000); !sample.SameRun(run, api.Run{Status: api.Going}) {
		t.Error(run)
	}
	if run := Run(one("const t1 n1, const t1, bin t1 div_s"), nil, 3); !sample.SameRun(run, trapped(1)) {
		t.Error(run)
	}
}

// P12.1: the memory's size, and main.
func TestModules(t *testing.T) {
	number := func(n int) api.WFunc { return function(api.Int, "const t1 n"+string(rune('0'+n))) }
	wrong := function(api.Int, "?")
	for k, x := range []struct {
		m    api.WModule
		want api.Errno
	}{
		{api.WModule{}, api.ErrMain},
		{api.WModule{Memory: -1}, api.ErrRange},
		{api.WModule{Memory: math.MinInt}, api.ErrRange},
		{api.WModule{Memory: 4097}, api.ErrRange},
		{api.WModule{Memory: math.MaxInt, Funcs: []api.WFunc{wrong}}, api.ErrRange},
		{api.WModule{Memory: 4096, Funcs: []api.WFunc{number(1)}}, api.OK},
		{api.WModule{Funcs: []api.WFunc{number(1)}}, api.OK},
		{api.WModule{Funcs: []api.WFunc{number(1)}, Main: 1}, api.ErrMain},
		{api.WModule{Funcs: []api.WFunc{number(1)}, Main: 3}, api.ErrMain},
		{api.WModule{Funcs: []api.WFunc{number(1)}, Main: -1}, api.ErrMain},
		{api.WModule{Funcs: []api.WFunc{number(1)}, Main: math.MaxInt}, api.ErrMain},
		{api.WModule{Funcs: []api.WFunc{number(1), number(2)}, Main: 1}, api.OK},
		{api.WModule{Funcs: []api.WFunc{function(api.Long, "const t2")}}, api.ErrMain},
		{api.WModule{Funcs: []api.WFunc{function(api.Void, "-")}}, api.ErrMain},
		{api.WModule{Funcs: []api.WFunc{takes(1, api.Int, "const t1")}}, api.ErrMain},
		{api.WModule{Funcs: []api.WFunc{takes(1, api.Int, "const t1"), number(1)}, Main: 1}, api.OK},
		{api.WModule{Funcs: []api.WFunc{number(1), wrong}, Main: 9}, api.ErrForm},
	} {
		if got := Check(x.m); got != x.want {
			t.Errorf("%d: error %d, want %d", k, got, x.want)
		}
		if run := Run(x.m, nil, 10); x.want != api.OK && !sample.SameRun(run, api.Run{}) {
			t.Errorf("%d: %v", k, run)
		}
	}
	try(t, []trial{{"the second", api.WModule{Funcs: []api.WFunc{number(1), number(2), number(3)}, Main: 1}, nil, 1, done(2)}})
}

// P12.1: what is wrong with a function, its instructions left aside, and that it is told ahead of what is wrong with those.
func TestFunctions(t *testing.T) {
	typed := func(kind int, params, locals []int) api.WFunc {
		return api.WFunc{Type: kind, Params: params, Locals: locals, Lists: sample.Lists("?")}
	}
	for k, x := range []struct {
		f    api.WFunc
		want api.Errno
	}{
		{typed(api.Char, nil, nil), api.ErrType}, {typed(4, nil, nil), api.ErrType}, {typed(-1, nil, nil), api.ErrType}, {typed(math.MinInt, nil, nil), api.ErrType},
		{typed(0, []int{api.Int, api.Void}, nil), api.ErrType}, {typed(0, []int{api.Char}, nil), api.ErrType}, {typed(0, []int{-1, api.Int}, nil), api.ErrType},
		{typed(0, nil, []int{api.Long, api.Void}), api.ErrType}, {typed(0, nil, []int{api.Char}), api.ErrType}, {typed(0, []int{api.Long}, []int{4}), api.ErrType},
		{typed(0, []int{api.Int, api.Long}, []int{api.Long, api.Int}), api.ErrForm}, {typed(1, nil, nil), api.ErrForm}, {typed(2, nil, nil), api.ErrForm},
		{api.WFunc{}, api.ErrRange}, {api.WFunc{Lists: [][]api.W{}}, api.ErrRange}, {api.WFunc{Type: api.Char}, api.ErrType},
		{api.WFunc{Lists: [][]api.W{nil}}, api.OK},
	} {
		m := alone("const t1")
		m.Funcs = append(m.Funcs, x.f)
		if got := Check(m); got != x.want {
			t.Errorf("%d: error %d, want %d", k, got, x.want)
		}
	}
}

// P12.1: each list but the body is referred to exactly once, from a later one, and nothing else is.
func TestReferences(t *testing.T) {
	for lists, want := range map[string]api.Errno{
		"- | block":               api.OK,
		"- | loop":                api.OK,
		"- | get, if o-1":         api.OK,
		"- | get, if o-5":         api.OK,
		"- | - | get, if o1":      api.OK,
		"- | - | get, if b1":      api.OK,
		"- | - | block, block b1": api.OK,
		"- | - | block b1, block": api.OK,
		"- | block | block b1":    api.OK,
		"- | - | block | block b1, get, if b2 o-1, drop": api.ErrStack, // of the drop alone
		"- | -":                          api.ErrRange, // nothing refers to it
		"- | get, drop":                  api.ErrRange,
		"- | - | block":                  api.ErrRange,
		"- | - | block b1":               api.ErrRange,
		"- | - | get, if o-1":            api.ErrRange,
		"- | block, block":               api.ErrRange, // twice
		"- | get, if":                    api.ErrRange,
		"- | block | block, block b1":    api.ErrRange,
		"- | - | get, if b1 o1, block":   api.ErrRange,
		"block":                          api.ErrRange, // within itself
		"get, if o-1":                    api.ErrRange,
		"- | get, if o1":                 api.ErrRange,
		"- | block b1":                   api.ErrRange,
		"- | block, block b1":            api.ErrRange,
		"block | block":                  api.ErrRange,
		"block | -":                      api.ErrRange,
		"block b1 | - | block":           api.ErrRange, // from an earlier one
		"block b1 | block":               api.ErrRange, // from the body, and to it
		"block b1 | - | block, block b1": api.ErrRange,
		"- | block b2":                   api.ErrRange, // there is no such list
		"- | block b-1":                  api.ErrRange,
		"- | block, loop b2":             api.ErrRange,
		"- | block, loop b-1":            api.ErrRange,
		"- | get, if o2":                 api.ErrRange,
		"- | get, if b-1":                api.ErrRange,
		"- | get, if b-1 o-1":            api.ErrRange,
		"- | block, get, if b2 o-1":      api.ErrRange,
		"- | block b9223372036854775807": api.ErrRange,
		"? | block b2":                   api.ErrRange, // ahead of what is wrong with an instruction
		"drop | drop":                    api.ErrRange,
		"? b7 o9 | block":                api.ErrForm, // what is none of the three refers to nothing
		"get b7 o9, drop b1 | block o1":  api.OK,
		"br b7 | block":                  api.OK,
	} {
		m := alone("const t1")
		m.Funcs = append(m.Funcs, function(api.Void, lists))
		if got := Check(m); got != want {
			t.Errorf("%s: error %d, want %d", lists, got, want)
		}
	}
}

// P12.1: functions are checked in their order, each one wholly; a call of one that stands behind is held against what is said there.
func TestOrderOfFunctions(t *testing.T) {
	right, form, stack, kind := function(api.Void, "-"), function(api.Void, "?"), function(api.Void, "drop"), function(api.Char, "-")
	for k, x := range []struct {
		l    []api.WFunc
		want api.Errno
	}{
		{[]api.WFunc{right, form, stack, kind}, api.ErrForm}, {[]api.WFunc{right, stack, form, kind}, api.ErrStack}, {[]api.WFunc{right, kind, form}, api.ErrType}, {[]api.WFunc{{}, kind}, api.ErrRange}, {[]api.WFunc{right, right}, api.ErrMain},
		{[]api.WFunc{function(api.Void, "call n4"), kind}, api.ErrStack},
		{[]api.WFunc{function(api.Void, "call n4, drop"), kind}, api.ErrType},
		{[]api.WFunc{function(api.Void, "call n4"), {Type: api.Void}}, api.ErrRange},
		{[]api.WFunc{function(api.Void, "const t1, call n4"), {Params: []int{api.Char}}}, api.ErrStack},
		{[]api.WFunc{function(api.Void, "const t1, call n4"), {Params: []int{api.Void}}}, api.ErrStack},
		{[]api.WFunc{function(api.Void, "trap, call n4"), {Params: []int{api.Char}}}, api.ErrType},
	} {
		if got := Check(api.WModule{Funcs: x.l}); got != x.want {
			t.Errorf("%d: error %d, want %d", k, got, x.want)
		}
	}
}

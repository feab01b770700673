package sample

import (
	"testing"

	"mortise/api"
	"mortise/clone"
)

func TestKeeps(t *testing.T) {
	run := func(status, code int, out ...int) api.Run { return api.Run{Out: out, Status: status, Code: code} }
	for _, x := range []struct {
		before, after api.Run
		want          bool
	}{
		{run(api.Done, 7, 1, 2), run(api.Done, 7, 1, 2), true},
		{run(api.Done, 7, 1, 2), run(api.Done, 8, 1, 2), false},
		{run(api.Done, 7, 1, 2), run(api.Done, 7, 1, 2, 3), false},
		{run(api.Done, 7, 1, 2), run(api.Going, 0, 1, 2), false},
		{run(api.Trapped, 1, 1), run(api.Trapped, 2, 1), false},
		{run(api.Going, 0, 1, 2), run(api.Going, 0, 1, 2), true},
		{run(api.Going, 0, 1, 2), run(api.Going, 0, 1, 2, 3), true},
		{run(api.Going, 0, 1, 2), run(api.Done, 7, 1, 2, 3), true},
		{run(api.Going, 0, 1, 2), run(api.Going, 0, 1), false},
		{run(api.Going, 0, 1, 2), run(api.Done, 0, 1, 3), false},
	} {
		if got := Keeps(x.before, x.after); got != x.want {
			t.Error(x, got)
		}
	}
}

func TestChanged(t *testing.T) {
	m := Module(1, 3)
	long := func(c api.Code) api.Code { c.Name += "!"; return c }
	got := Changed(m, long, long)
	for k, c := range got.Funcs {
		if c.Name != m.Funcs[k].Name+"!!" {
			t.Error(c.Name)
		}
	}
	if len(got.Funcs) != len(m.Funcs) || len(got.Globals) != len(m.Globals) {
		t.Error(len(got.Funcs), len(got.Globals))
	}
}

// What a change may not do is told; what it may is not.
func TestApart(t *testing.T) {
	call := Code("i: call 0 0, jump to1 | call 0, return")
	if wrong := Apart(clone.Code, call); wrong != "" {
		t.Error(wrong)
	}
	count := 0
	for name, change := range map[string]func(api.Code) api.Code{
		"it is the same":     func(c api.Code) api.Code { return c },
		"registers are kept": func(c api.Code) api.Code { regs := c.Regs; c = clone.Code(c); c.Regs = regs; return c },
		"arguments are kept": func(c api.Code) api.Code {
			args := c.Blocks[0].Code[0].Args
			c = clone.Code(c)
			c.Blocks[0].Code[0].Args = args
			return c
		},
		"a block's code is kept": func(c api.Code) api.Code {
			code := c.Blocks[1].Code
			c = clone.Code(c)
			c.Blocks[1].Code = code
			return c
		},
		"lists share memory": func(c api.Code) api.Code {
			c = clone.Code(c)
			c.Blocks[1].Code[0].Args = c.Blocks[0].Code[0].Args[1:]
			return c
		},
		"what stands behind is changed": func(c api.Code) api.Code { c.Regs = append(c.Regs, 5); return clone.Code(c) },
		"an end is changed":             func(c api.Code) api.Code { c.Blocks[0].End.To = 0; return clone.Code(c) },
		"it is another one each time":   func(c api.Code) api.Code { count++; c = clone.Code(c); c.Params = count; return c },
	} {
		if Apart(change, call) == "" {
			t.Errorf("%s: nothing was found", name)
		}
	}
}

func TestStrange(t *testing.T) {
	count := 0
	for c := range Strange {
		count++
		if count == 10 && len(c.Blocks) == 0 {
			t.Error("no blocks")
		}
	}
	if count < 1000 {
		t.Error(count)
	}
	for range Strange {
		break
	}
}

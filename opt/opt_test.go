package opt

import (
	"testing"

	"mortise/api"
	"mortise/ir"
	"mortise/sample"
)

// world is a module of globals 0 to 4, functions 0 to 2, and as function 3 the main that is given.
func world(c api.Code) api.Module {
	c.Name = "main"
	return api.Module{
		Globals: []api.Global{{Name: "g", Type: api.Int}, {Name: "h", Type: api.Long}, {Name: "c", Type: api.Char, Size: 2}, {Name: "t", Type: api.Int, Size: 3}, {Name: "u", Type: api.Long, Size: 4}},
		Funcs: []api.Code{
			{Name: "f", Type: api.Int, Params: 2, Regs: []int{api.Int, api.Long}, Blocks: []api.Block{{End: api.End{Kind: api.Return}}}},
			{Name: "v", Blocks: []api.Block{{End: api.End{Kind: api.Return, A: -1}}}},
			{Name: "l", Type: api.Long, Regs: []int{api.Long}, Blocks: []api.Block{{End: api.End{Kind: api.Return}}}},
			c,
		},
	}
}

// row is a function, and what becomes of it, in the form of sample.ShowCode; an empty text: the same.
type row struct{ code, want string }

// hold holds what becomes of functions of a valid module.
func hold(t *testing.T, name string, change func(api.Code) api.Code, rows []row) {
	t.Helper()
	for _, x := range rows {
		c := sample.Code(x.code)
		if no := ir.Check(world(c)); no != api.OK {
			t.Errorf("%s: error %d", x.code, no)
			continue
		}
		if x.want == "" {
			x.want = x.code
		}
		got := change(c)
		if s := sample.ShowCode(got); s != x.want {
			t.Errorf("%s of\n%s:\n%s, want\n%s", name, x.code, s, x.want)
		}
		if no := ir.Check(world(got)); no != api.OK {
			t.Errorf("%s of\n%s: error %d", name, x.code, no)
		}
	}
}

func holdFold(t *testing.T, rows []row) {
	t.Helper()
	hold(t, "Fold", Fold, rows)
}

func holdDead(t *testing.T, rows []row) {
	t.Helper()
	hold(t, "Dead", Dead, rows)
}

// P8.1, P8.2: the chapter's examples.
func TestExamples(t *testing.T) {
	holdFold(t, []row{
		{"iii: const n2, copy d1, bin t1 d2 a1 +, branch a2 to1 or2 | return | return", "iii: const n2, const d1 n2, const d2 n4, jump to1 | return | return"},
		{"iii: copy d1, const n5, copy d2 a1, return", ""},
		{"iii: copy d1, bin t1 d2 a1 b1 +, return", "iii: copy d1, bin t1 d2 +, return"},
		{"iii: const n1, const d1, bin t1 d2 b1 /, return", ""},
	})
	holdDead(t, []row{
		{"i: const n1, const n2, return", "i: const n2, return"},
		{"ii: bin t1 d1 /, return", ""},
	})
}

// P8.1, P8.2: everything else of a function stays as it is.
func TestOtherFieldsStay(t *testing.T) {
	c := api.Code{Name: "some", Type: api.Long, Params: 1, Regs: []int{api.Long, api.Int, api.Long}, Blocks: []api.Block{
		{Code: []api.Instr{{Op: api.IIn, Dst: 2}}, End: api.End{Kind: api.Jump, To: 1}},
		{End: api.End{Kind: api.Return, A: 0}},
	}}
	for name, change := range changes() {
		if got := change(c); !sample.SameCode(got, c) {
			t.Errorf("%s: %v, want %v", name, got, c)
		}
	}
}

// changes are the functions that the chapter lists.
func changes() map[string]func(api.Code) api.Code {
	return map[string]func(api.Code) api.Code{"Fold": Fold, "Dead": Dead}
}

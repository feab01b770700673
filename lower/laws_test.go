package lower

import (
	"math/rand"
	"slices"
	"strings"
	"testing"

	"mortise/api"
	"mortise/ir"
	"mortise/read"
	"mortise/sample"
	"mortise/sem"
)

// holdModule holds P7.2 and P7.3 for a program, and tells how its runs end.
func holdModule(t *testing.T, text string) []api.Run {
	t.Helper()
	p := read.Checked(text)
	m, no := Lower(p)
	if no != api.OK {
		t.Fatal(no, text)
	}
	if no := ir.Check(m); no != api.OK {
		t.Fatalf("no valid module: %d\n%s", no, text)
	}
	var runs []api.Run
	for _, input := range sample.Inputs() {
		const most = 4000
		want := sem.Run(p, input, most)
		runs = append(runs, want)
		if want.Status == api.Going {
			got := ir.Run(m, input, most)
			if n := min(len(got.Out), len(want.Out)); !slices.Equal(got.Out[:n], want.Out[:n]) {
				t.Fatalf("input %v: %v, want %v\n%s", input, got, want, text)
			}
			continue
		}
		low, high := 0, most // so many steps are too few, and so many enough
		for low+1 < high {
			if middle := (low + high) / 2; sem.Run(p, input, middle).Status == api.Going {
				low = middle
			} else {
				high = middle
			}
		}
		if got := ir.Run(m, input, 30*high+30); !sample.SameRun(got, want) {
			t.Fatalf("input %v, %d steps: %v, want %v\n%s", input, high, got, want, text)
		}
	}
	return runs
}

// P7.2, P7.3: made programs become valid modules that do the same.
func TestModulesDoTheSame(t *testing.T) {
	ended := sample.Ended{}
	for seed := range 700 {
		text := sample.Program(seed, seed%5)
		if _, no := Lower(read.Checked(text)); no == api.ErrMany {
			continue
		}
		for _, run := range holdModule(t, text) {
			ended.Add(run)
		}
	}
	if rare := ended.Rare(20); len(rare) > 0 {
		t.Error("few runs ended so:", rare)
	}
}

// P7.3: the edges at which a module could do something else than its program.
func TestEdgesOfMeaning(t *testing.T) {
	for _, x := range []struct {
		text string
		want api.Run
	}{
		{"int main() { }", api.Run{Status: api.Done}},
		{"int main() { return 1 + 2L; }", api.Run{Status: api.Done, Code: 3}},
		{"int main() { return 4294967297L; }", api.Run{Status: api.Done, Code: 1}},
		{"int main() { if (4294967296L) out(1); if (!4294967296L) out(2); while (4294967296L) return 3; }", api.Run{Out: []int{1}, Status: api.Done, Code: 3}},
		{"int main() { out(4294967296L && 4294967296L); out(0L || 4294967296L); out(0L || 0); out(7 && 0L); }", api.Run{Out: []int{1, 1, 0, 0}, Status: api.Done}},
		{"int main() { out(0 && 1 / 0); out(2 || 1 / 0); out(1 && 1 / 0); }", api.Run{Out: []int{0, 1}, Status: api.Trapped, Code: api.TrapZero}},
		{"char c[1]; int main() { c[0] = 511L; out(c[0]); out((char) 200); out((char) 511L); out(c[4294967296L]); }", api.Run{Out: []int{-1, -56, -1}, Status: api.Trapped, Code: api.TrapIndex}},
		{"int t[1]; int main() { t[1 / 0] = t[1]; }", api.Run{Status: api.Trapped, Code: api.TrapZero}},
		{"int t[1]; int main() { t[1] = 1 / 0; }", api.Run{Status: api.Trapped, Code: api.TrapZero}},
		{"int main() { out(1 << 33L); out(1L << 33); out(-1 >> 63L); out(1 << 4294967297L); }", api.Run{Out: []int{2, 1 << 33, -1, 2}, Status: api.Done}},
		{"int main() { out(-2147483647 - 1 == -2147483648L); out(~0L); out(-5L); out(!5L); }", api.Run{Out: []int{1, -1, -5, 0}, Status: api.Done}},
		{"int g; long f(long a, int b) { g = g + 1; return a + b; } int main() { out(f(g, f(1, 4294967298L))); out(g); }", api.Run{Out: []int{3, 2}, Status: api.Done}},
		{"int f(int n) { if (n) return f(n - 1); return 7; } int main() { out(f(30)); out(f(31)); }", api.Run{Out: []int{7}, Status: api.Trapped, Code: api.TrapCalls}},
		{"long f() { } int main() { goto l; int a = 5; l: out(a); out(f()); }", api.Run{Out: []int{0, 0}, Status: api.Done}},
		{"int g; int main() { int i = 3; m: while (i) { l: i = i - 1; if (i == 1) goto l; out(i); } if (!g) { g = 1; i = 2; goto m; } }", api.Run{Out: []int{2, 0, 0}, Status: api.Done}},
	} {
		if run := holdModule(t, x.text)[0]; !sample.SameRun(run, x.want) {
			t.Errorf("%s: %v, want %v", x.text, run, x.want)
		}
	}
}

// P7.1: the globals, and the functions' names, types and parameters, in order.
func TestModule(t *testing.T) {
	m, no := Lower(read.Checked("int z; char a[3]; int main() { return 0; } void q(long a, int b) { long c = a; } long y; long b(int a) { }"))
	const want = "z t1 at4\na t3 size3 at12\ny t2 at86\n" +
		"main t1 ii: const, return | const d1, return a1\n" +
		"q p2 lil: copy d2, return a-1\n" +
		"b t2 p1 il: const d1, return a1\n"
	if got := sample.ShowModule(m); got != want || no != api.OK {
		t.Errorf("%d\n%s\n%s", no, got, want)
	}
}

// P7.1: a function may have 400 blocks, and 4096 registers.
func TestLimits(t *testing.T) {
	blocks := func(n int) string { return strings.Repeat(" return;", n-1) }
	registers := func(n int) string { // 41 of the first ones, by only 22 nodes, and 1 of the others
		return strings.Repeat(" g = "+strings.Repeat("-", 20)+"g;", n/41) + strings.Repeat(" g = g;", n%41)
	}
	for _, x := range []struct {
		body string
		want api.Errno
	}{
		{blocks(399), api.OK}, {blocks(400), api.OK}, {blocks(401), api.ErrMany}, {blocks(402), api.ErrMany},
		{registers(4095), api.OK}, {registers(4096), api.OK}, {registers(4097), api.ErrMany}, {registers(4098), api.ErrMany},
	} {
		for _, text := range []string{
			"int g; int main() { } void f() {" + x.body + " }",
			"int g; void f() {" + x.body + " } int main() { }",
		} {
			m, no := Lower(read.Checked(text))
			if no != x.want || no != api.OK && len(m.Globals)+len(m.Funcs) > 0 || no == api.OK && ir.Check(m) != api.OK {
				t.Errorf("%d bytes: %d, want %d", len(x.body), no, x.want)
			}
		}
	}
	many, _ := Lower(read.Checked("int g; void f(int a) {" + registers(4095) + " } int main() { }"))
	if n := len(many.Funcs[0].Regs); n != 4096 {
		t.Error(n)
	}
}

// R3, R4: the program stays as it is; the module is new memory; and another one is the same.
func TestProgramStaysAsItIs(t *testing.T) {
	for seed := range 200 {
		text := sample.Program(seed, seed%4)
		p := read.Checked(text)
		p.Globals = append(make([]api.Global, 0, 99), p.Globals...)
		for i := range p.Funcs {
			p.Funcs[i].Vars = append(make([]int, 0, 99), p.Funcs[i].Vars...)
		}
		m, no := Lower(p)
		before := sample.ShowModule(m)
		for i := range m.Globals {
			m.Globals[i] = api.Global{}
		}
		for _, f := range m.Funcs {
			clear(f.Regs[:cap(f.Regs)])
			for _, b := range f.Blocks {
				for _, i := range b.Code {
					clear(i.Args[:cap(i.Args)])
				}
				clear(b.Code[:cap(b.Code)])
			}
			clear(f.Blocks[:cap(f.Blocks)])
		}
		again, also := Lower(p)
		if no != also || sample.ShowModule(again) != before {
			t.Fatal(seed, "another module")
		}
		for _, f := range p.Funcs {
			if l := f.Vars[:cap(f.Vars)]; slices.ContainsFunc(l[len(f.Vars):], func(v int) bool { return v != 0 }) {
				t.Fatal(seed, "behind the variables", l)
			}
		}
		if fresh, _ := Lower(read.Checked(text)); sample.ShowModule(fresh) != before {
			t.Fatal(seed, "the program was changed")
		}
	}
}

// The rules of the language: what check never answers is lowered to something or nothing, but without a panic, and not forever.
func TestProgramsThatAreNone(t *testing.T) {
	body := func(nodes ...api.Node) api.Program {
		return api.Program{Funcs: []api.Func{{Name: "main", Type: api.Int, Body: len(nodes) - 1, Vars: []int{api.Int}}}, Nodes: nodes}
	}
	number := api.Node{Op: api.ENumber, Type: api.Int}
	chain := []api.Node{number}
	for i := range 1 << 20 {
		chain = append(chain, api.Node{Op: api.EUnary, S: "-", Type: api.Int, Kids: []int{i}})
	}
	chain = append(chain, api.Node{Op: api.SOut, Kids: []int{len(chain) - 1}})
	below := body(api.Node{Op: api.SBlock})
	below.Funcs[0].Body = -1
	twice := body(api.Node{Op: api.SBlock})
	twice.Funcs = append(twice.Funcs, twice.Funcs[0])
	for name, p := range map[string]api.Program{
		"nothing":                      {},
		"a body that is not there":     body(),
		"a body below all nodes":       below,
		"a body of two functions":      twice,
		"a body that is an expression": body(number),
		"no expression":                body(api.Node{Op: api.SBlock}, api.Node{Op: api.SOut, Kids: []int{0}}),
		"no such node":                 body(api.Node{Op: 99}),
		"a block within itself":        body(api.Node{Op: api.SBlock, Kids: []int{0}}),
		"two within each other":        body(api.Node{Op: api.EUnary, Kids: []int{1}}, api.Node{Op: api.EUnary, Kids: []int{0}}, api.Node{Op: api.SOut, Kids: []int{0}}),
		"a kid in two places":          body(number, api.Node{Op: api.SOut, Kids: []int{0}}, api.Node{Op: api.SOut, Kids: []int{0}}, api.Node{Op: api.SBlock, Kids: []int{1, 2}}),
		"a kid that is not there":      body(api.Node{Op: api.SOut, Kids: []int{-1}}),
		"no kid":                       body(api.Node{Op: api.SOut}),
		"no variable":                  body(number, api.Node{Op: api.SAssign, Ref: 7, Kids: []int{0}}),
		"no global":                    body(number, api.Node{Op: api.SAssign, Ref: -7, Kids: []int{0}}),
		"no function":                  body(api.Node{Op: api.ECall, Ref: 1}, api.Node{Op: api.SExpr, Kids: []int{0}}),
		"nodes nested too deep":        body(chain...),
	} {
		if m, no := Lower(p); len(m.Funcs)+len(m.Globals) > 0 || no != api.OK {
			t.Errorf("%s: %d, %v", name, no, m)
		}
	}
}

func TestSpoiledPrograms(t *testing.T) {
	random := rand.New(rand.NewSource(7))
	for seed := range 2000 {
		p := read.Checked(sample.Program(seed, seed%4))
		for range 1 + random.Intn(4) {
			sample.SpoilProgram(random.Int(), &p)
		}
		Lower(p)
	}
}

package sem

import (
	"math"
	"testing"

	"mortise/api"
	"mortise/read"
	"mortise/sample"
)

// trial is a program, its input, how many steps it needs till it ends, and its run with as many.
type trial struct {
	text  string
	input []int
	steps int
	run   api.Run
}

func done(code int, out ...int) api.Run { return api.Run{Out: out, Status: api.Done, Code: code} }

func trapped(number int, out ...int) api.Run {
	return api.Run{Out: out, Status: api.Trapped, Code: number}
}

// try runs programs with the steps that they need, with more, and with fewer.
func try(t *testing.T, l []trial) {
	t.Helper()
	for _, x := range l {
		p := read.Checked(x.text)
		if wrong := runs(p).Take(x.input, x.steps, x.run); wrong != "" {
			t.Errorf("%s, input %v, %s", x.text, x.input, wrong)
		}
	}
}

func TestExamples(t *testing.T) {
	for _, x := range []trial{
		{"int main() { out(in() + 1); return 7; }", []int{41}, 100, done(7, 42)},
		{"int main() { out(in() + 1); return 7; }", []int{41}, 4, api.Run{Status: api.Going}},
		{"int t[2]; int main() { t[1] = 5; out(t[1]); out(t[2]); }", nil, 100, trapped(api.TrapIndex, 5)},
		{"int f(int n) { return f(n + 1); } int main() { return f(0); }", nil, 1000, trapped(api.TrapCalls)},
		{"int main() { int i = 0; l: if (i < 3) { out(i); i = i + 1; goto l; } }", nil, 100, done(0, 0, 1, 2)},
		{"int main() { return 7; }", nil, 100, done(7)},
		{"int main() { out(in() + 1); return 0; }", []int{41}, 100, done(0, 42)},
		{"int main() { out(2147483647 + 1); out(2147483647L + 1); }", nil, 100, done(0, -2147483648, 2147483648)},
		{"int main() { return 1 / in(); }", nil, 100, trapped(api.TrapZero)},
		{"int main() { return (0 - 2147483647 - 1) / (0 - 1); }", nil, 100, trapped(api.TrapOver)},
		{"int t[3]; int main() { return t[3]; }", nil, 100, trapped(api.TrapIndex)},
		{"int t[3]; int main() { return t[0 - 1]; }", nil, 100, trapped(api.TrapIndex)},
		{"int main() { int a = 0; int b = 0; if (a) if (b) out(1); else out(2); }", nil, 100, done(0)},
		{"int main() { int a = 1; int b = 0; if (a) if (b) out(1); else out(2); }", nil, 100, done(0, 2)},
	} {
		if run := Run(read.Checked(x.text), x.input, x.steps); !sample.SameRun(run, x.run) {
			t.Errorf("%s: %v, want %v", x.text, run, x.run)
		}
	}
}

// P5.1: which steps are consumed is counted for each statement; each runs with exactly so many.
func TestPlainStatements(t *testing.T) {
	try(t, []trial{
		{"int main() { }", nil, 1, done(0)},
		{"int main() { {} { {} } }", nil, 4, done(0)},
		{"int main() { { { return 3; } } }", nil, 5, done(3)},
		{"int main() { out(in() + 1); return 7; }", []int{41}, 7, done(7, 42)},
		{"int main() { int a = 4294967303L; return a; }", nil, 5, done(7)},
		{"int main() { long a = 4294967303L; out(a); }", nil, 5, done(0, 4294967303)},
		{"int main() { int a = 1; a = 4294967298L; out(a); }", nil, 7, done(0, 2)},
		{"int main() { long a = 1; a = 4294967298L; out(a); }", nil, 7, done(0, 4294967298)},
		{"int g; long h; int main() { g = 4294967303L; h = 4294967303L; out(g); out(h); }", nil, 9, done(0, 7, 4294967303)},
		{"long h; int g; int main() { h = 3; out(g); out(h); }", nil, 7, done(0, 0, 3)},
		{"char c[2]; int main() { c[1] = 200; out(c[1]); out(c[0]); }", nil, 10, done(0, -56, 0)},
		{"int c[2]; int main() { c[0] = 4294967295L; out(c[0]); }", nil, 7, done(0, -1)},
		{"long c[2]; int main() { c[0] = 4294967295L; out(c[0]); }", nil, 7, done(0, 4294967295)},
		{"int c[2]; int d[2]; int main() { c[1] = 5; d[1] = 6; out(c[1]); }", nil, 10, done(0, 5)},
		{"int main() { out(1); out(-1L); }", nil, 6, done(0, 1, -1)},
		{"int f() { out(1); return 2; } int main() { f(); out(3); }", nil, 10, done(0, 1, 3)},
	})
}

func TestBranchesAndLoops(t *testing.T) {
	try(t, []trial{
		{"int main() { if (1) out(2); out(3); }", nil, 7, done(0, 2, 3)},
		{"int main() { if (0) out(2); out(3); }", nil, 5, done(0, 3)},
		{"int main() { if (5) out(2); else out(4); out(3); }", nil, 7, done(0, 2, 3)},
		{"int main() { if (0) out(2); else out(4); out(3); }", nil, 7, done(0, 4, 3)},
		{"int main() { if (4294967296L) out(2); }", nil, 5, done(0, 2)},
		{"int main() { if (-1) { if (1) out(1); out(2); } else out(3); out(4); }", nil, 13, done(0, 1, 2, 4)},
		{"int main() { int i = 2; while (i) i = i - 1; return i; }", nil, 19, done(0)},
		{"int main() { while (0) out(1); out(2); }", nil, 5, done(0, 2)},
		{"int main() { long i = 4294967296L; while (i) i = 0; out(2); }", nil, 11, done(0, 2)},
		{"int main() { while (in()) {} out(2); }", []int{1, 1}, 11, done(0, 2)},
		{"int main() { while (in()) while (in()) out(7); }", []int{1, 1, 0, 1, 0, 0}, 15, done(0, 7)},
		{"int main() { while (in()) if (in()) out(7); else out(8); }", []int{1, 1, 1, 0}, 15, done(0, 7, 8)},
	})
}

func TestJumps(t *testing.T) {
	try(t, []trial{
		{"int main() { goto l; out(1); l: out(2); }", nil, 5, done(0, 2)},
		{"int main() { l: out(2); }", nil, 4, done(0, 2)},
		{"int main() { l: m: { out(1); } out(2); }", nil, 8, done(0, 1, 2)},
		{"int main() { goto m; l: out(1); m: out(2); }", nil, 5, done(0, 2)},
		{"int main() { int i = 1; goto k; while (i) { k: out(i); i = i - 1; } out(9); }", nil, 15, done(0, 1, 9)},
		{"int main() { goto k; while (0) k: out(1); out(9); }", nil, 9, done(0, 1, 9)},
		{"int main() { goto k; if (0) k: out(1); else out(2); out(3); }", nil, 7, done(0, 1, 3)},
		{"int main() { goto k; if (1) out(1); else k: out(2); out(3); }", nil, 7, done(0, 2, 3)},
		{"int main() { goto k; { out(1); k: out(2); } out(3); }", nil, 7, done(0, 2, 3)},
		{"int main() { while (1) { while (1) { goto k; } } k: return 4; }", nil, 11, done(4)},
		{"int main() { if (1) { goto k; } else { k: out(5); } }", nil, 8, done(0, 5)},
		{"int f() { goto l; out(1); l: return 2; } int main() { goto l; out(3); l: return f(); }", nil, 10, done(2)},
		{"int main() { goto l; { l: {} } return 3; }", nil, 6, done(3)},
	})
}

func TestEndless(t *testing.T) {
	for _, text := range []string{"int main() { l: goto l; }", "int main() { while (1) {} }", "int main() { while (1) if (0) out(1); }", "int main() { l: m: { goto l; } }"} {
		if run := Run(read.Checked(text), nil, 10000); !sample.SameRun(run, api.Run{Status: api.Going}) {
			t.Errorf("%s: %v", text, run)
		}
	}
}

// P5.2: a return ends the call, from wherever it stands; so does the end of the function.
func TestReturns(t *testing.T) {
	try(t, []trial{
		{"int main() { return 4294967303L; }", nil, 3, done(7)},
		{"int f() { return 4294967303L; } int main() { out(f()); }", nil, 6, done(0, 7)},
		{"long f() { return 4294967303L; } int main() { out(f()); }", nil, 6, done(0, 4294967303)},
		{"long f() { return 2147483647 + 1; } int main() { out(f()); }", nil, 8, done(0, -2147483648)},
		{"int f() { } int main() { out(f()); return 5; }", nil, 6, done(5, 0)},
		{"int f() { while (1) { if (1) { return 6; } } } int main() { return f() + 1; }", nil, 14, done(7)},
		{"void f() { out(1); return; out(2); } int main() { f(); out(3); }", nil, 9, done(0, 1, 3)},
		{"void f() { } int main() { f(); out(3); }", nil, 6, done(0, 3)},
		{"int f(int n) { if (n) { return 1; } } int main() { out(f(1)); out(f(0)); }", nil, 16, done(0, 1, 0)},
		{"int g; int main() { g = g + 1; if (g < 3) return main() + 1; return 5; }", nil, 37, done(7)},
	})
}

// The variables of a call are 0 at its beginning, and are neither made nor set anew where a block is entered again.
func TestVariables(t *testing.T) {
	for _, x := range []trial{
		{"void f(int n) { if (n) goto s; int x = 5; s: out(x); } int main() { f(0); f(1); f(0); }", nil, 0, done(0, 5, 0, 5)},
		{"int main() { int i = 0; while (i < 2) { if (i) goto s; int x = 5; s: out(x); x = 7; i = i + 1; } }", nil, 0, done(0, 5, 7)},
		{"int main() { int x = 1; { int x = 2; out(x); { long x = 3; x = x + 1; out(x); } out(x); } out(x); }", nil, 0, done(0, 2, 4, 2, 1)},
		{"int f(int n) { int k = n; if (n) { f(n - 1); } out(k); return k; } int main() { return f(2); }", nil, 0, done(2, 0, 1, 2)},
		{"int g; void f(int g) { g = 5; out(g); } int main() { g = 3; f(1); out(g); }", nil, 0, done(0, 5, 3)},
		{"int x; int f() { x = x + 1; return x; } int main() { int a = f(); int x = 9; a = f(); out(a); out(x); }", nil, 0, done(0, 2, 9)},
		{"int main() { int a = 1; if (0) int b = 2; out(b); b = 4; out(a + b); }", nil, 0, done(0, 0, 5)},
	} {
		if run := Run(read.Checked(x.text), x.input, 1000); !sample.SameRun(run, x.run) {
			t.Errorf("%s: %v, want %v", x.text, run, x.run)
		}
	}
}

// P5.1: a number of steps that is never used up changes nothing.
func TestMostSteps(t *testing.T) {
	if run := Run(read.Checked("int main() { out(in()); return 7; }"), []int{4}, math.MaxInt); !sample.SameRun(run, done(7, 4)) {
		t.Error(run)
	}
}

// P5.1: without steps, nothing begins.
func TestNoSteps(t *testing.T) {
	p := read.Checked("int main() { }")
	for _, steps := range []int{0, -1, math.MinInt} {
		if run := Run(p, nil, steps); !sample.SameRun(run, api.Run{Status: api.Going}) {
			t.Error(steps, run)
		}
	}
}

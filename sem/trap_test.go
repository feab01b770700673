package sem

import (
	"testing"

	"mortise/api"
	"mortise/read"
	"mortise/sample"
)

// P5.2 to P5.4: a trap ends the run with what was output until then; it needs no step of its own.
func TestTraps(t *testing.T) {
	try(t, []trial{
		{"int main() { out(1); return 1 / 0; }", nil, 7, trapped(api.TrapZero, 1)},
		{"int main() { out(1 % in()); }", nil, 5, trapped(api.TrapZero)},
		{"int main() { out(1L / 0); }", nil, 5, trapped(api.TrapZero)},
		{"int main() { out((-2147483647 - 1) / -1); }", nil, 9, trapped(api.TrapOver)},
		{"int main() { out((-9223372036854775807L - 1) / -1); }", nil, 9, trapped(api.TrapOver)},
		{"int t[3]; int main() { out(t[2]); out(t[3]); }", nil, 7, trapped(api.TrapIndex, 0)},
		{"int t[3]; int main() { out(t[0]); out(t[-1]); }", nil, 8, trapped(api.TrapIndex, 0)},
		{"int t[3]; int main() { out(t[4294967296L]); }", nil, 4, trapped(api.TrapIndex)},
		{"char t[1]; int main() { out(t[in()]); out(t[in()]); }", []int{0, 1}, 7, trapped(api.TrapIndex, 0)},
		{"int t[3]; int main() { t[3] = 1; }", nil, 4, trapped(api.TrapIndex)},
		{"int t[3]; int main() { t[-1] = 1; }", nil, 5, trapped(api.TrapIndex)},
		{"int t[3]; int main() { t[4294967297L] = 1; }", nil, 4, trapped(api.TrapIndex)},
		{"int t[1024]; int main() { t[1023] = 1; t[1024] = 1; }", nil, 7, trapped(api.TrapIndex)},
	})
}

// A store's index is held against the array only when the value was evaluated; a call's arguments are evaluated ahead of its trap.
func TestOrderOfTraps(t *testing.T) {
	try(t, []trial{
		{"int t[3]; int main() { t[3] = 1 / 0; }", nil, 6, trapped(api.TrapZero)},
		{"int t[3]; int main() { t[1 / 0] = t[3]; }", nil, 5, trapped(api.TrapZero)},
		{"int t[3]; int f(int n) { out(n); return n; } int main() { t[f(3)] = f(4); }", nil, 16, trapped(api.TrapIndex, 3, 4)},
		{"int main() { out(1 / 0 + in()); }", nil, 6, trapped(api.TrapZero)},
		{"int main() { out(0 && 1 / 0); out(1 || 1 / 0); out(1 && 1 / 0); }", nil, 13, trapped(api.TrapZero, 0, 1)},
		{"int f(int n) { return f(n / n); } int main() { return f(0); }", nil, 10, trapped(api.TrapZero)},
		{"int f(int n) { return f(n + 1 + 0 / (30 - n)); } int main() { return f(0); }", nil, 4 + 31*12, trapped(api.TrapZero)},
	})
}

// P5.3: 32 calls may be open, main's among them; the one after that traps, when its arguments are evaluated.
func TestCalls(t *testing.T) {
	out := make([]int, 31)
	for i := range out {
		out[i] = i
	}
	count := "int f(int n) { out(n); return f(n + 1); } int main() { return f(0); }"
	try(t, []trial{{count, nil, 4 + 31*8, trapped(api.TrapCalls, out...)}})
	down := "int f(int n) { if (n) return f(n - 1); return 5; } int main() { return f(in()); }"
	for _, x := range []struct {
		n   int
		run api.Run
	}{{30, done(5)}, {31, trapped(api.TrapCalls)}, {0, done(5)}} {
		if run := Run(read.Checked(down), []int{x.n}, 10000); !sample.SameRun(run, x.run) {
			t.Error(x.n, run)
		}
	}
	for _, x := range []trial{
		{"int f() { return 1; } int main() { int i = 0; while (i < 100) i = i + f(); return i; }", nil, 0, done(100)},
		{"void f() { return; } int main() { int i = 0; while (i < 100) { f(); i = i + 1; } return i; }", nil, 0, done(100)},
		{"int main() { main(); }", nil, 0, trapped(api.TrapCalls)},
		{"int main() { return main(); }", nil, 0, trapped(api.TrapCalls)},
		{"void f() { g(); } void g() { out(1); f(); } int main() { f(); }", nil, 0, trapped(api.TrapCalls, 1, 1, 1, 1, 1, 1, 1, 1, 1, 1, 1, 1, 1, 1, 1)},
		{"int f(int n) { out(n); return n; } int r(int n) { return r(f(n)); } int main() { r(1); }", nil, 0, trapped(api.TrapCalls, 1, 1, 1, 1, 1, 1, 1, 1, 1, 1, 1, 1, 1, 1, 1, 1, 1, 1, 1, 1, 1, 1, 1, 1, 1, 1, 1, 1, 1, 1)},
	} {
		if run := Run(read.Checked(x.text), nil, 10000); !sample.SameRun(run, x.run) {
			t.Error(x.text, run)
		}
	}
}

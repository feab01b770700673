package lower

import (
	"strings"
	"testing"

	"mortise/api"
	"mortise/read"
	"mortise/sample"
)

// The things that the rows below name: globals 0 to 4, functions 0 and 1; what is lowered is function 2.
const world = "int g; long h; char c[2]; int t[3]; long u[4]; int f(int a, long b) { return a; } void v() { } "

// The variables of the functions below.
const (
	ints  = "int a = 1; int b = 2; " // registers 0, 1, by 2, 3
	longs = "long a = 1L; long b = 2L; "
)

// lowered2 is what main becomes.
func lowered2(t *testing.T, body string) string {
	t.Helper()
	m, no := Lower(read.Checked(world + "int main() { " + body + " }"))
	if no != api.OK || len(m.Funcs) != 3 {
		t.Fatal(no, len(m.Funcs), body)
	}
	return sample.ShowCode(m.Funcs[2])
}

// P7.1: the chapter's example.
func TestExample(t *testing.T) {
	m, no := Lower(read.Checked("int main() { return 1 + 2L; }"))
	const want = "main t1 illlii: const n1, const d1 n2, conv t2 d2, bin t2 d3 a2 b1 +, conv t1 d4 a3, return a4 | const d5, return a5\n"
	if got := sample.ShowModule(m); got != want || no != api.OK {
		t.Errorf("%d\n%s\n%s", no, got, want)
	}
}

// P7.1: the registers and the instructions of each expression.
func TestExpressions(t *testing.T) {
	const intsAhead = "const d2 n1, copy a2, const d3 n2, copy d1 a3, "
	for _, x := range []struct{ body, want string }{
		{"out(7L);", "li: const n7, out"},
		{"out(7);", "ili: const n7, conv t2 d1, out a1"},
		{"g = 7;", "ii: const n7, set"},
		{"h = 7;", "ili: const n7, conv t2 d1, set a1 n1"},
		{"g = 7L;", "lii: const n7, conv t1 d1, set a1"},
		{"g = g;", "ii: get, set"},
		{"out(h);", "li: get n1, out"},
		{"out(in());", "li: in, out"},
		{"g = c[1L];", "lii: const n1, load d1 n2, set a1"},
		{"g = t[g];", "ilii: get, conv t2 d1, load d2 a1 n3, set a2"},
		{"h = u[h];", "lli: get n1, load d1 n4, set a1 n1"},
		{"g = -g;", "iiii: get, const d1, bin t1 d2 a1 -, set a2"},
		{"h = -h;", "llli: get n1, const d1, bin t2 d2 a1 -, set a2 n1"},
		{"g = ~g;", "iiii: get, const d1 n-1, bin t1 d2 b1 ^, set a2"},
		{"h = ~h;", "llli: get n1, const d1 n-1, bin t2 d2 b1 ^, set a2 n1"},
		{"g = !g;", "iiii: get, const d1, bin t1 d2 b1 ==, set a2"},
		{"g = !h;", "llii: get n1, const d1, bin t2 d2 b1 ==, set a2"},
		{"g = g % g;", "iiii: get, get d1, bin t1 d2 b1 %, set a2"},
		{"h = g + h;", "illli: get, get d1 n1, conv t2 d2, bin t2 d3 a2 b1 +, set a3 n1"},
		{"h = h - g;", "lilli: get n1, get d1, conv t2 d2 a1, bin t2 d3 b2 -, set a3 n1"},
		{"g = h < h;", "llii: get n1, get d1 n1, bin t2 d2 b1 <, set a2"},
		{"g = g == h;", "illii: get, get d1 n1, conv t2 d2, bin t2 d3 a2 b1 ==, set a3"},
		{"g = g <= g;", "iiii: get, get d1, bin t1 d2 b1 <=, set a2"},
		{"g = g << h;", "iliii: get, get d1 n1, conv t1 d2 a1, bin t1 d3 b2 <<, set a3"},
		{"h = h >> g;", "lilli: get n1, get d1, conv t2 d2 a1, bin t2 d3 b2 >>, set a3 n1"},
		{"h = h << h;", "llli: get n1, get d1 n1, bin t2 d2 b1 <<, set a2 n1"},
		{"g = (char) g;", "iii: get, conv t3 d1, set a1"},
		{"g = (char) h;", "lii: get n1, conv t3 d1, set a1"},
		{"g = (char) (char) g;", "iiii: get, conv t3 d1, conv t3 d2 a1, set a2"},
		{"g = (int) g;", "ii: get, set"},
		{"h = (long) g;", "ili: get, conv t2 d1, set a1 n1"},
		{"h = (long) h;", "li: get n1, set n1"},
		{"g = (int) h;", "lii: get n1, conv t1 d1, set a1"},
		{"v();", "i: call d-1 n1"},
		{"f(1, 2L);", "ilii: const n1, const d1 n2, call d2 0 1"},
		{"f(1L, 2);", "liilii: const n1, conv t1 d1, const d2 n2, conv t2 d3 a2, call d4 1 3"},
		{"g = f(g, h) + 1;", "iliiii: get, get d1 n1, call d2 0 1, const d3 n1, bin t1 d4 a2 b3 +, set a4"},
		{ints + "g = a - b;", "iiiiii: " + intsAhead + "bin t1 d4 b1 -, set a4"},
		{ints + "g = a;", "iiiii: " + intsAhead + "set"},
		{ints + "f(b, b);", "iiiilii: " + intsAhead + "conv t2 d4 a1, call d5 1 4"},
		{"out(1 + 2 * in());", "iillllli: const n1, const d1 n2, in d2, conv t2 d3 a1, bin t2 d4 a3 b2 *, conv t2 d5, bin t2 d6 a5 b4 +, out a6"},
	} {
		holdMain(t, x.body, x.want+", ")
	}
}

// holdMain holds main with a body, which takes no block of its own, against a text without its last two instructions.
func holdMain(t *testing.T, body, want string) {
	t.Helper()
	got := lowered2(t, body)
	regs, code, _ := strings.Cut(want, ": ")
	last := len(regs) - 1 // main ends by returning a new 0
	want = regs + ": " + code + "const" + sample.Field("d", last) + ", return" + sample.Field("a", last)
	if got != want {
		t.Errorf("%s\n%s, want\n%s", body, got, want)
	}
}

// P7.1: && and ||, of ints and of longs, alone and within each other.
func TestChoices(t *testing.T) {
	for _, x := range []struct{ body, want string }{
		{"g = g && g;", "iiiii: get d1, branch a1 to1 or2 | get d2, const d3, bin t1 a2 b3 !=, jump to3 | const, jump to3 | set, "},
		{"g = g || g;", "iiiii: get d1, branch a1 to2 or1 | get d2, const d3, bin t1 a2 b3 !=, jump to3 | const n1, jump to3 | set, "},
		{"g = h && h;", "illilliii: get d1 n1, const d2, bin t2 d3 a1 b2 !=, branch a3 to1 or2 | get d4 n1, const d5, bin t2 d6 a4 b5 !=, const d7, bin t1 a6 b7 !=, jump to3 | const, jump to3 | set, "},
		{"g = h || h;", "illilliii: get d1 n1, const d2, bin t2 d3 a1 b2 !=, branch a3 to2 or1 | get d4 n1, const d5, bin t2 d6 a4 b5 !=, const d7, bin t1 a6 b7 !=, jump to3 | const n1, jump to3 | set, "},
		{ints + "a = a && b;", "iiiiiii: const d2 n1, copy a2, const d3 n2, copy d1 a3, branch to1 or2 | const d5, bin t1 d4 a1 b5 !=, jump to3 | const d4, jump to3 | copy a4, "},
		{"h = 1 && 2;", "iiiili: const d1 n1, branch a1 to1 or2 | const d2 n2, const d3, bin t1 a2 b3 !=, jump to3 | const, jump to3 | conv t2 d4, set a4 n1, "},
		{"g = 1 && 2 || 3;", "iiiiiiii: const d2 n1, branch a2 to1 or2 | const d3 n2, const d4, bin t1 d1 a3 b4 !=, jump to3 | const d1, jump to3 | branch a1 to5 or4 | const d5 n3, const d6, bin t1 a5 b6 !=, jump to6 | const n1, jump to6 | set, "},
		{"g = 1 || 2 && 3;", "iiiiiiii: const d1 n1, branch a1 to5 or1 | const d3 n2, branch a3 to2 or3 | const d4 n3, const d5, bin t1 d2 a4 b5 !=, jump to4 | const d2, jump to4 | const d6, bin t1 a2 b6 !=, jump to6 | const n1, jump to6 | set, "},
		{"g = 1 + (2 && 3);", "iiiiiii: const n1, const d2 n2, branch a2 to1 or2 | const d3 n3, const d4, bin t1 d1 a3 b4 !=, jump to3 | const d1, jump to3 | bin t1 d5 b1 +, set a5, "},
	} {
		holdMain(t, x.body, x.want)
	}
}

// P7.1: the blocks and the instructions of each statement.
func TestStatements(t *testing.T) {
	for _, x := range []struct{ body, want string }{
		{"", "i: "},
		{"{ }", "i: "},
		{"{ v(); { v(); } } v();", "i: call d-1 n1, call d-1 n1, call d-1 n1, "},
		{"int a = 1;", "iii: const d1 n1, copy a1, "},
		{"int a = 1L;", "ilii: const d1 n1, conv t1 d2 a1, copy a2, "},
		{"long a = 1;", "lili: const d1 n1, conv t2 d2 a1, copy a2, "},
		{longs + "b = a;", "lllli: const d2 n1, copy a2, const d3 n2, copy d1 a3, copy d1, "},
		{"int a = 1; { long a = 2L; a = 3; } a = 4;", "ilililii: const d2 n1, copy a2, const d3 n2, copy d1 a3, const d4 n3, conv t2 d5 a4, copy d1 a5, const d6 n4, copy a6, "},
		{"int a = g; a = h;", "iilii: get d1, copy a1, get d2 n1, conv t1 d3 a2, copy a3, "},
		{"t[1] = 2;", "iili: const n1, const d1 n2, conv t2 d2, store a2 b1 n3, "},
		{"t[1L] = 2L;", "llii: const n1, const d1 n2, conv t1 d2 a1, store b2 n3, "},
		{"c[1] = 2L;", "illii: const n1, const d1 n2, conv t2 d2, conv t1 d3 a1, store a2 b3 n2, "},
		{"c[1L] = 2;", "lii: const n1, const d1 n2, store b1 n2, "},
		{"u[1] = 2;", "iilli: const n1, const d1 n2, conv t2 d2, conv t2 d3 a1, store a2 b3 n4, "},
		{"u[1L] = 2L;", "lli: const n1, const d1 n2, store b1 n4, "},
		{"if (g) v();", "ii: get, branch to1 or2 | call d-1 n1, jump to2 | "},
		{"if (h) v();", "llii: get n1, const d1, bin t2 d2 b1 !=, branch a2 to1 or2 | call d-1 n1, jump to2 | "},
		{"if (1) v(); else out(2L);", "ili: const n1, branch to1 or2 | call d-1 n1, jump to3 | const d1 n2, out a1, jump to3 | "},
		{"if (1) if (2) v(); else out(3L);", "iili: const n1, branch to1 or5 | const d1 n2, branch a1 to2 or3 | call d-1 n1, jump to4 | const d2 n3, out a2, jump to4 | jump to5 | "},
		{"while (g) v();", "ii: jump to1 | get, branch to2 or3 | call d-1 n1, jump to1 | "},
		{"while (1L) { }", "llii: jump to1 | const n1, const d1, bin t2 d2 b1 !=, branch a2 to2 or3 | jump to1 | "},
		{"while (1 && 2) v();", "iiiii: jump to1 | const d1 n1, branch a1 to2 or3 | const d2 n2, const d3, bin t1 a2 b3 !=, jump to4 | const, jump to4 | branch to5 or6 | call d-1 n1, jump to1 | "},
		{"l: v();", "i: jump to1 | call d-1 n1, "},
		{"l: m: v(); goto l;", "i: jump to1 | jump to2 | call d-1 n1, jump to1 | "},
		{"goto l; l: v();", "i: jump to2 | jump to2 | call d-1 n1, "},
		{"goto m; goto l; l: v(); m: { }", "i: jump to4 | jump to3 | jump to3 | call d-1 n1, jump to4 | "},
		{"l: goto l;", "i: jump to1 | jump to1 | "},
		{"return 1;", "ii: const n1, return | "},
		{"return in();", "lii: in, conv t1 d1, return a1 | "},
		{"return 1; v(); return 2;", "iii: const n1, return | call d-1 n1, const d1 n2, return a1 | "},
		{"if (1) return 2; else goto l; l: { }", "iii: const n1, branch to1 or3 | const d1 n2, return a1 | jump to5 | jump to6 | jump to5 | jump to6 | "},
		{"out(1);", "ili: const n1, conv t2 d1, out a1, "},
	} {
		holdMain(t, x.body, x.want)
	}
}

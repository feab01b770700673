package check

import (
	"reflect"
	"strings"
	"testing"

	"mortise/api"
	"mortise/lex"
	"mortise/parse"
)

// parsed is the program of a text.
func parsed(t *testing.T, text string) api.Program {
	t.Helper()
	l, d := lex.Lex(text)
	if d != (api.Diag{}) {
		t.Fatalf("%.200q has no tokens: %+v", text, d)
	}
	p, d := parse.Parse(l)
	if d != (api.Diag{}) {
		t.Fatalf("%.200q is no program: %+v", text, d)
	}
	return p
}

// checked is the checked program of a text that has one.
func checked(t *testing.T, text string) api.Program {
	t.Helper()
	p, d := Check(parsed(t, text))
	if d != (api.Diag{}) {
		t.Fatalf("%.300q: error %+v", text, d)
	}
	return p
}

// fails checks that a text has this error, and no program beside it.
func fails(t *testing.T, text string, no api.Errno, at int) {
	t.Helper()
	p, d := Check(parsed(t, text))
	if d != (api.Diag{No: no, At: at}) || !reflect.DeepEqual(p, api.Program{}) {
		t.Fatalf("%.300q: %+v and %d nodes, want error %d at %d and a zero program", text, d, len(p.Nodes), no, at)
	}
}

// unmark is a text without the byte @ in it, and the place of the token behind that.
func unmark(t *testing.T, marked string) (string, int) {
	t.Helper()
	at := strings.IndexByte(marked, '@')
	if at < 0 {
		t.Fatalf("%.300q marks no place", marked)
	}
	rest := marked[at+1:]
	return marked[:at] + rest, at + len(rest) - len(strings.TrimLeft(rest, " "))
}

// failsAt checks that a text has this error at the token that is marked.
func failsAt(t *testing.T, no api.Errno, marked string) {
	t.Helper()
	text, at := unmark(t, marked)
	fails(t, text, no, at)
}

// prelude declares one global and one function of each sort.
const prelude = "int i; long l; char tc[3]; int ti[3]; long tl[3]; void fv() {} int fi() { return 1; } long fl(int p, long q) { return 2; } void fw(long p) {} "

// within is a program with these statements in main, behind the prelude; main's first variables are an Int and a Long.
func within(statements string) string {
	return prelude + "int main() { int vi = 1; long vl = 2; " + statements + " }"
}

// nodeAt is the node with that operation at the marked token of the statements.
func nodeAt(t *testing.T, op int, statements string) api.Node {
	t.Helper()
	text, at := unmark(t, within(statements))
	for _, n := range checked(t, text).Nodes {
		if n.Op == op && n.At == at {
			return n
		}
	}
	t.Fatalf("%q: no node with the operation %d at %d", text, op, at)
	return api.Node{}
}

// has checks the Type and the Ref of the node with that operation at the marked token of the statements.
func has(t *testing.T, op int, statements string, value, ref int) {
	t.Helper()
	if n := nodeAt(t, op, statements); n.Type != value || n.Ref != ref {
		t.Fatalf("%q: Type %d and Ref %d, want %d and %d", statements, n.Type, n.Ref, value, ref)
	}
}

// P4.1: the chapter's examples.
func TestExamples(t *testing.T) {
	checked(t, "int main(){return 0;}")
	fails(t, "int f(){return 0;}", api.ErrMain, 0)
	fails(t, "int x; int main(){ x = y; return 0;}", api.ErrName, 23)
	fails(t, "int main(){ int a = 1; { int a = 2; } int a = 3; return a;}", api.ErrTwice, 38)
	fails(t, "void f(){} int main(){ return f();}", api.ErrType, 23)
	fails(t, "int main(){ goto l; return 0;}", api.ErrLabel, 12)
	fails(t, "int main(int a){return 0;}", api.ErrMain, 4)
}

// P4.1: a whole program: what is not told by P4.2 is 0, and all else is as it was.
func TestWhole(t *testing.T) {
	text := "int g; long t[2]; void f(long a, int b) { t[b] = a; } int main() { int x = 1; while (x < 3L) { l: f(x, (char)t[g]); long y = in(); } if (!x) goto l; else out(-g); return x; }"
	p := checked(t, text)
	want := parsed(t, text)
	want.Funcs[0].Vars = []int{api.Long, api.Int}
	want.Funcs[1].Vars = []int{api.Int, api.Long}
	type facts struct{ op, value, ref int }
	l := []facts{
		{api.EName, api.Int, 1}, {api.EName, api.Long, 0}, {api.SStore, 0, 1}, {api.SBlock, 0, 0},
		{api.ENumber, api.Int, 0}, {api.SLocal, 0, 0},
		{api.EName, api.Int, 0}, {api.ENumber, api.Long, 0}, {api.EBinary, api.Int, 0},
		{api.EName, api.Int, 0}, {api.EName, api.Int, -1}, {api.EIndex, api.Long, 1}, {api.ECast, api.Int, 0}, {api.ECall, api.Void, 0}, {api.SExpr, 0, 0}, {api.SLabel, 0, 0},
		{api.EIn, api.Long, 0}, {api.SLocal, 0, 1}, {api.SBlock, 0, 0}, {api.SWhile, 0, 0},
		{api.EName, api.Int, 0}, {api.EUnary, api.Int, 0}, {api.SGoto, 0, 0}, {api.EName, api.Int, -1}, {api.EUnary, api.Int, 0}, {api.SOut, 0, 0}, {api.SIf, 0, 0},
		{api.EName, api.Int, 0}, {api.SReturn, 0, 0}, {api.SBlock, 0, 0},
	}
	for i, f := range l {
		if i >= len(want.Nodes) || want.Nodes[i].Op != f.op {
			t.Fatalf("node %d of %+v is not of the operation %d", i, want.Nodes, f.op)
		}
		want.Nodes[i].Type, want.Nodes[i].Ref = f.value, f.ref
	}
	if len(want.Nodes) != len(l) || !reflect.DeepEqual(p, want) {
		t.Fatalf("%+v, want\n%+v", p, want)
	}
}

// P4.2: the Types and Refs of numbers, names, elements and calls.
func TestOperands(t *testing.T) {
	has(t, api.ENumber, "out(@7);", api.Int, 0)
	has(t, api.ENumber, "out(@7L);", api.Long, 0)
	has(t, api.EIn, "out(@in());", api.Long, 0)
	has(t, api.EName, "out(@vi);", api.Int, 0)
	has(t, api.EName, "out(@vl);", api.Long, 1)
	has(t, api.EName, "out(@i);", api.Int, -1)
	has(t, api.EName, "out(@l);", api.Long, -2)
	has(t, api.EIndex, "out(@tc[0]);", api.Int, 2)
	has(t, api.EIndex, "out(@ti[0L]);", api.Int, 3)
	has(t, api.EIndex, "out(@tl[vl]);", api.Long, 4)
	has(t, api.ECall, "@fv();", api.Void, 0)
	has(t, api.ECall, "@fi();", api.Int, 1)
	has(t, api.ECall, "out(@fl(1, 2));", api.Long, 2)
	has(t, api.ECall, "@fl(1L, 2);", api.Long, 2)
	has(t, api.ECall, "@fw(vi);", api.Void, 3)
	has(t, api.ECall, "out(@main());", api.Int, 4)
	has(t, api.SExpr, "@fl(1, 2);", 0, 0)
}

// P4.2: the Types of signs and casts.
func TestUnary(t *testing.T) {
	for _, s := range []string{"-", "~"} {
		has(t, api.EUnary, "out(@"+s+"vi);", api.Int, 0)
		has(t, api.EUnary, "out(@"+s+"vl);", api.Long, 0)
		has(t, api.EUnary, "out(@"+s+"tc[1]);", api.Int, 0)
	}
	has(t, api.EUnary, "out(@!vi);", api.Int, 0)
	has(t, api.EUnary, "out(@!vl);", api.Int, 0)
	for _, s := range []string{"vi", "vl", "in()", "3", "3L"} {
		has(t, api.ECast, "out(@(char)"+s+");", api.Int, 0)
		has(t, api.ECast, "out(@(int)"+s+");", api.Int, 0)
		has(t, api.ECast, "out(@(long)"+s+");", api.Long, 0)
	}
	has(t, api.EUnary, "out(@-(long)1);", api.Long, 0)
	has(t, api.EUnary, "out(@-(char)1L);", api.Int, 0)
}

// P4.2: the Types of binary signs, for both types of both kids.
func TestBinary(t *testing.T) {
	for _, x := range []struct {
		signs                               string
		ints, intLong, longInt, bothAreLong int
	}{
		{"|| && == != < <= > >=", api.Int, api.Int, api.Int, api.Int},
		{"<< >>", api.Int, api.Int, api.Long, api.Long},
		{"+ - * / % & | ^", api.Int, api.Long, api.Long, api.Long},
	} {
		for _, s := range strings.Fields(x.signs) {
			has(t, api.EBinary, "out(vi @"+s+" 2);", x.ints, 0)
			has(t, api.EBinary, "out(1 @"+s+" vl);", x.intLong, 0)
			has(t, api.EBinary, "out(in() @"+s+" tc[0]);", x.longInt, 0)
			has(t, api.EBinary, "out(l @"+s+" 2L);", x.bothAreLong, 0)
		}
	}
}

// P4.2: the Refs of statements, which have no Type.
func TestStatements(t *testing.T) {
	has(t, api.SLocal, "@int a = 1L;", 0, 2)
	has(t, api.SLocal, "@long a = 1;", 0, 2)
	has(t, api.SLocal, "{ int a = 1; } @long b = 1;", 0, 3)
	has(t, api.SAssign, "@vi = 1L;", 0, 0)
	has(t, api.SAssign, "@vl = 1;", 0, 1)
	has(t, api.SAssign, "@i = 1;", 0, -1)
	has(t, api.SAssign, "@l = 1;", 0, -2)
	has(t, api.SStore, "@tc[0] = 1L;", 0, 2)
	has(t, api.SStore, "@ti[0L] = 1;", 0, 3)
	has(t, api.SStore, "@tl[vi] = vl;", 0, 4)
	has(t, api.SBlock, "@{}", 0, 0)
	has(t, api.SIf, "@if (vl) vl = 1;", 0, 0)
	has(t, api.SWhile, "@while (in()) vl = 1;", 0, 0)
	has(t, api.SGoto, "@goto a; a: vl = 1;", 0, 0)
	has(t, api.SLabel, "@a: vl = 1;", 0, 0)
	has(t, api.SReturn, "@return 1L;", 0, 0)
	has(t, api.SOut, "@out(1L);", 0, 0)
}

// P4.2: returns with and without a value, by the function's type.
func TestReturns(t *testing.T) {
	for _, kind := range []string{"int", "long"} {
		for _, s := range []string{"1", "1L", "in()", "f()"} {
			checked(t, kind+" f() { return "+s+"; } int main() {}")
		}
		checked(t, kind+" f() {} int main() {}")
		failsAt(t, api.ErrType, kind+" f() { @return; } int main() {}")
		failsAt(t, api.ErrType, kind+" f() { while (1) { l: @return; } } int main() {}")
	}
	checked(t, "void f() { return; } int main() {}")
	failsAt(t, api.ErrType, "void f() { @return 1; } int main() {}")
	failsAt(t, api.ErrType, "void f() { @return f(); } int main() {}")
	failsAt(t, api.ErrType, "int f() { return 1; } void g() { if (f()) return; @return f(); } int main() {}")
	failsAt(t, api.ErrType, "void f() { return; } int main() { @return f(); }")
}

// P4.1: the functions' Vars: the parameters' types, and those of all locals, in their order.
func TestVars(t *testing.T) {
	p := checked(t, "void f() {} int main() { { long a = 1; } if (1) int b = 2; else { long b = 3; { int b = 4; } } while (0) long c = 5; k: int d = 6; } long g(int a, long b, int c) { long d = 1; { int a = 2; } return a; } void h(long a) {}")
	want := [][]int{nil, {api.Long, api.Int, api.Long, api.Int, api.Long, api.Int}, {api.Int, api.Long, api.Int, api.Long, api.Int}, {api.Long}}
	for i, f := range p.Funcs {
		if len(f.Vars) != len(want[i]) || len(want[i]) > 0 && !reflect.DeepEqual(f.Vars, want[i]) {
			t.Errorf("%s: %v, want %v", f.Name, f.Vars, want[i])
		}
	}
}

// P4.1: what a name denotes, by the blocks around it and what stands ahead.
func TestScopes(t *testing.T) {
	has(t, api.EName, "{ long vi = 3; out(@vi); }", api.Long, 2)
	has(t, api.EName, "{ long vi = @vi; }", api.Int, 0)
	has(t, api.EName, "{ long vi = 3; } out(@vi);", api.Int, 0)
	has(t, api.EName, "{ out(@vi); long vi = 3; }", api.Int, 0)
	has(t, api.EName, "{ long vi = 3; { out(@vi); int vi = 4; } }", api.Long, 2)
	has(t, api.EName, "{ long vi = 3; { int vi = 4; } out(@vi); }", api.Long, 2)
	has(t, api.EName, "{ long vi = 3; { int vi = 4; out(@vi); } }", api.Int, 3)
	has(t, api.EName, "{ long i = 3; } out(@i);", api.Int, -1)
	has(t, api.EName, "long i = 3; out(@i);", api.Long, 2)
	has(t, api.EName, "long i = @i;", api.Int, -1)
	has(t, api.EName, "int ti = 3; out(@ti);", api.Int, 2)
	has(t, api.EName, "long fi = 3; out(@fi);", api.Long, 2)
	has(t, api.EName, "int main = 3; out(@main);", api.Int, 2)
	has(t, api.EName, "if (vi) int a = 1; out(@a);", api.Int, 2)
	has(t, api.EName, "if (vi) {} else long a = 1; out(@a);", api.Long, 2)
	has(t, api.EName, "while (vi) int a = 1; out(@a);", api.Int, 2)
	has(t, api.EName, "a: long a = 1; out(@a);", api.Long, 2)
	has(t, api.EName, "l: m: vi: int m = 1; out(@m + vi);", api.Int, 2)
	has(t, api.SAssign, "long i = 3; @i = 4;", 0, 2)
	has(t, api.SAssign, "{ long i = 3; } @i = 4;", 0, -1)
	has(t, api.EIndex, "{ long ti = 3; } out(@ti[0]);", api.Int, 3)
	has(t, api.SStore, "{ long ti = 3; } @ti[0] = 1;", 0, 3)
	has(t, api.ECall, "{ long fi = 3; } out(@fi());", api.Int, 1)
	failsAt(t, api.ErrName, within("int x = @x;"))
	failsAt(t, api.ErrName, within("{ int a = 1; } out(@a);"))
	failsAt(t, api.ErrName, within("out(@a); int a = 1;"))
	failsAt(t, api.ErrName, within("if (vi) { int a = 1; } else out(@a);"))
	failsAt(t, api.ErrName, within("while (@a) int a = 1;"))
	failsAt(t, api.ErrName, "void f(int a) { int b = 1; } int main() { return @a; }")
	failsAt(t, api.ErrName, "void f(int a) { int b = 1; } int main() { return @b; }")
}

// P4.1: parameters are declared in the function's body, and numbered first.
func TestParameters(t *testing.T) {
	p := checked(t, "long f; int g(long g, int f) { out(g + f); { int g = 1; out(g); } return f; } int main() { return g(f, 1); }")
	var refs []int
	for _, n := range p.Nodes {
		if n.Op == api.EName {
			refs = append(refs, n.Ref)
		}
	}
	if want := []int{0, 1, 2, 1, -1}; !reflect.DeepEqual(refs, want) {
		t.Fatalf("%v, want %v", refs, want)
	}
	failsAt(t, api.ErrTwice, "int f(int a) { @int a = 1; } int main() {}")
	failsAt(t, api.ErrTwice, "int f(int a, long b) { if (a) { long b = 1; } @long b = 2; } int main() {}")
	failsAt(t, api.ErrType, "int f(int f) { @f(1); } int main() {}")
	checked(t, "int f(int a) { a: goto a; } int main() {}")
}

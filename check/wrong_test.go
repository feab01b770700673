package check

import (
	"strconv"
	"strings"
	"testing"

	"mortise/api"
)

// P4.1: globals that have a name twice.
func TestGlobalTwice(t *testing.T) {
	failsAt(t, api.ErrTwice, "int a; int @a; int main() {}")
	failsAt(t, api.ErrTwice, "int a; long b; char @a[1]; int b; int main() {}")
	failsAt(t, api.ErrTwice, "int main; int @main;")
	failsAt(t, api.ErrTwice, "int f() {} long a[3]; void f() {} long @a;") // globals come first
	failsAt(t, api.ErrTwice, "int a[1024]; int @a;")                       // ahead of ErrMany
	checked(t, "int a; int aa; int a_; int main() {}")
}

// P4.1: globals that have too many bytes: the first one with which they have.
func TestGlobalBytes(t *testing.T) {
	const main = "int main() {}"
	for full, wrong := range map[string]string{
		"char a[1024]; char b[1024]; char c[1024]; char d[1024];": "char @e[1];",
		"int a[1023]; int b;":                                      "int @c;",
		"int a[1024];":                                             "long @b;",
		"long a[511]; long b;":                                     "char @c[1];",
		"long a[511]; int b; int c[1];":                            "int @t[1024];",
		"long a[256]; int b[256]; char c[1020]; int d;":            "long @e[1];",
		"char a[1]; char b[3]; int c[1022]; char d[1]; char e[3];": "char @f[1];",
	} {
		checked(t, full+main)
		failsAt(t, api.ErrMany, full+wrong+main)
		failsAt(t, api.ErrMany, full+wrong+full+"char z[1]; void f(int a, int a) { x = 1; }")
	}
	failsAt(t, api.ErrMany, "int a[1023]; char b[1]; int @c; int main() {}")
	failsAt(t, api.ErrMany, "char a[1]; int @b[1024]; int main() {}")
	failsAt(t, api.ErrMany, "char a[1]; long b[511]; long @c; int main() {}")
	failsAt(t, api.ErrMany, "long a[512]; int @b; int a; int main() {}")
	failsAt(t, api.ErrMany, "int f() {} long a[512]; int f() {} long @b;")
	failsAt(t, api.ErrMany, "long @a[1024];")
	failsAt(t, api.ErrMany, "long @a[513];")
	failsAt(t, api.ErrMany, "int a; long @b[512];")
	checked(t, "long a[512]; int main() { "+strings.Repeat("{ long b = 1; } ", 60)+"}") // locals have none
}

// functions are so many functions, named f0 and so on, and main.
func functions(n int) string {
	var b strings.Builder
	for i := range n - 1 {
		b.WriteString("void f" + strconv.Itoa(i) + "() {} ")
	}
	return b.String() + "int main() {} "
}

// params are so many parameters, named p0 and so on.
func params(n int) string {
	var l []string
	for i := range n {
		l = append(l, "long p"+strconv.Itoa(i))
	}
	return strings.Join(l, ", ")
}

// P4.1: functions: too many, names twice, too many parameters, parameters twice.
func TestFunctions(t *testing.T) {
	checked(t, functions(31))
	checked(t, functions(32))
	failsAt(t, api.ErrMany, functions(32)+"void @f() {}")
	failsAt(t, api.ErrMany, functions(32)+"void @main() {} void f0() {}")
	failsAt(t, api.ErrMany, functions(32)+"void @g(int a, int a) {}")
	failsAt(t, api.ErrTwice, functions(31)+"void @f7() {} void f() {}")
	failsAt(t, api.ErrTwice, "void f() {} int @f() {} int main() {}")
	failsAt(t, api.ErrTwice, "void @f() {} int f; int main() {}")
	failsAt(t, api.ErrTwice, "long f[2]; void @f("+params(9)+") {} int main() {}")
	failsAt(t, api.ErrTwice, "int main() { return x; } int @main() {}")
	checked(t, "void f("+params(7)+") {} int main() {}")
	checked(t, "void f("+params(8)+") {} int main() {}")
	failsAt(t, api.ErrMany, "void @f("+params(9)+") {} int main() {}")
	failsAt(t, api.ErrMany, "void @f("+params(9)+", int p0) {} void f() {}")
	failsAt(t, api.ErrMany, "void f() { x = 1; } void @g("+params(9)+") {} void f() {}")
	failsAt(t, api.ErrTwice, "void @f(int a, int a) {} int main() {}")
	failsAt(t, api.ErrTwice, "void @f(int a, long b, long a) {} int main() {}")
	failsAt(t, api.ErrTwice, "void @f("+params(7)+", long p6) {} int main() {}")
	failsAt(t, api.ErrTwice, "void f() { x = 1; } void @g(int a, int b, int b) {} void f() {}")
	checked(t, "void f(int a, int b) {} void g(int b, int a) {} int a; int main() {}")
}

// P4.1: labels twice: in ascending order of nodes, ahead of all else in the function's body.
func TestLabelTwice(t *testing.T) {
	failsAt(t, api.ErrTwice, within("a: i = 1; @a: i = 2;"))
	failsAt(t, api.ErrTwice, within("@a: a: i = 1;")) // the inner one is finished first
	failsAt(t, api.ErrTwice, within("@a: { b: i = 1; a: i = 2; }"))
	failsAt(t, api.ErrTwice, within("a: { b: i = 1; c: i = 2; @b: i = 3; } a: {}"))
	failsAt(t, api.ErrTwice, within("{ a: i = 1; } while (i) if (i) { @a: i = 2; }"))
	failsAt(t, api.ErrTwice, within("x = 1; goto b; a: i = 1; @a: i = 2;"))
	failsAt(t, api.ErrTwice, "void f() { a: out(1); } int main() { a: out(x); @a: out(2); }")
	failsAt(t, api.ErrName, "void f() { a: out(@x); } int main() { a: out(1); a: out(2); }")
	checked(t, "int a; void f() { a: a = 1; } int main() { a: goto a; b: int b = 1; main: f: f(); }")
}

// P4.2: names that denote nothing, or something else.
func TestNames(t *testing.T) {
	for _, s := range []string{"out(@x);", "out(@vj);", "out(@x[1]);", "out(@x());", "@x = 1;", "@x[1] = 1;", "out(1 + -@x);", "@x();", "@mai();", "return @x;", "while (@x) {}", "if (1) @x = 1; else y = 1;", "int x = 1 + @x;", "fw(@x);", "ti[@x] = 1;", "ti[1] = @x;", "out(ti[@x]);", "vi = (int)@x;", "out(@p);"} {
		failsAt(t, api.ErrName, within(s))
	}
	for _, s := range []string{
		"out(@ti);", "out(@tc + 1);", "out(@fi);", "out(@fv);", "out(@main);", "out(1 + @main);",
		"out(@vi[1]);", "out(@i[1]);", "out(@fi[1]);", "out(@main[1]);", "out(@vi());", "out(@i());", "out(@ti());", "@ti(1);", "@l(1, 2);",
		"@ti = 1;", "@tl = vl;", "@fi = 1;", "@main = 1;", "@vi[1] = 1;", "@i[1] = 1;", "@fi[1] = 1;",
		"{ int ti = 1; out(@ti[1]); }", "{ int ti = 1; @ti[1] = 1; }", "{ int fi = 1; out(@fi()); }", "long main = 1; @main();",
	} {
		failsAt(t, api.ErrType, within(s))
	}
}

// P4.2: what must be a value.
func TestValues(t *testing.T) {
	for _, s := range []string{
		"out(@-fv());", "out(@~fv());", "out(@!fv());", "out(@(int)fv());", "out(@(long)fv());", "out(fv() @+ 1);", "out(1 @- fv());", "out(fv() @* fv());", "out(1 @&& fv());", "out(fv() @|| 1);", "out(fv() @<< 1);", "out(1 @>> fv());", "out(fv() @== 1);", "out(1 @< fv());",
		"out(@ti[fv()]);", "@fw(fv());", "out(@fl(1, fv()));", "@fl(fv(), 1);", "@int a = fv();", "@long a = fw(1);", "@vi = fv();", "@i = fv();", "@ti[fv()] = 1;", "@ti[1] = fv();", "@if (fv()) {}", "@if (fv()) {} else {}", "@while (fv()) {}", "@return fv();", "@out(fv());", "@out((fv()));",
	} {
		failsAt(t, api.ErrType, within(s))
	}
	checked(t, within("fv(); fw(1); if (1) fv(); else fw(2); while (0) fv(); a: fv(); { fw(3); }"))
}

// P4.2: another number of arguments.
func TestArguments(t *testing.T) {
	for _, s := range []string{"@fv(1);", "@fw();", "@fw(1, 2);", "out(@fi(1));", "out(@fl());", "out(@fl(1));", "out(@fl(1, 2, 3));", "return @main(1);"} {
		failsAt(t, api.ErrArgs, within(s))
	}
	checked(t, within("fv(); fw(1); fi(); fl(1, 2); fl(fl(1, 2), fi());"))
}

// P4.2: locals that a block has twice, and too many variables.
func TestLocals(t *testing.T) {
	failsAt(t, api.ErrTwice, within("int a = 1; @int a = 2;"))
	failsAt(t, api.ErrTwice, within("@long vi = 1;"))
	failsAt(t, api.ErrTwice, within("{ int a = 1; @int a = a; }"))
	failsAt(t, api.ErrTwice, within("if (vi) int a = 1; else @int a = 2;"))
	failsAt(t, api.ErrTwice, within("while (vi) int a = 1; b: @int a = 2;"))
	failsAt(t, api.ErrTwice, within("{ int a = 1; } int a = 2; { int a = 3; } @int a = 4;"))
	checked(t, within("{ int a = 1; } { int a = 1; { int a = 2; } } int a = 3; int i = 4; int fi = 5; int main = 6; int p = 7;"))
	locals := func(n int) string {
		var b strings.Builder
		for i := range n {
			b.WriteString("{ int a" + strconv.Itoa(i%3) + " = 1; } ")
		}
		return b.String()
	}
	checked(t, "int main() { "+locals(63)+"}")
	checked(t, "int main() { "+locals(64)+"}")
	failsAt(t, api.ErrMany, "int main() { "+locals(64)+"@long b = 1; }")
	failsAt(t, api.ErrMany, "int main() { "+locals(63)+"int b = 1; { @int b = 2; } int b = 3; }")
	checked(t, "void f("+params(8)+") { "+locals(56)+"} int main() { "+locals(64)+"}")
	failsAt(t, api.ErrMany, "void f("+params(8)+") { "+locals(56)+"@int b = 1; } int main() {}")
}

// P4.2: gotos without a label in their function.
func TestGotos(t *testing.T) {
	failsAt(t, api.ErrLabel, within("@goto a;"))
	failsAt(t, api.ErrLabel, within("b: @goto a;"))
	failsAt(t, api.ErrLabel, within("@goto vi;"))
	failsAt(t, api.ErrLabel, within("@goto main;"))
	failsAt(t, api.ErrLabel, "void f() { a: out(1); } int main() { @goto a; }")
	failsAt(t, api.ErrLabel, "int main() { @goto a; } void f() { a: out(1); }")
	checked(t, within("goto a; { while (vi) a: goto b; } if (vi) { b: goto a; }"))
}

// P4.2: of several errors of one node, the one that the chapter names first.
func TestOrderInNode(t *testing.T) {
	failsAt(t, api.ErrName, within("out(@x[fv()]);"))
	failsAt(t, api.ErrName, within("@x = fv();"))
	failsAt(t, api.ErrName, within("@x[1] = fv();"))
	failsAt(t, api.ErrName, within("@x(fv());"))
	failsAt(t, api.ErrType, within("@vi(fv());"))
	failsAt(t, api.ErrArgs, within("@fi(fv());"))
	failsAt(t, api.ErrArgs, within("@fl(fv());"))
	failsAt(t, api.ErrType, within("@int vi = fv();"))
	many := "{" + strings.Repeat("{ int a = 1; } ", 61) + "} int b = 1; "
	checked(t, within(many))
	failsAt(t, api.ErrTwice, within(many+"@int b = 2;"))
	failsAt(t, api.ErrType, within(many+"@int c = fv();"))
	failsAt(t, api.ErrType, within(many+"@int b = fv();"))
	failsAt(t, api.ErrMany, within(many+"@int c = 2;"))
}

// P4.1: of several errors, the first place: kids come ahead of what they are in, functions one after the other.
func TestOrder(t *testing.T) {
	failsAt(t, api.ErrName, within("x = @y;"))
	failsAt(t, api.ErrName, within("x[@y] = z;"))
	failsAt(t, api.ErrName, within("x[1] = @z;"))
	failsAt(t, api.ErrName, within("x(1, @y, z);"))
	failsAt(t, api.ErrName, within("out(x[@y]);"))
	failsAt(t, api.ErrName, within("out(@x + y);"))
	failsAt(t, api.ErrType, within("out(@-fv() + x);"))
	failsAt(t, api.ErrName, within("out(fv() + @x);"))
	failsAt(t, api.ErrName, within("while (fv()) @x = 1;"))
	failsAt(t, api.ErrName, within("if (fv()) vi = 1; else @x = 1;"))
	failsAt(t, api.ErrLabel, within("if (fv()) { @goto x; } x = 1;"))
	failsAt(t, api.ErrName, within("int vi = @x;"))
	failsAt(t, api.ErrTwice, within("@int vi = 1; x = 1;"))
	failsAt(t, api.ErrArgs, within("x = 1 + @fi(1) + y;"))
	failsAt(t, api.ErrName, "void f() { @x = 1; } void g() { y = 1; } int h() {}")
	failsAt(t, api.ErrName, "void g() { @x = 1; } int main(int a) {}")
	failsAt(t, api.ErrTwice, "void f() { x = 1; } int @f() {}")
	failsAt(t, api.ErrTwice, "void f() { x = 1; } void f() {} int a; int @a;")
}

// P4.1: a main that must be there, and be an Int without parameters.
func TestMain(t *testing.T) {
	fails(t, "", api.ErrMain, 0)
	fails(t, "int a; void f() {}", api.ErrMain, 0)
	fails(t, "int main;", api.ErrMain, 0)
	fails(t, "long main[4]; int f() {}", api.ErrMain, 0)
	fails(t, "int f() { int main = 1; main: return main; }", api.ErrMain, 0)
	fails(t, "int f(int main) {}", api.ErrMain, 0)
	fails(t, "int main_() {} int mainn() {} int mai() {}", api.ErrMain, 0)
	failsAt(t, api.ErrMain, "long @main() {}")
	failsAt(t, api.ErrMain, "void f() {} void @main() {}")
	failsAt(t, api.ErrMain, "int @main(int a) {}")
	failsAt(t, api.ErrMain, "int f() {} int @main(int a, long b) { return f(); } int g() {}")
	checked(t, "int main() {}")
	checked(t, "int f() {} int main() {} long g() {}")
	if p, d := Check(api.Program{}); d != (api.Diag{No: api.ErrMain}) || len(p.Nodes) != 0 {
		t.Fatalf("%+v, %+v", p, d)
	}
}

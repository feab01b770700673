package parse

import (
	"reflect"
	"strings"
	"testing"

	"mortise/api"
	"mortise/lex"
)

// tokens are a text's tokens.
func tokens(t *testing.T, text string) []api.Token {
	t.Helper()
	l, d := lex.Lex(text)
	if d != (api.Diag{}) {
		t.Fatalf("%.80q has no tokens: %+v", text, d)
	}
	return l
}

// parsed is the program of a text that has one.
func parsed(t *testing.T, text string) api.Program {
	t.Helper()
	p, d := Parse(tokens(t, text))
	if d != (api.Diag{}) {
		t.Fatalf("%.200q: error %+v", text, d)
	}
	return p
}

// same tells whether two programs are the same; an empty list is as none.
func same(a, b api.Program) bool { return reflect.DeepEqual(plainLists(a), plainLists(b)) }

func plainLists(p api.Program) api.Program {
	out := api.Program{Globals: append([]api.Global{}, p.Globals...), Funcs: append([]api.Func{}, p.Funcs...), Nodes: append([]api.Node{}, p.Nodes...)}
	for i := range out.Funcs {
		out.Funcs[i].Params = append([]api.Param{}, out.Funcs[i].Params...)
		out.Funcs[i].Vars = append([]int{}, out.Funcs[i].Vars...)
	}
	for i := range out.Nodes {
		out.Nodes[i].Kids = append([]int{}, out.Nodes[i].Kids...)
	}
	return out
}

// holds checks that a text has this program.
func holds(t *testing.T, text string, want api.Program) {
	t.Helper()
	if got := parsed(t, text); !same(got, want) {
		t.Fatalf("%q:\n%+v, want\n%+v", text, got, want)
	}
}

// fails checks that a text has this error, and no program beside it.
func fails(t *testing.T, text string, no api.Errno, at int) {
	t.Helper()
	failsWith(t, tokens(t, text), no, at)
}

func failsWith(t *testing.T, l []api.Token, no api.Errno, at int) {
	t.Helper()
	p, d := Parse(l)
	if d != (api.Diag{No: no, At: at}) || !reflect.DeepEqual(p, api.Program{}) {
		t.Fatalf("%.200q: %+v and %d nodes, want error %d at %d and a zero program", lex.Print(l), d, len(p.Nodes), no, at)
	}
}

// failsAt checks that a text, in which the byte @ stands ahead of a token, has this error at that.
func failsAt(t *testing.T, no api.Errno, marked string) {
	t.Helper()
	at := strings.IndexByte(marked, '@')
	if at < 0 {
		t.Fatalf("%.200q marks no place", marked)
	}
	rest := marked[at+1:]
	fails(t, marked[:at]+rest, no, at+len(rest)-len(strings.TrimLeft(rest, " ")))
}

func number(at, n int) api.Node {
	return api.Node{Op: api.ENumber, At: at, N: n, Type: api.Int}
}

func long(at, n int) api.Node {
	return api.Node{Op: api.ENumber, At: at, N: n, Type: api.Long}
}

// node is a node of an operation, with the text that it names.
func node(op, at int, s string, kids ...int) api.Node {
	return api.Node{Op: op, At: at, S: s, Kids: kids}
}

// typed is a node that names a type.
func typed(op, at, to int, s string, kids ...int) api.Node {
	return api.Node{Op: op, At: at, To: to, S: s, Kids: kids}
}

// body checks the nodes of `void f(){..}` with these statements: their places are counted from the first byte within the block.
func body(t *testing.T, statements string, kids []int, want ...api.Node) {
	t.Helper()
	const head = "void f(){"
	for i := range want {
		want[i].At += len(head)
	}
	want = append(want, node(api.SBlock, len(head)-1, "", kids...))
	holds(t, head+statements+"}", api.Program{
		Funcs: []api.Func{{Name: "f", Type: api.Void, At: 5, Body: len(want) - 1}},
		Nodes: want,
	})
}

// value checks the nodes of an expression: their places are counted from its first byte.
func value(t *testing.T, expression string, want ...api.Node) {
	t.Helper()
	for i := range want {
		want[i].At += 7
	}
	body(t, "return "+expression+";", []int{len(want)}, append(want, node(api.SReturn, 0, "", len(want)-1))...)
}

// P3.1: the chapter's examples.
func TestExamples(t *testing.T) {
	holds(t, "int main() { return 1 - 2 - x; }", api.Program{
		Funcs: []api.Func{{Name: "main", Type: api.Int, At: 4, Body: 6}},
		Nodes: []api.Node{
			number(20, 1), number(24, 2), node(api.EBinary, 22, "-", 0, 1), node(api.EName, 28, "x"), node(api.EBinary, 26, "-", 2, 3),
			node(api.SReturn, 13, "", 4), node(api.SBlock, 11, "", 5),
		},
	})
	failsAt(t, api.ErrForm, "void f(int a) { if (a) if (!a) out(a); else @; }")
	failsAt(t, api.ErrForm, "long t[2]; int g; char h@;")
	failsAt(t, api.ErrRange, "int t[@0];")
}

// P3.1: globals, functions and parameters, in their order.
func TestProgram(t *testing.T) {
	holds(t, "", api.Program{})
	holds(t, " // nothing\n", api.Program{})
	holds(t, "int a; long f(int b, long c) { } char d[3]; void g() { } long e; int h(long i) { } int j[1024]; long k[1];", api.Program{
		Globals: []api.Global{{Name: "a", Type: api.Int, At: 4}, {Name: "d", Type: api.Char, Size: 3, At: 38}, {Name: "e", Type: api.Long, At: 62}, {Name: "j", Type: api.Int, Size: 1024, At: 87}, {Name: "k", Type: api.Long, Size: 1, At: 101}},
		Funcs: []api.Func{
			{Name: "f", Type: api.Long, Params: []api.Param{{Name: "b", Type: api.Int}, {Name: "c", Type: api.Long}}, Body: 0, At: 12},
			{Name: "g", Type: api.Void, Body: 1, At: 49},
			{Name: "h", Type: api.Int, Params: []api.Param{{Name: "i", Type: api.Long}}, Body: 2, At: 69},
		},
		Nodes: []api.Node{node(api.SBlock, 29, ""), node(api.SBlock, 53, ""), node(api.SBlock, 79, "")},
	})
	holds(t, "int a; int a; long a[7L];", api.Program{Globals: []api.Global{{Name: "a", Type: api.Int, At: 4}, {Name: "a", Type: api.Int, At: 11}, {Name: "a", Type: api.Long, Size: 7, At: 19}}})
}

// P3.1: each statement.
func TestStatements(t *testing.T) {
	body(t, "", nil)
	body(t, "{}", []int{0}, node(api.SBlock, 0, ""))
	body(t, "{{}{}}{}", []int{2, 3}, node(api.SBlock, 1, ""), node(api.SBlock, 3, ""), node(api.SBlock, 0, "", 0, 1), node(api.SBlock, 6, ""))
	body(t, "int x = 1;", []int{1}, number(8, 1), typed(api.SLocal, 0, api.Int, "x", 0))
	body(t, "long x = y;", []int{1}, node(api.EName, 9, "y"), typed(api.SLocal, 0, api.Long, "x", 0))
	body(t, "x = 1;", []int{1}, number(4, 1), node(api.SAssign, 0, "x", 0))
	body(t, "t[1] = 2;", []int{2}, number(2, 1), number(7, 2), node(api.SStore, 0, "t", 0, 1))
	body(t, "g();", []int{1}, node(api.ECall, 0, "g"), node(api.SExpr, 0, "", 0))
	body(t, "g(a,1);", []int{3}, node(api.EName, 2, "a"), number(4, 1), node(api.ECall, 0, "g", 0, 1), node(api.SExpr, 0, "", 2))
	body(t, "l: g();", []int{2}, node(api.ECall, 3, "g"), node(api.SExpr, 3, "", 0), node(api.SLabel, 0, "l", 1))
	body(t, "l: m: {}", []int{2}, node(api.SBlock, 6, ""), node(api.SLabel, 3, "m", 0), node(api.SLabel, 0, "l", 1))
	body(t, "if (a) {}", []int{2}, node(api.EName, 4, "a"), node(api.SBlock, 7, ""), node(api.SIf, 0, "", 0, 1))
	body(t, "if (a) {} else g();", []int{4}, node(api.EName, 4, "a"), node(api.SBlock, 7, ""), node(api.ECall, 15, "g"), node(api.SExpr, 15, "", 2), node(api.SIf, 0, "", 0, 1, 3))
	body(t, "while (a) {}", []int{2}, node(api.EName, 7, "a"), node(api.SBlock, 10, ""), node(api.SWhile, 0, "", 0, 1))
	body(t, "goto l;", []int{0}, node(api.SGoto, 0, "l"))
	body(t, "return;", []int{0}, node(api.SReturn, 0, ""))
	body(t, "return 1;", []int{1}, number(7, 1), node(api.SReturn, 0, "", 0))
	body(t, "out(1);", []int{1}, number(4, 1), node(api.SOut, 0, "", 0))
	body(t, "x = 1; goto l; return;", []int{1, 2, 3}, number(4, 1), node(api.SAssign, 0, "x", 0), node(api.SGoto, 7, "l"), node(api.SReturn, 15, ""))
}

// P3.1: an else belongs to the last if that has none yet; an if is finished when it is seen whether one follows.
func TestElse(t *testing.T) {
	a, b := node(api.EName, 3, "a"), node(api.EName, 9, "b")
	body(t, "if(a) if(b) return; else goto l;", []int{5}, a, b,
		node(api.SReturn, 12, ""), node(api.SGoto, 25, "l"), node(api.SIf, 6, "", 1, 2, 3), node(api.SIf, 0, "", 0, 4))
	body(t, "if(a) if(b) return; else {} else goto l;", []int{6}, a, b,
		node(api.SReturn, 12, ""), node(api.SBlock, 25, ""), node(api.SIf, 6, "", 1, 2, 3), node(api.SGoto, 33, "l"), node(api.SIf, 0, "", 0, 4, 5))
	body(t, "if(a){if(b) return;} else goto l;", []int{6}, a, b,
		node(api.SReturn, 12, ""), node(api.SIf, 6, "", 1, 2), node(api.SBlock, 5, "", 3), node(api.SGoto, 26, "l"), node(api.SIf, 0, "", 0, 4, 5))
	body(t, "if(a) {} else if(b) {} else {}", []int{6}, a, node(api.SBlock, 6, ""), node(api.EName, 17, "b"),
		node(api.SBlock, 20, ""), node(api.SBlock, 28, ""), node(api.SIf, 14, "", 2, 3, 4), node(api.SIf, 0, "", 0, 1, 5))
	body(t, "if(a) while(b) if(c) {} else {}", []int{7}, a, node(api.EName, 12, "b"), node(api.EName, 18, "c"),
		node(api.SBlock, 21, ""), node(api.SBlock, 29, ""), node(api.SIf, 15, "", 2, 3, 4), node(api.SWhile, 6, "", 1, 5), node(api.SIf, 0, "", 0, 6))
	body(t, "if(a) l: if(b) {} else {}", []int{6}, a, node(api.EName, 12, "b"),
		node(api.SBlock, 15, ""), node(api.SBlock, 23, ""), node(api.SIf, 9, "", 1, 2, 3), node(api.SLabel, 6, "l", 4), node(api.SIf, 0, "", 0, 5))
	body(t, "if(a) {} if(b) {}", []int{2, 5}, a, node(api.SBlock, 6, ""), node(api.SIf, 0, "", 0, 1), node(api.EName, 12, "b"), node(api.SBlock, 15, ""), node(api.SIf, 9, "", 3, 4))
}

// P3.1: each operand.
func TestOperands(t *testing.T) {
	value(t, "7", number(0, 7))
	value(t, "0", number(0, 0))
	value(t, "7L", long(0, 7))
	value(t, "9223372036854775807L", long(0, 1<<63-1))
	value(t, "x", node(api.EName, 0, "x"))
	value(t, "t[1]", number(2, 1), node(api.EIndex, 0, "t", 0))
	value(t, "g()", node(api.ECall, 0, "g"))
	value(t, "g(1)", number(2, 1), node(api.ECall, 0, "g", 0))
	value(t, "g(1,x,2L)", number(2, 1), node(api.EName, 4, "x"), long(6, 2), node(api.ECall, 0, "g", 0, 1, 2))
	value(t, "g(h(),t[i])", node(api.ECall, 2, "h"), node(api.EName, 8, "i"), node(api.EIndex, 6, "t", 1), node(api.ECall, 0, "g", 0, 2))
	value(t, "in()", node(api.EIn, 0, ""))
	value(t, "in ( )", node(api.EIn, 0, ""))
	for _, sign := range []string{"-", "~", "!"} {
		value(t, sign+"x", node(api.EName, 1, "x"), node(api.EUnary, 0, sign, 0))
		value(t, sign+sign+"x", node(api.EName, 2, "x"), node(api.EUnary, 1, sign, 0), node(api.EUnary, 0, sign, 1))
	}
	value(t, "(char)x", node(api.EName, 6, "x"), typed(api.ECast, 0, api.Char, "", 0))
	value(t, "(int)x", node(api.EName, 5, "x"), typed(api.ECast, 0, api.Int, "", 0))
	value(t, "(long)-x", node(api.EName, 7, "x"), node(api.EUnary, 6, "-", 0), typed(api.ECast, 0, api.Long, "", 1))
	value(t, "(x)", node(api.EName, 1, "x"))
	value(t, "((x))", node(api.EName, 2, "x"))
	value(t, "(int)(x)", node(api.EName, 6, "x"), typed(api.ECast, 0, api.Int, "", 0))
}

// P3.1: a sign or a cast ahead of an operand takes that operand alone.
func TestTight(t *testing.T) {
	x, y := node(api.EName, 1, "x"), node(api.EName, 3, "y")
	value(t, "-x*y", x, node(api.EUnary, 0, "-", 0), y, node(api.EBinary, 2, "*", 1, 2))
	value(t, "!x-y", x, node(api.EUnary, 0, "!", 0), y, node(api.EBinary, 2, "-", 1, 2))
	value(t, "(char)x+y", node(api.EName, 6, "x"), typed(api.ECast, 0, api.Char, "", 0), node(api.EName, 8, "y"), node(api.EBinary, 7, "+", 1, 2))
	value(t, "-(x*y)", node(api.EName, 2, "x"), node(api.EName, 4, "y"), node(api.EBinary, 3, "*", 0, 1), node(api.EUnary, 0, "-", 2))
	value(t, "x*-y", node(api.EName, 0, "x"), y, node(api.EUnary, 2, "-", 1), node(api.EBinary, 1, "*", 0, 2))
	value(t, "x- -y", node(api.EName, 0, "x"), node(api.EName, 4, "y"), node(api.EUnary, 3, "-", 1), node(api.EBinary, 1, "-", 0, 2))
}

// levels are the binary signs, the loosest first.
func levels() [][]string {
	return [][]string{{"||"}, {"&&"}, {"|"}, {"^"}, {"&"}, {"==", "!="}, {"<", "<=", ">", ">="}, {"<<", ">>"}, {"+", "-"}, {"*", "/", "%"}}
}

// P3.1: any two binary signs side by side: the tighter one binds first, and those of one level are grouped from the left.
func TestLevels(t *testing.T) {
	x := node(api.EName, 0, "x")
	for i, ones := range levels() {
		for j, twos := range levels() {
			for _, a := range ones {
				for _, b := range twos {
					first, second := 2, 5+len(a)
					y, z := node(api.EName, 3+len(a), "y"), node(api.EName, 6+len(a)+len(b), "z")
					text := "x " + a + " y " + b + " z"
					if i >= j {
						value(t, text, x, y, node(api.EBinary, first, a, 0, 1), z, node(api.EBinary, second, b, 2, 3))
					} else {
						value(t, text, x, y, z, node(api.EBinary, second, b, 1, 2), node(api.EBinary, first, a, 0, 3))
					}
				}
			}
		}
	}
	value(t, "x*(y+z)", x, node(api.EName, 3, "y"), node(api.EName, 5, "z"), node(api.EBinary, 4, "+", 1, 2), node(api.EBinary, 1, "*", 0, 3))
	value(t, "x-(y-z)", x, node(api.EName, 3, "y"), node(api.EName, 5, "z"), node(api.EBinary, 4, "-", 1, 2), node(api.EBinary, 1, "-", 0, 3))
}

// P3.1: the levels all at once: from loose to tight, and back.
func TestLadder(t *testing.T) {
	p := parsed(t, "int f(){return a||b&&c|d^e&f==g<h<<i+j*k;}")
	if got := grouped(p, p.Nodes[len(p.Nodes)-2].Kids[0]); got != "(a||(b&&(c|(d^(e&(f==(g<(h<<(i+(j*k))))))))))" {
		t.Error(got)
	}
	p = parsed(t, "int f(){return a*b+c<<d<e==f&g^h|i&&j||k;}")
	if got := grouped(p, p.Nodes[len(p.Nodes)-2].Kids[0]); got != "((((((((((a*b)+c)<<d)<e)==f)&g)^h)|i)&&j)||k)" {
		t.Error(got)
	}
}

// grouped is an expression of names and binary signs with all its parentheses.
func grouped(p api.Program, i int) string {
	n := p.Nodes[i]
	if n.Op == api.EBinary {
		return "(" + grouped(p, n.Kids[0]) + n.S + grouped(p, n.Kids[1]) + ")"
	}
	return n.S
}

package parse

import (
	"strings"
	"testing"

	"mortise/api"
)

// within is a function with a statement that stands at that depth, by one sort of statements around it; what closes them is left away where the statement does not end.
func within(wrap, statement string, depth int, ends bool) string {
	n := depth - 2 // the function's block has the depth 1, what stands in it 2
	s := "void f() { " + strings.Repeat(wrap+" ", n) + statement
	if ends {
		s += strings.Repeat(" }", n*strings.Count(wrap, "{")-n*strings.Count(wrap, "}")) + " }"
	}
	return s
}

func wraps() []string {
	return []string{"{", "{ g(); ", "l:", "if (a)", "if (a) {} else", "while (a)"}
}

// P3.1: statements of the depth 40 stand, those of 41 do not, whatever is around them; what has operands stands up to 39.
func TestDeepStatements(t *testing.T) {
	for _, w := range wraps() {
		for _, s := range []string{"return;", "goto l;", "g();", "{}"} {
			parsed(t, within(w, s, 39, true))
			parsed(t, within(w, s, 40, true))
			if w == "{" || w == "l:" { // the others have parts that are as deep
				failsAt(t, api.ErrDeep, within(w, "@"+s, 41, true))
				failsAt(t, api.ErrDeep, within(w, "@"+s, 41, false))
			}
		}
		for _, s := range []string{"return @1;", "out(@1);", "x = @1;", "int x = @1;", "long x = @in();", "t[@1] = 2;", "g(@x);", "g(@h());", "if (@1) {}", "while (@1) {}", "{@return;}", "{@{}}", "l: @return;"} {
			parsed(t, within(w, strings.Replace(s, "@", "", 1), 39, true))
			failsAt(t, api.ErrDeep, within(w, s, 40, true))
		}
		for _, s := range []string{"return -@1;", "return 1 + (@1);", "out(g(@1 + x, 1));", "x = t[@1];", "x = (long)@1;", "t[1 * 2] = 2 - -@3;", "t[(@1)] = 2;", "g(1, (@1));", "while (!@a) {}", "if (a) l: @return;", "l: m: @{}"} {
			parsed(t, within(w, strings.Replace(s, "@", "", 1), 38, true))
			failsAt(t, api.ErrDeep, within(w, s, 39, true))
		}
	}
}

// P3.1: ErrDeep at the first token of a statement or an operand, whatever that is; a token that ends a list begins none.
func TestDeepTokens(t *testing.T) {
	all := strings.Fields("int long char void if else while goto return in out x 1 7L ( ) { } [ ] ; , : = == + - ! && <")
	for _, token := range append(all, "") {
		for _, s := range []string{"out(", "x =", "int x =", "t[", "if (", "while (", "l:"} {
			failsAt(t, api.ErrDeep, within("{", s+" @"+token, 40, false))
		}
		for _, s := range []string{"l: m:", "t[1] = -", "if (a) {} else l:", "return - ", "return (int)", "return t[", "return 1 + !"} {
			failsAt(t, api.ErrDeep, within("{", s+" @"+token, 39, false))
		}
		if token != "}" {
			failsAt(t, api.ErrDeep, within("{", "{ @"+token, 40, false))
			failsAt(t, api.ErrDeep, within("{", "{ return; { @"+token, 39, false))
		}
		if token != ")" {
			failsAt(t, api.ErrDeep, within("{", "g( @"+token, 40, false))
			failsAt(t, api.ErrDeep, within("{", "return g( @"+token, 39, false))
			failsAt(t, api.ErrDeep, within("{", "return g(1, -@"+token, 38, false))
		}
		if token != ";" {
			failsAt(t, api.ErrDeep, within("{", "return @"+token, 40, false))
		}
		if token != "int" && token != "long" && token != "char" {
			failsAt(t, api.ErrDeep, within("{", "return ( @"+token, 39, false))
		}
	}
	failsAt(t, api.ErrForm, within("{", "return (int @ x", 39, false))
	failsAt(t, api.ErrForm, within("{", "return in(@1", 39, false))
	failsAt(t, api.ErrForm, within("{", "return 1 @", 39, false))
	failsAt(t, api.ErrForm, within("{", "x@ 1", 40, false))
}

// P3.1: operands of the depth 40 stand, those of 41 do not; binary signs make nothing deeper.
func TestDeepOperands(t *testing.T) {
	for open, shut := range map[string]string{"(": ")", "-": "", "~ !": "", "(int)": "", "(char) (": ")", "t[": "]", "g(": ")", "g(1, 2 * ": ")", "1 + (": ")", "(2 < ": ")", "- (": ")"} {
		steps := 1
		if open == "~ !" || open == "(char) (" || open == "- (" {
			steps = 2
		}
		n := 37 / steps // an operand of the return stands at 3
		for _, s := range []string{"1", "x", "in()", "g()", "1 + 2 * 3 - x"} {
			parsed(t, "int f() { return "+strings.Repeat(open, n)+s+strings.Repeat(shut, n)+"; }")
			parsed(t, "int f() { return "+strings.Repeat(open, n)+s+strings.Repeat(shut, n)+" + "+strings.Repeat(open, n)+s+strings.Repeat(shut, n)+"; }")
			if steps == 1 && open != "(2 < " && open != "g(1, 2 * " { // their first operand is as deep as the last
				failsAt(t, api.ErrDeep, "int f() { return "+strings.Repeat(open, 38)+"@"+s+strings.Repeat(shut, 38)+"; }")
				failsAt(t, api.ErrDeep, "int f() { return 1 - "+strings.Repeat(open, 38)+"@"+s)
			}
		}
	}
	p := parsed(t, "int f() { return 1"+strings.Repeat(" - 1", 1998)+"; }")
	if len(p.Nodes) != 3999 {
		t.Fatalf("%d nodes", len(p.Nodes))
	}
	parsed(t, "int f() { return 1"+strings.Repeat(" * -1", 1000)+"; }")
	parsed(t, "int f() { return 1"+strings.Repeat(" || 1 && 1 | 1 ^ 1 & 1 == 1 < 1 << 1 + 1 * 1", 150)+"; }")
}

// P3.1: MaxNodes nodes there may be, and not one more.
func TestManyNodes(t *testing.T) {
	full := "void f() { " + strings.Repeat("return; ", api.MaxNodes-1) + "}"
	if p := parsed(t, full); len(p.Nodes) != api.MaxNodes {
		t.Fatalf("%d nodes", len(p.Nodes))
	}
	parsed(t, full+" int x; char t[3];")
	failsAt(t, api.ErrMany, full+" void g() @{ }")
	failsAt(t, api.ErrMany, full+" int x; void g(int a) { @return; }")
	failsAt(t, api.ErrForm, full+" void g() @return; }")
	failsAt(t, api.ErrForm, full+" void g() { return @return; }")
	failsAt(t, api.ErrRange, full+" int t[@0]; void g() { return; }")
	failsAt(t, api.ErrMany, "void f() @{ "+strings.Repeat("return; ", api.MaxNodes)+"} )")
	failsAt(t, api.ErrMany, "void f() { "+strings.Repeat("return; ", api.MaxNodes)+"@return; } )")
	failsAt(t, api.ErrForm, "void f() { "+strings.Repeat("return; ", api.MaxNodes)+"@)")
	parsed(t, strings.Repeat("void f() {} ", api.MaxNodes))
	failsAt(t, api.ErrMany, strings.Repeat("void f() {} ", api.MaxNodes)+"void f() @{}")
}

// P3.1: each node as the one that is too many: the error stands at its place, as soon as its last token is read, and not earlier.
func TestOneNodeTooMany(t *testing.T) {
	for _, x := range []struct {
		ahead int // nodes of the statement that are finished ahead of it
		s     string
	}{
		{0, "return @1"}, {0, "return @1 )"}, {0, "return @x ]"}, {0, "return @x"}, {0, "return @in() in"}, {0, "return @g() ("},
		{0, "return t[@1"}, {1, "return @t[1] x"}, {2, "return t[1+@x[2]"}, {1, "return @g(1) 2"}, {2, "return @g(1, x) 2"},
		{1, "return @-1 2"}, {1, "return @- (1) 2"}, {1, "return @- (1)"}, {2, "return - (1 @+ 2 )"}, {1, "return @(int)x ="}, {1, "return @(int)(x) ="},
		{2, "return 1 @+ 2 )"}, {2, "return 1 @+ 2"}, {2, "return 1 @+ 2 - )"}, {3, "return 1 + 2 @* 3 )"}, {4, "return 1 @+ 2 * 3 )"}, {2, "return 1 @* 2 + 3"}, {2, "return 1 + @t[2] * )"}, {2, "return (1 @+ 2 ]"}, {2, "return (1 @+ 2) * 3"},
		{1, "@return 1;"}, {0, "@return; )"}, {0, "@goto l;"}, {1, "@out(1);"}, {1, "@x = 1;"}, {1, "@int x = 1;"}, {2, "@t[1] = 2; )"}, {1, "t[1] = @2 )"},
		{0, "@g() )"}, {1, "@g(1) = 2"}, {1, "@g(); )"}, {1, "l: @g();"}, {2, "@l: g();"}, {2, "@l: { return; }"}, {1, "@{ return; }"}, {0, "@{} )"},
		{2, "@if (a) return; )"}, {2, "@if (a) return; }"}, {2, "@if (a) return;"}, {2, "if (a) return; else @goto l;"}, {3, "@if (a) return; else goto l; )"}, {4, "if (a) @if (b) return; else {} )"}, {3, "if (a) @if (b) return; )"}, {4, "@if (a) if (b) {} )"}, {1, "if (a) @return; else"},
		{2, "@while (a) return; )"}, {3, "while (a) @if (b) {} )"}, {4, "@while (a) if (b) {} )"},
	} {
		failsAt(t, api.ErrMany, "void f() { "+strings.Repeat("return; ", api.MaxNodes-x.ahead)+x.s)
	}
	for _, s := range []string{"return 1 + 2@ 3", "return 1 + @)", "return 1 + 2 * @)", "return -@)", "return t[1@)", "return g(1@;", "return (int) @;", "g()@ )", "g(1@]", "out(1)@ )", "x = 1@ )", "int x = 1@,", "t[1]@ ;", "goto l@ )", "if (a) return@ )", "if (a) return; else @)", "if (a) {} else @;", "while (a) @)", "l: @;", "{ return; @)", "return 1@ )"} {
		ahead := 0
		for i := range 5 { // as many nodes as the statement has; with as many fewer, the wrong token comes first
			ahead = i
			if _, d := Parse(tokens(t, "void f() { "+strings.Repeat("return; ", api.MaxNodes-ahead)+strings.Replace(s, "@", "", 1))); d.No == api.ErrForm {
				break
			}
		}
		failsAt(t, api.ErrForm, "void f() { "+strings.Repeat("return; ", api.MaxNodes-ahead)+s)
	}
}

// P3.1: great texts, which end at once where they are wrong.
func TestGreatTexts(t *testing.T) {
	globals := strings.Repeat("int a;", api.MaxText/6)
	if p := parsed(t, globals); len(p.Globals) != api.MaxText/6 || len(Print(p)) != api.MaxText/6*8 {
		t.Fatalf("%d globals, printed with %d bytes", len(p.Globals), len(Print(p)))
	}
	params := "void f(int a" + strings.Repeat(",int a", api.MaxText/6-10) + "){}"
	if p := parsed(t, params); len(p.Funcs) != 1 || len(p.Funcs[0].Params) != api.MaxText/6-9 {
		t.Fatalf("%d functions", len(p.Funcs))
	}
	for _, s := range []string{"(", "-", "1+(", "f("} {
		failsAt(t, api.ErrDeep, "int f(){return "+strings.Repeat(s, 38)+"@"+strings.Repeat(s, api.MaxText/len(s)-100))
	}
	failsAt(t, api.ErrDeep, "void f(){"+strings.Repeat("{", 39)+"@"+strings.Repeat("{", api.MaxText-100))
	failsAt(t, api.ErrMany, "int f(){return 1"+strings.Repeat("-1", 1999)+"@-1"+strings.Repeat("-1", 500000))
}

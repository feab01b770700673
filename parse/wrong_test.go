package parse

import (
	"math"
	"reflect"
	"testing"

	"mortise/api"
)

// P3.1: ErrForm, at the first token that cannot stand where it stands: at globals, functions and parameters.
func TestWrongProgram(t *testing.T) {
	for _, s := range []string{
		"@x", "@x = 1;", "@;", "@{}", "@1", "@if", "@else", "@in", "@out", "@return;", "@goto", "@while", "int x; @}", "int x; @;", "int f() {} @}", "int f() {} @; int g() {}", "@(",
		"int @", "int @;", "int @1;", "int @int;", "int @(", "int @in;", "int @out() {}", "int @if;", "void @void() {}", "long @long;", "char @char[1];", "long @int x;",
		"int x@", "int x@, y;", "int x@ = 1;", "int x@]", "int x@)", "int x@ y;", "int x@ 1;", "long x@{}", "int x@ int y;",
		"void x@;", "void x@[1];", "void x@", "void x@{}", "void x@, y;", "char x@;", "char x@() {}", "char x@", "char x@ = 1;",
		"int x[@];", "int x[@y];", "int x[@", "int x[@-1];", "int x[@(1)];", "int x[@int];", "int x[1@;", "int x[1@", "int x[1@+1];", "int x[1@,2];", "int x[1]@", "int x[1]@[2];", "int x[1]@ = 1;", "int x[1]@,", "int x[1@ 2];", "char x[1]@() {}",
		"int f(@", "int f(@1", "int f(@a", "int f(@char a", "int f(@void", "int f(@,", "int f(@{", "int f(@;", "int f(int@", "int f(int@)", "int f(int@ int", "int f(int@ in)", "int f(int@,", "int f(int@ 1",
		"int f(int a@", "int f(int a@ b", "int f(int a@;", "int f(int a@[1])", "int f(int a@ = 1)", "int f(int a@ int b", "int f(int a,@)", "int f(int a,@ b)", "int f(int a,@", "int f(int a,@,", "int f(int a, long@)", "int f(int a,@ void b)", "int f(int a,@ char b)",
		"int f()@", "int f()@;", "int f()@ return 1;", "int f()@ int", "int f()@ else", "int f()@ x = 1;", "int f()@)", "int f()@}",
		"int f() {@", "int f() {@)", "int f() {}@}", "int f() {}@{}", "int f() { {}@", "int f() { return 1; } @x",
	} {
		failsAt(t, api.ErrForm, s)
	}
}

// P3.1: ErrForm within statements.
func TestWrongStatements(t *testing.T) {
	for _, s := range []string{
		"@;", "@1;", "@)", "@]", "@else {}", "@in();", "@-x;", "@(x);", "@void x = 1;", "@char x = 1;", "@=", "@,", "@:", "@&&", "x = 1;@;", "{}@;", "@in = 1;",
		"int@;", "int@ = 1;", "int@ 1", "int@ int", "int@ long", "int@ out = 1;", "int x@;", "int x@[1];", "int x@, y;", "int x@()", "int x@:", "int x =@;", "int x =@ int", "int x = 1@", "int x = 1@, y = 2;", "int x = 1@}", "int x = 1@)", "int x = 1@ = 2;", "long@ }", "long x@ == 1;",
		"x@;", "x@", "x@ + 1;", "x@ == 1;", "x@ y;", "x@ 1;", "x@)", "x@}", "x@,", "x@]", "x@{", "x =@;", "x =@", "x =@ =", "x =@ )", "x =@ {}", "x =@ if", "x = y@ = 1;", "x = y@", "x = y@ z;", "x = y@)", "x = y@]", "x = y@,", "x = y@:", "x = y@{",
		"x[@]", "x[@", "x[@)", "x[1@;", "x[1@)", "x[1@,2]", "x[1]@;", "x[1]@", "x[1]@ == 1;", "x[1]@[2] = 1;", "x[1]@(", "x[1] =@;", "x[1] =@ ]", "x[1] = 2@", "x[1] = 2@]", "x[1] = 2@ = 3;",
		"x(@;", "x(@", "x(@,", "x(@]", "x(@int)", "x(1@;", "x(1@", "x(1@]", "x(1@ 2)", "x(1,@)", "x(1,@,", "x(1,@", "x()@", "x()@}", "x()@ + 1;", "x()@[1]", "x()@()", "x()@ = 1;", "x()@,", "x()@ y",
		"l:@", "l:@}", "l:@;", "l:@:", "l:@ else {}", "l:@ 1;", "l: m@;", "goto@: {}",
		"if@", "if@ x", "if@ {", "if@;", "if (@)", "if (@", "if (@;", "if (@int x", "if (x@", "if (x@;", "if (x@ {", "if (x@ = 1)", "if (x@,", "if (x)@", "if (x)@;", "if (x)@}", "if (x)@)", "if (x)@ else {}", "if (x) {} else@", "if (x) {} else@;", "if (x) {} else@}", "if (x) {} else@ else", "if (x) {} else {} @else {}",
		"if (x) y = 1; else z = 2; @else {}", "{ if (x) {} } @else {}", "while (x) {} @else {}", "if (x) { @else {}",
		"while@", "while@ x", "while@;", "while (@)", "while (@", "while (x@", "while (x@;", "while (x@ {", "while (x)@", "while (x)@;", "while (x)@}", "while (x)@ else",
		"goto@", "goto@;", "goto@ 1;", "goto@ in;", "goto@ (", "goto l@", "goto l@:", "goto l@, m;", "goto l@ m;", "goto l@}",
		"return@", "return@)", "return@ }", "return@ if", "return@ =", "return 1@", "return 1@}", "return 1@)", "return 1@ 2;", "return 1@,",
		"out@", "out@;", "out@ 1;", "out@ =", "out@[", "out@:", "out (@)", "out (@", "out (@;", "out (1@", "out (1@;", "out (1@,2);", "out (1)@", "out (1)@}", "out (1)@ + 2;", "out (1)@,",
		"{@", "{@)", "{ {}@", "{ x = 1;@", "{ x = 1;@]",
	} {
		failsAt(t, api.ErrForm, "int f() { "+s)
		failsAt(t, api.ErrForm, "int f() { x = 1; { y: "+s)
	}
}

// P3.1: ErrForm within expressions.
func TestWrongExpressions(t *testing.T) {
	for _, s := range []string{
		"@", "@;", "@)", "@+ 1", "@* 1", "@= 1", "@== 1", "@&& 1", "@[1]", "@{", "@int", "@out(1)", "@if", "@else", "@goto", "@,", "@:",
		"1 +@", "1 +@;", "1 +@)", "1 +@ + 1", "1 +@ * 1", "1 +@ int", "1@ 2", "1@ x", "1@(2)", "1@[2]", "1@ !2", "1@ ~2", "1@ = 2", "1 <@ < 2", "1 <@ = 2", "1 &&@ & 2", "1@:", "1@{", "1@}", "1@ in()", "1 ||@ | 1",
		"-@", "-@;", "-@)", "-@+ 1", "-@* 1", "@!= 1", "! @= 1", "~@]", "- -@", "-@int", "-@if", "-@=",
		"(@", "(@)", "(@;", "(@void) 1", "(@if", "(@,", "(1@", "(1@;", "(1@,", "(1@]", "(1@ 2)", "(1@ = 2", "((1)@", "((1)@;", "(1)@ 2", "(1)@ x", "(1)@(", "(1)@[",
		"(int@", "(int@;", "(int@ x", "(int@ 1)", "(int@ int", "(int@(", "(char@[", "(long@ +", "(int)@", "(int)@;", "(int)@)", "(int)@+ 1", "(int)@int", "(int)@*", "(int) x@ y",
		"x@ y", "x@ 1", "x@ !", "x@ ~", "x@{", "x@:", "x@ = 1", "x@ int", "x[@]", "x[@", "x[@;", "x[1@", "x[1@;", "x[1@)", "x[1@,", "x[1]@[1]", "x[1]@(", "x[1]@ y", "x(@", "x(@;", "x(@,", "x(@]", "x(1@", "x(1@;", "x(1@]", "x(1,@)", "x(1,@", "x()@()", "x()@[", "x()@ y",
		"in@", "in@;", "in@ + 1", "in@[1]", "in@ = 1", "in (@1)", "in (@", "in (@;", "in (@x)", "in (@in()", "in ()@ 1", "in ()@(", "in ()@[",
		"-x@ y", "-(x@", "!in@", "x + y@ z", "x + (y@", "f(x + y@", "x[y + z@", "x[(y@]", "f((y@,", "(x)@)",
	} {
		failsAt(t, api.ErrForm, "int f() { x = "+s)
		failsAt(t, api.ErrForm, "int f() { if (a) {} else return y + "+s)
	}
	for _, s := range []string{"if (1@]", "out (1 + x@]", "if (x@}", "while (1 < 2@ 3)"} {
		failsAt(t, api.ErrForm, "int f() { "+s)
	}
}

// P3.1: the words are no names, wherever a name may stand.
func TestWords(t *testing.T) {
	for _, w := range []string{"char", "int", "long", "void", "if", "else", "while", "goto", "return", "in", "out"} {
		failsAt(t, api.ErrForm, "int @"+w+";")
		failsAt(t, api.ErrForm, "void @"+w+"() {}")
		failsAt(t, api.ErrForm, "char @"+w+"[1];")
		failsAt(t, api.ErrForm, "void f(int @"+w+") {}")
		failsAt(t, api.ErrForm, "void f() { int @"+w+" = 1; }")
		failsAt(t, api.ErrForm, "void f() { goto @"+w+"; }")
		if w != "in" {
			failsAt(t, api.ErrForm, "void f() { x = @"+w+"; }")
			failsAt(t, api.ErrForm, "void f() { g(@"+w+"); }")
		}
		for _, name := range []string{w + "s", "_" + w, w + "1", w[:1]} {
			body(t, "goto "+name+";", []int{0}, node(api.SGoto, 0, name))
			value(t, name, node(api.EName, 0, name))
		}
	}
}

// P3.1: ErrRange, at the number of a global's elements.
func TestArraySizes(t *testing.T) {
	for _, size := range []string{"1", "2", "1023", "1024", "1024L", "1L"} {
		parsed(t, "int t["+size+"]; long u["+size+"]; char v["+size+"];")
	}
	for _, size := range []string{"0", "0L", "1025", "2147483647", "2147483648L", "4294967297L", "9223372036854775807L"} {
		for _, kind := range []string{"int", "long", "char"} {
			failsAt(t, api.ErrRange, kind+" t[@"+size+"];")
			failsAt(t, api.ErrRange, kind+" t[@"+size+" x")
			failsAt(t, api.ErrRange, "int x; void f() {} "+kind+" t[@"+size)
		}
		failsAt(t, api.ErrForm, "@x; int t["+size+"];")
		failsAt(t, api.ErrForm, "void t@["+size+"];")
		body(t, "t[0] = 2000;", []int{2}, number(2, 0), number(7, 2000), node(api.SStore, 0, "t", 0, 1))
	}
	failsWith(t, list(word("int"), word("t"), sign("["), api.Token{Kind: api.TNumber, At: 9, N: -1}), api.ErrRange, 9)
	failsWith(t, list(word("int"), word("t"), sign("["), api.Token{Kind: api.TNumber, At: 9, N: math.MinInt}), api.ErrRange, 9)
}

func list(l ...api.Token) []api.Token { return l }

func word(s string) api.Token { return api.Token{Kind: api.TName, S: s} }

func sign(s string) api.Token { return api.Token{Kind: api.TSign, S: s} }

// P3.1: what the end is: the first TEnd, or, if there is none, a token at the last one's place.
func TestEnd(t *testing.T) {
	at := func(k api.Token, at int) api.Token { k.At = at; return k }
	end := api.Token{Kind: api.TEnd, At: 70}
	failsWith(t, list(at(word("int"), 3), end), api.ErrForm, 70)
	failsWith(t, list(at(word("int"), 3)), api.ErrForm, 3)
	failsWith(t, list(at(word("int"), 3), at(word("x"), 8)), api.ErrForm, 8)
	failsWith(t, list(at(word("int"), 3), at(word("x"), 8), end, sign(";")), api.ErrForm, 70)
	failsWith(t, list(at(word("int"), -3)), api.ErrForm, -3)
	want := api.Program{Globals: []api.Global{{Name: "x", Type: api.Int, At: 8}}}
	scalar := list(word("int"), at(word("x"), 8), sign(";"))
	for _, l := range [][]api.Token{
		scalar,
		append(list(scalar...), end),
		append(list(scalar...), end, end),
		append(list(scalar...), api.Token{Kind: api.TEnd, S: "(", N: 7}, sign(")"), word("else")),
	} {
		if p, d := Parse(l); d != (api.Diag{}) || !same(p, want) {
			t.Fatalf("%+v: %+v, %+v", l, p, d)
		}
	}
	for _, l := range [][]api.Token{nil, {}, {end}, {end, sign(")")}} {
		if p, d := Parse(l); d != (api.Diag{}) || !reflect.DeepEqual(plainLists(p), plainLists(api.Program{})) {
			t.Fatalf("%+v: %+v, %+v", l, p, d)
		}
	}
}

// P3.1: tokens that no text has: what is no word, no sign, no name and no number stands nowhere.
func TestOddTokens(t *testing.T) {
	odd := func(kind int, s string) api.Token { return api.Token{Kind: kind, At: 5, S: s} }
	for _, kind := range []int{0, 5, -1, math.MaxInt} {
		failsWith(t, list(odd(kind, "int"), word("x"), sign(";")), api.ErrForm, 5)
		failsWith(t, list(word("int"), odd(kind, "x"), sign(";")), api.ErrForm, 5)
		failsWith(t, list(word("int"), word("x"), odd(kind, ";")), api.ErrForm, 5)
		failsWith(t, list(word("int"), word("x"), sign("["), odd(kind, "1")), api.ErrForm, 5)
		failsWith(t, list(odd(kind, "")), api.ErrForm, 5)
	}
	failsWith(t, list(word("int"), word("x"), odd(api.TName, ";")), api.ErrForm, 5)
	failsWith(t, list(word("int"), odd(api.TSign, "x"), sign(";")), api.ErrForm, 5)
	failsWith(t, list(word("int"), odd(api.TSign, ""), sign(";")), api.ErrForm, 5)
	failsWith(t, list(word("int"), odd(api.TNumber, "x"), sign(";")), api.ErrForm, 5)
	failsWith(t, list(odd(api.TNumber, "int"), word("x"), sign(";")), api.ErrForm, 5)
	failsWith(t, list(word("int"), word("x"), odd(api.TNumber, ";")), api.ErrForm, 5)
	for _, name := range []string{"", ";", "(", "Int", "a b", "+", "L", "\xff"} { // a TName that is no word is a name
		p, d := Parse(list(word("int"), word(name), sign(";")))
		if d != (api.Diag{}) || !same(p, api.Program{Globals: []api.Global{{Name: name, Type: api.Int}}}) {
			t.Fatalf("%q: %+v, %+v", name, p, d)
		}
	}
	p, d := Parse(list(sign("int"), word("x"), sign(";"))) // a TSign stands for quoted text, as a word does
	if d != (api.Diag{}) || !same(p, api.Program{Globals: []api.Global{{Name: "x", Type: api.Int}}}) {
		t.Fatalf("%+v, %+v", p, d)
	}
}

// P3.1: a number is long if its S is L, and of 32 bits with any other; its N is taken as it is.
func TestOddNumbers(t *testing.T) {
	for _, s := range []string{"", "L", "l", "LL", "int"} {
		for _, n := range []int{0, -1, math.MinInt, math.MaxInt, 1 << 40} {
			p, d := Parse(list(word("int"), word("f"), sign("("), sign(")"), sign("{"), word("return"), api.Token{Kind: api.TNumber, N: n, S: s}, sign(";"), sign("}")))
			want := number(0, n)
			if s == "L" {
				want = long(0, n)
			}
			if d != (api.Diag{}) || !reflect.DeepEqual(p.Nodes[0], want) {
				t.Fatalf("%d%s: %+v, %+v", n, s, p, d)
			}
		}
	}
}

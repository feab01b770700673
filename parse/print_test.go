package parse

import (
	"math"
	"math/rand"
	"strings"
	"testing"

	"mortise/api"
)

// prints checks what a text's program is printed as.
func prints(t *testing.T, text, want string) {
	t.Helper()
	if got := Print(parsed(t, text)); got != want {
		t.Fatalf("%q printed:\n%q, want\n%q", text, got, want)
	}
}

// P3.2: the globals, then the functions, each as a line.
func TestPrintProgram(t *testing.T) {
	prints(t, "", "")
	prints(t, "// none\n", "")
	prints(t, "int main() { return 1 - 2 - x; }", "int main ( ) { return 1 - 2 - x ; }\n")
	prints(t, "int x;", "int x ;\n")
	prints(t, "long x;int y[1];char z[1024L];long u[7];", "long x ;\nint y [ 1 ] ;\nchar z [ 1024 ] ;\nlong u [ 7 ] ;\n")
	prints(t, "int a; void f(){} int b; long g(int c){} char d[2]; int h(long a,int b,int c){}",
		"int a ;\nint b ;\nchar d [ 2 ] ;\nvoid f ( ) { }\nlong g ( int c ) { }\nint h ( long a , int b , int c ) { }\n")
	if got := Print(api.Program{}); got != "" {
		t.Fatalf("none printed: %q", got)
	}
}

// P3.2: each statement.
func TestPrintStatements(t *testing.T) {
	for _, x := range [][2]string{
		{"", ""},
		{"{}", " { }"},
		{"{{}{g();}}{}", " { { } { g ( ) ; } } { }"},
		{"int x=1;long y=x;", " int x = 1 ; long y = x ;"},
		{"x=1;", " x = 1 ;"},
		{"t[1]=2;", " t [ 1 ] = 2 ;"},
		{"g();g(1);g(1,x,in());", " g ( ) ; g ( 1 ) ; g ( 1 , x , in ( ) ) ;"},
		{"l:m:g();", " l : m : g ( ) ;"},
		{"if(a)g();", " if ( a ) g ( ) ;"},
		{"if(a){}else g();", " if ( a ) { } else g ( ) ;"},
		{"if(a)if(b){}else{}", " if ( a ) if ( b ) { } else { }"},
		{"if(a){if(b){}}else{}", " if ( a ) { if ( b ) { } } else { }"},
		{"if(a)if(b){}else{}else{}", " if ( a ) if ( b ) { } else { } else { }"},
		{"if(a){}else if(b){}", " if ( a ) { } else if ( b ) { }"},
		{"while(a)goto l;", " while ( a ) goto l ;"},
		{"return;return 1;return(1);", " return ; return 1 ; return 1 ;"},
		{"out(1);out((x));", " out ( 1 ) ; out ( x ) ;"},
		{"x\n=// one\n1\n;", " x = 1 ;"},
	} {
		prints(t, "void f(){"+x[0]+"}", "void f ( ) {"+x[1]+" }\n")
	}
}

// P3.2: operands, and numbers of both types.
func TestPrintOperands(t *testing.T) {
	for _, x := range [][2]string{
		{"0", "0"}, {"0L", "0L"}, {"2147483647", "2147483647"}, {"2147483647L", "2147483647L"}, {"9223372036854775807L", "9223372036854775807L"},
		{"x", "x"}, {"t[x]", "t [ x ]"}, {"t[t[1]]", "t [ t [ 1 ] ]"}, {"g()", "g ( )"}, {"g(1,2L)", "g ( 1 , 2L )"}, {"g((1),h((x)))", "g ( 1 , h ( x ) )"}, {"in()", "in ( )"},
		{"-1", "- 1"}, {"--1", "- - 1"}, {"-(-1)", "- - 1"}, {"!~-x", "! ~ - x"}, {"(-x)", "- x"}, {"-(x)", "- x"}, {"-(t[1])", "- t [ 1 ]"}, {"-(g())", "- g ( )"},
		{"(char)x", "( char ) x"}, {"(int)(x)", "( int ) x"}, {"(long)(int)x", "( long ) ( int ) x"}, {"((long)x)", "( long ) x"}, {"(int)(-x)", "( int ) - x"}, {"-((int)x)", "- ( int ) x"},
		{"((((x))))", "x"},
	} {
		prints(t, "int f(){return "+x[0]+";}", "int f ( ) { return "+x[1]+" ; }\n")
	}
}

// P3.2: parentheses stand around binary signs where they change what is read, and nowhere else.
func TestPrintParentheses(t *testing.T) {
	for _, x := range [][2]string{
		{"(a+b)*c", "( a + b ) * c"}, {"(a*b)+c", "a * b + c"}, {"a*(b+c)", "a * ( b + c )"}, {"a+(b*c)", "a + b * c"},
		{"(a-b)-c", "a - b - c"}, {"a-(b-c)", "a - ( b - c )"}, {"a+(b+c)", "a + ( b + c )"}, {"a-(b+c)", "a - ( b + c )"}, {"(a+b)-c", "a + b - c"}, {"a*(b/c)", "a * ( b / c )"},
		{"-(a+b)", "- ( a + b )"}, {"!(a)+b", "! a + b"}, {"(-a)+b", "- a + b"}, {"-(a)*b", "- a * b"}, {"-(a*b)", "- ( a * b )"}, {"~(a||b)", "~ ( a || b )"}, {"-(-(a+b))", "- - ( a + b )"},
		{"(int)(a+b)", "( int ) ( a + b )"}, {"(int)a+b", "( int ) a + b"}, {"((int)a)+b", "( int ) a + b"}, {"(char)(long)(a<b)", "( char ) ( long ) ( a < b )"},
		{"a+(-b)", "a + - b"}, {"a-(-b)", "a - - b"}, {"a*((int)b)", "a * ( int ) b"}, {"a-((b))", "a - b"}, {"((a))-b", "a - b"},
		{"t[(a+b)]", "t [ a + b ]"}, {"g((a+b),(c))", "g ( a + b , c )"}, {"(a||b)&&c", "( a || b ) && c"}, {"a||(b&&c)", "a || b && c"}, {"(a==b)==c", "a == b == c"}, {"a==(b!=c)", "a == ( b != c )"},
		{"(a<<b)>>c", "a << b >> c"}, {"a<<(b+c)", "a << b + c"}, {"(a<<b)+c", "( a << b ) + c"}, {"a&(b==c)", "a & b == c"}, {"(a&b)==c", "( a & b ) == c"}, {"a|(b^(c&d))", "a | b ^ c & d"}, {"((a|b)^c)&d", "( ( a | b ) ^ c ) & d"},
		{"((a+b)+(c+d))*(e*f)", "( a + b + ( c + d ) ) * ( e * f )"},
	} {
		prints(t, "int f(){return "+x[0]+";}", "int f ( ) { return "+x[1]+" ; }\n")
		prints(t, "void f(){if("+x[0]+")out("+x[0]+");}", "void f ( ) { if ( "+x[1]+" ) out ( "+x[1]+" ) ; }\n")
		prints(t, "void f(){while("+x[0]+")t["+x[0]+"]="+x[0]+";}", "void f ( ) { while ( "+x[1]+" ) t [ "+x[1]+" ] = "+x[1]+" ; }\n")
	}
}

// P3.2: any two binary signs, grouped to the left and to the right.
func TestPrintLevels(t *testing.T) {
	for i, ones := range levels() {
		for j, twos := range levels() {
			for _, a := range ones {
				for _, b := range twos {
					left, right := "( x "+a+" y ) "+b+" z", "x "+a+" ( y "+b+" z )"
					if i >= j {
						left = "x " + a + " y " + b + " z"
					} else {
						right = "x " + a + " y " + b + " z"
					}
					prints(t, "int f(){return (x"+a+"y)"+b+"z;}", "int f ( ) { return "+left+" ; }\n")
					prints(t, "int f(){return x"+a+"(y"+b+"z);}", "int f ( ) { return "+right+" ; }\n")
				}
			}
		}
	}
}

// P3.2: a program that check has worked on has the same text: Types, Refs and Vars are not told, but for the types of numbers.
func TestPrintChecked(t *testing.T) {
	p := parsed(t, "int t[2]; int f(int a){long b=1L; t[a]=2+(int)b; return f(a);}")
	want := Print(p)
	p.Funcs[0].Vars = []int{api.Int, api.Long}
	for i := range p.Nodes {
		p.Nodes[i].Ref = 3 - i
		if p.Nodes[i].Op != api.ENumber {
			p.Nodes[i].Type = api.Long
		}
	}
	if got := Print(p); got != want {
		t.Fatalf("%q, want %q", got, want)
	}
}

// R1: programs that no text has: Print returns, whatever it returns.
func TestPrintOdd(t *testing.T) {
	body := func(l ...api.Node) api.Program {
		return api.Program{Funcs: []api.Func{{Name: "f", Body: len(l) - 1}}, Nodes: l}
	}
	for _, p := range []api.Program{
		{Funcs: []api.Func{{Body: 0}}}, {Funcs: []api.Func{{Body: -1}}}, {Funcs: []api.Func{{Type: 4}}}, {Globals: []api.Global{{Type: -1}}},
		body(node(api.SBlock, 0, "", 0)), body(node(api.SIf, 0, "", 0, 0)), body(node(api.SIf, 0, "")), body(node(api.SBlock, 0, "", -1)), body(node(api.SBlock, 0, "", math.MaxInt)),
		body(node(api.EName, 0, ""), node(api.SReturn, 0, "", 0)), body(node(99, 0, "")), body(typed(api.ECast, 0, 17, "", 0)),
		body(node(api.EBinary, 0, "+", 1, 1), node(api.EBinary, 0, "+", 0, 0)),
	} {
		Print(p)
	}
	deep := []api.Node{node(api.EName, 0, "x")}
	for i := range 200000 {
		deep = append(deep, node(api.EUnary, 0, "-", i))
	}
	Print(body(deep...))
	wide := []api.Node{node(api.EName, 0, "x")}
	for i := range 100 {
		wide = append(wide, node(api.EBinary, 0, "+", i, i))
	}
	Print(body(wide...))
	r := rand.New(rand.NewSource(9))
	for range 3000 {
		p := api.Program{Funcs: []api.Func{{Type: r.Intn(5), Body: r.Intn(8)}}}
		for range r.Intn(9) {
			n := api.Node{Op: r.Intn(23), S: strings.Repeat("x", r.Intn(2)), To: r.Intn(5) - 1}
			for range r.Intn(4) {
				n.Kids = append(n.Kids, r.Intn(9)-1)
			}
			p.Nodes = append(p.Nodes, n)
		}
		Print(p)
	}
}

package lex

import (
	"reflect"
	"slices"
	"testing"

	"mortise/api"
)

// P2.2: the texts of tokens, one blank between any two.
func TestPrint(t *testing.T) {
	for _, x := range []struct{ text, want string }{
		{"", ""},
		{" // x\n", ""},
		{"a", "a"},
		{"a<<=b1", "a << = b1"},
		{"1L-0 // x", "1L - 0"},
		{"int  main(){return\n-2147483647;}//", "int main ( ) { return - 2147483647 ; }"},
		{"9223372036854775807L 0L 0 2147483648L", "9223372036854775807L 0L 0 2147483648L"},
		{"a/ /b", "a / / b"},
		{"&&&!==", "&& & != ="},
	} {
		l, d := Lex(x.text)
		if d != (api.Diag{}) {
			t.Fatalf("%q: %+v", x.text, d)
		}
		if got := Print(l); got != x.want {
			t.Errorf("%q: %q, want %q", x.text, got, x.want)
		}
	}
}

// P2.2: some of a text's tokens, with the end, without it, and with several.
func TestPrintSome(t *testing.T) {
	l, _ := Lex("if (a >= 10L) b = 7; // c")
	for _, x := range []struct {
		l    []api.Token
		want string
	}{
		{nil, ""},
		{l[:0], ""},
		{l[:1], "if"},
		{l[1:4], "( a >="},
		{l[:len(l)-1], "if ( a >= 10L ) b = 7 ;"},
		{l[len(l)-1:], ""},
		{l[len(l)-2:], ";"},
		{slices.Concat(l[2:3], l[4:5], l[8:9]), "a 10L 7"},
		{slices.Concat(l[8:], l[:2]), "7 ; if ("},
		{slices.Concat(l[10:], l[:2]), "if ("},
		{slices.Concat(l[10:], l[10:]), ""},
	} {
		if got := Print(x.l); got != x.want {
			t.Errorf("%+v: %q, want %q", x.l, got, x.want)
		}
	}
}

// R3: Print changes no token, and nothing behind the last one.
func TestPrintKeeps(t *testing.T) {
	l, _ := Lex("a = 1L + 2 ;")
	was := slices.Clone(l)
	for i := range l {
		Print(l[:i])
		Print(l[i:])
	}
	if !reflect.DeepEqual(l, was) {
		t.Fatalf("%+v, want %+v", l, was)
	}
}

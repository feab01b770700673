package lex

import (
	"reflect"
	"strings"
	"testing"

	"mortise/api"
)

func name(at int, s string) api.Token { return api.Token{Kind: api.TName, At: at, S: s} }

func sign(at int, s string) api.Token { return api.Token{Kind: api.TSign, At: at, S: s} }

func number(at, n int) api.Token { return api.Token{Kind: api.TNumber, At: at, N: n} }

func long(at, n int) api.Token { return api.Token{Kind: api.TNumber, At: at, N: n, S: "L"} }

func end(at int) api.Token { return api.Token{Kind: api.TEnd, At: at} }

func list(l ...api.Token) []api.Token { return l }

func head(l []api.Token) []api.Token { return l[:min(len(l), 12)] }

// holds checks that a text has these tokens, and no error.
func holds(t *testing.T, text string, want ...api.Token) {
	t.Helper()
	got, d := Lex(text)
	if d != (api.Diag{}) {
		t.Fatalf("%.60q: error %+v", text, d)
	}
	if !reflect.DeepEqual(got, want) {
		t.Fatalf("%.60q: %+v, want %+v", text, head(got), head(want))
	}
}

// fails checks that a text has this error, and no tokens beside it.
func fails(t *testing.T, text string, no api.Errno, at int) {
	t.Helper()
	got, d := Lex(text)
	if d != (api.Diag{No: no, At: at}) || len(got) != 0 {
		t.Fatalf("%.60q: %+v with %d tokens, want error %d at %d with none", text, d, len(got), no, at)
	}
}

// P2.1: the chapter's examples.
func TestExamples(t *testing.T) {
	holds(t, "a<<=b1", name(0, "a"), sign(1, "<<"), sign(3, "="), name(4, "b1"), end(6))
	holds(t, "1L-0 // x", long(0, 1), sign(2, "-"), number(3, 0), end(9))
	fails(t, "01", api.ErrForm, 0)
	fails(t, "1a", api.ErrForm, 0)
	fails(t, "1LL", api.ErrSign, 2)
	fails(t, "2147483648", api.ErrRange, 0)
	fails(t, "#", api.ErrSign, 0)
	holds(t, "", end(0))
}

// P2.1: an ordinary text.
func TestProgram(t *testing.T) {
	holds(t, "int main() { // it begins\n  return x[7L] >= -a_1;\n}\n",
		name(0, "int"), name(4, "main"), sign(8, "("), sign(9, ")"), sign(11, "{"),
		name(28, "return"), name(35, "x"), sign(36, "["), long(37, 7), sign(39, "]"), sign(41, ">="), sign(44, "-"), name(45, "a_1"), sign(48, ";"),
		sign(50, "}"), end(52))
}

// P2.1: a text without tokens has the end alone, at its size.
func TestBlankTexts(t *testing.T) {
	for _, text := range []string{"", " ", "\n", " \n \n", "//", "// x", "//\n", "// x\n", "//\n//", "// a\n\n  // b\n // c", "////", "///* /", "// # \x80 01 2147483648\n"} {
		holds(t, text, end(len(text)))
	}
}

// P2.1: every byte, alone and behind tokens: with none but those that are listed a token begins.
func TestBytes(t *testing.T) {
	for i := range 256 {
		text := string([]byte{byte(i)})
		switch {
		case i == ' ' || i == '\n':
			holds(t, text, end(1))
		case 'a' <= i && i <= 'z' || i == '_':
			holds(t, text, name(0, text), end(1))
		case '0' <= i && i <= '9':
			holds(t, text, number(0, i-'0'), end(1))
		case strings.Contains("+-*/%&|^~!<>=(){}[];,:", text):
			holds(t, text, sign(0, text), end(1))
		default:
			fails(t, text, api.ErrSign, 0)
			fails(t, "ab "+text+" 1", api.ErrSign, 3)
			fails(t, "x"+text+"y", api.ErrSign, 1)
			fails(t, "2L"+text, api.ErrSign, 2)
			fails(t, " // \n"+text, api.ErrSign, 5)
			holds(t, "//"+text, end(3))
		}
	}
}

// P2.1: two signs side by side are one where there is one of both bytes.
func TestLongestSign(t *testing.T) {
	const ones = "+-*/%&|^~!<>=(){}[];,:"
	const twos = " << >> <= >= == != && || "
	for _, a := range ones {
		for _, b := range ones {
			text := string(a) + string(b)
			switch {
			case text == "//":
				holds(t, text, end(2))
			case strings.Contains(twos, " "+text+" "):
				holds(t, text, sign(0, text), end(2))
			default:
				holds(t, text, sign(0, string(a)), sign(1, string(b)), end(2))
			}
		}
	}
	holds(t, "<<<", sign(0, "<<"), sign(2, "<"), end(3))
	holds(t, ">>>>", sign(0, ">>"), sign(2, ">>"), end(4))
	holds(t, "===", sign(0, "=="), sign(2, "="), end(3))
	holds(t, "!==", sign(0, "!="), sign(2, "="), end(3))
	holds(t, "<==", sign(0, "<="), sign(2, "="), end(3))
	holds(t, "&&&", sign(0, "&&"), sign(2, "&"), end(3))
	holds(t, "|| |", sign(0, "||"), sign(3, "|"), end(4))
	holds(t, "< <", sign(0, "<"), sign(2, "<"), end(3))
	holds(t, "&\n&", sign(0, "&"), sign(2, "&"), end(3))
}

// P2.1: where comments begin and end.
func TestComments(t *testing.T) {
	holds(t, "a//b", name(0, "a"), end(4))
	holds(t, "a//b\nc", name(0, "a"), name(5, "c"), end(6))
	holds(t, "a//\nc", name(0, "a"), name(4, "c"), end(5))
	holds(t, "a1//\n1", name(0, "a1"), number(5, 1), end(6))
	holds(t, "1//\n2", number(0, 1), number(4, 2), end(5))
	holds(t, "a//b//c\n//d\n \n//e\nf//", name(0, "a"), name(18, "f"), end(21))
	holds(t, "a/ /b", name(0, "a"), sign(1, "/"), sign(3, "/"), name(4, "b"), end(5))
	holds(t, "a/\n/b", name(0, "a"), sign(1, "/"), sign(3, "/"), name(4, "b"), end(5))
	holds(t, "a///b\n/c", name(0, "a"), sign(6, "/"), name(7, "c"), end(8))
	holds(t, "a/*b*/", name(0, "a"), sign(1, "/"), sign(2, "*"), name(3, "b"), sign(4, "*"), sign(5, "/"), end(6))
	holds(t, "=//=\n=", sign(0, "="), sign(5, "="), end(6))
	holds(t, "// \x00\r\t\xff A\n1", number(10, 1), end(11))
	fails(t, "// a\n#", api.ErrSign, 5)
	fails(t, "// a\rb\n\r", api.ErrSign, 7)
	fails(t, "1//\n#", api.ErrSign, 4)
}

// P2.1: names, and how long they may be.
func TestNames(t *testing.T) {
	full := "abcdefghijklm_0123456789"
	if len(full) != api.MaxName {
		t.Fatalf("%d bytes", len(full))
	}
	holds(t, full, name(0, full), end(24))
	holds(t, " "+full+"+", name(1, full), sign(25, "+"), end(26))
	holds(t, full+" "+full, name(0, full), name(25, full), end(49))
	fails(t, full+"z", api.ErrLong, 0)
	fails(t, full+"_", api.ErrLong, 0)
	fails(t, full+"9", api.ErrLong, 0)
	fails(t, "a "+full+full, api.ErrLong, 2)
	holds(t, "_ __ _0 a0b1", name(0, "_"), name(2, "__"), name(5, "_0"), name(8, "a0b1"), end(12))
	holds(t, "a0123456789", name(0, "a0123456789"), end(11))
	fails(t, "aB", api.ErrSign, 1)
	fails(t, "aL", api.ErrSign, 1)
	fails(t, full+"B", api.ErrSign, 24)
	fails(t, full+"a#", api.ErrLong, 0)
}

// P2.1: numbers: how great they may be, and which forms they have.
func TestNumbers(t *testing.T) {
	holds(t, "0", number(0, 0), end(1))
	holds(t, "0L", long(0, 0), end(2))
	holds(t, "7 10 100", number(0, 7), number(2, 10), number(5, 100), end(8))
	holds(t, "1234567890", number(0, 1234567890), end(10))
	holds(t, "2147483647", number(0, 1<<31-1), end(10))
	holds(t, "2147483647L", long(0, 1<<31-1), end(11))
	holds(t, "2147483648L", long(0, 1<<31), end(11))
	holds(t, "9223372036854775807L", long(0, 1<<63-1), end(20))
	fails(t, "2147483648", api.ErrRange, 0)
	fails(t, "9223372036854775807", api.ErrRange, 0)
	fails(t, "9223372036854775808L", api.ErrRange, 0)
	fails(t, "9223372036854775808", api.ErrRange, 0)
	fails(t, "18446744073709551616", api.ErrRange, 0) // 2^64
	fails(t, "18446744073709551617L", api.ErrRange, 0)
	fails(t, "4294967297", api.ErrRange, 0) // 2^32 + 1
	fails(t, "- 99999999999999999999L", api.ErrRange, 2)
	fails(t, strings.Repeat("9", 1000), api.ErrRange, 0)
	holds(t, "-2147483647", sign(0, "-"), number(1, 1<<31-1), end(11))
	holds(t, "1+2L*3", number(0, 1), sign(1, "+"), long(2, 2), sign(4, "*"), number(5, 3), end(6))
}

// P2.1: several digits of which the first is 0, and letters and digits behind a number, whatever its value.
func TestNumberForm(t *testing.T) {
	for _, text := range []string{"00", "01", "00L", "01L", "09", "010", "0a", "1_", "1z", "0La", "1L1", "1L0", "1L_", "12ab", "1a#", "0x1", "1e5", "2147483648a", "9223372036854775808Lz", "02147483648", "00000000000000000000", "1aaaaaaaaaaaaaaaaaaaaaaaaaaaaaaaaaaaaaaa"} {
		fails(t, text, api.ErrForm, 0)
		fails(t, "x\n//\n="+text, api.ErrForm, 6)
	}
	fails(t, "1 L", api.ErrSign, 2)
	fails(t, "1LL", api.ErrSign, 2)
	fails(t, "1A", api.ErrSign, 1)
	fails(t, "0X1", api.ErrSign, 1)
	fails(t, "1l", api.ErrForm, 0)
	holds(t, "1 0", number(0, 1), number(2, 0), end(3))
	holds(t, "0 0L", number(0, 0), long(2, 0), end(4))
	holds(t, "1L 1", long(0, 1), number(3, 1), end(4))
	holds(t, "1 a", number(0, 1), name(2, "a"), end(3))
	fails(t, "1.5", api.ErrSign, 1)
}

// P2.1: the first token that has an error counts, whatever stands behind it.
func TestFirstError(t *testing.T) {
	tooLong := strings.Repeat("a", api.MaxName+1)
	bad := []struct {
		text string
		no   api.Errno
	}{{tooLong, api.ErrLong}, {"01", api.ErrForm}, {"1a", api.ErrForm}, {"2147483648", api.ErrRange}, {"9223372036854775808L", api.ErrRange}, {"#", api.ErrSign}, {"\xc3\xa9", api.ErrSign}}
	for _, a := range bad {
		for _, b := range bad {
			fails(t, "x ="+a.text+" "+b.text, a.no, 3)
			fails(t, a.text+" // "+b.text, a.no, 0)
			fails(t, "//"+a.text+"\n"+b.text, b.no, len(a.text)+3)
		}
	}
}

// P2.1: a text of MaxText bytes, and of one more.
func TestTextSize(t *testing.T) {
	blanks := strings.Repeat(" ", api.MaxText)
	holds(t, blanks, end(api.MaxText))
	holds(t, blanks[1:]+"x", name(api.MaxText-1, "x"), end(api.MaxText))
	fails(t, blanks[1:]+"#", api.ErrSign, api.MaxText-1)
	fails(t, blanks+" ", api.ErrLong, 0)
	fails(t, "# 01"+blanks, api.ErrLong, 0)
	fails(t, blanks+blanks+"#", api.ErrLong, 0)
	comment := "//" + strings.Repeat("/", api.MaxText-2)
	holds(t, comment, end(api.MaxText))
	fails(t, comment+"/", api.ErrLong, 0)
	fails(t, strings.Repeat("a", api.MaxText), api.ErrLong, 0)
	fails(t, strings.Repeat("9", api.MaxText), api.ErrRange, 0)
	l, d := Lex(strings.Repeat(";", api.MaxText))
	if d != (api.Diag{}) || len(l) != api.MaxText+1 || l[api.MaxText] != end(api.MaxText) || l[api.MaxText-1] != sign(api.MaxText-1, ";") {
		t.Fatalf("signs alone: %d tokens, %+v", len(l), d)
	}
	holds(t, strings.Repeat("//\n", api.MaxText/3)+"a", name(api.MaxText-1, "a"), end(api.MaxText))
}

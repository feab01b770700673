package lex

import (
	"math/big"
	"math/rand"
	"reflect"
	"regexp"
	"slices"
	"strings"
	"testing"
	"unsafe"

	"mortise/api"
)

// pieces of which texts are made: most of them make tokens, some an error.
func pieces() []string {
	return []string{
		" ", "\n", "  ", "// x", "//", "// y\n", "/", "a", "z9", "_", "int", "while", "abcdefghijklmnopqrstuvwx", "0", "1", "7L", "10", "42L", "2147483647", "9223372036854775807L",
		"<<", ">>", "<=", ">=", "==", "!=", "&&", "||", "+", "-", "*", "%", "&", "|", "^", "~", "!", "<", ">", "=", "(", ")", "{", "}", "[", "]", ";", ",", ":", " ", "\n", ";", " a", " 3 ",
	}
}

func wrongPieces() []string {
	return []string{"00", "2147483648", "9223372036854775808L", "L", "A", "#", "\t", "\r", "\x00", "\x80", "\xff", "é", "bcdefghijklmnopqrstuvwx", "0123", "'", "\"", "\\", ".", "?", "@", "$", "`"}
}

func madeText(r *rand.Rand, l []string) string {
	var b strings.Builder
	for range r.Intn(14) {
		b.WriteString(l[r.Intn(len(l))])
	}
	return b.String()
}

// goodTexts are texts that have tokens.
func goodTexts(n int) []string {
	r := rand.New(rand.NewSource(2))
	var l []string
	for len(l) < n {
		text := madeText(r, pieces())
		if _, d := Lex(text); d == (api.Diag{}) {
			l = append(l, text)
		}
	}
	return l
}

// plain is P2.1 once more, by patterns and great numbers.
func plain(text string) ([]api.Token, api.Diag) {
	blank := regexp.MustCompile(`^(?:[ \n]|//[^\n]*)*`)
	word := regexp.MustCompile(`^(?:([a-z_][a-z_0-9]*)|([0-9]+)(L?)|(<<|>>|<=|>=|==|!=|&&|\|\||[-+*/%&|^~!<>=(){}\[\];,:]))`)
	var l []api.Token
	for at := 0; ; {
		at += len(blank.FindString(text[at:]))
		if at == len(text) {
			return append(l, end(at)), api.Diag{}
		}
		m := word.FindStringSubmatch(text[at:])
		if m == nil {
			return nil, api.Diag{No: api.ErrSign, At: at}
		}
		switch {
		case m[1] != "":
			if len(m[1]) > 24 {
				return nil, api.Diag{No: api.ErrLong, At: at}
			}
			l = append(l, name(at, m[1]))
		case m[2] != "":
			if regexp.MustCompile(`^0.`).MatchString(m[2]) || regexp.MustCompile(`^[a-z_0-9]`).MatchString(text[at+len(m[0]):]) {
				return nil, api.Diag{No: api.ErrForm, At: at}
			}
			n, _ := new(big.Int).SetString(m[2], 10)
			if m[3] == "" && n.Cmp(big.NewInt(2147483647)) > 0 || !n.IsInt64() {
				return nil, api.Diag{No: api.ErrRange, At: at}
			}
			l = append(l, api.Token{Kind: api.TNumber, At: at, N: int(n.Int64()), S: m[3]})
		default:
			l = append(l, sign(at, m[4]))
		}
		at += len(m[0])
	}
}

// P2.1: texts of all sorts, held against the plain reading.
func TestPlain(t *testing.T) {
	r := rand.New(rand.NewSource(1))
	all := slices.Concat(pieces(), pieces(), wrongPieces())
	wrong := 0
	for range 30000 {
		text := madeText(r, all)
		want, wantDiag := plain(text)
		got, d := Lex(text)
		if d != wantDiag || !reflect.DeepEqual(got, want) {
			t.Fatalf("%q: %+v, %+v, want %+v, %+v", text, got, d, want, wantDiag)
		}
		if d.No != api.OK {
			wrong++
		}
	}
	if wrong < 3000 || wrong > 27000 {
		t.Fatalf("%d of the texts are wrong: too few, or too many", wrong)
	}
}

// P2.3: what Print tells of a text's tokens has the same tokens, but for their places.
func TestRoundTrip(t *testing.T) {
	for _, text := range goodTexts(5000) {
		l, _ := Lex(text)
		printed := Print(l)
		again, d := Lex(printed)
		if d != (api.Diag{}) || !reflect.DeepEqual(without(again), without(l)) {
			t.Fatalf("%q, printed %q: %+v, %+v, want %+v", text, printed, again, d, l)
		}
		if twice := Print(again); twice != printed {
			t.Fatalf("%q, printed %q, and once more %q", text, printed, twice)
		}
		if strings.Contains(printed, "\n") || strings.Contains(printed, "  ") || strings.Trim(printed, " ") != printed {
			t.Fatalf("%q, printed %q: more than one blank", text, printed)
		}
	}
}

// without is a copy of tokens without their places.
func without(l []api.Token) []api.Token {
	out := slices.Clone(l)
	for i := range out {
		out[i].At = 0
	}
	return out
}

// P2.4: places ascend, and the text there is the token's.
func TestPlaces(t *testing.T) {
	for _, text := range goodTexts(5000) {
		l, _ := Lex(text)
		next := 0
		for i, k := range l {
			printed := Print(l[i : i+1])
			if k.At < next || !strings.HasPrefix(text[k.At:], printed) {
				t.Fatalf("%q: token %d, %+v, behind %d", text, i, k, next)
			}
			next = k.At + len(printed)
		}
		if e := l[len(l)-1]; e != end(len(text)) {
			t.Fatalf("%q ends with %+v", text, e)
		}
	}
}

// P2.5: one more blank, beside a blank or ahead of a token, changes places alone.
func TestBlanks(t *testing.T) {
	for _, text := range goodTexts(400) {
		l, _ := Lex(text)
		var places []int
		for _, k := range l {
			places = append(places, k.At)
		}
		for i := range text {
			if text[i] == '\n' || text[i] == ' ' {
				places = append(places, i)
			}
		}
		for _, at := range places {
			for _, m := range blanks(text, at) {
				got, d := Lex(text[:at] + m + text[at:])
				if d != (api.Diag{}) || !reflect.DeepEqual(moved(l, at, len(m)), got) {
					t.Fatalf("%q with %q at %d: %+v, %+v, want %+v", text, m, at, got, d, moved(l, at, len(m)))
				}
			}
		}
	}
}

// blanks are those that may stand at a place of a text: a newline would end a comment there, and a comment would begin with a sign / ahead of it.
func blanks(text string, at int) []string {
	switch {
	case inComment(text, at):
		return []string{" "}
	case at > 0 && text[at-1] == '/':
		return []string{" ", "\n", "\n \n", " //\n"}
	}
	return []string{" ", "\n", "\n \n", "//\n", "// + 1 #\n"}
}

// inComment tells whether a comment has begun ahead of a place, and has not ended.
func inComment(text string, at int) bool {
	line := text[strings.LastIndexByte(text[:at], '\n')+1 : at]
	return strings.Contains(line, "//")
}

// moved is tokens of which those from a place on stand further behind.
func moved(l []api.Token, at, by int) []api.Token {
	out := slices.Clone(l)
	for i := range out {
		if out[i].At >= at {
			out[i].At += by
		}
	}
	return out
}

// R3, R4: two calls tell the same, and share no memory with the text or with each other.
func TestNewMemory(t *testing.T) {
	text := strings.Clone("abc = abc + 12L ; // x\n d1")
	a, _ := Lex(text)
	b, _ := Lex(text)
	if !reflect.DeepEqual(a, b) {
		t.Fatalf("%+v, then %+v", a, b)
	}
	from := uintptr(unsafe.Pointer(unsafe.StringData(text)))
	for _, k := range a {
		if p := uintptr(unsafe.Pointer(unsafe.StringData(k.S))); k.S != "" && p >= from && p < from+uintptr(len(text)) {
			t.Errorf("%+v keeps the text", k)
		}
	}
	for i := range a {
		a[i] = api.Token{}
	}
	if c, _ := Lex(text); !reflect.DeepEqual(b, c) {
		t.Fatalf("%+v, then %+v", b, c)
	}
}

package wat

import (
	"strconv"
	"strings"

	"mortise/api"
)

// reader reads tokens, one after the other.
type reader struct {
	rest     string // what was not read yet
	meanings map[string]api.W
}

// scan is the token with which a text begins, blanks left aside, and what stands behind it; "" if there is none.
func scan(text string) (token, rest string) {
	text = strings.TrimLeft(text, " \n")
	n := size(text)
	return text[:n], text[n:]
}

// size is how many bytes the token has with which a text begins (0 if there is none).
func size(text string) int {
	if text == "" {
		return 0
	}
	switch text[0] {
	case '(', ')':
		return 1
	case '"':
		inside := strings.IndexAny(text[1:], "\"\n")
		if inside < 0 || text[1+inside] != '"' {
			return 0
		}
		return inside + 2
	}
	if end := strings.IndexAny(text, "()\" \n"); end >= 0 {
		return end
	}
	return len(text)
}

// next reads a token, whatever it is.
func (r *reader) next() string {
	token, rest := scan(r.rest)
	r.rest = rest
	return token
}

// accept reads some tokens, if all of them stand here.
func (r *reader) accept(l ...string) bool {
	before := r.rest
	for _, s := range l {
		if r.next() != s {
			r.rest = before
			return false
		}
	}
	return true
}

// expect reads tokens, given with a blank between any two, that must stand here.
func (r *reader) expect(tokens string) {
	for s := range strings.SplitSeq(tokens, " ") {
		if r.next() != s {
			panic(fault(api.ErrForm))
		}
	}
}

// end is where no further token may stand.
func (r *reader) end() {
	if strings.Trim(r.rest, " \n") != "" {
		panic(fault(api.ErrForm))
	}
}

// number reads a number that must stand here.
func (r *reader) number() int {
	token := r.next()
	if digits := strings.TrimPrefix(token, "-"); digits == "" || strings.Trim(digits, "0123456789") != "" {
		panic(fault(api.ErrForm))
	}
	n, err := strconv.Atoi(token)
	if err != nil || strconv.Itoa(n) != token { // 007 and -0 are none
		panic(fault(api.ErrRange))
	}
	return n
}

// name reads a function's name that must stand here.
func (r *reader) name() string {
	name, ok := strings.CutPrefix(r.next(), "$")
	if !ok || !isTag(name) {
		panic(fault(api.ErrForm))
	}
	return strings.Clone(name) // a piece of the text would keep all of it in memory
}

func isTag(s string) bool {
	if s == "" || len(s) > api.MaxName || isDigit(s[0]) {
		return false
	}
	for i := range len(s) {
		if b := s[i]; b != '_' && !isDigit(b) && (b < 'a' || b > 'z') {
			return false
		}
	}
	return true
}

func isDigit(b byte) bool { return '0' <= b && b <= '9' }

// valueType reads the word of a type that must stand here.
func (r *reader) valueType() int {
	token := r.next()
	for t, s := range typeWords {
		if s == token && s != "" { // Void has no word
			return t
		}
	}
	panic(fault(api.ErrForm))
}

// types reads one type or more, and the parenthesis behind them.
func (r *reader) types() []int {
	l := []int{r.valueType()}
	for !r.accept(")") {
		l = append(l, r.valueType())
	}
	return l
}

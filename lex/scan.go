package lex

import (
	"iter"
	"strconv"
	"strings"

	"mortise/api"
)

// signs holds every sign; the longer ones stand first, so that the first that fits is the longest that is there.
var signs = [...]string{
	"<<", ">>", "<=", ">=", "==", "!=", "&&", "||",
	"+", "-", "*", "/", "%", "&", "|", "^", "~", "!", "<", ">", "=",
	"(", ")", "{", "}", "[", "]", ";", ",", ":",
}

// scan is the token with which a text begins (that has a byte, and no blank at its beginning), and how many bytes it has.
func scan(text string) (api.Token, int, api.Errno) {
	switch {
	case isLetter(text[0]):
		return scanName(text)
	case isDigit(text[0]):
		return scanNumber(text)
	}
	return scanSign(text)
}

func scanName(text string) (api.Token, int, api.Errno) {
	size := 1
	for size < len(text) && isInName(text[size]) {
		size++
	}
	if size > api.MaxName {
		return api.Token{}, 0, api.ErrLong
	}
	// A piece of the text would keep all of it in memory.
	return api.Token{Kind: api.TName, S: strings.Clone(text[:size])}, size, api.OK
}

func scanNumber(text string) (api.Token, int, api.Errno) {
	digits := 1
	for digits < len(text) && isDigit(text[digits]) {
		digits++
	}
	size, bits, mark := digits, 32, ""
	if size < len(text) && text[size] == 'L' {
		size, bits, mark = size+1, 64, "L"
	}
	if digits > 1 && text[0] == '0' || size < len(text) && isInName(text[size]) {
		return api.Token{}, 0, api.ErrForm
	}
	n, err := strconv.ParseInt(text[:digits], 10, bits)
	if err != nil { // digits alone can be nothing but too great
		return api.Token{}, 0, api.ErrRange
	}
	return api.Token{Kind: api.TNumber, N: int(n), S: mark}, size, api.OK
}

func scanSign(text string) (api.Token, int, api.Errno) {
	for _, s := range signs {
		if strings.HasPrefix(text, s) {
			return api.Token{Kind: api.TSign, S: s}, len(s), api.OK
		}
	}
	return api.Token{}, 0, api.ErrSign
}

func isLetter(b byte) bool { return 'a' <= b && b <= 'z' || b == '_' }

func isDigit(b byte) bool { return '0' <= b && b <= '9' }

func isInName(b byte) bool { return isLetter(b) || isDigit(b) }

// texts yields the texts of tokens; a TEnd has none.
func texts(l []api.Token) iter.Seq[string] {
	return func(yield func(string) bool) {
		for _, t := range l {
			s := t.S
			switch t.Kind {
			case api.TEnd:
				continue
			case api.TNumber:
				s = strconv.Itoa(t.N) + t.S
			}
			if !yield(s) {
				return
			}
		}
	}
}

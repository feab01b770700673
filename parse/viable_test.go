package parse

import (
	"slices"
	"strings"

	"mortise/api"
)

// rule is a line of the grammar: parts that begin with a letter from A to Z are told by other lines, or are NAME, NUMBER and END.
type rule struct {
	what  string
	parts []string
}

// rules are the chapter's grammar once more, as it is written there.
func rules() []rule {
	var l []rule
	for _, line := range strings.Split(strings.TrimSpace(`
Program : Items END
Items :
Items : Items Item
Item : Value NAME ;
Item : Element NAME [ NUMBER ] ;
Item : Result NAME ( ) Block
Item : Result NAME ( Params ) Block
Value : int
Value : long
Element : char
Element : Value
Result : void
Result : Value
Params : Param
Params : Params , Param
Param : Value NAME
Block : { Statements }
Statements :
Statements : Statements Statement
Statement : Block
Statement : Value NAME = Expression ;
Statement : NAME = Expression ;
Statement : NAME [ Expression ] = Expression ;
Statement : NAME ( ) ;
Statement : NAME ( Arguments ) ;
Statement : NAME : Statement
Statement : if ( Expression ) Statement
Statement : if ( Expression ) Statement else Statement
Statement : while ( Expression ) Statement
Statement : goto NAME ;
Statement : return ;
Statement : return Expression ;
Statement : out ( Expression ) ;
Arguments : Expression
Arguments : Arguments , Expression
Expression : Operand
Expression : Expression Sign Operand
Operand : - Operand
Operand : ~ Operand
Operand : ! Operand
Operand : ( Element ) Operand
Operand : ( Expression )
Operand : NUMBER
Operand : NAME
Operand : NAME [ Expression ]
Operand : NAME ( )
Operand : NAME ( Arguments )
Operand : in ( )
`), "\n") {
		what, parts, _ := strings.Cut(line, " :")
		l = append(l, rule{what, strings.Fields(parts)})
	}
	for _, s := range slices.Concat(levels()...) {
		l = append(l, rule{"Sign", []string{s}})
	}
	return l
}

// begun is a rule of which some parts were read, from a place on.
type begun struct{ rule, read, from int }

// viable follows all readings of tokens (that end with a TEnd) at once; it tells the place of the first with which none goes on, or true.
func viable(l []api.Token) (int, bool) {
	all := rules()
	sets := [][]begun{{{0, 0, 0}}}
	for i := range l {
		fill(all, sets, i)
		var next []begun
		for _, b := range sets[i] {
			if parts := all[b.rule].parts; b.read < len(parts) && fits(parts[b.read], l[i]) {
				next = append(next, begun{b.rule, b.read + 1, b.from})
			}
		}
		if len(next) == 0 {
			return i, false
		}
		sets = append(sets, next)
	}
	return 0, true
}

// fill adds to the last set what its readings begin and end.
func fill(all []rule, sets [][]begun, at int) {
	has := map[begun]bool{}
	for _, b := range sets[at] {
		has[b] = true
	}
	add := func(b begun) {
		if !has[b] {
			has[b] = true
			sets[at] = append(sets[at], b)
		}
	}
	for i := 0; i < len(sets[at]); i++ {
		b := sets[at][i]
		if b.read == len(all[b.rule].parts) {
			for _, c := range sets[b.from] { // no rule is empty but those whose readings stand in the set ahead of it
				if parts := all[c.rule].parts; c.read < len(parts) && parts[c.read] == all[b.rule].what {
					add(begun{c.rule, c.read + 1, c.from})
				}
			}
			continue
		}
		for j, r := range all {
			if r.what == all[b.rule].parts[b.read] {
				add(begun{j, 0, at})
			}
		}
	}
}

func fits(part string, t api.Token) bool {
	words := strings.Fields("char int long void if else while goto return in out")
	isWord := t.Kind == api.TName && slices.Contains(words, t.S)
	switch part {
	case "NAME":
		return t.Kind == api.TName && !isWord
	case "NUMBER":
		return t.Kind == api.TNumber
	case "END":
		return t.Kind == api.TEnd
	}
	return (isWord || t.Kind == api.TSign) && t.S == part
}

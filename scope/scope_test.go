package scope

import (
	"slices"
	"strconv"
	"strings"
	"testing"

	"mortise/api"
	"mortise/ir"
	"mortise/sample"
)

// operations are the names of items; their Op is the place among them.
var operations = []string{"?", "block", "loop", "code", "br", "if", "return"}

// show is lists as a text: "code2 br1 | block0 code3 if4,1,2", with what an item's operation uses; what it does not use only if it is not 0.
func show(lists [][]Item) string {
	var out []string
	for _, l := range lists {
		var items []string
		for _, i := range l {
			items = append(items, showItem(i))
		}
		out = append(out, strings.Join(items, " "))
	}
	return strings.Join(out, " | ")
}

func showItem(i Item) string {
	numbers := map[int][]int{OBlock: {i.Body}, OLoop: {i.Body}, OCode: {i.Block}, OBr: {i.N}, OIf: {i.A, i.Body, i.Other}, OReturn: {i.A}}[i.Op]
	var words []string
	for _, n := range numbers {
		words = append(words, strconv.Itoa(n))
	}
	s := "?"
	if numbers != nil {
		s = operations[i.Op]
	}
	s += strings.Join(words, ",")
	if numbers == nil || unusedField(i) {
		s += "(and more)"
	}
	return s
}

func sameLists(a, b [][]Item) bool { return slices.EqualFunc(a, b, slices.Equal) }

// row is a function in the form of sample.ShowCode, and its lists; none: it is not reducible.
type row struct{ code, lists string }

// hold holds what is answered for functions of valid modules, and what the second reading answers.
func hold(t *testing.T, rows []row) {
	t.Helper()
	for _, x := range rows {
		c := sample.Code(x.code)
		c.Name = "main"
		if no := ir.Check(api.Module{Funcs: []api.Code{c}}); no != api.OK {
			t.Errorf("%s: error %d", x.code, no)
			continue
		}
		got, no := Scope(c)
		if x.lists == "" {
			if no != api.ErrSplit || got != nil {
				t.Errorf("%s: %s, error %d", x.code, show(got), no)
			}
			continue
		}
		if second := secondScope(c); no != api.OK || show(got) != x.lists || show(second) != x.lists {
			t.Errorf("%s: error %d\n%s\n%s, want\n%s", x.code, no, show(got), show(second), x.lists)
			continue
		}
		holdLaws(t, c)
	}
}

// P11.1: the chapter's examples, and the one of the chapter before.
func TestExamples(t *testing.T) {
	hold(t, []row{
		{"ii: return a1", "code0 return1"},
		{"ii: branch a1 to1 or2 | jump to2 | return a1", "code1 br1 | br1 | code0 if1,0,1 | block2 code2 return1"},
		{"ii: jump to1 | branch a1 to1 or2 | return a1", "br1 | code2 return1 | code1 if1,0,1 | code0 loop2"},
		{"i: branch to1 or2 | jump to2 | branch to1 or3 | return", ""},
		{"i: branch to1 or2 | jump to2 | branch to4 or3 | return | jump to2", "code1 br1 | br1 | code0 if0,0,1 | code4 br1 | code3 return0 | code2 if0,3,4 | block2 loop5"},
	})
}

// P11.1: an item for each kind of end, with the register that it names; what a Jump or a Return does not use counts for nothing.
func TestEnds(t *testing.T) {
	hold(t, []row{
		{"i: return", "code0 return0"},
		{"iii: return a2 to1 or2", "code0 return2"},
		{"ii: jump to1 | return a1", "code0 code1 return1"},
		{"ii: jump a9 to2 or1 | return | return a1", "code0 code2 return1"},
		{"ii: branch a1 to1 or1 | return", "code0 code1 return0"},
		{"ii: branch a1 to1 or2 | return a1 | return", "code1 return1 | code2 return0 | code0 if1,0,1"},
		{"ii: branch a1 to2 or1 | return a1 | return", "code2 return0 | code1 return1 | code0 if1,0,1"},
		{"iii: branch a2 to1 or2 | branch a1 to3 or4 | return | return a1 | return a2", "code3 return1 | code4 return2 | code1 if1,0,1 | code2 return0 | code0 if2,2,3"},
	})
}

// P11.1: a Return of nothing.
func TestReturnOfNothing(t *testing.T) {
	main := sample.Code("i: return")
	main.Name = "main"
	f := api.Code{Blocks: []api.Block{{End: api.End{Kind: api.Return, A: -1}}}}
	if no := ir.Check(api.Module{Funcs: []api.Code{f, main}}); no != api.OK {
		t.Fatal(no)
	}
	if got, no := Scope(f); no != api.OK || show(got) != "code0 return-1" {
		t.Error(show(got), no)
	}
}

// P11.1: joins are those to which the ends of two or more earlier blocks lead; the last one, by the order, is the outermost one.
func TestJoins(t *testing.T) {
	hold(t, []row{
		// an if with two arms, and one with an arm that returns
		{"i: branch to1 or2 | jump to3 | jump to3 | return", "code1 br1 | code2 br1 | code0 if0,0,1 | block2 code3 return0"},
		{"i: branch to1 or2 | jump to3 | return | return", "code1 code3 return0 | code2 return0 | code0 if0,0,1"},
		// an end that leads there twice is one end
		{"i: branch to1 or1 | branch to2 or2 | return", "code0 code1 code2 return0"},
		// blocks that are not reachable do not count
		{"i: jump to2 | jump to2 | return", "code0 code2 return0"},
		{"i: branch to1 or2 | return | return | branch to1 or2", "code1 return0 | code2 return0 | code0 if0,0,1"},
		// two joins of one block: 4 comes before 3 in the order
		{"i: branch to1 or2 | branch to3 or4 | branch to3 or4 | return | return", "br3 | br2 | code1 if0,0,1 | br3 | br2 | code2 if0,3,4 | code0 if0,2,5 | block6 code4 return0 | block7 code3 return0"},
		// the same, where the first one leads to the second one
		{"i: branch to1 or2 | branch to3 or4 | branch to3 or4 | return | jump to3", "br3 | br2 | code1 if0,0,1 | br3 | br2 | code2 if0,3,4 | code0 if0,2,5 | block6 code4 br0 | block7 code3 return0"},
		// and the second one, by the numbers, to the first one
		{"i: branch to1 or2 | branch to3 or4 | branch to3 or4 | jump to4 | return", "br2 | br3 | code1 if0,0,1 | br2 | br3 | code2 if0,3,4 | code0 if0,2,5 | block6 code3 br0 | block7 code4 return0"},
		// a join of a join
		{"i: branch to1 or2 | jump to2 | branch to3 or4 | jump to4 | return", "code1 br1 | br1 | code0 if0,0,1 | code3 br1 | br1 | code2 if0,3,4 | block2 block5 code4 return0"},
		// a join within an arm
		{"i: branch to1 or2 | branch to3 or4 | return | jump to4 | return", "code3 br1 | br1 | code1 if0,0,1 | block2 code4 return0 | code2 return0 | code0 if0,3,4"},
	})
}

// P11.1: loop headers are those to which back edges lead; such an edge makes no join.
func TestLoops(t *testing.T) {
	hold(t, []row{
		{"i: jump", "code0 br0 | loop0"},
		{"i: branch", "code0 br0 | loop0"},
		{"i: branch or1 | return", "br1 | code1 return0 | code0 if0,0,1 | loop2"},
		{"i: branch to1 | return", "code1 return0 | br1 | code0 if0,0,1 | loop2"},
		{"i: jump to1 | jump to1", "code1 br0 | code0 loop0"},
		{"i: jump to1 | jump", "code0 code1 br0 | loop0"},
		// two back edges to one header
		{"i: branch to1 or2 | jump | jump", "code1 br1 | code2 br1 | code0 if0,0,1 | loop2"},
		{"i: branch to1 or2 | jump to1 | branch to2", "code1 br0 | loop0 | br1 | br3 | code2 if0,2,3 | loop4 | code0 if0,1,5 | loop6"},
		// a while with a body
		{"i: jump to1 | branch to2 or3 | jump to1 | return", "code2 br1 | code3 return0 | code1 if0,0,1 | code0 loop2"},
		// a loop within a loop
		{"i: jump to1 | branch to2 or4 | branch to3 or1 | branch to2 or1 | return", "br2 | br4 | code3 if0,0,1 | br3 | code2 if0,2,3 | loop4 | code4 return0 | code1 if0,5,6 | code0 loop7"},
		// a way out of a loop from two blocks: that is a join of the header, within the loop
		{"i: jump to1 | branch to2 or3 | branch to1 or3 | return", "br3 | br2 | code2 if0,0,1 | br1 | code1 if0,2,3 | block4 code3 return0 | code0 loop5"},
	})
}

// P11.1: headers that are joins, and joins in loops.
func TestLoopsAndJoins(t *testing.T) {
	hold(t, []row{
		// two earlier ends lead to a header
		{"i: branch to1 or2 | jump to2 | branch to2 or3 | return", "code1 br1 | br1 | code0 if0,0,1 | br1 | code3 return0 | code2 if0,3,4 | block2 loop5"},
		// the last block before the end of a loop is a join
		{"i: branch to1 or2 | jump to3 | jump to3 | branch or4 | return", "code1 br1 | code2 br1 | code0 if0,0,1 | br1 | code4 return0 | block2 code3 if0,3,4 | loop5"},
		// two loops are left to one block
		{"i: jump to1 | branch to2 or4 | branch to3 or4 | branch to2 or1 | return", "br2 | br5 | code3 if0,0,1 | br3 | code2 if0,2,3 | loop4 | br1 | code1 if0,5,6 | block7 code4 return0 | code0 loop8"},
		// a header is a join, and has a join
		{"i: branch to1 or2 | jump to2 | branch to3 or4 | jump to4 | branch to2 or5 | return", "code1 br1 | br1 | code0 if0,0,1 | code3 br1 | br1 | code2 if0,3,4 | br1 | code5 return0 | block5 code4 if0,6,7 | block2 loop8"},
	})
}

// P11.1: ErrSplit for functions with a loop with several entries, and for no others.
func TestLoopsWithSeveralEntries(t *testing.T) {
	hold(t, []row{
		{"i: branch to1 or2 | jump to2 | jump to1", ""},
		{"i: branch to1 or2 | jump to2 | branch to3 or1 | return", ""},
		{"i: jump to1 | branch to2 or3 | jump to3 | branch to2 or4 | branch to1 or5 | return", ""},
		// such a loop that is not reachable
		{"i: return | branch to2 or3 | jump to3 | jump to2", "code0 return0"},
	})
}

package dom

import (
	"math"
	"slices"
	"testing"

	"mortise/api"
	"mortise/ir"
	"mortise/sample"
)

// P10.1: the successors of ends of each kind; of ends without a valid kind there are none.
func TestTos(t *testing.T) {
	for _, x := range []struct {
		end  api.End
		want []int
	}{
		{api.End{Kind: api.Jump}, []int{0}},
		{api.End{Kind: api.Jump, To: 3}, []int{3}},
		{api.End{Kind: api.Jump, A: 1, To: 3, Else: 5}, []int{3}},
		{api.End{Kind: api.Branch, To: 1, Else: 2}, []int{1, 2}},
		{api.End{Kind: api.Branch, A: 7, To: 2, Else: 1}, []int{2, 1}},
		{api.End{Kind: api.Branch, To: 4, Else: 4}, []int{4}},
		{api.End{Kind: api.Branch, To: 4}, []int{4, 0}},
		{api.End{Kind: api.Branch, Else: 4}, []int{0, 4}},
		{api.End{Kind: api.Branch}, []int{0}},
		{api.End{Kind: api.Return}, nil},
		{api.End{Kind: api.Return, A: 1, To: 2, Else: 3}, nil},
		{api.End{Kind: api.Return, A: -1}, nil},
		{api.End{To: 2, Else: 3}, nil},
		{api.End{Kind: 4, To: 2, Else: 3}, nil},
		{api.End{Kind: -1, To: 2, Else: 3}, nil},
	} {
		got := Tos(x.end)
		if !slices.Equal(got, x.want) || !slices.Equal(secondTos(x.end), x.want) {
			t.Errorf("%v: %v, want %v", x.end, got, x.want)
		}
		clear(got)
		if again := Tos(x.end); !slices.Equal(again, x.want) {
			t.Errorf("%v: %v, want %v once more", x.end, again, x.want)
		}
	}
}

// row is a function in the form of sample.ShowCode; its order and dominators; and, if it is not reducible, what becomes of it.
type row struct {
	code        string
	order, doms []int
	split       string
}

// hold holds what is answered for functions of valid modules, and what the second reading answers.
func hold(t *testing.T, rows []row) {
	t.Helper()
	for _, x := range rows {
		c := sample.Code(x.code)
		c.Name = "main"
		if no := ir.Check(alone(c)); no != api.OK {
			t.Errorf("%s: error %d", x.code, no)
			continue
		}
		if got, second := Order(c), secondOrder(c); !slices.Equal(got, x.order) || !slices.Equal(second, x.order) {
			t.Errorf("%s: order %v, %v, want %v", x.code, got, second, x.order)
		}
		if got, second := Dom(c), secondDom(c); !slices.Equal(got, x.doms) || !slices.Equal(second, x.doms) {
			t.Errorf("%s: dominators %v, %v, want %v", x.code, got, second, x.doms)
		}
		isReducible := x.split == ""
		if got := Reducible(c); got != isReducible || collapses(c) != isReducible {
			t.Errorf("%s: %v, want %v", x.code, got, isReducible)
		}
		if isReducible {
			x.split = x.code
		}
		holdSplit(t, x.code, x.split)
	}
}

// holdSplit holds what becomes of a function, for each most.
func holdSplit(t *testing.T, code, want string) {
	t.Helper()
	c, needed := sample.Code(code), len(sample.Code(want).Blocks)
	c.Name = "main"
	for _, most := range []int{math.MinInt, -1, 0, 1, len(c.Blocks) - 1, len(c.Blocks), needed - 1, needed, needed + 1, 399, 400, 401, math.MaxInt} {
		got, no := Split(c, most)
		if most < needed && code != want {
			if no != api.ErrSplit || !sample.SameCode(got, api.Code{}) {
				t.Errorf("%s became, with at most %d blocks, %s, error %d", code, most, sample.ShowCode(got), no)
			}
			continue
		}
		if no != api.OK || got.Name != "main" || got.Type != api.Int || sample.ShowCode(got) != want {
			t.Errorf("%s became, with at most %d blocks, %s, error %d, want\n%s", code, most, sample.ShowCode(got), no, want)
		}
	}
	got, _ := secondSplit(c, 400)
	if sample.ShowCode(got) != want {
		t.Errorf("%s, read a second time, became %s, want\n%s", code, sample.ShowCode(got), want)
	}
	holdLaws(t, alone(c), 40)
}

// P10.1 to P10.4: the chapter's example.
func TestExample(t *testing.T) {
	hold(t, []row{{"i: branch to1 or2 | jump to2 | branch to1 or3 | return", []int{0, 1, 2, 3}, []int{0, 0, 0, 2}, "i: branch to1 or2 | jump to2 | branch to4 or3 | return | jump to2"}})
}

// P10.1 to P10.4: functions without loops.
func TestForward(t *testing.T) {
	hold(t, []row{
		{"i: return", []int{0}, []int{0}, ""},
		{"i: jump to1 | return", []int{0, 1}, []int{0, 0}, ""},
		{"i: jump to2 | return | jump to1", []int{0, 2, 1}, []int{0, 2, 0}, ""},
		{"i: branch to1 or1 | return", []int{0, 1}, []int{0, 0}, ""},
		{"i: branch to1 or2 | return | return", []int{0, 2, 1}, []int{0, 0, 0}, ""},
		{"i: branch to2 or1 | return | return", []int{0, 1, 2}, []int{0, 0, 0}, ""},
		{"i: branch to1 or2 | jump to2 | return", []int{0, 1, 2}, []int{0, 0, 0}, ""},
		{"i: branch to2 or1 | jump to2 | return", []int{0, 1, 2}, []int{0, 0, 0}, ""},
		{"i: branch to1 or2 | jump to3 | jump to3 | return", []int{0, 2, 1, 3}, []int{0, 0, 0, 0}, ""},
		{"i: jump to1 | branch to2 or3 | jump to4 | jump to4 | jump to5 | return", []int{0, 1, 3, 2, 4, 5}, []int{0, 0, 1, 1, 1, 4}, ""},
		{"i: branch to1 or2 | branch to3 or4 | jump to4 | return | return", []int{0, 2, 1, 4, 3}, []int{0, 0, 0, 1, 0}, ""},
		{"i: branch to1 or2 | branch to3 or4 | branch to4 or3 | return | return", []int{0, 2, 1, 4, 3}, []int{0, 0, 0, 0, 0}, ""},
		{"i: branch to3 or2 | return | jump to1 | branch to2 or1", []int{0, 3, 2, 1}, []int{0, 0, 0, 0}, ""},
		{"i: branch to1 or4 | branch to2 or3 | jump to4 | jump to4 | jump to5 | return", []int{0, 1, 3, 2, 4, 5}, []int{0, 0, 1, 1, 0, 4}, ""},
	})
}

// P10.1 to P10.3: blocks that are not reachable count for nothing.
func TestUnreachableBlocks(t *testing.T) {
	hold(t, []row{
		{"i: return | return", []int{0}, []int{0, -1}, ""},
		{"i: return | jump | jump to1", []int{0}, []int{0, -1, -1}, ""},
		{"i: jump to2 | jump to2 | return", []int{0, 2}, []int{0, -1, 0}, ""},
		{"i: jump to2 | branch to2 or3 | jump to3 | return", []int{0, 2, 3}, []int{0, -1, 0, 2}, ""},
		{"i: return | branch to2 or3 | jump to3 | jump to2", []int{0}, []int{0, -1, -1, -1}, ""},
		{"i: jump to4 | branch to2 or4 | jump to4 | jump to2 | branch to4 or5 | return", []int{0, 4, 5}, []int{0, -1, -1, -1, 0, 4}, ""},
	})
}

// P10.1 to P10.4: loops with one entry.
func TestLoopsWithOneEntry(t *testing.T) {
	hold(t, []row{
		{"i: jump", []int{0}, []int{0}, ""},
		{"i: branch", []int{0}, []int{0}, ""},
		{"i: branch or1 | return", []int{0, 1}, []int{0, 0}, ""},
		{"i: branch to1 | return", []int{0, 1}, []int{0, 0}, ""},
		{"i: jump to1 | jump to1", []int{0, 1}, []int{0, 0}, ""},
		{"i: jump to1 | jump", []int{0, 1}, []int{0, 0}, ""},
		{"i: branch to1 or1 | branch to1 or1", []int{0, 1}, []int{0, 0}, ""},
		{"i: jump to1 | branch to2 or3 | jump to1 | return", []int{0, 1, 3, 2}, []int{0, 0, 1, 1}, ""},
		{"i: jump to1 | branch to2 or3 | branch to1 or3 | return", []int{0, 1, 2, 3}, []int{0, 0, 1, 1}, ""},
		{"i: jump to1 | branch to2 or4 | branch to3 or1 | branch to2 or1 | return", []int{0, 1, 4, 2, 3}, []int{0, 0, 1, 2, 1}, ""},
		{"i: branch to1 or2 | branch to3 or1 | branch to3 or2 | branch or4 | return", []int{0, 2, 1, 3, 4}, []int{0, 0, 0, 0, 3}, ""},
		{"i: jump to1 | branch to2 or3 | jump to4 | jump to4 | branch to1 or5 | return", []int{0, 1, 3, 2, 4, 5}, []int{0, 0, 1, 1, 1, 4}, ""},
		{"i: branch to1 or2 | jump to3 | jump to4 | jump to1 | jump to2", []int{0, 2, 4, 1, 3}, []int{0, 0, 0, 1, 2}, ""},
		{"i: jump to1 | branch to2 or3 | jump to1 | branch to1 or4 | return", []int{0, 1, 3, 4, 2}, []int{0, 0, 1, 1, 3}, ""},
	})
}

// P10.2 to P10.4: loops with several entries.
func TestLoopsWithSeveralEntries(t *testing.T) {
	hold(t, []row{
		{"i: branch to1 or2 | jump to2 | jump to1", []int{0, 1, 2}, []int{0, 0, 0}, "i: branch to1 or2 | jump to2 | jump to3 | jump to2"},
		{"i: branch to2 or1 | jump to2 | jump to1", []int{0, 2, 1}, []int{0, 0, 0}, "i: branch to2 or1 | jump to3 | jump to1 | jump to1"},
		{"i: branch to1 or2 | jump to2 | branch to3 or1 | return", []int{0, 1, 2, 3}, []int{0, 0, 0, 2}, "i: branch to1 or2 | jump to2 | branch to3 or4 | return | jump to2"},
		{"i: branch to1 or2 | jump to2 | branch to1 or1", []int{0, 1, 2}, []int{0, 0, 0}, "i: branch to1 or2 | jump to2 | branch to3 or3 | jump to2"},
		{"i: branch to1 or2 | branch to2 or3 | branch to1 or3 | return", []int{0, 1, 2, 3}, []int{0, 0, 0, 0}, "i: branch to1 or2 | branch to2 or3 | branch to4 or3 | return | branch to2 or3"},
		{"i: branch to1 or2 | jump to2 | jump to1 or1", []int{0, 1, 2}, []int{0, 0, 0}, "i: branch to1 or2 | jump to2 | jump to3 or3 | jump to2"},
		{"i: branch to1 or2 | jump to2 | jump to1 or2", []int{0, 1, 2}, []int{0, 0, 0}, "i: branch to1 or2 | jump to2 | jump to3 or2 | jump to2"},
		{"i: branch to1 or2 | jump to2 | branch to1 or2", []int{0, 1, 2}, []int{0, 0, 0}, "i: branch to1 or2 | jump to2 | branch to3 or2 | jump to2"},
		{"i: branch to1 or2 | jump to2 | branch to2 or1", []int{0, 1, 2}, []int{0, 0, 0}, "i: branch to1 or2 | jump to2 | branch to2 or3 | jump to2"},
		{"i: jump to1 | branch to2 or3 | jump to3 | branch to2 or4 | branch to1 or5 | return", []int{0, 1, 2, 3, 4, 5}, []int{0, 0, 1, 1, 3, 4}, "i: jump to1 | branch to2 or3 | jump to3 | branch to6 or4 | branch to1 or5 | return | jump to3"},
	})
}

// P10.4: the first such block in the order, and its first such successor, come first, also after a copy; copies are copied, too.
func TestSeveralCopies(t *testing.T) {
	hold(t, []row{
		{"i: branch to1 or3 | jump to2 | jump to3 | branch to2 or1", []int{0, 1, 2, 3}, []int{0, 0, 0, 0}, "i: branch to1 or3 | jump to2 | jump to3 | branch to4 or5 | jump to3 | jump to6 | jump to3"},
		{"i: branch to1 or3 | jump to2 | jump to3 | branch to1 or2", []int{0, 1, 2, 3}, []int{0, 0, 0, 0}, "i: branch to1 or3 | jump to2 | jump to3 | branch to4 or5 | jump to6 | jump to3 | jump to3"},
	})
}

package course

import (
	"slices"
	"testing"

	"mortise/api"
)

// endingOf is how something ends; zero: it goes to its end.
func endingOf(f func()) (e Ending) {
	defer func() {
		if v, ok := recover().(Ending); ok {
			e = v
		}
	}()
	f()
	return e
}

func TestSteps(t *testing.T) {
	for steps, want := range map[int]int{-1 << 63: 0, -1: 0, 0: 0, 1: 1, 7: 7} {
		c, taken := New(nil, steps), 0
		e := endingOf(func() {
			for {
				c.Step()
				taken++
			}
		})
		if taken != want || e != (Ending{Status: api.Going}) {
			t.Errorf("%d steps: %d, %v", steps, taken, e)
		}
	}
}

func TestCalls(t *testing.T) {
	c, open := New(nil, 5), 0
	e := endingOf(func() {
		for range 100 {
			c.Open()
			c.Close()
		}
		for {
			c.Open()
			open++
		}
	})
	if open != 32 || e != (Ending{api.Trapped, api.TrapCalls}) {
		t.Error(open, e)
	}
}

func TestReadAndWrite(t *testing.T) {
	input := []int{5, -6, 7, 8}
	c := New(input[:3], 0)
	for range 5 {
		c.Write(c.Read())
	}
	if !slices.Equal(c.Out, []int{5, -6, 7, 0, 0}) || !slices.Equal(input, []int{5, -6, 7, 8}) {
		t.Error(c.Out, input)
	}
}

func TestBin(t *testing.T) {
	got := 0
	for _, x := range []struct {
		a, b, want int
		e          Ending
	}{
		{7, 2, 3, Ending{}}, {-7, 2, -3, Ending{}}, {7, 0, 0, Ending{api.Trapped, api.TrapZero}}, {-1 << 31, -1, 0, Ending{api.Trapped, api.TrapOver}},
	} {
		got = 0
		if e := endingOf(func() { got = Bin(api.Int, "/", x.a, x.b) }); e != x.e || got != x.want {
			t.Errorf("%d / %d: %d, %v", x.a, x.b, got, e)
		}
	}
}

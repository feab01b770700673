package ir

import (
	"math"
	"slices"
	"testing"

	"mortise/api"
	"mortise/sample"
)

func TestExamples(t *testing.T) {
	seven := alone(ints(1), block(leave(0), set(0, 7)))
	divide := alone(ints(2), block(leave(0), set(0, 1), set(1, 0), bin(api.Int, 0, 0, "/", 1)))
	endless := alone(ints(1), block(leave(0), call(0, 0)))
	for _, x := range []struct {
		m     api.Module
		steps int
		run   api.Run
	}{
		{seven, 1, api.Run{Status: api.Going}},
		{seven, 2, done(7)},
		{divide, 100, trapped(api.TrapZero)},
		{endless, 100, trapped(api.TrapCalls)},
	} {
		if wrong := Check(x.m); wrong != api.OK {
			t.Errorf("%v: %d", x.m, wrong)
		}
		if run := Run(x.m, nil, x.steps); !sample.SameRun(run, x.run) {
			t.Errorf("%v, %d steps: %v, want %v", x.m, x.steps, run, x.run)
		}
	}
}

// P6.1: what each row of the table reads and writes.
func TestReadsAndWrites(t *testing.T) {
	const dst, a, b, n = 1, 2, 3, 4
	args := []int{7, 5, 7, 0}
	for _, x := range []struct {
		op     int
		reads  []int
		writes int
	}{
		{api.IConst, nil, dst},
		{api.ICopy, []int{a}, dst},
		{api.IBin, []int{a, b}, dst},
		{api.IConv, []int{a}, dst},
		{api.ILoad, []int{a}, dst},
		{api.IStore, []int{a, b}, -1},
		{api.IGet, nil, dst},
		{api.ISet, []int{a}, -1},
		{api.ICall, args, dst},
		{api.IIn, nil, dst},
		{api.IOut, []int{a}, -1},
		{0, nil, -1}, {12, nil, -1}, {-1, nil, -1}, {99, nil, -1}, {math.MinInt, nil, -1}, {math.MaxInt, nil, -1},
	} {
		i := api.Instr{Op: x.op, Type: api.Int, Dst: dst, A: a, B: b, N: n, S: "+", Args: args}
		if got := Reads(i); !slices.Equal(got, x.reads) {
			t.Errorf("Op %d reads %v, want %v", x.op, got, x.reads)
		}
		if got := Writes(i); got != x.writes {
			t.Errorf("Op %d writes %d, want %d", x.op, got, x.writes)
		}
	}
}

// P6.1: one register may be read twice, and read and written.
func TestReadsOfOneRegister(t *testing.T) {
	i := bin(api.Int, 3, 3, "+", 3)
	if got := Reads(i); !slices.Equal(got, []int{3, 3}) || Writes(i) != 3 {
		t.Error(got, Writes(i))
	}
	if got := Reads(set(0, 5)); len(got) > 0 || Writes(set(0, 5)) != 0 {
		t.Error(got)
	}
}

// P6.1: a call writes no register if its Dst is below 0, and may read none.
func TestCallWithoutRegisters(t *testing.T) {
	for _, dst := range []int{-1, -2, -1000, math.MinInt} {
		if got := Writes(call(dst, 0, 1)); got != -1 {
			t.Errorf("a call with the Dst %d writes %d", dst, got)
		}
	}
	if got := Writes(call(0, 0)); got != 0 {
		t.Error(got)
	}
	if got := Reads(call(0, 0)); len(got) > 0 {
		t.Error(got)
	}
}

// R3: what a call reads is new memory.
func TestReadsAreNew(t *testing.T) {
	room := []int{4, 5, 6, 77}
	i := call(0, 0, room[:3]...)
	i.Args = room[:3]
	got := Reads(i)
	got[0] = -1
	got = append(got, -2)
	if !slices.Equal(room, []int{4, 5, 6, 77}) {
		t.Error(room, got)
	}
}

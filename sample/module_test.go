package sample

import (
	"reflect"
	"testing"

	"mortise/api"
	"mortise/ir"
)

func TestModulesAreAccepted(t *testing.T) {
	ops := map[int]int{}
	for seed := range 3000 {
		m := Module(seed, seed%5)
		if wrong := ir.Check(m); wrong != api.OK {
			t.Fatalf("seed %d: error %d", seed, wrong)
		}
		for _, f := range m.Funcs {
			for _, b := range f.Blocks {
				for _, i := range b.Code {
					ops[i.Op]++
				}
			}
		}
	}
	for op := api.IConst; op <= api.IOut; op++ {
		if ops[op] < 1000 {
			t.Errorf("there are only %d instructions with the Op %d", ops[op], op)
		}
	}
}

func TestMostRunsOfModulesEnd(t *testing.T) {
	going := 0
	for seed := range 1000 {
		if ir.Run(Module(seed, seed%5), []int{3, -5, 1 << 40, 7}, 10000).Status == api.Going {
			going++
		}
	}
	if going < 5 || going > 100 {
		t.Errorf("%d runs did not end", going)
	}
}

func TestSameSeedSameModule(t *testing.T) {
	for seed := range 100 {
		m := Module(seed, 2)
		if !reflect.DeepEqual(m, Module(seed, 2)) {
			t.Fatal(seed)
		}
		if reflect.DeepEqual(m, Module(seed+100, 2)) {
			t.Error(seed, "is as another one")
		}
	}
}

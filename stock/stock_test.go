package stock

import (
	"testing"

	"mortise/ir"
)

func TestModulesAreAccepted(t *testing.T) {
	made, lowered := 0, 0
	for name, m := range Modules {
		if no := ir.Check(m); no != 0 {
			t.Fatalf("%d: error %d", name, no)
		}
		if name < 0 {
			lowered++
		} else {
			made++
		}
	}
	if made != 1500 || lowered < 150 {
		t.Error(made, lowered)
	}
	for name := range Modules {
		if name > 3 {
			t.Fatal("they go on")
		}
		if name == 3 {
			break
		}
	}
}

package sample

import (
	"testing"

	"mortise/api"
	"mortise/ir"
)

func alone(c api.Code) api.Module { return api.Module{Funcs: []api.Code{c}} }

func TestTanglesAreAccepted(t *testing.T) {
	for _, most := range []int{1, 2, 5, 12, api.MaxBlocks} {
		greatest := 0
		for seed := range 300 {
			c := Tangle(seed, most)
			if no := ir.Check(alone(c)); no != api.OK {
				t.Fatalf("seed %d, %d blocks: error %d", seed, most, no)
			}
			if !SameCode(c, Tangle(seed, most)) {
				t.Fatalf("seed %d, %d blocks: another one", seed, most)
			}
			greatest = max(greatest, len(c.Blocks))
		}
		if greatest > most || greatest < most*9/10 {
			t.Error(greatest, most)
		}
	}
}

// Each one is another one, and there are as many as there can be.
func TestSmall(t *testing.T) {
	for _, x := range []struct {
		count      int
		mayBeEmpty bool
		want       int
	}{{1, false, 3}, {1, true, 6}, {2, false, 7 * 7}, {2, true, 14 * 14}, {3, false, 13 * 13 * 13}} {
		seen := map[string]int{}
		for c := range Small(x.count, x.mayBeEmpty) {
			if no := ir.Check(alone(c)); no != api.OK {
				t.Fatalf("%s: error %d", ShowCode(c), no)
			}
			seen[ShowCode(c)]++
		}
		if len(seen) != x.want {
			t.Errorf("%d blocks: %d, want %d", x.count, len(seen), x.want)
		}
	}
	for range Small(2, true) {
		break
	}
}

func TestSpoiled(t *testing.T) {
	valid := 0
	for name, m := range Spoiled(1000) {
		if ir.Check(m) == api.OK {
			valid++
		}
		if name == 900 {
			break
		}
	}
	if valid < 50 || valid > 600 {
		t.Error(valid)
	}
}

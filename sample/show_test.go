package sample

import "testing"

func TestShow(t *testing.T) {
	for _, text := range []string{
		": return",
		"il: const n1, conv t2 d1, jump to1 | bin t2 d1 a1 b1 |, branch a1 to2 or3 | call d-1 n1 0 -1 5, store a1 b2 n3, return a-1 | set n1, out a1, return",
	} {
		if got := ShowCode(Code(text)); got != text {
			t.Errorf("%s, want %s", got, text)
		}
	}
	for seed := range 300 {
		for _, f := range Module(seed, seed%5).Funcs {
			again := Code(ShowCode(f))
			again.Name, again.Type, again.Params = f.Name, f.Type, f.Params
			if !SameCode(f, again) {
				t.Fatalf("seed %d: %s", seed, ShowCode(f))
			}
		}
	}
}

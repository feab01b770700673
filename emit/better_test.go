package emit

import (
	"testing"

	"mortise/api"
	"mortise/opt"
	"mortise/sample"
	"mortise/stock"
	"mortise/thread"
)

// P14.2: what the settings ask for, and in which order.
func TestBetter(t *testing.T) {
	const all = Fold | Dead | Thread
	for code, rows := range map[string]map[int]string{
		// Fold makes a jump, which is there for Thread only the next time
		"i: const n1, branch to1 or2 | get, return | return": {
			0: "i: const n1, branch to1 or2 | get, return | return", Twice: "i: const n1, branch to1 or2 | get, return | return",
			Thread: "i: const n1, branch to1 or2 | get, return | return", Fold: "i: const n1, jump to1 | get, return | return",
			Thread | Fold: "i: const n1, jump to1 | get, return | return", Thread | Fold | Twice: "i: const n1, get, return",
			all: "i: jump to1 | get, return | return", all | Twice: "i: get, return",
		},
		// Fold leaves what is dead then
		"ii: const n1, copy d1, return a1": {
			Fold: "ii: const n1, const d1 n1, return a1", Dead: "ii: const n1, copy d1, return a1", Fold | Dead: "ii: const d1 n1, return a1",
			Fold | Twice: "ii: const n1, const d1 n1, return a1", all: "ii: const d1 n1, return a1",
		},
		// Dead empties a block, which Thread takes away only the next time
		"iii: branch a1 to1 or2 | const n1, jump to2 | return a1": {
			Thread: "iii: branch a1 to1 or2 | const n1, jump to2 | return a1", Dead: "iii: branch a1 to1 or2 | jump to2 | return a1",
			Thread | Dead: "iii: branch a1 to1 or2 | jump to2 | return a1", Thread | Dead | Twice: "iii: return a1", Dead | Twice: "iii: branch a1 to1 or2 | jump to2 | return a1",
			all: "iii: branch a1 to1 or2 | jump to2 | return a1", all | Twice: "iii: return a1",
		},
		// Thread makes a block of two, within which Fold folds
		"ii: const n1, jump to1 | copy d1, return a1": {
			Thread: "ii: const n1, copy d1, return a1", Fold: "ii: const n1, jump to1 | copy d1, return",
			Thread | Fold: "ii: const n1, const d1 n1, return a1", all: "ii: const d1 n1, return a1", Fold | Dead: "ii: const n1, jump to1 | return",
		},
	} {
		for settings, want := range rows {
			for _, others := range []int{0, 16, 1 << 40, -16, -1 << 63} { // other bits ask for nothing
				got := Better(alone(mainOf(code)), settings|others)
				if len(got.Globals) != 0 || len(got.Funcs) != 1 || sample.ShowCode(got.Funcs[0]) != want {
					t.Errorf("%s with %d: %s, want %s", code, settings|others, sample.ShowModule(got), want)
				}
			}
		}
	}
}

// secondBetter is the second reading of P14.2.
func secondBetter(m api.Module, settings int) api.Module {
	rounds := 1
	if settings>>3&1 == 1 {
		rounds = 2
	}
	for range rounds {
		if settings>>2&1 == 1 {
			m = sample.Changed(m, thread.Thread)
		}
		if settings&1 == 1 {
			m = sample.Changed(m, opt.Fold)
		}
		if settings>>1&1 == 1 {
			m = sample.Changed(m, opt.Dead)
		}
	}
	return m
}

// P14.2: made modules and lowered programs, with all settings.
func TestBetterOfModules(t *testing.T) {
	for name, m := range stock.Modules {
		for settings := range 16 {
			got, want := Better(m, settings), secondBetter(m, settings)
			if !sample.SameModule(got, want) {
				t.Fatalf("%d with %d: %s, want %s", name, settings, sample.ShowModule(got), sample.ShowModule(want))
			}
		}
	}
}

// R3: what becomes of a module is new memory, no two lists of which share any, whatever the settings ask for.
func TestBetterIsApart(t *testing.T) {
	for settings := range 16 {
		for seed := range 60 {
			m := sample.Module(seed, seed%5)
			better := func(c api.Code) api.Code { return Better(alone(c), settings).Funcs[0] }
			for _, c := range m.Funcs {
				if wrong := sample.Apart(better, c); wrong != "" {
					t.Fatalf("seed %d with %d: %s", seed, settings, wrong)
				}
			}
			got, want := Better(m, settings), sample.ShowModule(m)
			clear(got.Globals[:cap(got.Globals)])
			clear(got.Funcs[:cap(got.Funcs)])
			if sample.ShowModule(m) != want {
				t.Fatalf("seed %d with %d: the lists are shared", seed, settings)
			}
		}
	}
}

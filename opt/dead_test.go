package opt

import (
	"testing"

	"mortise/api"
	"mortise/sample"
)

// P8.2: what goes if its Dst is not live, 1 an Int and 3 a Long, and what stays though it isn't.
func TestWhatIsRemoved(t *testing.T) {
	for _, x := range []struct{ code, want string }{
		{"const d1 n5, ", ""},
		{"const d3 n5, ", ""},
		{"copy d1, ", ""},
		{"conv t1 d1, ", ""},
		{"conv t2 d3, ", ""},
		{"conv t3 d1 a2, ", ""},
		{"get d1, ", ""},
		{"get d3 n1, ", ""},
		{"bin t1 d1 +, ", ""}, {"bin t1 d1 -, ", ""}, {"bin t1 d1 *, ", ""}, {"bin t1 d1 &, ", ""}, {"bin t1 d1 |, ", ""}, {"bin t1 d1 ^, ", ""}, {"bin t1 d1 <<, ", ""}, {"bin t2 d3 a2 b2 >>, ", ""},
		{"bin t1 d1 ==, ", ""}, {"bin t1 d1 !=, ", ""}, {"bin t1 d1 <, ", ""}, {"bin t2 d1 a2 b2 <=, ", ""}, {"bin t1 d1 >, ", ""}, {"bin t1 d1 >=, ", ""},
		{"bin t1 d1 /, ", "bin t1 d1 /, "},
		{"bin t1 d1 %, ", "bin t1 d1 %, "},
		{"bin t2 d3 a2 b2 /, ", "bin t2 d3 a2 b2 /, "},
		{"load d1 a2 n3, ", "load d1 a2 n3, "},
		{"store d1 a2 n3, ", "store d1 a2 n3, "},
		{"set d1, ", "set d1, "},
		{"in d3, ", "in d3, "},
		{"out d3 a2, ", "out d3 a2, "},
		{"call d1 0 2, ", "call d-1 0 2, "},
		{"call d3 n2, ", "call d-1 n2, "},
		{"call d-1 0 2, ", "call d-1 0 2, "},
		{"call d-1 n1, ", "call d-1 n1, "},
		{"call d-7 n1, ", "call d-1 n1, "},
		{"const d1 n5, copy d1, get d1, out a2, conv t2 d3, ", "out a2, "},
	} {
		holdDead(t, []row{
			{"iill: " + x.code + "return", "iill: " + x.want + "return"},
			{"iill: " + x.code + "jump to1 | const d1 n6, const d3 n6, branch a1 to2 or2 | out a3, return a1", "iill: " + x.want + "jump to1 | const d1 n6, const d3 n6, branch a1 to2 or2 | out a3, return a1"},
			{"iill: " + x.code + "jump", "iill: " + x.want + "jump"},
		})
	}
}

// P8.2: all of those stay while their Dst is live.
func TestWhatIsLiveStays(t *testing.T) {
	for _, code := range []string{
		"const d1 n5, ", "copy d1, ", "conv t1 d1, ", "get d1, ", "bin t1 d1 +, ", "bin t1 d1 ==, ", "bin t1 d1 /, ", "load d1 a2 n3, ", "call d1 0 2, ",
		"const d3 n5, copy d1, ",
	} {
		for _, behind := range []string{
			"out a3, return a1", "out a3, branch a1 to1 or1 | return", "set a1, out a3, return", "out a3, call d-1 1 3, return", "out a3, copy a1, return", "out a3, bin t1 b1 -, return",
			"jump to1 | out a3, return a1", "branch to1 or2 | return | out a3, return a1", "branch to1 or2 | out a3, return a1 | return", "jump to1 | jump to2 | out a3, return a1", "store a3 b1 n3, return", "load a3 n3, store a2 b1 n3, return",
		} {
			holdDead(t, []row{{"iill: " + code + behind, ""}})
		}
	}
}

// P8.2: each register that an instruction, or an end, reads is live ahead of it.
func TestWhatReadsKeepsAlive(t *testing.T) {
	const ahead = "iill: const d1 n5, const d3 n6, "
	for _, x := range []struct{ code, kept string }{
		{"out a3, return", "const d3 n6, "},
		{"set a1, return", "const d1 n5, "},
		{"set a3 n1, return", "const d3 n6, "},
		{"load a3 n3, return", "const d3 n6, "},
		{"store a3 n3, return", "const d3 n6, "},
		{"store a2 b1 n3, return", "const d1 n5, "},
		{"store a3 b1 n3, return", "const d1 n5, const d3 n6, "},
		{"call d-1 1 2, return", "const d1 n5, "},
		{"call d-1 0 3, return", "const d3 n6, "},
		{"copy a1, return", "const d1 n5, "},
		{"conv t1 a3, return", "const d3 n6, "},
		{"bin t1 a1 +, return", "const d1 n5, "},
		{"bin t1 b1 +, return", "const d1 n5, "},
		{"bin t1 d1 b1 +, return a1", "const d1 n5, "},
		{"return a1", "const d1 n5, "},
		{"branch a1 to1 or2 | return | return", "const d1 n5, "},
		{"return", ""},
		{"in d2, get, return", ""},
	} {
		holdDead(t, []row{{ahead + x.code, "iill: " + x.kept + x.code}})
	}
}

// P8.2: fields that an instruction, or an end, does not use are no reads, no writes, and no ways.
func TestOtherFieldsKeepNothingAlive(t *testing.T) {
	holdDead(t, []row{
		{"ii: const d1 n5, get a1 b1, return", "ii: get a1 b1, return"},
		{"ii: const d1 n5, const a1 b1, return", "ii: const a1 b1, return"},
		{"ii: const d1 n5, copy b1, return", "ii: copy b1, return"},
		{"ii: const d1 n5, set b1, return", "ii: set b1, return"},
		{"ii: const d1 n5, call a1 b1 d-1 n1, return", "ii: call d-1 a1 b1 n1, return"},
		{"ii: const d1 n5, jump a1 to1 or1 | return", "ii: jump a1 to1 or1 | return"},
		{"ii: const d1 n5, jump to1 or2 | return | return a1", "ii: jump to1 or2 | return | return a1"},
		{"ii: const d1 n5, return to1 or1 | return a1", "ii: return to1 or1 | return a1"},
		{"iil: const d1 n5, set d1, store d1 a2 n3, out d1 a2, return a1", ""},
	})
	c := sample.Code("ii: const d1 n5, const n6, return a-1")
	c.Type = api.Void
	if got := sample.ShowCode(Dead(c)); got != "ii: return a-1" {
		t.Error(got)
	}
}

// P8.2: what is written before it is read is not live, on that path.
func TestPaths(t *testing.T) {
	holdDead(t, []row{
		{"ii: const n1, const n2, return", "ii: const n2, return"},
		{"ii: const n1, copy, return", ""},
		{"ii: const n1, bin t1 b1 +, const n3, return", "ii: const n1, const n3, return"},
		{"ii: const d1 n1, branch to1 or2 | const d1 n2, jump to2 | return a1", ""},
		{"ii: const d1 n1, branch to1 or2 | const d1 n2, jump to3 | get d1, jump to3 | return a1", "ii: branch to1 or2 | const d1 n2, jump to3 | get d1, jump to3 | return a1"},
		{"ii: const d1 n1, branch to1 or2 | const d1 n2, return | return a1", "ii: const d1 n1, branch to1 or2 | return | return a1"},
		{"iil: const d1 n1, jump to1 | in d2, jump to2 | set a1, jump to1", "iil: const d1 n1, jump to1 | in d2, jump to2 | set a1, jump to1"},
		{"iil: const d1 n1, jump to1 | set a1, call d1 0 2, jump to1", ""},
		{"iil: const d1 n1, jump to1 | call d1 0 2, set a1, jump to1", "iil: jump to1 | call d1 0 2, set a1, jump to1"},
		{"iil: jump to2 | set a1, jump to2 | const d1 n1, call 0 2, branch to1 or3 | return", ""},
		{"iil: jump to2 | return a1 | const d1 n1, jump to3 | jump to1", ""},
		{"ii: const d1 n7, jump to4 | return a1 | jump to1 | jump to2 | jump to3", ""},
		{"ii: get d1, jump to1 | jump to1", "ii: jump to1 | jump to1"},
		{"ii: get d1, jump to1 | branch to1 or2 | const d1 n2, return a1", "ii: jump to1 | branch to1 or2 | const d1 n2, return a1"},
	})
}

// P8.2: what is live is so in the function as it was: what is removed reads, too, and what only it needs stays.
func TestWhatIsRemovedReads(t *testing.T) {
	holdDead(t, []row{
		{"iii: const n1, copy d1, copy d2 a1, return", "iii: const n1, copy d1, return"},
		{"iii: const d1 n1, copy d2 a1, return", "iii: const d1 n1, return"},
		{"iii: const d1 n1, bin t1 d2 a1 b1 *, return", "iii: const d1 n1, return"},
		{"iii: const d1 n1, jump to1 | copy d2 a1, return", "iii: const d1 n1, jump to1 | return"},
		{"iii: const d1 n1, jump to1 | bin t1 d1 a1 b1 +, jump to1", ""}, // it is live for itself
		{"iil: call d1 0 2, copy d1 a1, return", "iil: call d1 0 2, return"},
	})
}

// P8.2: a block that no path reaches has paths of its own.
func TestBlocksThatAreNotReached(t *testing.T) {
	holdDead(t, []row{
		{"ii: return | const n1, const d1 n2, return a1", "ii: return | const d1 n2, return a1"},
		{"ii: const d1 n1, return | return a1", "ii: return | return a1"},
		{"ii: const d1 n1, jump to2 | jump to2 | return a1", ""},
		{"ii: return | const d1 n1, jump to2 | return a1", ""},
	})
}

// P8.2: all registers of a function that has as many as it may have are told apart.
func TestManyRegisters(t *testing.T) {
	c := api.Code{Type: api.Int, Blocks: []api.Block{{End: api.End{Kind: api.Jump, To: 1}}, {End: api.End{Kind: api.Return, A: 4095}}}}
	for k := range 4096 {
		c.Regs = append(c.Regs, api.Int)
		c.Blocks[0].Code = append(c.Blocks[0].Code, api.Instr{Op: api.IConst, Dst: k, N: k})
		if k%3 == 0 {
			c.Blocks[1].Code = append(c.Blocks[1].Code, api.Instr{Op: api.ISet, A: k})
		}
	}
	got := Dead(c)
	if n := len(got.Blocks[0].Code); n != 1366 || len(got.Blocks[1].Code) != n {
		t.Fatal(n)
	}
	for k, i := range got.Blocks[0].Code {
		if i.Dst != 3*k || i.N != 3*k {
			t.Fatal(k, i)
		}
	}
}

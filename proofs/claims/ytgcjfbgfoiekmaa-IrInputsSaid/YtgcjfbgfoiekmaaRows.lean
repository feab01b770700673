/-
  No cell of these rows narrows 'for every input' (looked for: loops, veiled, ifaces, maps, wideKeys, modest, calm, conditions, laid).
  DERIVED. THE GIVEN ROWS OF THIS SEAT. 3 by the template 'for every input the law returns true; each argument reads behind the call as it read before'; 0 by the template 'total and deterministic' (their statements: YtgcjfbgfoiekmaaTotals.lean).
  GIVEN WITH THE SEED: the statements are not yours to turn. If you find one false, say at which input.
  Laid BY PROGRAM, IN A SANDBOX (cutbox-rows.mjs): the forced cells as the released guide's own fill.sh prints them over the translation e0a01218a61ea4a7… (all of the seat's roots in one cut). By AI agents, Wed Nov 11 2026. No macro, syntax, notation, axiom, sorry.
-/
import Derived.Test.YtgcjfbgfoiekmaaChecked
import GoSem.Claim
import GoSem.ClaimJoined
import GoSem.ClaimMapViews
import Derived.JoinedTies
import Derived.KernelRfl
namespace Go.Proofs.Ytgcjfbgfoiekmaa
/- THE CELL 'sum', in the pinned program and in every row, IS THE sha256 OF THE DUMP (.gsa) THAT YtgcjfbgfoiekmaaProg.lean LOADS. Nothing in Lean hashes anything: it is a label: what it is worth is what the hold of that sum in a sandbox is worth. -/
noncomputable def Try.pinned : Pinned := { name := "ytgcjfbgfoiekmaa", sum := "e0a01218a61ea4a7bf512edd4752c476a2ff988f2e29ac8f1909dc7570ccdf4b", checked := Try.checked }
namespace Rows
def none {H : Type} : Left H := { results := [], args := [] }

/-- 'mortiselaw06.IrMore': WHATEVER THE INPUT: true; the input reads as it did. -/
def irMoreSpec : ChangeSpec := { name := "irMore", fn := fun _ => fun
  | [d] => { results := [.lit (.bool true)], args := [d] }
  | _ => none }
def irMoreRow : OpenClaim := { program := "ytgcjfbgfoiekmaa", sum := "e0a01218a61ea4a7bf512edd4752c476a2ff988f2e29ac8f1909dc7570ccdf4b", func := "mortise/mortiselaw06.IrMore", spec := "irMore", unfollowed := true, recurses := true, plainKeys := false, apart := false }
def IrMoreSaid : Prop := irMoreRow.holds Try.pinned (OpenSpec.ofChange irMoreSpec)

/-- ITS FALSE NEIGHBOUR: 'it returns false'. Refute it at one input. -/
def irMoreWrong : ChangeSpec := { name := "irMore", fn := fun _ => fun
  | [d] => { results := [.lit (.bool false)], args := [d] }
  | _ => none }
def IrMoreWrongFalsely : Prop := irMoreRow.holds Try.pinned (OpenSpec.ofChange irMoreWrong)

/-- 'mortiselaw06.IrInputs': WHATEVER THE INPUT: true; the input reads as it did. -/
def irInputsSpec : ChangeSpec := { name := "irInputs", fn := fun _ => fun
  | [d] => { results := [.lit (.bool true)], args := [d] }
  | _ => none }
def irInputsRow : OpenClaim := { program := "ytgcjfbgfoiekmaa", sum := "e0a01218a61ea4a7bf512edd4752c476a2ff988f2e29ac8f1909dc7570ccdf4b", func := "mortise/mortiselaw06.IrInputs", spec := "irInputs", unfollowed := true, recurses := true, plainKeys := false, apart := false }
def IrInputsSaid : Prop := irInputsRow.holds Try.pinned (OpenSpec.ofChange irInputsSpec)

/-- ITS FALSE NEIGHBOUR: 'it returns false'. Refute it at one input. -/
def irInputsWrong : ChangeSpec := { name := "irInputs", fn := fun _ => fun
  | [d] => { results := [.lit (.bool false)], args := [d] }
  | _ => none }
def IrInputsWrongFalsely : Prop := irInputsRow.holds Try.pinned (OpenSpec.ofChange irInputsWrong)

/-- 'mortiselaw06.IrKnown': WHATEVER THE INPUT: true; the input reads as it did. -/
def irKnownSpec : ChangeSpec := { name := "irKnown", fn := fun _ => fun
  | [] => { results := [.lit (.bool true)], args := [] }
  | _ => none }
def irKnownRow : OpenClaim := { program := "ytgcjfbgfoiekmaa", sum := "e0a01218a61ea4a7bf512edd4752c476a2ff988f2e29ac8f1909dc7570ccdf4b", func := "mortise/mortiselaw06.IrKnown", spec := "irKnown", unfollowed := true, recurses := true, plainKeys := false, apart := false }
def IrKnownSaid : Prop := irKnownRow.holds Try.pinned (OpenSpec.ofChange irKnownSpec)

/-- ITS FALSE NEIGHBOUR: 'it returns false'. Refute it at one input. -/
def irKnownWrong : ChangeSpec := { name := "irKnown", fn := fun _ => fun
  | [] => { results := [.lit (.bool false)], args := [] }
  | _ => none }
def IrKnownWrongFalsely : Prop := irKnownRow.holds Try.pinned (OpenSpec.ofChange irKnownWrong)

/- THE SECOND FORM. 'bulk': how many values and letters a reading holds, each counted each time it is reached (what is shared counts as often as it is met; a slice's spare places count too). A statement '..UptoSaid' is the law's where the arguments, and the package variables that the reading takes, are together of bulk at most 1048576: NARROWER than '..Said'. Prove '..Said' where nothing that the law and all that it calls make is longer than what came in: it says more and counts as full. Else prove '..UptoSaid'. A law counts once. -/
mutual
def uptoBulk {H : Type} : DataW H → Nat
  | .lit (.string bytes) => bytes.length + 1
  | .lit _ => 1
  | .nil => 1
  | .ptr d => uptoBulk d + 1
  | .slice elems spare => uptoBulkAll elems + uptoBulkAll spare + 1
  | .agg parts => uptoBulkAll parts + 1
  | .iface _ d => uptoBulk d + 1
  | .map entries => uptoBulkEntries entries + 1
  | .held _ => 1
def uptoBulkAll {H : Type} : List (DataW H) → Nat
  | [] => 0
  | d :: r => uptoBulk d + uptoBulkAll r
def uptoBulkEntries {H : Type} : List (Lit × DataW H) → Nat
  | [] => 0
  | x :: r => uptoBulkEntry x + uptoBulkEntries r
def uptoBulkEntry {H : Type} : Lit × DataW H → Nat
  | (.string bytes, d) => bytes.length + uptoBulk d + 1
  | (_, d) => uptoBulk d + 1
 end
def uptoSmall : (H : Type) → List (DataW H) → Bool := fun _ ds => decide (uptoBulkAll ds ≤ 1048576)
def OpenSpec.upto (s : _root_.Go.ChangeSpec) : _root_.Go.OpenSpec := { _root_.Go.OpenSpec.ofChange s with cond := some uptoSmall }

/-- 'mortiselaw06.IrMore', WHERE WHAT IT READS IS OF BULK AT MOST 1048576: true; the input reads as it did. -/
def irMoreUptoRow : OpenClaim := { program := "ytgcjfbgfoiekmaa", sum := "e0a01218a61ea4a7bf512edd4752c476a2ff988f2e29ac8f1909dc7570ccdf4b", func := "mortise/mortiselaw06.IrMore", spec := "irMore", unfollowed := true, recurses := true, plainKeys := false, apart := false, narrowed := true }
def IrMoreUptoSaid : Prop := irMoreUptoRow.holds Try.pinned (OpenSpec.upto irMoreSpec)

/-- 'mortiselaw06.IrInputs', WHERE WHAT IT READS IS OF BULK AT MOST 1048576: true; the input reads as it did. -/
def irInputsUptoRow : OpenClaim := { program := "ytgcjfbgfoiekmaa", sum := "e0a01218a61ea4a7bf512edd4752c476a2ff988f2e29ac8f1909dc7570ccdf4b", func := "mortise/mortiselaw06.IrInputs", spec := "irInputs", unfollowed := true, recurses := true, plainKeys := false, apart := false, narrowed := true }
def IrInputsUptoSaid : Prop := irInputsUptoRow.holds Try.pinned (OpenSpec.upto irInputsSpec)

/-- 'mortiselaw06.IrKnown', WHERE WHAT IT READS IS OF BULK AT MOST 1048576: true; the input reads as it did. -/
def irKnownUptoRow : OpenClaim := { program := "ytgcjfbgfoiekmaa", sum := "e0a01218a61ea4a7bf512edd4752c476a2ff988f2e29ac8f1909dc7570ccdf4b", func := "mortise/mortiselaw06.IrKnown", spec := "irKnown", unfollowed := true, recurses := true, plainKeys := false, apart := false, narrowed := true }
def IrKnownUptoSaid : Prop := irKnownUptoRow.holds Try.pinned (OpenSpec.upto irKnownSpec)

end Rows
end Go.Proofs.Ytgcjfbgfoiekmaa

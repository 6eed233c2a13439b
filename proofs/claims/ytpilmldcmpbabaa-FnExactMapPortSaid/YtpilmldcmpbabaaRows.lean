/-
  No cell of these rows narrows 'for every input' (looked for: loops, veiled, ifaces, maps, wideKeys, modest, calm, conditions, laid).
  DERIVED. THE GIVEN ROWS OF THIS SEAT. 4 by the template 'for every input the law returns true; each argument reads behind the call as it read before'; 0 by the template 'total and deterministic' (their statements: YtpilmldcmpbabaaTotals.lean).
  GIVEN WITH THE SEED: the statements are not yours to turn. If you find one false, say at which input.
  Laid BY PROGRAM, IN A SANDBOX (cutbox-rows.mjs): the forced cells as the released guide's own fill.sh prints them over the translation 816d721cabdc8892… (all of the seat's roots in one cut). By AI agents, Wed Nov 11 2026. No macro, syntax, notation, axiom, sorry.
-/
import Derived.Test.YtpilmldcmpbabaaChecked
import GoSem.Claim
import GoSem.ClaimJoined
import GoSem.ClaimMapViews
import Derived.JoinedTies
import Derived.KernelRfl
namespace Go.Proofs.Ytpilmldcmpbabaa
/- THE CELL 'sum', in the pinned program and in every row, IS THE sha256 OF THE DUMP (.gsa) THAT YtpilmldcmpbabaaProg.lean LOADS. Nothing in Lean hashes anything: it is a label: what it is worth is what the hold of that sum in a sandbox is worth. -/
noncomputable def Try.pinned : Pinned := { name := "ytpilmldcmpbabaa", sum := "816d721cabdc88921a9c427a2b02af736afe31fac06e89cf63ee870f73dfab1e", checked := Try.checked }
namespace Rows
def none {H : Type} : Left H := { results := [], args := [] }

/-- 'laws.FnExactMapOk': WHATEVER THE INPUT: true; the input reads as it did. -/
def fnExactMapOkSpec : ChangeSpec := { name := "fnExactMapOk", fn := fun _ => fun
  | [d] => { results := [.lit (.bool true)], args := [d] }
  | _ => none }
def fnExactMapOkRow : OpenClaim := { program := "ytpilmldcmpbabaa", sum := "816d721cabdc88921a9c427a2b02af736afe31fac06e89cf63ee870f73dfab1e", func := "loop.example/hatchway/laws.FnExactMapOk", spec := "fnExactMapOk", plainKeys := false, apart := false }
def FnExactMapOkSaid : Prop := fnExactMapOkRow.holds Try.pinned (OpenSpec.ofChange fnExactMapOkSpec)

/-- ITS FALSE NEIGHBOUR: 'it returns false'. Refute it at one input. -/
def fnExactMapOkWrong : ChangeSpec := { name := "fnExactMapOk", fn := fun _ => fun
  | [d] => { results := [.lit (.bool false)], args := [d] }
  | _ => none }
def FnExactMapOkWrongFalsely : Prop := fnExactMapOkRow.holds Try.pinned (OpenSpec.ofChange fnExactMapOkWrong)

/-- 'laws.FnExactMapPort': WHATEVER THE INPUT: true; the input reads as it did. -/
def fnExactMapPortSpec : ChangeSpec := { name := "fnExactMapPort", fn := fun _ => fun
  | [d1, d2] => { results := [.lit (.bool true)], args := [d1, d2] }
  | _ => none }
def fnExactMapPortRow : OpenClaim := { program := "ytpilmldcmpbabaa", sum := "816d721cabdc88921a9c427a2b02af736afe31fac06e89cf63ee870f73dfab1e", func := "loop.example/hatchway/laws.FnExactMapPort", spec := "fnExactMapPort", plainKeys := false, apart := false }
def FnExactMapPortSaid : Prop := fnExactMapPortRow.holds Try.pinned (OpenSpec.ofChange fnExactMapPortSpec)

/-- ITS FALSE NEIGHBOUR: 'it returns false'. Refute it at one input. -/
def fnExactMapPortWrong : ChangeSpec := { name := "fnExactMapPort", fn := fun _ => fun
  | [d1, d2] => { results := [.lit (.bool false)], args := [d1, d2] }
  | _ => none }
def FnExactMapPortWrongFalsely : Prop := fnExactMapPortRow.holds Try.pinned (OpenSpec.ofChange fnExactMapPortWrong)

/-- 'laws.FnExactMapEnd': WHATEVER THE INPUT: true; the input reads as it did. -/
def fnExactMapEndSpec : ChangeSpec := { name := "fnExactMapEnd", fn := fun _ => fun
  | [d1, d2] => { results := [.lit (.bool true)], args := [d1, d2] }
  | _ => none }
def fnExactMapEndRow : OpenClaim := { program := "ytpilmldcmpbabaa", sum := "816d721cabdc88921a9c427a2b02af736afe31fac06e89cf63ee870f73dfab1e", func := "loop.example/hatchway/laws.FnExactMapEnd", spec := "fnExactMapEnd", plainKeys := false, apart := false }
def FnExactMapEndSaid : Prop := fnExactMapEndRow.holds Try.pinned (OpenSpec.ofChange fnExactMapEndSpec)

/-- ITS FALSE NEIGHBOUR: 'it returns false'. Refute it at one input. -/
def fnExactMapEndWrong : ChangeSpec := { name := "fnExactMapEnd", fn := fun _ => fun
  | [d1, d2] => { results := [.lit (.bool false)], args := [d1, d2] }
  | _ => none }
def FnExactMapEndWrongFalsely : Prop := fnExactMapEndRow.holds Try.pinned (OpenSpec.ofChange fnExactMapEndWrong)

/-- 'laws.FnExactMapPut': WHATEVER THE INPUT: true; the input reads as it did. -/
def fnExactMapPutSpec : ChangeSpec := { name := "fnExactMapPut", fn := fun _ => fun
  | [d1, d2] => { results := [.lit (.bool true)], args := [d1, d2] }
  | _ => none }
def fnExactMapPutRow : OpenClaim := { program := "ytpilmldcmpbabaa", sum := "816d721cabdc88921a9c427a2b02af736afe31fac06e89cf63ee870f73dfab1e", func := "loop.example/hatchway/laws.FnExactMapPut", spec := "fnExactMapPut", plainKeys := false, apart := false }
def FnExactMapPutSaid : Prop := fnExactMapPutRow.holds Try.pinned (OpenSpec.ofChange fnExactMapPutSpec)

/-- ITS FALSE NEIGHBOUR: 'it returns false'. Refute it at one input. -/
def fnExactMapPutWrong : ChangeSpec := { name := "fnExactMapPut", fn := fun _ => fun
  | [d1, d2] => { results := [.lit (.bool false)], args := [d1, d2] }
  | _ => none }
def FnExactMapPutWrongFalsely : Prop := fnExactMapPutRow.holds Try.pinned (OpenSpec.ofChange fnExactMapPutWrong)

/- THE SECOND FORM. 'bulk': how many values and letters a reading holds, each counted each time it is reached (what is shared counts as often as it is met; a slice's spare places count too). A statement '..UptoSaid' is the law's where the arguments, and the package variables that the reading takes, are together of bulk at most 1048576: NARROWER than '..Said'. Prove '..Said' where nothing that the law and all that it calls make is longer than what came in: it says more and counts as full. Else prove '..UptoSaid'. A law counts once. -/
mutual
def uptoBulk {H : Type} : DataW H → Nat
  | .lit (.string bytes) => bytes.length + 1
  | .lit _ => 1
  | .nil => 1
  | .ptr d => uptoBulk d + 1
  | .slice elems spare => uptoBulkAll elems + uptoBulkAll spare + 1
  | .agg parts => uptoBulkAll parts + 1
  | .iface _ d => uptoBulk d + 1
  | .map entries => uptoBulkEntries entries + 1
  | .held _ => 1
def uptoBulkAll {H : Type} : List (DataW H) → Nat
  | [] => 0
  | d :: r => uptoBulk d + uptoBulkAll r
def uptoBulkEntries {H : Type} : List (Lit × DataW H) → Nat
  | [] => 0
  | x :: r => uptoBulkEntry x + uptoBulkEntries r
def uptoBulkEntry {H : Type} : Lit × DataW H → Nat
  | (.string bytes, d) => bytes.length + uptoBulk d + 1
  | (_, d) => uptoBulk d + 1
 end
def uptoSmall : (H : Type) → List (DataW H) → Bool := fun _ ds => decide (uptoBulkAll ds ≤ 1048576)
def OpenSpec.upto (s : _root_.Go.ChangeSpec) : _root_.Go.OpenSpec := { _root_.Go.OpenSpec.ofChange s with cond := some uptoSmall }

/-- 'laws.FnExactMapOk', WHERE WHAT IT READS IS OF BULK AT MOST 1048576: true; the input reads as it did. -/
def fnExactMapOkUptoRow : OpenClaim := { program := "ytpilmldcmpbabaa", sum := "816d721cabdc88921a9c427a2b02af736afe31fac06e89cf63ee870f73dfab1e", func := "loop.example/hatchway/laws.FnExactMapOk", spec := "fnExactMapOk", plainKeys := false, apart := false, narrowed := true }
def FnExactMapOkUptoSaid : Prop := fnExactMapOkUptoRow.holds Try.pinned (OpenSpec.upto fnExactMapOkSpec)

/-- 'laws.FnExactMapPort', WHERE WHAT IT READS IS OF BULK AT MOST 1048576: true; the input reads as it did. -/
def fnExactMapPortUptoRow : OpenClaim := { program := "ytpilmldcmpbabaa", sum := "816d721cabdc88921a9c427a2b02af736afe31fac06e89cf63ee870f73dfab1e", func := "loop.example/hatchway/laws.FnExactMapPort", spec := "fnExactMapPort", plainKeys := false, apart := false, narrowed := true }
def FnExactMapPortUptoSaid : Prop := fnExactMapPortUptoRow.holds Try.pinned (OpenSpec.upto fnExactMapPortSpec)

/-- 'laws.FnExactMapEnd', WHERE WHAT IT READS IS OF BULK AT MOST 1048576: true; the input reads as it did. -/
def fnExactMapEndUptoRow : OpenClaim := { program := "ytpilmldcmpbabaa", sum := "816d721cabdc88921a9c427a2b02af736afe31fac06e89cf63ee870f73dfab1e", func := "loop.example/hatchway/laws.FnExactMapEnd", spec := "fnExactMapEnd", plainKeys := false, apart := false, narrowed := true }
def FnExactMapEndUptoSaid : Prop := fnExactMapEndUptoRow.holds Try.pinned (OpenSpec.upto fnExactMapEndSpec)

/-- 'laws.FnExactMapPut', WHERE WHAT IT READS IS OF BULK AT MOST 1048576: true; the input reads as it did. -/
def fnExactMapPutUptoRow : OpenClaim := { program := "ytpilmldcmpbabaa", sum := "816d721cabdc88921a9c427a2b02af736afe31fac06e89cf63ee870f73dfab1e", func := "loop.example/hatchway/laws.FnExactMapPut", spec := "fnExactMapPut", plainKeys := false, apart := false, narrowed := true }
def FnExactMapPutUptoSaid : Prop := fnExactMapPutUptoRow.holds Try.pinned (OpenSpec.upto fnExactMapPutSpec)

end Rows
end Go.Proofs.Ytpilmldcmpbabaa

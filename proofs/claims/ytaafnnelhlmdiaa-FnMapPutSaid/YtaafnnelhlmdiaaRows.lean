/-
  No cell of these rows narrows 'for every input' (looked for: loops, veiled, ifaces, maps, wideKeys, modest, calm, conditions, laid).
  DERIVED. THE GIVEN ROWS OF THIS SEAT. 4 by the template 'for every input the law returns true; each argument reads behind the call as it read before'; 0 by the template 'total and deterministic' (their statements: YtaafnnelhlmdiaaTotals.lean).
  GIVEN WITH THE SEED: the statements are not yours to turn. If you find one false, say at which input.
  Laid BY PROGRAM, IN A SANDBOX (cutbox-rows.mjs): the forced cells as the released guide's own fill.sh prints them over the translation c7e2737c0f5d3462… (all of the seat's roots in one cut). By AI agents, Wed Nov 11 2026. No macro, syntax, notation, axiom, sorry.
-/
import Derived.Test.YtaafnnelhlmdiaaChecked
import GoSem.Claim
import GoSem.ClaimJoined
import GoSem.ClaimMapViews
import Derived.JoinedTies
import Derived.KernelRfl
namespace Go.Proofs.Ytaafnnelhlmdiaa
/- THE CELL 'sum', in the pinned program and in every row, IS THE sha256 OF THE DUMP (.gsa) THAT YtaafnnelhlmdiaaProg.lean LOADS. Nothing in Lean hashes anything: it is a label: what it is worth is what the hold of that sum in a sandbox is worth. -/
noncomputable def Try.pinned : Pinned := { name := "ytaafnnelhlmdiaa", sum := "c7e2737c0f5d34626667c5dbd025a258bc7b5dde3da298730ffb5968ddcd6cf3", checked := Try.checked }
namespace Rows
def none {H : Type} : Left H := { results := [], args := [] }

/-- 'laws.FnMapPut': WHATEVER THE INPUT: true; the input reads as it did. -/
def fnMapPutSpec : ChangeSpec := { name := "fnMapPut", fn := fun _ => fun
  | [d] => { results := [.lit (.bool true)], args := [d] }
  | _ => none }
def fnMapPutRow : OpenClaim := { program := "ytaafnnelhlmdiaa", sum := "c7e2737c0f5d34626667c5dbd025a258bc7b5dde3da298730ffb5968ddcd6cf3", func := "loop.example/hatchway/laws.FnMapPut", spec := "fnMapPut", plainKeys := false, apart := false }
def FnMapPutSaid : Prop := fnMapPutRow.holds Try.pinned (OpenSpec.ofChange fnMapPutSpec)

/-- ITS FALSE NEIGHBOUR: 'it returns false'. Refute it at one input. -/
def fnMapPutWrong : ChangeSpec := { name := "fnMapPut", fn := fun _ => fun
  | [d] => { results := [.lit (.bool false)], args := [d] }
  | _ => none }
def FnMapPutWrongFalsely : Prop := fnMapPutRow.holds Try.pinned (OpenSpec.ofChange fnMapPutWrong)

/-- 'laws.FnMapEnd': WHATEVER THE INPUT: true; the input reads as it did. -/
def fnMapEndSpec : ChangeSpec := { name := "fnMapEnd", fn := fun _ => fun
  | [d1, d2] => { results := [.lit (.bool true)], args := [d1, d2] }
  | _ => none }
def fnMapEndRow : OpenClaim := { program := "ytaafnnelhlmdiaa", sum := "c7e2737c0f5d34626667c5dbd025a258bc7b5dde3da298730ffb5968ddcd6cf3", func := "loop.example/hatchway/laws.FnMapEnd", spec := "fnMapEnd", plainKeys := false, apart := false }
def FnMapEndSaid : Prop := fnMapEndRow.holds Try.pinned (OpenSpec.ofChange fnMapEndSpec)

/-- ITS FALSE NEIGHBOUR: 'it returns false'. Refute it at one input. -/
def fnMapEndWrong : ChangeSpec := { name := "fnMapEnd", fn := fun _ => fun
  | [d1, d2] => { results := [.lit (.bool false)], args := [d1, d2] }
  | _ => none }
def FnMapEndWrongFalsely : Prop := fnMapEndRow.holds Try.pinned (OpenSpec.ofChange fnMapEndWrong)

/-- 'laws.FnMapOk': WHATEVER THE INPUT: true; the input reads as it did. -/
def fnMapOkSpec : ChangeSpec := { name := "fnMapOk", fn := fun _ => fun
  | [d] => { results := [.lit (.bool true)], args := [d] }
  | _ => none }
def fnMapOkRow : OpenClaim := { program := "ytaafnnelhlmdiaa", sum := "c7e2737c0f5d34626667c5dbd025a258bc7b5dde3da298730ffb5968ddcd6cf3", func := "loop.example/hatchway/laws.FnMapOk", spec := "fnMapOk", plainKeys := false, apart := false }
def FnMapOkSaid : Prop := fnMapOkRow.holds Try.pinned (OpenSpec.ofChange fnMapOkSpec)

/-- ITS FALSE NEIGHBOUR: 'it returns false'. Refute it at one input. -/
def fnMapOkWrong : ChangeSpec := { name := "fnMapOk", fn := fun _ => fun
  | [d] => { results := [.lit (.bool false)], args := [d] }
  | _ => none }
def FnMapOkWrongFalsely : Prop := fnMapOkRow.holds Try.pinned (OpenSpec.ofChange fnMapOkWrong)

/-- 'laws.FnMapMany': WHATEVER THE INPUT: true; the input reads as it did. -/
def fnMapManySpec : ChangeSpec := { name := "fnMapMany", fn := fun _ => fun
  | [d1, d2] => { results := [.lit (.bool true)], args := [d1, d2] }
  | _ => none }
def fnMapManyRow : OpenClaim := { program := "ytaafnnelhlmdiaa", sum := "c7e2737c0f5d34626667c5dbd025a258bc7b5dde3da298730ffb5968ddcd6cf3", func := "loop.example/hatchway/laws.FnMapMany", spec := "fnMapMany", plainKeys := false, apart := false }
def FnMapManySaid : Prop := fnMapManyRow.holds Try.pinned (OpenSpec.ofChange fnMapManySpec)

/-- ITS FALSE NEIGHBOUR: 'it returns false'. Refute it at one input. -/
def fnMapManyWrong : ChangeSpec := { name := "fnMapMany", fn := fun _ => fun
  | [d1, d2] => { results := [.lit (.bool false)], args := [d1, d2] }
  | _ => none }
def FnMapManyWrongFalsely : Prop := fnMapManyRow.holds Try.pinned (OpenSpec.ofChange fnMapManyWrong)

/- THE SECOND FORM. 'bulk': how many values and letters a reading holds, each counted each time it is reached (what is shared counts as often as it is met; a slice's spare places count too). A statement '..UptoSaid' is the law's where the arguments, and the package variables that the reading takes, are together of bulk at most 1048576: NARROWER than '..Said'. Prove '..Said' where nothing that the law and all that it calls make is longer than what came in: it says more and counts as full. Else prove '..UptoSaid'. A law counts once. -/
mutual
def uptoBulk {H : Type} : DataW H → Nat
  | .lit (.string bytes) => bytes.length + 1
  | .lit _ => 1
  | .nil => 1
  | .ptr d => uptoBulk d + 1
  | .slice elems spare => uptoBulkAll elems + uptoBulkAll spare + 1
  | .agg parts => uptoBulkAll parts + 1
  | .iface _ d => uptoBulk d + 1
  | .map entries => uptoBulkEntries entries + 1
  | .held _ => 1
def uptoBulkAll {H : Type} : List (DataW H) → Nat
  | [] => 0
  | d :: r => uptoBulk d + uptoBulkAll r
def uptoBulkEntries {H : Type} : List (Lit × DataW H) → Nat
  | [] => 0
  | x :: r => uptoBulkEntry x + uptoBulkEntries r
def uptoBulkEntry {H : Type} : Lit × DataW H → Nat
  | (.string bytes, d) => bytes.length + uptoBulk d + 1
  | (_, d) => uptoBulk d + 1
 end
def uptoSmall : (H : Type) → List (DataW H) → Bool := fun _ ds => decide (uptoBulkAll ds ≤ 1048576)
def OpenSpec.upto (s : _root_.Go.ChangeSpec) : _root_.Go.OpenSpec := { _root_.Go.OpenSpec.ofChange s with cond := some uptoSmall }

/-- 'laws.FnMapPut', WHERE WHAT IT READS IS OF BULK AT MOST 1048576: true; the input reads as it did. -/
def fnMapPutUptoRow : OpenClaim := { program := "ytaafnnelhlmdiaa", sum := "c7e2737c0f5d34626667c5dbd025a258bc7b5dde3da298730ffb5968ddcd6cf3", func := "loop.example/hatchway/laws.FnMapPut", spec := "fnMapPut", plainKeys := false, apart := false, narrowed := true }
def FnMapPutUptoSaid : Prop := fnMapPutUptoRow.holds Try.pinned (OpenSpec.upto fnMapPutSpec)

/-- 'laws.FnMapEnd', WHERE WHAT IT READS IS OF BULK AT MOST 1048576: true; the input reads as it did. -/
def fnMapEndUptoRow : OpenClaim := { program := "ytaafnnelhlmdiaa", sum := "c7e2737c0f5d34626667c5dbd025a258bc7b5dde3da298730ffb5968ddcd6cf3", func := "loop.example/hatchway/laws.FnMapEnd", spec := "fnMapEnd", plainKeys := false, apart := false, narrowed := true }
def FnMapEndUptoSaid : Prop := fnMapEndUptoRow.holds Try.pinned (OpenSpec.upto fnMapEndSpec)

/-- 'laws.FnMapOk', WHERE WHAT IT READS IS OF BULK AT MOST 1048576: true; the input reads as it did. -/
def fnMapOkUptoRow : OpenClaim := { program := "ytaafnnelhlmdiaa", sum := "c7e2737c0f5d34626667c5dbd025a258bc7b5dde3da298730ffb5968ddcd6cf3", func := "loop.example/hatchway/laws.FnMapOk", spec := "fnMapOk", plainKeys := false, apart := false, narrowed := true }
def FnMapOkUptoSaid : Prop := fnMapOkUptoRow.holds Try.pinned (OpenSpec.upto fnMapOkSpec)

/-- 'laws.FnMapMany', WHERE WHAT IT READS IS OF BULK AT MOST 1048576: true; the input reads as it did. -/
def fnMapManyUptoRow : OpenClaim := { program := "ytaafnnelhlmdiaa", sum := "c7e2737c0f5d34626667c5dbd025a258bc7b5dde3da298730ffb5968ddcd6cf3", func := "loop.example/hatchway/laws.FnMapMany", spec := "fnMapMany", plainKeys := false, apart := false, narrowed := true }
def FnMapManyUptoSaid : Prop := fnMapManyUptoRow.holds Try.pinned (OpenSpec.upto fnMapManySpec)

end Rows
end Go.Proofs.Ytaafnnelhlmdiaa

/-
  No cell of these rows narrows 'for every input' (looked for: loops, veiled, ifaces, maps, wideKeys, modest, calm, conditions, laid).
  DERIVED. THE GIVEN ROWS OF THIS SEAT. 5 by the template 'for every input the law returns true; each argument reads behind the call as it read before'; 0 by the template 'total and deterministic' (their statements: YtniffpanegeekaaTotals.lean).
  GIVEN WITH THE SEED: the statements are not yours to turn. If you find one false, say at which input.
  Laid BY PROGRAM, IN A SANDBOX (cutbox-rows.mjs): the forced cells as the released guide's own fill.sh prints them over the translation 915780bf427f7f29… (all of the seat's roots in one cut). By AI agents, Wed Nov 11 2026. No macro, syntax, notation, axiom, sorry.
-/
import Derived.Test.YtniffpanegeekaaChecked
import GoSem.Claim
import GoSem.ClaimJoined
import GoSem.ClaimMapViews
import Derived.JoinedTies
import Derived.KernelRfl
namespace Go.Proofs.Ytniffpanegeekaa
/- THE CELL 'sum', in the pinned program and in every row, IS THE sha256 OF THE DUMP (.gsa) THAT YtniffpanegeekaaProg.lean LOADS. Nothing in Lean hashes anything: it is a label: what it is worth is what the hold of that sum in a sandbox is worth. -/
noncomputable def Try.pinned : Pinned := { name := "ytniffpanegeekaa", sum := "915780bf427f7f29298fcaa396b8a36780862d9dae47d0cf9daa94b10c3be1b4", checked := Try.checked }
namespace Rows
def none {H : Type} : Left H := { results := [], args := [] }

/-- 'laws.FnRulMay': WHATEVER THE INPUT: true; the input reads as it did. -/
def fnRulMaySpec : ChangeSpec := { name := "fnRulMay", fn := fun _ => fun
  | [d] => { results := [.lit (.bool true)], args := [d] }
  | _ => none }
def fnRulMayRow : OpenClaim := { program := "ytniffpanegeekaa", sum := "915780bf427f7f29298fcaa396b8a36780862d9dae47d0cf9daa94b10c3be1b4", func := "loop.example/hatchway/laws.FnRulMay", spec := "fnRulMay", unfollowed := true, recurses := true, apart := false }
def FnRulMaySaid : Prop := fnRulMayRow.holds Try.pinned (OpenSpec.ofChange fnRulMaySpec)

/-- ITS FALSE NEIGHBOUR: 'it returns false'. Refute it at one input. -/
def fnRulMayWrong : ChangeSpec := { name := "fnRulMay", fn := fun _ => fun
  | [d] => { results := [.lit (.bool false)], args := [d] }
  | _ => none }
def FnRulMayWrongFalsely : Prop := fnRulMayRow.holds Try.pinned (OpenSpec.ofChange fnRulMayWrong)

/-- 'laws.FnRulLess': WHATEVER THE INPUT: true; the input reads as it did. -/
def fnRulLessSpec : ChangeSpec := { name := "fnRulLess", fn := fun _ => fun
  | [d] => { results := [.lit (.bool true)], args := [d] }
  | _ => none }
def fnRulLessRow : OpenClaim := { program := "ytniffpanegeekaa", sum := "915780bf427f7f29298fcaa396b8a36780862d9dae47d0cf9daa94b10c3be1b4", func := "loop.example/hatchway/laws.FnRulLess", spec := "fnRulLess", unfollowed := true, recurses := true, apart := false }
def FnRulLessSaid : Prop := fnRulLessRow.holds Try.pinned (OpenSpec.ofChange fnRulLessSpec)

/-- ITS FALSE NEIGHBOUR: 'it returns false'. Refute it at one input. -/
def fnRulLessWrong : ChangeSpec := { name := "fnRulLess", fn := fun _ => fun
  | [d] => { results := [.lit (.bool false)], args := [d] }
  | _ => none }
def FnRulLessWrongFalsely : Prop := fnRulLessRow.holds Try.pinned (OpenSpec.ofChange fnRulLessWrong)

/-- 'laws.FnRulOk': WHATEVER THE INPUT: true; the input reads as it did. -/
def fnRulOkSpec : ChangeSpec := { name := "fnRulOk", fn := fun _ => fun
  | [d] => { results := [.lit (.bool true)], args := [d] }
  | _ => none }
def fnRulOkRow : OpenClaim := { program := "ytniffpanegeekaa", sum := "915780bf427f7f29298fcaa396b8a36780862d9dae47d0cf9daa94b10c3be1b4", func := "loop.example/hatchway/laws.FnRulOk", spec := "fnRulOk", unfollowed := true, recurses := true, apart := false }
def FnRulOkSaid : Prop := fnRulOkRow.holds Try.pinned (OpenSpec.ofChange fnRulOkSpec)

/-- ITS FALSE NEIGHBOUR: 'it returns false'. Refute it at one input. -/
def fnRulOkWrong : ChangeSpec := { name := "fnRulOk", fn := fun _ => fun
  | [d] => { results := [.lit (.bool false)], args := [d] }
  | _ => none }
def FnRulOkWrongFalsely : Prop := fnRulOkRow.holds Try.pinned (OpenSpec.ofChange fnRulOkWrong)

/-- 'laws.FnExactRulOk': WHATEVER THE INPUT: true; the input reads as it did. -/
def fnExactRulOkSpec : ChangeSpec := { name := "fnExactRulOk", fn := fun _ => fun
  | [d] => { results := [.lit (.bool true)], args := [d] }
  | _ => none }
def fnExactRulOkRow : OpenClaim := { program := "ytniffpanegeekaa", sum := "915780bf427f7f29298fcaa396b8a36780862d9dae47d0cf9daa94b10c3be1b4", func := "loop.example/hatchway/laws.FnExactRulOk", spec := "fnExactRulOk", apart := false }
def FnExactRulOkSaid : Prop := fnExactRulOkRow.holds Try.pinned (OpenSpec.ofChange fnExactRulOkSpec)

/-- ITS FALSE NEIGHBOUR: 'it returns false'. Refute it at one input. -/
def fnExactRulOkWrong : ChangeSpec := { name := "fnExactRulOk", fn := fun _ => fun
  | [d] => { results := [.lit (.bool false)], args := [d] }
  | _ => none }
def FnExactRulOkWrongFalsely : Prop := fnExactRulOkRow.holds Try.pinned (OpenSpec.ofChange fnExactRulOkWrong)

/-- 'laws.FnExactRulMay': WHATEVER THE INPUT: true; the input reads as it did. -/
def fnExactRulMaySpec : ChangeSpec := { name := "fnExactRulMay", fn := fun _ => fun
  | [d1, d2, d3] => { results := [.lit (.bool true)], args := [d1, d2, d3] }
  | _ => none }
def fnExactRulMayRow : OpenClaim := { program := "ytniffpanegeekaa", sum := "915780bf427f7f29298fcaa396b8a36780862d9dae47d0cf9daa94b10c3be1b4", func := "loop.example/hatchway/laws.FnExactRulMay", spec := "fnExactRulMay", unfollowed := true, recurses := true, apart := false }
def FnExactRulMaySaid : Prop := fnExactRulMayRow.holds Try.pinned (OpenSpec.ofChange fnExactRulMaySpec)

/-- ITS FALSE NEIGHBOUR: 'it returns false'. Refute it at one input. -/
def fnExactRulMayWrong : ChangeSpec := { name := "fnExactRulMay", fn := fun _ => fun
  | [d1, d2, d3] => { results := [.lit (.bool false)], args := [d1, d2, d3] }
  | _ => none }
def FnExactRulMayWrongFalsely : Prop := fnExactRulMayRow.holds Try.pinned (OpenSpec.ofChange fnExactRulMayWrong)

/- THE SECOND FORM. 'bulk': how many values and letters a reading holds, each counted each time it is reached (what is shared counts as often as it is met; a slice's spare places count too). A statement '..UptoSaid' is the law's where the arguments, and the package variables that the reading takes, are together of bulk at most 1048576: NARROWER than '..Said'. Prove '..Said' where nothing that the law and all that it calls make is longer than what came in: it says more and counts as full. Else prove '..UptoSaid'. A law counts once. -/
mutual
def uptoBulk {H : Type} : DataW H → Nat
  | .lit (.string bytes) => bytes.length + 1
  | .lit _ => 1
  | .nil => 1
  | .ptr d => uptoBulk d + 1
  | .slice elems spare => uptoBulkAll elems + uptoBulkAll spare + 1
  | .agg parts => uptoBulkAll parts + 1
  | .iface _ d => uptoBulk d + 1
  | .map entries => uptoBulkEntries entries + 1
  | .held _ => 1
def uptoBulkAll {H : Type} : List (DataW H) → Nat
  | [] => 0
  | d :: r => uptoBulk d + uptoBulkAll r
def uptoBulkEntries {H : Type} : List (Lit × DataW H) → Nat
  | [] => 0
  | x :: r => uptoBulkEntry x + uptoBulkEntries r
def uptoBulkEntry {H : Type} : Lit × DataW H → Nat
  | (.string bytes, d) => bytes.length + uptoBulk d + 1
  | (_, d) => uptoBulk d + 1
 end
def uptoSmall : (H : Type) → List (DataW H) → Bool := fun _ ds => decide (uptoBulkAll ds ≤ 1048576)
def OpenSpec.upto (s : _root_.Go.ChangeSpec) : _root_.Go.OpenSpec := { _root_.Go.OpenSpec.ofChange s with cond := some uptoSmall }

/-- 'laws.FnRulMay', WHERE WHAT IT READS IS OF BULK AT MOST 1048576: true; the input reads as it did. -/
def fnRulMayUptoRow : OpenClaim := { program := "ytniffpanegeekaa", sum := "915780bf427f7f29298fcaa396b8a36780862d9dae47d0cf9daa94b10c3be1b4", func := "loop.example/hatchway/laws.FnRulMay", spec := "fnRulMay", unfollowed := true, recurses := true, apart := false, narrowed := true }
def FnRulMayUptoSaid : Prop := fnRulMayUptoRow.holds Try.pinned (OpenSpec.upto fnRulMaySpec)

/-- 'laws.FnRulLess', WHERE WHAT IT READS IS OF BULK AT MOST 1048576: true; the input reads as it did. -/
def fnRulLessUptoRow : OpenClaim := { program := "ytniffpanegeekaa", sum := "915780bf427f7f29298fcaa396b8a36780862d9dae47d0cf9daa94b10c3be1b4", func := "loop.example/hatchway/laws.FnRulLess", spec := "fnRulLess", unfollowed := true, recurses := true, apart := false, narrowed := true }
def FnRulLessUptoSaid : Prop := fnRulLessUptoRow.holds Try.pinned (OpenSpec.upto fnRulLessSpec)

/-- 'laws.FnRulOk', WHERE WHAT IT READS IS OF BULK AT MOST 1048576: true; the input reads as it did. -/
def fnRulOkUptoRow : OpenClaim := { program := "ytniffpanegeekaa", sum := "915780bf427f7f29298fcaa396b8a36780862d9dae47d0cf9daa94b10c3be1b4", func := "loop.example/hatchway/laws.FnRulOk", spec := "fnRulOk", unfollowed := true, recurses := true, apart := false, narrowed := true }
def FnRulOkUptoSaid : Prop := fnRulOkUptoRow.holds Try.pinned (OpenSpec.upto fnRulOkSpec)

/-- 'laws.FnExactRulOk', WHERE WHAT IT READS IS OF BULK AT MOST 1048576: true; the input reads as it did. -/
def fnExactRulOkUptoRow : OpenClaim := { program := "ytniffpanegeekaa", sum := "915780bf427f7f29298fcaa396b8a36780862d9dae47d0cf9daa94b10c3be1b4", func := "loop.example/hatchway/laws.FnExactRulOk", spec := "fnExactRulOk", apart := false, narrowed := true }
def FnExactRulOkUptoSaid : Prop := fnExactRulOkUptoRow.holds Try.pinned (OpenSpec.upto fnExactRulOkSpec)

/-- 'laws.FnExactRulMay', WHERE WHAT IT READS IS OF BULK AT MOST 1048576: true; the input reads as it did. -/
def fnExactRulMayUptoRow : OpenClaim := { program := "ytniffpanegeekaa", sum := "915780bf427f7f29298fcaa396b8a36780862d9dae47d0cf9daa94b10c3be1b4", func := "loop.example/hatchway/laws.FnExactRulMay", spec := "fnExactRulMay", unfollowed := true, recurses := true, apart := false, narrowed := true }
def FnExactRulMayUptoSaid : Prop := fnExactRulMayUptoRow.holds Try.pinned (OpenSpec.upto fnExactRulMaySpec)

end Rows
end Go.Proofs.Ytniffpanegeekaa

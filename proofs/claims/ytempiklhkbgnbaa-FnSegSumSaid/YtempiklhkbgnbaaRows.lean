/-
  No cell of these rows narrows 'for every input' (looked for: loops, veiled, ifaces, maps, wideKeys, modest, calm, conditions, laid).
  DERIVED. THE GIVEN ROWS OF THIS SEAT. 4 by the template 'for every input the law returns true; each argument reads behind the call as it read before'; 0 by the template 'total and deterministic' (their statements: YtempiklhkbgnbaaTotals.lean).
  GIVEN WITH THE SEED: the statements are not yours to turn. If you find one false, say at which input.
  Laid BY PROGRAM, IN A SANDBOX (cutbox-rows.mjs): the forced cells as the released guide's own fill.sh prints them over the translation eb5083202d1a10f7… (all of the seat's roots in one cut). By AI agents, Wed Nov 11 2026. No macro, syntax, notation, axiom, sorry.
-/
import Derived.Test.YtempiklhkbgnbaaChecked
import GoSem.Claim
import GoSem.ClaimJoined
import GoSem.ClaimMapViews
import Derived.JoinedTies
import Derived.KernelRfl
namespace Go.Proofs.Ytempiklhkbgnbaa
/- THE CELL 'sum', in the pinned program and in every row, IS THE sha256 OF THE DUMP (.gsa) THAT YtempiklhkbgnbaaProg.lean LOADS. Nothing in Lean hashes anything: it is a label: what it is worth is what the hold of that sum in a sandbox is worth. -/
noncomputable def Try.pinned : Pinned := { name := "ytempiklhkbgnbaa", sum := "eb5083202d1a10f7e7debdc9b90ef8e10d294c19942b6f09f52be972fbac1485", checked := Try.checked }
namespace Rows
def none {H : Type} : Left H := { results := [], args := [] }

/-- 'laws.FnSegSum': WHATEVER THE INPUT: true; the input reads as it did. -/
def fnSegSumSpec : ChangeSpec := { name := "fnSegSum", fn := fun _ => fun
  | [d] => { results := [.lit (.bool true)], args := [d] }
  | _ => none }
def fnSegSumRow : OpenClaim := { program := "ytempiklhkbgnbaa", sum := "eb5083202d1a10f7e7debdc9b90ef8e10d294c19942b6f09f52be972fbac1485", func := "loop.example/hatchway/laws.FnSegSum", spec := "fnSegSum", apart := false }
def FnSegSumSaid : Prop := fnSegSumRow.holds Try.pinned (OpenSpec.ofChange fnSegSumSpec)

/-- ITS FALSE NEIGHBOUR: 'it returns false'. Refute it at one input. -/
def fnSegSumWrong : ChangeSpec := { name := "fnSegSum", fn := fun _ => fun
  | [d] => { results := [.lit (.bool false)], args := [d] }
  | _ => none }
def FnSegSumWrongFalsely : Prop := fnSegSumRow.holds Try.pinned (OpenSpec.ofChange fnSegSumWrong)

/-- 'laws.FnSegCut': WHATEVER THE INPUT: true; the input reads as it did. -/
def fnSegCutSpec : ChangeSpec := { name := "fnSegCut", fn := fun _ => fun
  | [d] => { results := [.lit (.bool true)], args := [d] }
  | _ => none }
def fnSegCutRow : OpenClaim := { program := "ytempiklhkbgnbaa", sum := "eb5083202d1a10f7e7debdc9b90ef8e10d294c19942b6f09f52be972fbac1485", func := "loop.example/hatchway/laws.FnSegCut", spec := "fnSegCut", inPlace := ["internal/bytealg.IndexByteString", "internal/bytealg.IndexString"], unfollowed := true, recurses := true, named := ["internal/bytealg.MaxLen"], apart := false }
def FnSegCutSaid : Prop := fnSegCutRow.holds Try.pinned (OpenSpec.ofChange fnSegCutSpec)

/-- ITS FALSE NEIGHBOUR: 'it returns false'. Refute it at one input. -/
def fnSegCutWrong : ChangeSpec := { name := "fnSegCut", fn := fun _ => fun
  | [d] => { results := [.lit (.bool false)], args := [d] }
  | _ => none }
def FnSegCutWrongFalsely : Prop := fnSegCutRow.holds Try.pinned (OpenSpec.ofChange fnSegCutWrong)

/-- 'laws.FnSegJoin': WHATEVER THE INPUT: true; the input reads as it did. -/
def fnSegJoinSpec : ChangeSpec := { name := "fnSegJoin", fn := fun _ => fun
  | [d] => { results := [.lit (.bool true)], args := [d] }
  | _ => none }
def fnSegJoinRow : OpenClaim := { program := "ytempiklhkbgnbaa", sum := "eb5083202d1a10f7e7debdc9b90ef8e10d294c19942b6f09f52be972fbac1485", func := "loop.example/hatchway/laws.FnSegJoin", spec := "fnSegJoin", inPlace := ["internal/bytealg.IndexByteString", "internal/bytealg.IndexString"], unfollowed := true, recurses := true, named := ["internal/bytealg.MaxLen"], apart := false }
def FnSegJoinSaid : Prop := fnSegJoinRow.holds Try.pinned (OpenSpec.ofChange fnSegJoinSpec)

/-- ITS FALSE NEIGHBOUR: 'it returns false'. Refute it at one input. -/
def fnSegJoinWrong : ChangeSpec := { name := "fnSegJoin", fn := fun _ => fun
  | [d] => { results := [.lit (.bool false)], args := [d] }
  | _ => none }
def FnSegJoinWrongFalsely : Prop := fnSegJoinRow.holds Try.pinned (OpenSpec.ofChange fnSegJoinWrong)

/-- 'laws.FnRulLess': WHATEVER THE INPUT: true; the input reads as it did. -/
def fnRulLessSpec : ChangeSpec := { name := "fnRulLess", fn := fun _ => fun
  | [d] => { results := [.lit (.bool true)], args := [d] }
  | _ => none }
def fnRulLessRow : OpenClaim := { program := "ytempiklhkbgnbaa", sum := "eb5083202d1a10f7e7debdc9b90ef8e10d294c19942b6f09f52be972fbac1485", func := "loop.example/hatchway/laws.FnRulLess", spec := "fnRulLess", unfollowed := true, recurses := true, apart := false }
def FnRulLessSaid : Prop := fnRulLessRow.holds Try.pinned (OpenSpec.ofChange fnRulLessSpec)

/-- ITS FALSE NEIGHBOUR: 'it returns false'. Refute it at one input. -/
def fnRulLessWrong : ChangeSpec := { name := "fnRulLess", fn := fun _ => fun
  | [d] => { results := [.lit (.bool false)], args := [d] }
  | _ => none }
def FnRulLessWrongFalsely : Prop := fnRulLessRow.holds Try.pinned (OpenSpec.ofChange fnRulLessWrong)

/- THE SECOND FORM. 'bulk': how many values and letters a reading holds, each counted each time it is reached (what is shared counts as often as it is met; a slice's spare places count too). A statement '..UptoSaid' is the law's where the arguments, and the package variables that the reading takes, are together of bulk at most 1048576: NARROWER than '..Said'. Prove '..Said' where nothing that the law and all that it calls make is longer than what came in: it says more and counts as full. Else prove '..UptoSaid'. A law counts once. -/
mutual
def uptoBulk {H : Type} : DataW H → Nat
  | .lit (.string bytes) => bytes.length + 1
  | .lit _ => 1
  | .nil => 1
  | .ptr d => uptoBulk d + 1
  | .slice elems spare => uptoBulkAll elems + uptoBulkAll spare + 1
  | .agg parts => uptoBulkAll parts + 1
  | .iface _ d => uptoBulk d + 1
  | .map entries => uptoBulkEntries entries + 1
  | .held _ => 1
def uptoBulkAll {H : Type} : List (DataW H) → Nat
  | [] => 0
  | d :: r => uptoBulk d + uptoBulkAll r
def uptoBulkEntries {H : Type} : List (Lit × DataW H) → Nat
  | [] => 0
  | x :: r => uptoBulkEntry x + uptoBulkEntries r
def uptoBulkEntry {H : Type} : Lit × DataW H → Nat
  | (.string bytes, d) => bytes.length + uptoBulk d + 1
  | (_, d) => uptoBulk d + 1
 end
def uptoSmall : (H : Type) → List (DataW H) → Bool := fun _ ds => decide (uptoBulkAll ds ≤ 1048576)
def OpenSpec.upto (s : _root_.Go.ChangeSpec) : _root_.Go.OpenSpec := { _root_.Go.OpenSpec.ofChange s with cond := some uptoSmall }

/-- 'laws.FnSegSum', WHERE WHAT IT READS IS OF BULK AT MOST 1048576: true; the input reads as it did. -/
def fnSegSumUptoRow : OpenClaim := { program := "ytempiklhkbgnbaa", sum := "eb5083202d1a10f7e7debdc9b90ef8e10d294c19942b6f09f52be972fbac1485", func := "loop.example/hatchway/laws.FnSegSum", spec := "fnSegSum", apart := false, narrowed := true }
def FnSegSumUptoSaid : Prop := fnSegSumUptoRow.holds Try.pinned (OpenSpec.upto fnSegSumSpec)

/-- 'laws.FnSegCut', WHERE WHAT IT READS IS OF BULK AT MOST 1048576: true; the input reads as it did. -/
def fnSegCutUptoRow : OpenClaim := { program := "ytempiklhkbgnbaa", sum := "eb5083202d1a10f7e7debdc9b90ef8e10d294c19942b6f09f52be972fbac1485", func := "loop.example/hatchway/laws.FnSegCut", spec := "fnSegCut", inPlace := ["internal/bytealg.IndexByteString", "internal/bytealg.IndexString"], unfollowed := true, recurses := true, named := ["internal/bytealg.MaxLen"], apart := false, narrowed := true }
def FnSegCutUptoSaid : Prop := fnSegCutUptoRow.holds Try.pinned (OpenSpec.upto fnSegCutSpec)

/-- 'laws.FnSegJoin', WHERE WHAT IT READS IS OF BULK AT MOST 1048576: true; the input reads as it did. -/
def fnSegJoinUptoRow : OpenClaim := { program := "ytempiklhkbgnbaa", sum := "eb5083202d1a10f7e7debdc9b90ef8e10d294c19942b6f09f52be972fbac1485", func := "loop.example/hatchway/laws.FnSegJoin", spec := "fnSegJoin", inPlace := ["internal/bytealg.IndexByteString", "internal/bytealg.IndexString"], unfollowed := true, recurses := true, named := ["internal/bytealg.MaxLen"], apart := false, narrowed := true }
def FnSegJoinUptoSaid : Prop := fnSegJoinUptoRow.holds Try.pinned (OpenSpec.upto fnSegJoinSpec)

/-- 'laws.FnRulLess', WHERE WHAT IT READS IS OF BULK AT MOST 1048576: true; the input reads as it did. -/
def fnRulLessUptoRow : OpenClaim := { program := "ytempiklhkbgnbaa", sum := "eb5083202d1a10f7e7debdc9b90ef8e10d294c19942b6f09f52be972fbac1485", func := "loop.example/hatchway/laws.FnRulLess", spec := "fnRulLess", unfollowed := true, recurses := true, apart := false, narrowed := true }
def FnRulLessUptoSaid : Prop := fnRulLessUptoRow.holds Try.pinned (OpenSpec.upto fnRulLessSpec)

end Rows
end Go.Proofs.Ytempiklhkbgnbaa

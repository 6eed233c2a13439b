/-
  No cell of these rows narrows 'for every input' (looked for: loops, veiled, ifaces, maps, wideKeys, modest, calm, conditions, laid).
  DERIVED. THE GIVEN ROWS OF THIS SEAT. 6 by the template 'for every input the law returns true; each argument reads behind the call as it read before'; 0 by the template 'total and deterministic' (their statements: YtllekjkmjadohaaTotals.lean).
  GIVEN WITH THE SEED: the statements are not yours to turn. If you find one false, say at which input.
  Laid BY PROGRAM, IN A SANDBOX (cutbox-rows.mjs): the forced cells as the released guide's own fill.sh prints them over the translation 77313ca4e90ad30e… (all of the seat's roots in one cut). By AI agents, Wed Nov 11 2026. No macro, syntax, notation, axiom, sorry.
-/
import Derived.Test.YtllekjkmjadohaaChecked
import GoSem.Claim
import GoSem.ClaimJoined
import GoSem.ClaimMapViews
import Derived.JoinedTies
import Derived.KernelRfl
namespace Go.Proofs.Ytllekjkmjadohaa
/- THE CELL 'sum', in the pinned program and in every row, IS THE sha256 OF THE DUMP (.gsa) THAT YtllekjkmjadohaaProg.lean LOADS. Nothing in Lean hashes anything: it is a label: what it is worth is what the hold of that sum in a sandbox is worth. -/
noncomputable def Try.pinned : Pinned := { name := "ytllekjkmjadohaa", sum := "77313ca4e90ad30e1f1274648b3e0128b81915bbee71f2de314ee817a8cf5047", checked := Try.checked }
namespace Rows
def none {H : Type} : Left H := { results := [], args := [] }

/-- 'laws.FnEndOk': WHATEVER THE INPUT: true; the input reads as it did. -/
def fnEndOkSpec : ChangeSpec := { name := "fnEndOk", fn := fun _ => fun
  | [d] => { results := [.lit (.bool true)], args := [d] }
  | _ => none }
def fnEndOkRow : OpenClaim := { program := "ytllekjkmjadohaa", sum := "77313ca4e90ad30e1f1274648b3e0128b81915bbee71f2de314ee817a8cf5047", func := "loop.example/hatchway/laws.FnEndOk", spec := "fnEndOk", apart := false }
def FnEndOkSaid : Prop := fnEndOkRow.holds Try.pinned (OpenSpec.ofChange fnEndOkSpec)

/-- ITS FALSE NEIGHBOUR: 'it returns false'. Refute it at one input. -/
def fnEndOkWrong : ChangeSpec := { name := "fnEndOk", fn := fun _ => fun
  | [d] => { results := [.lit (.bool false)], args := [d] }
  | _ => none }
def FnEndOkWrongFalsely : Prop := fnEndOkRow.holds Try.pinned (OpenSpec.ofChange fnEndOkWrong)

/-- 'laws.FnStrLines': WHATEVER THE INPUT: true; the input reads as it did. -/
def fnStrLinesSpec : ChangeSpec := { name := "fnStrLines", fn := fun _ => fun
  | [d] => { results := [.lit (.bool true)], args := [d] }
  | _ => none }
def fnStrLinesRow : OpenClaim := { program := "ytllekjkmjadohaa", sum := "77313ca4e90ad30e1f1274648b3e0128b81915bbee71f2de314ee817a8cf5047", func := "loop.example/hatchway/laws.FnStrLines", spec := "fnStrLines", inPlace := ["internal/bytealg.IndexByteString", "internal/bytealg.IndexString"], unfollowed := true, recurses := true, named := ["internal/bytealg.MaxLen"], apart := false }
def FnStrLinesSaid : Prop := fnStrLinesRow.holds Try.pinned (OpenSpec.ofChange fnStrLinesSpec)

/-- ITS FALSE NEIGHBOUR: 'it returns false'. Refute it at one input. -/
def fnStrLinesWrong : ChangeSpec := { name := "fnStrLines", fn := fun _ => fun
  | [d] => { results := [.lit (.bool false)], args := [d] }
  | _ => none }
def FnStrLinesWrongFalsely : Prop := fnStrLinesRow.holds Try.pinned (OpenSpec.ofChange fnStrLinesWrong)

/-- 'laws.FnStrOk': WHATEVER THE INPUT: true; the input reads as it did. -/
def fnStrOkSpec : ChangeSpec := { name := "fnStrOk", fn := fun _ => fun
  | [d] => { results := [.lit (.bool true)], args := [d] }
  | _ => none }
def fnStrOkRow : OpenClaim := { program := "ytllekjkmjadohaa", sum := "77313ca4e90ad30e1f1274648b3e0128b81915bbee71f2de314ee817a8cf5047", func := "loop.example/hatchway/laws.FnStrOk", spec := "fnStrOk", inPlace := ["internal/bytealg.IndexByteString", "internal/bytealg.IndexString"], unfollowed := true, recurses := true, named := ["internal/bytealg.MaxLen"], apart := false }
def FnStrOkSaid : Prop := fnStrOkRow.holds Try.pinned (OpenSpec.ofChange fnStrOkSpec)

/-- ITS FALSE NEIGHBOUR: 'it returns false'. Refute it at one input. -/
def fnStrOkWrong : ChangeSpec := { name := "fnStrOk", fn := fun _ => fun
  | [d] => { results := [.lit (.bool false)], args := [d] }
  | _ => none }
def FnStrOkWrongFalsely : Prop := fnStrOkRow.holds Try.pinned (OpenSpec.ofChange fnStrOkWrong)

/-- 'laws.FnStrJoin': WHATEVER THE INPUT: true; the input reads as it did. -/
def fnStrJoinSpec : ChangeSpec := { name := "fnStrJoin", fn := fun _ => fun
  | [d1, d2] => { results := [.lit (.bool true)], args := [d1, d2] }
  | _ => none }
def fnStrJoinRow : OpenClaim := { program := "ytllekjkmjadohaa", sum := "77313ca4e90ad30e1f1274648b3e0128b81915bbee71f2de314ee817a8cf5047", func := "loop.example/hatchway/laws.FnStrJoin", spec := "fnStrJoin", inPlace := ["internal/bytealg.IndexByteString", "internal/bytealg.IndexString"], unfollowed := true, recurses := true, named := ["internal/bytealg.MaxLen"], apart := false }
def FnStrJoinSaid : Prop := fnStrJoinRow.holds Try.pinned (OpenSpec.ofChange fnStrJoinSpec)

/-- ITS FALSE NEIGHBOUR: 'it returns false'. Refute it at one input. -/
def fnStrJoinWrong : ChangeSpec := { name := "fnStrJoin", fn := fun _ => fun
  | [d1, d2] => { results := [.lit (.bool false)], args := [d1, d2] }
  | _ => none }
def FnStrJoinWrongFalsely : Prop := fnStrJoinRow.holds Try.pinned (OpenSpec.ofChange fnStrJoinWrong)

/-- 'laws.FnLinOk': WHATEVER THE INPUT: true; the input reads as it did. -/
def fnLinOkSpec : ChangeSpec := { name := "fnLinOk", fn := fun _ => fun
  | [d] => { results := [.lit (.bool true)], args := [d] }
  | _ => none }
def fnLinOkRow : OpenClaim := { program := "ytllekjkmjadohaa", sum := "77313ca4e90ad30e1f1274648b3e0128b81915bbee71f2de314ee817a8cf5047", func := "loop.example/hatchway/laws.FnLinOk", spec := "fnLinOk", apart := false }
def FnLinOkSaid : Prop := fnLinOkRow.holds Try.pinned (OpenSpec.ofChange fnLinOkSpec)

/-- ITS FALSE NEIGHBOUR: 'it returns false'. Refute it at one input. -/
def fnLinOkWrong : ChangeSpec := { name := "fnLinOk", fn := fun _ => fun
  | [d] => { results := [.lit (.bool false)], args := [d] }
  | _ => none }
def FnLinOkWrongFalsely : Prop := fnLinOkRow.holds Try.pinned (OpenSpec.ofChange fnLinOkWrong)

/-- 'laws.FnStrPart': WHATEVER THE INPUT: true; the input reads as it did. -/
def fnStrPartSpec : ChangeSpec := { name := "fnStrPart", fn := fun _ => fun
  | [d] => { results := [.lit (.bool true)], args := [d] }
  | _ => none }
def fnStrPartRow : OpenClaim := { program := "ytllekjkmjadohaa", sum := "77313ca4e90ad30e1f1274648b3e0128b81915bbee71f2de314ee817a8cf5047", func := "loop.example/hatchway/laws.FnStrPart", spec := "fnStrPart", inPlace := ["internal/bytealg.IndexByteString", "internal/bytealg.IndexString"], unfollowed := true, recurses := true, named := ["internal/bytealg.MaxLen"], apart := false }
def FnStrPartSaid : Prop := fnStrPartRow.holds Try.pinned (OpenSpec.ofChange fnStrPartSpec)

/-- ITS FALSE NEIGHBOUR: 'it returns false'. Refute it at one input. -/
def fnStrPartWrong : ChangeSpec := { name := "fnStrPart", fn := fun _ => fun
  | [d] => { results := [.lit (.bool false)], args := [d] }
  | _ => none }
def FnStrPartWrongFalsely : Prop := fnStrPartRow.holds Try.pinned (OpenSpec.ofChange fnStrPartWrong)

/- THE SECOND FORM. 'bulk': how many values and letters a reading holds, each counted each time it is reached (what is shared counts as often as it is met; a slice's spare places count too). A statement '..UptoSaid' is the law's where the arguments, and the package variables that the reading takes, are together of bulk at most 1048576: NARROWER than '..Said'. Prove '..Said' where nothing that the law and all that it calls make is longer than what came in: it says more and counts as full. Else prove '..UptoSaid'. A law counts once. -/
mutual
def uptoBulk {H : Type} : DataW H → Nat
  | .lit (.string bytes) => bytes.length + 1
  | .lit _ => 1
  | .nil => 1
  | .ptr d => uptoBulk d + 1
  | .slice elems spare => uptoBulkAll elems + uptoBulkAll spare + 1
  | .agg parts => uptoBulkAll parts + 1
  | .iface _ d => uptoBulk d + 1
  | .map entries => uptoBulkEntries entries + 1
  | .held _ => 1
def uptoBulkAll {H : Type} : List (DataW H) → Nat
  | [] => 0
  | d :: r => uptoBulk d + uptoBulkAll r
def uptoBulkEntries {H : Type} : List (Lit × DataW H) → Nat
  | [] => 0
  | x :: r => uptoBulkEntry x + uptoBulkEntries r
def uptoBulkEntry {H : Type} : Lit × DataW H → Nat
  | (.string bytes, d) => bytes.length + uptoBulk d + 1
  | (_, d) => uptoBulk d + 1
 end
def uptoSmall : (H : Type) → List (DataW H) → Bool := fun _ ds => decide (uptoBulkAll ds ≤ 1048576)
def OpenSpec.upto (s : _root_.Go.ChangeSpec) : _root_.Go.OpenSpec := { _root_.Go.OpenSpec.ofChange s with cond := some uptoSmall }

/-- 'laws.FnEndOk', WHERE WHAT IT READS IS OF BULK AT MOST 1048576: true; the input reads as it did. -/
def fnEndOkUptoRow : OpenClaim := { program := "ytllekjkmjadohaa", sum := "77313ca4e90ad30e1f1274648b3e0128b81915bbee71f2de314ee817a8cf5047", func := "loop.example/hatchway/laws.FnEndOk", spec := "fnEndOk", apart := false, narrowed := true }
def FnEndOkUptoSaid : Prop := fnEndOkUptoRow.holds Try.pinned (OpenSpec.upto fnEndOkSpec)

/-- 'laws.FnStrLines', WHERE WHAT IT READS IS OF BULK AT MOST 1048576: true; the input reads as it did. -/
def fnStrLinesUptoRow : OpenClaim := { program := "ytllekjkmjadohaa", sum := "77313ca4e90ad30e1f1274648b3e0128b81915bbee71f2de314ee817a8cf5047", func := "loop.example/hatchway/laws.FnStrLines", spec := "fnStrLines", inPlace := ["internal/bytealg.IndexByteString", "internal/bytealg.IndexString"], unfollowed := true, recurses := true, named := ["internal/bytealg.MaxLen"], apart := false, narrowed := true }
def FnStrLinesUptoSaid : Prop := fnStrLinesUptoRow.holds Try.pinned (OpenSpec.upto fnStrLinesSpec)

/-- 'laws.FnStrOk', WHERE WHAT IT READS IS OF BULK AT MOST 1048576: true; the input reads as it did. -/
def fnStrOkUptoRow : OpenClaim := { program := "ytllekjkmjadohaa", sum := "77313ca4e90ad30e1f1274648b3e0128b81915bbee71f2de314ee817a8cf5047", func := "loop.example/hatchway/laws.FnStrOk", spec := "fnStrOk", inPlace := ["internal/bytealg.IndexByteString", "internal/bytealg.IndexString"], unfollowed := true, recurses := true, named := ["internal/bytealg.MaxLen"], apart := false, narrowed := true }
def FnStrOkUptoSaid : Prop := fnStrOkUptoRow.holds Try.pinned (OpenSpec.upto fnStrOkSpec)

/-- 'laws.FnStrJoin', WHERE WHAT IT READS IS OF BULK AT MOST 1048576: true; the input reads as it did. -/
def fnStrJoinUptoRow : OpenClaim := { program := "ytllekjkmjadohaa", sum := "77313ca4e90ad30e1f1274648b3e0128b81915bbee71f2de314ee817a8cf5047", func := "loop.example/hatchway/laws.FnStrJoin", spec := "fnStrJoin", inPlace := ["internal/bytealg.IndexByteString", "internal/bytealg.IndexString"], unfollowed := true, recurses := true, named := ["internal/bytealg.MaxLen"], apart := false, narrowed := true }
def FnStrJoinUptoSaid : Prop := fnStrJoinUptoRow.holds Try.pinned (OpenSpec.upto fnStrJoinSpec)

/-- 'laws.FnLinOk', WHERE WHAT IT READS IS OF BULK AT MOST 1048576: true; the input reads as it did. -/
def fnLinOkUptoRow : OpenClaim := { program := "ytllekjkmjadohaa", sum := "77313ca4e90ad30e1f1274648b3e0128b81915bbee71f2de314ee817a8cf5047", func := "loop.example/hatchway/laws.FnLinOk", spec := "fnLinOk", apart := false, narrowed := true }
def FnLinOkUptoSaid : Prop := fnLinOkUptoRow.holds Try.pinned (OpenSpec.upto fnLinOkSpec)

/-- 'laws.FnStrPart', WHERE WHAT IT READS IS OF BULK AT MOST 1048576: true; the input reads as it did. -/
def fnStrPartUptoRow : OpenClaim := { program := "ytllekjkmjadohaa", sum := "77313ca4e90ad30e1f1274648b3e0128b81915bbee71f2de314ee817a8cf5047", func := "loop.example/hatchway/laws.FnStrPart", spec := "fnStrPart", inPlace := ["internal/bytealg.IndexByteString", "internal/bytealg.IndexString"], unfollowed := true, recurses := true, named := ["internal/bytealg.MaxLen"], apart := false, narrowed := true }
def FnStrPartUptoSaid : Prop := fnStrPartUptoRow.holds Try.pinned (OpenSpec.upto fnStrPartSpec)

end Rows
end Go.Proofs.Ytllekjkmjadohaa

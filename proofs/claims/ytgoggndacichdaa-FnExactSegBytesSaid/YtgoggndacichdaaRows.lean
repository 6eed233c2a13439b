/-
  No cell of these rows narrows 'for every input' (looked for: loops, veiled, ifaces, maps, wideKeys, modest, calm, conditions, laid).
  DERIVED. THE GIVEN ROWS OF THIS SEAT. 5 by the template 'for every input the law returns true; each argument reads behind the call as it read before'; 0 by the template 'total and deterministic' (their statements: YtgoggndacichdaaTotals.lean).
  GIVEN WITH THE SEED: the statements are not yours to turn. If you find one false, say at which input.
  Laid BY PROGRAM, IN A SANDBOX (cutbox-rows.mjs): the forced cells as the released guide's own fill.sh prints them over the translation e974b758909de9a6… (all of the seat's roots in one cut). By AI agents, Wed Nov 11 2026. No macro, syntax, notation, axiom, sorry.
-/
import Derived.Test.YtgoggndacichdaaChecked
import GoSem.Claim
import GoSem.ClaimJoined
import GoSem.ClaimMapViews
import Derived.JoinedTies
import Derived.KernelRfl
namespace Go.Proofs.Ytgoggndacichdaa
/- THE CELL 'sum', in the pinned program and in every row, IS THE sha256 OF THE DUMP (.gsa) THAT YtgoggndacichdaaProg.lean LOADS. Nothing in Lean hashes anything: it is a label: what it is worth is what the hold of that sum in a sandbox is worth. -/
noncomputable def Try.pinned : Pinned := { name := "ytgoggndacichdaa", sum := "e974b758909de9a6cc5b29cf45b898e26c4ee435cda7183b41a953f162bcee16", checked := Try.checked }
namespace Rows
def none {H : Type} : Left H := { results := [], args := [] }

/-- 'laws.FnExactSegOk': WHATEVER THE INPUT: true; the input reads as it did. -/
def fnExactSegOkSpec : ChangeSpec := { name := "fnExactSegOk", fn := fun _ => fun
  | [d] => { results := [.lit (.bool true)], args := [d] }
  | _ => none }
def fnExactSegOkRow : OpenClaim := { program := "ytgoggndacichdaa", sum := "e974b758909de9a6cc5b29cf45b898e26c4ee435cda7183b41a953f162bcee16", func := "loop.example/hatchway/laws.FnExactSegOk", spec := "fnExactSegOk", inPlace := ["internal/bytealg.IndexByteString", "internal/bytealg.IndexString"], unfollowed := true, recurses := true, named := ["internal/bytealg.MaxLen"], apart := false }
def FnExactSegOkSaid : Prop := fnExactSegOkRow.holds Try.pinned (OpenSpec.ofChange fnExactSegOkSpec)

/-- ITS FALSE NEIGHBOUR: 'it returns false'. Refute it at one input. -/
def fnExactSegOkWrong : ChangeSpec := { name := "fnExactSegOk", fn := fun _ => fun
  | [d] => { results := [.lit (.bool false)], args := [d] }
  | _ => none }
def FnExactSegOkWrongFalsely : Prop := fnExactSegOkRow.holds Try.pinned (OpenSpec.ofChange fnExactSegOkWrong)

/-- 'laws.FnExactSegSum': WHATEVER THE INPUT: true; the input reads as it did. -/
def fnExactSegSumSpec : ChangeSpec := { name := "fnExactSegSum", fn := fun _ => fun
  | [d] => { results := [.lit (.bool true)], args := [d] }
  | _ => none }
def fnExactSegSumRow : OpenClaim := { program := "ytgoggndacichdaa", sum := "e974b758909de9a6cc5b29cf45b898e26c4ee435cda7183b41a953f162bcee16", func := "loop.example/hatchway/laws.FnExactSegSum", spec := "fnExactSegSum", apart := false }
def FnExactSegSumSaid : Prop := fnExactSegSumRow.holds Try.pinned (OpenSpec.ofChange fnExactSegSumSpec)

/-- ITS FALSE NEIGHBOUR: 'it returns false'. Refute it at one input. -/
def fnExactSegSumWrong : ChangeSpec := { name := "fnExactSegSum", fn := fun _ => fun
  | [d] => { results := [.lit (.bool false)], args := [d] }
  | _ => none }
def FnExactSegSumWrongFalsely : Prop := fnExactSegSumRow.holds Try.pinned (OpenSpec.ofChange fnExactSegSumWrong)

/-- 'laws.FnExactSegBytes': WHATEVER THE INPUT: true; the input reads as it did. -/
def fnExactSegBytesSpec : ChangeSpec := { name := "fnExactSegBytes", fn := fun _ => fun
  | [d] => { results := [.lit (.bool true)], args := [d] }
  | _ => none }
def fnExactSegBytesRow : OpenClaim := { program := "ytgoggndacichdaa", sum := "e974b758909de9a6cc5b29cf45b898e26c4ee435cda7183b41a953f162bcee16", func := "loop.example/hatchway/laws.FnExactSegBytes", spec := "fnExactSegBytes", inPlace := ["internal/bytealg.IndexByteString", "internal/bytealg.IndexString"], unfollowed := true, recurses := true, named := ["internal/bytealg.MaxLen"], apart := false }
def FnExactSegBytesSaid : Prop := fnExactSegBytesRow.holds Try.pinned (OpenSpec.ofChange fnExactSegBytesSpec)

/-- ITS FALSE NEIGHBOUR: 'it returns false'. Refute it at one input. -/
def fnExactSegBytesWrong : ChangeSpec := { name := "fnExactSegBytes", fn := fun _ => fun
  | [d] => { results := [.lit (.bool false)], args := [d] }
  | _ => none }
def FnExactSegBytesWrongFalsely : Prop := fnExactSegBytesRow.holds Try.pinned (OpenSpec.ofChange fnExactSegBytesWrong)

/-- 'laws.FnExactSegCut': WHATEVER THE INPUT: true; the input reads as it did. -/
def fnExactSegCutSpec : ChangeSpec := { name := "fnExactSegCut", fn := fun _ => fun
  | [d1, d2, d3] => { results := [.lit (.bool true)], args := [d1, d2, d3] }
  | _ => none }
def fnExactSegCutRow : OpenClaim := { program := "ytgoggndacichdaa", sum := "e974b758909de9a6cc5b29cf45b898e26c4ee435cda7183b41a953f162bcee16", func := "loop.example/hatchway/laws.FnExactSegCut", spec := "fnExactSegCut", inPlace := ["internal/bytealg.IndexByteString", "internal/bytealg.IndexString"], unfollowed := true, recurses := true, named := ["internal/bytealg.MaxLen"], apart := false }
def FnExactSegCutSaid : Prop := fnExactSegCutRow.holds Try.pinned (OpenSpec.ofChange fnExactSegCutSpec)

/-- ITS FALSE NEIGHBOUR: 'it returns false'. Refute it at one input. -/
def fnExactSegCutWrong : ChangeSpec := { name := "fnExactSegCut", fn := fun _ => fun
  | [d1, d2, d3] => { results := [.lit (.bool false)], args := [d1, d2, d3] }
  | _ => none }
def FnExactSegCutWrongFalsely : Prop := fnExactSegCutRow.holds Try.pinned (OpenSpec.ofChange fnExactSegCutWrong)

/-- 'laws.FnExactSegAdd': WHATEVER THE INPUT: true; the input reads as it did. -/
def fnExactSegAddSpec : ChangeSpec := { name := "fnExactSegAdd", fn := fun _ => fun
  | [d1, d2] => { results := [.lit (.bool true)], args := [d1, d2] }
  | _ => none }
def fnExactSegAddRow : OpenClaim := { program := "ytgoggndacichdaa", sum := "e974b758909de9a6cc5b29cf45b898e26c4ee435cda7183b41a953f162bcee16", func := "loop.example/hatchway/laws.FnExactSegAdd", spec := "fnExactSegAdd", apart := false }
def FnExactSegAddSaid : Prop := fnExactSegAddRow.holds Try.pinned (OpenSpec.ofChange fnExactSegAddSpec)

/-- ITS FALSE NEIGHBOUR: 'it returns false'. Refute it at one input. -/
def fnExactSegAddWrong : ChangeSpec := { name := "fnExactSegAdd", fn := fun _ => fun
  | [d1, d2] => { results := [.lit (.bool false)], args := [d1, d2] }
  | _ => none }
def FnExactSegAddWrongFalsely : Prop := fnExactSegAddRow.holds Try.pinned (OpenSpec.ofChange fnExactSegAddWrong)

/- THE SECOND FORM. 'bulk': how many values and letters a reading holds, each counted each time it is reached (what is shared counts as often as it is met; a slice's spare places count too). A statement '..UptoSaid' is the law's where the arguments, and the package variables that the reading takes, are together of bulk at most 1048576: NARROWER than '..Said'. Prove '..Said' where nothing that the law and all that it calls make is longer than what came in: it says more and counts as full. Else prove '..UptoSaid'. A law counts once. -/
mutual
def uptoBulk {H : Type} : DataW H → Nat
  | .lit (.string bytes) => bytes.length + 1
  | .lit _ => 1
  | .nil => 1
  | .ptr d => uptoBulk d + 1
  | .slice elems spare => uptoBulkAll elems + uptoBulkAll spare + 1
  | .agg parts => uptoBulkAll parts + 1
  | .iface _ d => uptoBulk d + 1
  | .map entries => uptoBulkEntries entries + 1
  | .held _ => 1
def uptoBulkAll {H : Type} : List (DataW H) → Nat
  | [] => 0
  | d :: r => uptoBulk d + uptoBulkAll r
def uptoBulkEntries {H : Type} : List (Lit × DataW H) → Nat
  | [] => 0
  | x :: r => uptoBulkEntry x + uptoBulkEntries r
def uptoBulkEntry {H : Type} : Lit × DataW H → Nat
  | (.string bytes, d) => bytes.length + uptoBulk d + 1
  | (_, d) => uptoBulk d + 1
 end
def uptoSmall : (H : Type) → List (DataW H) → Bool := fun _ ds => decide (uptoBulkAll ds ≤ 1048576)
def OpenSpec.upto (s : _root_.Go.ChangeSpec) : _root_.Go.OpenSpec := { _root_.Go.OpenSpec.ofChange s with cond := some uptoSmall }

/-- 'laws.FnExactSegOk', WHERE WHAT IT READS IS OF BULK AT MOST 1048576: true; the input reads as it did. -/
def fnExactSegOkUptoRow : OpenClaim := { program := "ytgoggndacichdaa", sum := "e974b758909de9a6cc5b29cf45b898e26c4ee435cda7183b41a953f162bcee16", func := "loop.example/hatchway/laws.FnExactSegOk", spec := "fnExactSegOk", inPlace := ["internal/bytealg.IndexByteString", "internal/bytealg.IndexString"], unfollowed := true, recurses := true, named := ["internal/bytealg.MaxLen"], apart := false, narrowed := true }
def FnExactSegOkUptoSaid : Prop := fnExactSegOkUptoRow.holds Try.pinned (OpenSpec.upto fnExactSegOkSpec)

/-- 'laws.FnExactSegSum', WHERE WHAT IT READS IS OF BULK AT MOST 1048576: true; the input reads as it did. -/
def fnExactSegSumUptoRow : OpenClaim := { program := "ytgoggndacichdaa", sum := "e974b758909de9a6cc5b29cf45b898e26c4ee435cda7183b41a953f162bcee16", func := "loop.example/hatchway/laws.FnExactSegSum", spec := "fnExactSegSum", apart := false, narrowed := true }
def FnExactSegSumUptoSaid : Prop := fnExactSegSumUptoRow.holds Try.pinned (OpenSpec.upto fnExactSegSumSpec)

/-- 'laws.FnExactSegBytes', WHERE WHAT IT READS IS OF BULK AT MOST 1048576: true; the input reads as it did. -/
def fnExactSegBytesUptoRow : OpenClaim := { program := "ytgoggndacichdaa", sum := "e974b758909de9a6cc5b29cf45b898e26c4ee435cda7183b41a953f162bcee16", func := "loop.example/hatchway/laws.FnExactSegBytes", spec := "fnExactSegBytes", inPlace := ["internal/bytealg.IndexByteString", "internal/bytealg.IndexString"], unfollowed := true, recurses := true, named := ["internal/bytealg.MaxLen"], apart := false, narrowed := true }
def FnExactSegBytesUptoSaid : Prop := fnExactSegBytesUptoRow.holds Try.pinned (OpenSpec.upto fnExactSegBytesSpec)

/-- 'laws.FnExactSegCut', WHERE WHAT IT READS IS OF BULK AT MOST 1048576: true; the input reads as it did. -/
def fnExactSegCutUptoRow : OpenClaim := { program := "ytgoggndacichdaa", sum := "e974b758909de9a6cc5b29cf45b898e26c4ee435cda7183b41a953f162bcee16", func := "loop.example/hatchway/laws.FnExactSegCut", spec := "fnExactSegCut", inPlace := ["internal/bytealg.IndexByteString", "internal/bytealg.IndexString"], unfollowed := true, recurses := true, named := ["internal/bytealg.MaxLen"], apart := false, narrowed := true }
def FnExactSegCutUptoSaid : Prop := fnExactSegCutUptoRow.holds Try.pinned (OpenSpec.upto fnExactSegCutSpec)

/-- 'laws.FnExactSegAdd', WHERE WHAT IT READS IS OF BULK AT MOST 1048576: true; the input reads as it did. -/
def fnExactSegAddUptoRow : OpenClaim := { program := "ytgoggndacichdaa", sum := "e974b758909de9a6cc5b29cf45b898e26c4ee435cda7183b41a953f162bcee16", func := "loop.example/hatchway/laws.FnExactSegAdd", spec := "fnExactSegAdd", apart := false, narrowed := true }
def FnExactSegAddUptoSaid : Prop := fnExactSegAddUptoRow.holds Try.pinned (OpenSpec.upto fnExactSegAddSpec)

end Rows
end Go.Proofs.Ytgoggndacichdaa

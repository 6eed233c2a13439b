/-
  No cell of these rows narrows 'for every input' (looked for: loops, veiled, ifaces, maps, wideKeys, modest, calm, conditions, laid).
  DERIVED. THE GIVEN ROWS OF THIS SEAT. 6 by the template 'for every input the law returns true; each argument reads behind the call as it read before'; 0 by the template 'total and deterministic' (their statements: YtpnjeoikojkegaaTotals.lean).
  GIVEN WITH THE SEED: the statements are not yours to turn. If you find one false, say at which input.
  Laid BY PROGRAM, IN A SANDBOX (cutbox-rows.mjs): the forced cells as the released guide's own fill.sh prints them over the translation 00a1d6c619384cb6… (all of the seat's roots in one cut). By AI agents, Wed Nov 11 2026. No macro, syntax, notation, axiom, sorry.
-/
import Derived.Test.YtpnjeoikojkegaaChecked
import GoSem.Claim
import GoSem.ClaimJoined
import GoSem.ClaimMapViews
import Derived.JoinedTies
import Derived.KernelRfl
namespace Go.Proofs.Ytpnjeoikojkegaa
/- THE CELL 'sum', in the pinned program and in every row, IS THE sha256 OF THE DUMP (.gsa) THAT YtpnjeoikojkegaaProg.lean LOADS. Nothing in Lean hashes anything: it is a label: what it is worth is what the hold of that sum in a sandbox is worth. -/
noncomputable def Try.pinned : Pinned := { name := "ytpnjeoikojkegaa", sum := "00a1d6c619384cb6fb56a9184e515893c7ab53cee75333eef99a98602f976068", checked := Try.checked }
namespace Rows
def none {H : Type} : Left H := { results := [], args := [] }

/-- 'laws.FnExactEndInside': WHATEVER THE INPUT: true; the input reads as it did. -/
def fnExactEndInsideSpec : ChangeSpec := { name := "fnExactEndInside", fn := fun _ => fun
  | [d] => { results := [.lit (.bool true)], args := [d] }
  | _ => none }
def fnExactEndInsideRow : OpenClaim := { program := "ytpnjeoikojkegaa", sum := "00a1d6c619384cb6fb56a9184e515893c7ab53cee75333eef99a98602f976068", func := "loop.example/hatchway/laws.FnExactEndInside", spec := "fnExactEndInside", apart := false }
def FnExactEndInsideSaid : Prop := fnExactEndInsideRow.holds Try.pinned (OpenSpec.ofChange fnExactEndInsideSpec)

/-- ITS FALSE NEIGHBOUR: 'it returns false'. Refute it at one input. -/
def fnExactEndInsideWrong : ChangeSpec := { name := "fnExactEndInside", fn := fun _ => fun
  | [d] => { results := [.lit (.bool false)], args := [d] }
  | _ => none }
def FnExactEndInsideWrongFalsely : Prop := fnExactEndInsideRow.holds Try.pinned (OpenSpec.ofChange fnExactEndInsideWrong)

/-- 'laws.FnExactEndOutside': WHATEVER THE INPUT: true; the input reads as it did. -/
def fnExactEndOutsideSpec : ChangeSpec := { name := "fnExactEndOutside", fn := fun _ => fun
  | [d] => { results := [.lit (.bool true)], args := [d] }
  | _ => none }
def fnExactEndOutsideRow : OpenClaim := { program := "ytpnjeoikojkegaa", sum := "00a1d6c619384cb6fb56a9184e515893c7ab53cee75333eef99a98602f976068", func := "loop.example/hatchway/laws.FnExactEndOutside", spec := "fnExactEndOutside", apart := false }
def FnExactEndOutsideSaid : Prop := fnExactEndOutsideRow.holds Try.pinned (OpenSpec.ofChange fnExactEndOutsideSpec)

/-- ITS FALSE NEIGHBOUR: 'it returns false'. Refute it at one input. -/
def fnExactEndOutsideWrong : ChangeSpec := { name := "fnExactEndOutside", fn := fun _ => fun
  | [d] => { results := [.lit (.bool false)], args := [d] }
  | _ => none }
def FnExactEndOutsideWrongFalsely : Prop := fnExactEndOutsideRow.holds Try.pinned (OpenSpec.ofChange fnExactEndOutsideWrong)

/-- 'laws.FnExactEndOk': WHATEVER THE INPUT: true; the input reads as it did. -/
def fnExactEndOkSpec : ChangeSpec := { name := "fnExactEndOk", fn := fun _ => fun
  | [d] => { results := [.lit (.bool true)], args := [d] }
  | _ => none }
def fnExactEndOkRow : OpenClaim := { program := "ytpnjeoikojkegaa", sum := "00a1d6c619384cb6fb56a9184e515893c7ab53cee75333eef99a98602f976068", func := "loop.example/hatchway/laws.FnExactEndOk", spec := "fnExactEndOk", apart := false }
def FnExactEndOkSaid : Prop := fnExactEndOkRow.holds Try.pinned (OpenSpec.ofChange fnExactEndOkSpec)

/-- ITS FALSE NEIGHBOUR: 'it returns false'. Refute it at one input. -/
def fnExactEndOkWrong : ChangeSpec := { name := "fnExactEndOk", fn := fun _ => fun
  | [d] => { results := [.lit (.bool false)], args := [d] }
  | _ => none }
def FnExactEndOkWrongFalsely : Prop := fnExactEndOkRow.holds Try.pinned (OpenSpec.ofChange fnExactEndOkWrong)

/-- 'laws.FnExactLinOk': WHATEVER THE INPUT: true; the input reads as it did. -/
def fnExactLinOkSpec : ChangeSpec := { name := "fnExactLinOk", fn := fun _ => fun
  | [d] => { results := [.lit (.bool true)], args := [d] }
  | _ => none }
def fnExactLinOkRow : OpenClaim := { program := "ytpnjeoikojkegaa", sum := "00a1d6c619384cb6fb56a9184e515893c7ab53cee75333eef99a98602f976068", func := "loop.example/hatchway/laws.FnExactLinOk", spec := "fnExactLinOk", apart := false }
def FnExactLinOkSaid : Prop := fnExactLinOkRow.holds Try.pinned (OpenSpec.ofChange fnExactLinOkSpec)

/-- ITS FALSE NEIGHBOUR: 'it returns false'. Refute it at one input. -/
def fnExactLinOkWrong : ChangeSpec := { name := "fnExactLinOk", fn := fun _ => fun
  | [d] => { results := [.lit (.bool false)], args := [d] }
  | _ => none }
def FnExactLinOkWrongFalsely : Prop := fnExactLinOkRow.holds Try.pinned (OpenSpec.ofChange fnExactLinOkWrong)

/-- 'laws.FnExactStrLines': WHATEVER THE INPUT: true; the input reads as it did. -/
def fnExactStrLinesSpec : ChangeSpec := { name := "fnExactStrLines", fn := fun _ => fun
  | [d] => { results := [.lit (.bool true)], args := [d] }
  | _ => none }
def fnExactStrLinesRow : OpenClaim := { program := "ytpnjeoikojkegaa", sum := "00a1d6c619384cb6fb56a9184e515893c7ab53cee75333eef99a98602f976068", func := "loop.example/hatchway/laws.FnExactStrLines", spec := "fnExactStrLines", inPlace := ["internal/bytealg.IndexByteString", "internal/bytealg.IndexString"], unfollowed := true, recurses := true, named := ["internal/bytealg.MaxLen"], apart := false }
def FnExactStrLinesSaid : Prop := fnExactStrLinesRow.holds Try.pinned (OpenSpec.ofChange fnExactStrLinesSpec)

/-- ITS FALSE NEIGHBOUR: 'it returns false'. Refute it at one input. -/
def fnExactStrLinesWrong : ChangeSpec := { name := "fnExactStrLines", fn := fun _ => fun
  | [d] => { results := [.lit (.bool false)], args := [d] }
  | _ => none }
def FnExactStrLinesWrongFalsely : Prop := fnExactStrLinesRow.holds Try.pinned (OpenSpec.ofChange fnExactStrLinesWrong)

/-- 'laws.FnExactStrOk': WHATEVER THE INPUT: true; the input reads as it did. -/
def fnExactStrOkSpec : ChangeSpec := { name := "fnExactStrOk", fn := fun _ => fun
  | [d] => { results := [.lit (.bool true)], args := [d] }
  | _ => none }
def fnExactStrOkRow : OpenClaim := { program := "ytpnjeoikojkegaa", sum := "00a1d6c619384cb6fb56a9184e515893c7ab53cee75333eef99a98602f976068", func := "loop.example/hatchway/laws.FnExactStrOk", spec := "fnExactStrOk", inPlace := ["internal/bytealg.IndexByteString", "internal/bytealg.IndexString"], unfollowed := true, recurses := true, named := ["internal/bytealg.MaxLen"], apart := false }
def FnExactStrOkSaid : Prop := fnExactStrOkRow.holds Try.pinned (OpenSpec.ofChange fnExactStrOkSpec)

/-- ITS FALSE NEIGHBOUR: 'it returns false'. Refute it at one input. -/
def fnExactStrOkWrong : ChangeSpec := { name := "fnExactStrOk", fn := fun _ => fun
  | [d] => { results := [.lit (.bool false)], args := [d] }
  | _ => none }
def FnExactStrOkWrongFalsely : Prop := fnExactStrOkRow.holds Try.pinned (OpenSpec.ofChange fnExactStrOkWrong)

/- THE SECOND FORM. 'bulk': how many values and letters a reading holds, each counted each time it is reached (what is shared counts as often as it is met; a slice's spare places count too). A statement '..UptoSaid' is the law's where the arguments, and the package variables that the reading takes, are together of bulk at most 1048576: NARROWER than '..Said'. Prove '..Said' where nothing that the law and all that it calls make is longer than what came in: it says more and counts as full. Else prove '..UptoSaid'. A law counts once. -/
mutual
def uptoBulk {H : Type} : DataW H → Nat
  | .lit (.string bytes) => bytes.length + 1
  | .lit _ => 1
  | .nil => 1
  | .ptr d => uptoBulk d + 1
  | .slice elems spare => uptoBulkAll elems + uptoBulkAll spare + 1
  | .agg parts => uptoBulkAll parts + 1
  | .iface _ d => uptoBulk d + 1
  | .map entries => uptoBulkEntries entries + 1
  | .held _ => 1
def uptoBulkAll {H : Type} : List (DataW H) → Nat
  | [] => 0
  | d :: r => uptoBulk d + uptoBulkAll r
def uptoBulkEntries {H : Type} : List (Lit × DataW H) → Nat
  | [] => 0
  | x :: r => uptoBulkEntry x + uptoBulkEntries r
def uptoBulkEntry {H : Type} : Lit × DataW H → Nat
  | (.string bytes, d) => bytes.length + uptoBulk d + 1
  | (_, d) => uptoBulk d + 1
 end
def uptoSmall : (H : Type) → List (DataW H) → Bool := fun _ ds => decide (uptoBulkAll ds ≤ 1048576)
def OpenSpec.upto (s : _root_.Go.ChangeSpec) : _root_.Go.OpenSpec := { _root_.Go.OpenSpec.ofChange s with cond := some uptoSmall }

/-- 'laws.FnExactEndInside', WHERE WHAT IT READS IS OF BULK AT MOST 1048576: true; the input reads as it did. -/
def fnExactEndInsideUptoRow : OpenClaim := { program := "ytpnjeoikojkegaa", sum := "00a1d6c619384cb6fb56a9184e515893c7ab53cee75333eef99a98602f976068", func := "loop.example/hatchway/laws.FnExactEndInside", spec := "fnExactEndInside", apart := false, narrowed := true }
def FnExactEndInsideUptoSaid : Prop := fnExactEndInsideUptoRow.holds Try.pinned (OpenSpec.upto fnExactEndInsideSpec)

/-- 'laws.FnExactEndOutside', WHERE WHAT IT READS IS OF BULK AT MOST 1048576: true; the input reads as it did. -/
def fnExactEndOutsideUptoRow : OpenClaim := { program := "ytpnjeoikojkegaa", sum := "00a1d6c619384cb6fb56a9184e515893c7ab53cee75333eef99a98602f976068", func := "loop.example/hatchway/laws.FnExactEndOutside", spec := "fnExactEndOutside", apart := false, narrowed := true }
def FnExactEndOutsideUptoSaid : Prop := fnExactEndOutsideUptoRow.holds Try.pinned (OpenSpec.upto fnExactEndOutsideSpec)

/-- 'laws.FnExactEndOk', WHERE WHAT IT READS IS OF BULK AT MOST 1048576: true; the input reads as it did. -/
def fnExactEndOkUptoRow : OpenClaim := { program := "ytpnjeoikojkegaa", sum := "00a1d6c619384cb6fb56a9184e515893c7ab53cee75333eef99a98602f976068", func := "loop.example/hatchway/laws.FnExactEndOk", spec := "fnExactEndOk", apart := false, narrowed := true }
def FnExactEndOkUptoSaid : Prop := fnExactEndOkUptoRow.holds Try.pinned (OpenSpec.upto fnExactEndOkSpec)

/-- 'laws.FnExactLinOk', WHERE WHAT IT READS IS OF BULK AT MOST 1048576: true; the input reads as it did. -/
def fnExactLinOkUptoRow : OpenClaim := { program := "ytpnjeoikojkegaa", sum := "00a1d6c619384cb6fb56a9184e515893c7ab53cee75333eef99a98602f976068", func := "loop.example/hatchway/laws.FnExactLinOk", spec := "fnExactLinOk", apart := false, narrowed := true }
def FnExactLinOkUptoSaid : Prop := fnExactLinOkUptoRow.holds Try.pinned (OpenSpec.upto fnExactLinOkSpec)

/-- 'laws.FnExactStrLines', WHERE WHAT IT READS IS OF BULK AT MOST 1048576: true; the input reads as it did. -/
def fnExactStrLinesUptoRow : OpenClaim := { program := "ytpnjeoikojkegaa", sum := "00a1d6c619384cb6fb56a9184e515893c7ab53cee75333eef99a98602f976068", func := "loop.example/hatchway/laws.FnExactStrLines", spec := "fnExactStrLines", inPlace := ["internal/bytealg.IndexByteString", "internal/bytealg.IndexString"], unfollowed := true, recurses := true, named := ["internal/bytealg.MaxLen"], apart := false, narrowed := true }
def FnExactStrLinesUptoSaid : Prop := fnExactStrLinesUptoRow.holds Try.pinned (OpenSpec.upto fnExactStrLinesSpec)

/-- 'laws.FnExactStrOk', WHERE WHAT IT READS IS OF BULK AT MOST 1048576: true; the input reads as it did. -/
def fnExactStrOkUptoRow : OpenClaim := { program := "ytpnjeoikojkegaa", sum := "00a1d6c619384cb6fb56a9184e515893c7ab53cee75333eef99a98602f976068", func := "loop.example/hatchway/laws.FnExactStrOk", spec := "fnExactStrOk", inPlace := ["internal/bytealg.IndexByteString", "internal/bytealg.IndexString"], unfollowed := true, recurses := true, named := ["internal/bytealg.MaxLen"], apart := false, narrowed := true }
def FnExactStrOkUptoSaid : Prop := fnExactStrOkUptoRow.holds Try.pinned (OpenSpec.upto fnExactStrOkSpec)

end Rows
end Go.Proofs.Ytpnjeoikojkegaa

/-
  NARROWER THAN 'FOR EVERY INPUT', by the rows' own cells (each row's printed sentence says how): FnSegBytes: ifaces, laid · FnSegRead: ifaces, laid.
  DERIVED. THE GIVEN ROWS OF THIS SEAT. 2 by the template 'for every input the law returns true; each argument reads behind the call as it read before'; 0 by the template 'total and deterministic' (their statements: YtpaodaakoneglaaDoorTotals.lean).
  GIVEN WITH THE SEED: the statements are not yours to turn. If you find one false, say at which input.
  Laid BY PROGRAM, IN A SANDBOX (cutbox-rows.mjs): the forced cells as the released guide's own fill.sh prints them over the translation 11ae2bb742fdb4a1… (all of the seat's roots in one cut). By AI agents, Wed Nov 11 2026. No macro, syntax, notation, axiom, sorry.
-/
import Derived.Test.YtpaodaakoneglaaDoorChecked
import GoSem.Claim
import GoSem.ClaimJoined
import GoSem.ClaimMapViews
import Derived.JoinedTies
import Derived.KernelRfl
namespace Go.Proofs.YtpaodaakoneglaaDoor
/- THE CELL 'sum', in the pinned program and in every row, IS THE sha256 OF THE DUMP (.gsa) THAT YtpaodaakoneglaaDoorProg.lean LOADS. Nothing in Lean hashes anything: it is a label: what it is worth is what the hold of that sum in a sandbox is worth. -/
noncomputable def Tryd.pinned : Pinned := { name := "ytpaodaakoneglaadoor", sum := "11ae2bb742fdb4a1d86ce6bcaa9d823ad6ef989126ad4474915cb714cfc9b8bb", checked := Tryd.checked }
namespace Rows
def none {H : Type} : Left H := { results := [], args := [] }

/- WHAT THE LISTED PACKAGE-LEVEL VARIABLES READ AS WHEN THE CALL BEGINS. Each datum BY PROGRAM (the guide's laid-datum.mjs) off the statement by which the dump's own 'gosem.cut.vars' lays the variable. In a bare row this is a premise. The card (YtpaodaakoneglaaDoorCards.lean) ties it to the program's text. -/
def laid_loop_example_hatchway_impl_errTooFew {H : Type} : DataW H := .iface "*errors.errorString" (.ptr (.agg [.lit (.string [102, 101, 119, 101, 114, 32, 98, 121, 116, 101, 115, 32, 116, 104, 97, 110, 32, 116, 104, 101, 114, 101, 32, 109, 117, 115, 116, 32, 98, 101])]))
def laid_loop_example_hatchway_impl_errTooMany {H : Type} : DataW H := .iface "*errors.errorString" (.ptr (.agg [.lit (.string [98, 121, 116, 101, 115, 32, 98, 101, 104, 105, 110, 100, 32, 116, 104, 101, 32, 108, 97, 115, 116, 32, 111, 110, 101])]))
def laid_loop_example_hatchway_impl_errSum {H : Type} : DataW H := .iface "*errors.errorString" (.ptr (.agg [.lit (.string [97, 110, 111, 116, 104, 101, 114, 32, 115, 117, 109, 32, 116, 104, 97, 110, 32, 116, 104, 97, 116, 32, 111, 102, 32, 116, 104, 101, 32, 98, 121, 116, 101, 115])]))
def laid_loop_example_hatchway_impl_errNoSeg {H : Type} : DataW H := .iface "*errors.errorString" (.ptr (.agg [.lit (.string [110, 111, 32, 115, 101, 103, 109, 101, 110, 116])]))

/-- 'laws.FnSegBytes': WHATEVER THE INPUT: true; the input reads as it did. -/
def fnSegBytesSpec : ChangeSpec := { name := "fnSegBytes", vars := ["loop.example/hatchway/impl.errSum", "loop.example/hatchway/impl.errTooMany", "loop.example/hatchway/impl.errNoSeg", "loop.example/hatchway/impl.errTooFew"], fn := fun _ => fun
  | [d1, d2, g1, g2, g3, g4] => { results := [.lit (.bool true)], args := [d1, d2], vars := [g1, g2, g3, g4] }
  | _ => none }
def fnSegBytesRow : OpenClaim := { program := "ytpaodaakoneglaadoor", sum := "11ae2bb742fdb4a1d86ce6bcaa9d823ad6ef989126ad4474915cb714cfc9b8bb", func := "loop.example/hatchway/laws.FnSegBytes", spec := "fnSegBytes", inPlace := ["internal/bytealg.IndexByteString", "internal/bytealg.IndexString"], unfollowed := true, recurses := true, named := ["internal/bytealg.MaxLen", "loop.example/hatchway/impl.errSum", "loop.example/hatchway/impl.errTooMany", "loop.example/hatchway/impl.errNoSeg", "loop.example/hatchway/impl.errTooFew"], ifaces := true, apart := false, laid := [("loop.example/hatchway/impl.errTooFew", laid_loop_example_hatchway_impl_errTooFew), ("loop.example/hatchway/impl.errTooMany", laid_loop_example_hatchway_impl_errTooMany), ("loop.example/hatchway/impl.errSum", laid_loop_example_hatchway_impl_errSum), ("loop.example/hatchway/impl.errNoSeg", laid_loop_example_hatchway_impl_errNoSeg)] }
def FnSegBytesSaid : Prop := fnSegBytesRow.holds Tryd.pinned (OpenSpec.ofChange fnSegBytesSpec)

/-- ITS FALSE NEIGHBOUR: 'it returns false'. Refute it at one input. -/
def fnSegBytesWrong : ChangeSpec := { name := "fnSegBytes", vars := ["loop.example/hatchway/impl.errSum", "loop.example/hatchway/impl.errTooMany", "loop.example/hatchway/impl.errNoSeg", "loop.example/hatchway/impl.errTooFew"], fn := fun _ => fun
  | [d1, d2, g1, g2, g3, g4] => { results := [.lit (.bool false)], args := [d1, d2], vars := [g1, g2, g3, g4] }
  | _ => none }
def FnSegBytesWrongFalsely : Prop := fnSegBytesRow.holds Tryd.pinned (OpenSpec.ofChange fnSegBytesWrong)

/-- 'laws.FnSegRead': WHATEVER THE INPUT: true; the input reads as it did. -/
def fnSegReadSpec : ChangeSpec := { name := "fnSegRead", vars := ["loop.example/hatchway/impl.errSum", "loop.example/hatchway/impl.errTooMany", "loop.example/hatchway/impl.errNoSeg", "loop.example/hatchway/impl.errTooFew"], fn := fun _ => fun
  | [d, g1, g2, g3, g4] => { results := [.lit (.bool true)], args := [d], vars := [g1, g2, g3, g4] }
  | _ => none }
def fnSegReadRow : OpenClaim := { program := "ytpaodaakoneglaadoor", sum := "11ae2bb742fdb4a1d86ce6bcaa9d823ad6ef989126ad4474915cb714cfc9b8bb", func := "loop.example/hatchway/laws.FnSegRead", spec := "fnSegRead", inPlace := ["internal/bytealg.IndexByteString", "internal/bytealg.IndexString"], unfollowed := true, recurses := true, named := ["loop.example/hatchway/impl.errSum", "loop.example/hatchway/impl.errTooMany", "loop.example/hatchway/impl.errNoSeg", "loop.example/hatchway/impl.errTooFew", "internal/bytealg.MaxLen"], ifaces := true, apart := false, laid := [("loop.example/hatchway/impl.errTooFew", laid_loop_example_hatchway_impl_errTooFew), ("loop.example/hatchway/impl.errTooMany", laid_loop_example_hatchway_impl_errTooMany), ("loop.example/hatchway/impl.errSum", laid_loop_example_hatchway_impl_errSum), ("loop.example/hatchway/impl.errNoSeg", laid_loop_example_hatchway_impl_errNoSeg)] }
def FnSegReadSaid : Prop := fnSegReadRow.holds Tryd.pinned (OpenSpec.ofChange fnSegReadSpec)

/-- ITS FALSE NEIGHBOUR: 'it returns false'. Refute it at one input. -/
def fnSegReadWrong : ChangeSpec := { name := "fnSegRead", vars := ["loop.example/hatchway/impl.errSum", "loop.example/hatchway/impl.errTooMany", "loop.example/hatchway/impl.errNoSeg", "loop.example/hatchway/impl.errTooFew"], fn := fun _ => fun
  | [d, g1, g2, g3, g4] => { results := [.lit (.bool false)], args := [d], vars := [g1, g2, g3, g4] }
  | _ => none }
def FnSegReadWrongFalsely : Prop := fnSegReadRow.holds Tryd.pinned (OpenSpec.ofChange fnSegReadWrong)

/- THE SECOND FORM. 'bulk': how many values and letters a reading holds, each counted each time it is reached (what is shared counts as often as it is met; a slice's spare places count too). A statement '..UptoSaid' is the law's where the arguments, and the package variables that the reading takes, are together of bulk at most 1048576: NARROWER than '..Said'. Prove '..Said' where nothing that the law and all that it calls make is longer than what came in: it says more and counts as full. Else prove '..UptoSaid'. A law counts once. -/
mutual
def uptoBulk {H : Type} : DataW H → Nat
  | .lit (.string bytes) => bytes.length + 1
  | .lit _ => 1
  | .nil => 1
  | .ptr d => uptoBulk d + 1
  | .slice elems spare => uptoBulkAll elems + uptoBulkAll spare + 1
  | .agg parts => uptoBulkAll parts + 1
  | .iface _ d => uptoBulk d + 1
  | .map entries => uptoBulkEntries entries + 1
  | .held _ => 1
def uptoBulkAll {H : Type} : List (DataW H) → Nat
  | [] => 0
  | d :: r => uptoBulk d + uptoBulkAll r
def uptoBulkEntries {H : Type} : List (Lit × DataW H) → Nat
  | [] => 0
  | x :: r => uptoBulkEntry x + uptoBulkEntries r
def uptoBulkEntry {H : Type} : Lit × DataW H → Nat
  | (.string bytes, d) => bytes.length + uptoBulk d + 1
  | (_, d) => uptoBulk d + 1
 end
def uptoSmall : (H : Type) → List (DataW H) → Bool := fun _ ds => decide (uptoBulkAll ds ≤ 1048576)
def OpenSpec.upto (s : _root_.Go.ChangeSpec) : _root_.Go.OpenSpec := { _root_.Go.OpenSpec.ofChange s with cond := some uptoSmall }

/-- 'laws.FnSegBytes', WHERE WHAT IT READS IS OF BULK AT MOST 1048576: true; the input reads as it did. -/
def fnSegBytesUptoRow : OpenClaim := { program := "ytpaodaakoneglaadoor", sum := "11ae2bb742fdb4a1d86ce6bcaa9d823ad6ef989126ad4474915cb714cfc9b8bb", func := "loop.example/hatchway/laws.FnSegBytes", spec := "fnSegBytes", inPlace := ["internal/bytealg.IndexByteString", "internal/bytealg.IndexString"], unfollowed := true, recurses := true, named := ["internal/bytealg.MaxLen", "loop.example/hatchway/impl.errSum", "loop.example/hatchway/impl.errTooMany", "loop.example/hatchway/impl.errNoSeg", "loop.example/hatchway/impl.errTooFew"], ifaces := true, apart := false, laid := [("loop.example/hatchway/impl.errTooFew", laid_loop_example_hatchway_impl_errTooFew), ("loop.example/hatchway/impl.errTooMany", laid_loop_example_hatchway_impl_errTooMany), ("loop.example/hatchway/impl.errSum", laid_loop_example_hatchway_impl_errSum), ("loop.example/hatchway/impl.errNoSeg", laid_loop_example_hatchway_impl_errNoSeg)], narrowed := true }
def FnSegBytesUptoSaid : Prop := fnSegBytesUptoRow.holds Tryd.pinned (OpenSpec.upto fnSegBytesSpec)

/-- 'laws.FnSegRead', WHERE WHAT IT READS IS OF BULK AT MOST 1048576: true; the input reads as it did. -/
def fnSegReadUptoRow : OpenClaim := { program := "ytpaodaakoneglaadoor", sum := "11ae2bb742fdb4a1d86ce6bcaa9d823ad6ef989126ad4474915cb714cfc9b8bb", func := "loop.example/hatchway/laws.FnSegRead", spec := "fnSegRead", inPlace := ["internal/bytealg.IndexByteString", "internal/bytealg.IndexString"], unfollowed := true, recurses := true, named := ["loop.example/hatchway/impl.errSum", "loop.example/hatchway/impl.errTooMany", "loop.example/hatchway/impl.errNoSeg", "loop.example/hatchway/impl.errTooFew", "internal/bytealg.MaxLen"], ifaces := true, apart := false, laid := [("loop.example/hatchway/impl.errTooFew", laid_loop_example_hatchway_impl_errTooFew), ("loop.example/hatchway/impl.errTooMany", laid_loop_example_hatchway_impl_errTooMany), ("loop.example/hatchway/impl.errSum", laid_loop_example_hatchway_impl_errSum), ("loop.example/hatchway/impl.errNoSeg", laid_loop_example_hatchway_impl_errNoSeg)], narrowed := true }
def FnSegReadUptoSaid : Prop := fnSegReadUptoRow.holds Tryd.pinned (OpenSpec.upto fnSegReadSpec)

end Rows
end Go.Proofs.YtpaodaakoneglaaDoor

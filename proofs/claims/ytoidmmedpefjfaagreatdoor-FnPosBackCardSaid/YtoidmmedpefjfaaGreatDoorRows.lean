/-
  NARROWER THAN 'FOR EVERY INPUT', by the rows' own cells (each row's printed sentence says how): FnRwrLine: ifaces, laid · FnRwrStream: ifaces, laid · FnPosSpans: ifaces, laid · FnPosOut: ifaces, laid · FnPosBack: ifaces, laid · FnBakLine: ifaces, laid · FnBakRwr: ifaces, laid · FnPosPlain: ifaces, laid · FnRwrRoom: ifaces, laid · FnPosLine: ifaces, laid.
  DERIVED. THE GIVEN ROWS OF THIS SEAT. 10 by the template 'for every input the law returns true; each argument reads behind the call as it read before'; 0 by the template 'total and deterministic' (their statements: YtoidmmedpefjfaaGreatDoorTotals.lean).
  GIVEN WITH THE SEED: the statements are not yours to turn. If you find one false, say at which input.
  Laid BY PROGRAM, IN A SANDBOX (cutbox-rows.mjs): the forced cells as the released guide's own fill.sh prints them over the translation db04c80e8c0667da… (all of the seat's roots in one cut). By AI agents, Wed Nov 11 2026. No macro, syntax, notation, axiom, sorry.
-/
import Derived.Test.YtoidmmedpefjfaaGreatDoorChecked
import GoSem.Claim
import GoSem.ClaimJoined
import GoSem.ClaimMapViews
import Derived.JoinedTies
import Derived.KernelRfl
namespace Go.Proofs.YtoidmmedpefjfaaGreatDoor
/- THE CELL 'sum', in the pinned program and in every row, IS THE sha256 OF THE DUMP (.gsa) THAT YtoidmmedpefjfaaGreatDoorProg.lean LOADS. Nothing in Lean hashes anything: it is a label: what it is worth is what the hold of that sum in a sandbox is worth. -/
noncomputable def Tryz.pinned : Pinned := { name := "ytoidmmedpefjfaagreatdoor", sum := "db04c80e8c0667dab0241cda8a4716080275695089e0ef9037ba8612ecffd4ea", checked := Tryz.checked }
namespace Rows
def none {H : Type} : Left H := { results := [], args := [] }

/- WHAT THE LISTED PACKAGE-LEVEL VARIABLES READ AS WHEN THE CALL BEGINS. Each datum BY PROGRAM (the guide's laid-datum.mjs) off the statement by which the dump's own 'gosem.cut.vars' lays the variable. In a bare row this is a premise. The card (YtoidmmedpefjfaaGreatDoorCards.lean) ties it to the program's text. -/
def laid_math_bits_deBruijn32tab {H : Type} : DataW H := .agg [.lit (.int .u8 0), .lit (.int .u8 1), .lit (.int .u8 28), .lit (.int .u8 2), .lit (.int .u8 29), .lit (.int .u8 14), .lit (.int .u8 24), .lit (.int .u8 3), .lit (.int .u8 30), .lit (.int .u8 22), .lit (.int .u8 20), .lit (.int .u8 15), .lit (.int .u8 25), .lit (.int .u8 17), .lit (.int .u8 4), .lit (.int .u8 8), .lit (.int .u8 31), .lit (.int .u8 27), .lit (.int .u8 13), .lit (.int .u8 23), .lit (.int .u8 21), .lit (.int .u8 19), .lit (.int .u8 16), .lit (.int .u8 7), .lit (.int .u8 26), .lit (.int .u8 12), .lit (.int .u8 18), .lit (.int .u8 6), .lit (.int .u8 11), .lit (.int .u8 5), .lit (.int .u8 10), .lit (.int .u8 9)]
def laid_math_bits_deBruijn64tab {H : Type} : DataW H := .agg [.lit (.int .u8 0), .lit (.int .u8 1), .lit (.int .u8 56), .lit (.int .u8 2), .lit (.int .u8 57), .lit (.int .u8 49), .lit (.int .u8 28), .lit (.int .u8 3), .lit (.int .u8 61), .lit (.int .u8 58), .lit (.int .u8 42), .lit (.int .u8 50), .lit (.int .u8 38), .lit (.int .u8 29), .lit (.int .u8 17), .lit (.int .u8 4), .lit (.int .u8 62), .lit (.int .u8 47), .lit (.int .u8 59), .lit (.int .u8 36), .lit (.int .u8 45), .lit (.int .u8 43), .lit (.int .u8 51), .lit (.int .u8 22), .lit (.int .u8 53), .lit (.int .u8 39), .lit (.int .u8 33), .lit (.int .u8 30), .lit (.int .u8 24), .lit (.int .u8 18), .lit (.int .u8 12), .lit (.int .u8 5), .lit (.int .u8 63), .lit (.int .u8 55), .lit (.int .u8 48), .lit (.int .u8 27), .lit (.int .u8 60), .lit (.int .u8 41), .lit (.int .u8 37), .lit (.int .u8 16), .lit (.int .u8 46), .lit (.int .u8 35), .lit (.int .u8 44), .lit (.int .u8 21), .lit (.int .u8 52), .lit (.int .u8 32), .lit (.int .u8 23), .lit (.int .u8 11), .lit (.int .u8 54), .lit (.int .u8 26), .lit (.int .u8 40), .lit (.int .u8 15), .lit (.int .u8 34), .lit (.int .u8 20), .lit (.int .u8 31), .lit (.int .u8 10), .lit (.int .u8 25), .lit (.int .u8 14), .lit (.int .u8 19), .lit (.int .u8 9), .lit (.int .u8 13), .lit (.int .u8 8), .lit (.int .u8 7), .lit (.int .u8 6)]
def laid_internal_strconv_uint64pow10 {H : Type} : DataW H := .agg [.lit (.int .u64 1), .lit (.int .u64 10), .lit (.int .u64 100), .lit (.int .u64 1000), .lit (.int .u64 10000), .lit (.int .u64 100000), .lit (.int .u64 1000000), .lit (.int .u64 10000000), .lit (.int .u64 100000000), .lit (.int .u64 1000000000), .lit (.int .u64 10000000000), .lit (.int .u64 100000000000), .lit (.int .u64 1000000000000), .lit (.int .u64 10000000000000), .lit (.int .u64 100000000000000), .lit (.int .u64 1000000000000000), .lit (.int .u64 10000000000000000), .lit (.int .u64 100000000000000000), .lit (.int .u64 1000000000000000000), .lit (.int .u64 10000000000000000000)]
def laid_strconv_ErrRange {H : Type} : DataW H := .iface "*errors.errorString" (.ptr (.agg [.lit (.string [118, 97, 108, 117, 101, 32, 111, 117, 116, 32, 111, 102, 32, 114, 97, 110, 103, 101])]))
def laid_strconv_ErrSyntax {H : Type} : DataW H := .iface "*errors.errorString" (.ptr (.agg [.lit (.string [105, 110, 118, 97, 108, 105, 100, 32, 115, 121, 110, 116, 97, 120])]))
def laid_loop_example_hatchway_impl_errNoNumber {H : Type} : DataW H := .iface "*errors.errorString" (.ptr (.agg [.lit (.string [110, 111, 32, 110, 117, 109, 98, 101, 114, 32, 97, 115, 32, 105, 116, 32, 105, 115, 32, 119, 114, 105, 116, 116, 101, 110])]))
def laid_loop_example_hatchway_impl_errNoEnd {H : Type} : DataW H := .iface "*errors.errorString" (.ptr (.agg [.lit (.string [110, 111, 32, 101, 110, 100])]))

/-- 'laws.FnRwrLine': WHATEVER THE INPUT: true; the input reads as it did. -/
def fnRwrLineSpec : ChangeSpec := { name := "fnRwrLine", vars := ["loop.example/hatchway/impl.errNoEnd", "loop.example/hatchway/impl.errNoNumber"], fn := fun _ => fun
  | [d, g1, g2] => { results := [.lit (.bool true)], args := [d], vars := [g1, g2] }
  | _ => none }
def fnRwrLineRow : OpenClaim := { program := "ytoidmmedpefjfaagreatdoor", sum := "db04c80e8c0667dab0241cda8a4716080275695089e0ef9037ba8612ecffd4ea", func := "loop.example/hatchway/laws.FnRwrLine", spec := "fnRwrLine", inPlace := ["internal/bytealg.IndexByteString", "internal/bytealg.IndexString"], named := ["loop.example/hatchway/impl.errNoEnd", "internal/bytealg.MaxLen", "loop.example/hatchway/impl.errNoNumber", "strconv.ErrSyntax", "strconv.ErrRange", "internal/strconv.uint64pow10", "math/bits.deBruijn32tab", "math/bits.deBruijn64tab"], ifaces := true, plainKeys := false, apart := false, laid := [("math/bits.deBruijn32tab", laid_math_bits_deBruijn32tab), ("math/bits.deBruijn64tab", laid_math_bits_deBruijn64tab), ("internal/strconv.uint64pow10", laid_internal_strconv_uint64pow10), ("strconv.ErrRange", laid_strconv_ErrRange), ("strconv.ErrSyntax", laid_strconv_ErrSyntax), ("loop.example/hatchway/impl.errNoNumber", laid_loop_example_hatchway_impl_errNoNumber), ("loop.example/hatchway/impl.errNoEnd", laid_loop_example_hatchway_impl_errNoEnd)] }
def FnRwrLineSaid : Prop := fnRwrLineRow.holds Tryz.pinned (OpenSpec.ofChange fnRwrLineSpec)

/-- ITS FALSE NEIGHBOUR: 'it returns false'. Refute it at one input. -/
def fnRwrLineWrong : ChangeSpec := { name := "fnRwrLine", vars := ["loop.example/hatchway/impl.errNoEnd", "loop.example/hatchway/impl.errNoNumber"], fn := fun _ => fun
  | [d, g1, g2] => { results := [.lit (.bool false)], args := [d], vars := [g1, g2] }
  | _ => none }
def FnRwrLineWrongFalsely : Prop := fnRwrLineRow.holds Tryz.pinned (OpenSpec.ofChange fnRwrLineWrong)

/-- 'laws.FnRwrStream': WHATEVER THE INPUT: true; the input reads as it did. -/
def fnRwrStreamSpec : ChangeSpec := { name := "fnRwrStream", vars := ["loop.example/hatchway/impl.errNoEnd", "loop.example/hatchway/impl.errNoNumber"], fn := fun _ => fun
  | [d, g1, g2] => { results := [.lit (.bool true)], args := [d], vars := [g1, g2] }
  | _ => none }
def fnRwrStreamRow : OpenClaim := { program := "ytoidmmedpefjfaagreatdoor", sum := "db04c80e8c0667dab0241cda8a4716080275695089e0ef9037ba8612ecffd4ea", func := "loop.example/hatchway/laws.FnRwrStream", spec := "fnRwrStream", inPlace := ["internal/bytealg.IndexByteString", "internal/bytealg.IndexString", "internal/abi.NoEscape"], unfollowed := true, recurses := true, named := ["internal/bytealg.MaxLen", "loop.example/hatchway/impl.errNoEnd", "loop.example/hatchway/impl.errNoNumber", "strconv.ErrSyntax", "strconv.ErrRange", "internal/strconv.uint64pow10", "math/bits.deBruijn32tab", "math/bits.deBruijn64tab"], ifaces := true, plainKeys := false, apart := false, laid := [("math/bits.deBruijn32tab", laid_math_bits_deBruijn32tab), ("math/bits.deBruijn64tab", laid_math_bits_deBruijn64tab), ("internal/strconv.uint64pow10", laid_internal_strconv_uint64pow10), ("strconv.ErrRange", laid_strconv_ErrRange), ("strconv.ErrSyntax", laid_strconv_ErrSyntax), ("loop.example/hatchway/impl.errNoNumber", laid_loop_example_hatchway_impl_errNoNumber), ("loop.example/hatchway/impl.errNoEnd", laid_loop_example_hatchway_impl_errNoEnd)] }
def FnRwrStreamSaid : Prop := fnRwrStreamRow.holds Tryz.pinned (OpenSpec.ofChange fnRwrStreamSpec)

/-- ITS FALSE NEIGHBOUR: 'it returns false'. Refute it at one input. -/
def fnRwrStreamWrong : ChangeSpec := { name := "fnRwrStream", vars := ["loop.example/hatchway/impl.errNoEnd", "loop.example/hatchway/impl.errNoNumber"], fn := fun _ => fun
  | [d, g1, g2] => { results := [.lit (.bool false)], args := [d], vars := [g1, g2] }
  | _ => none }
def FnRwrStreamWrongFalsely : Prop := fnRwrStreamRow.holds Tryz.pinned (OpenSpec.ofChange fnRwrStreamWrong)

/-- 'laws.FnPosSpans': WHATEVER THE INPUT: true; the input reads as it did. -/
def fnPosSpansSpec : ChangeSpec := { name := "fnPosSpans", vars := ["loop.example/hatchway/impl.errNoEnd", "loop.example/hatchway/impl.errNoNumber"], fn := fun _ => fun
  | [d, g1, g2] => { results := [.lit (.bool true)], args := [d], vars := [g1, g2] }
  | _ => none }
def fnPosSpansRow : OpenClaim := { program := "ytoidmmedpefjfaagreatdoor", sum := "db04c80e8c0667dab0241cda8a4716080275695089e0ef9037ba8612ecffd4ea", func := "loop.example/hatchway/laws.FnPosSpans", spec := "fnPosSpans", inPlace := ["internal/bytealg.IndexByteString", "internal/bytealg.IndexString", "internal/abi.NoEscape"], unfollowed := true, recurses := true, named := ["internal/bytealg.MaxLen", "loop.example/hatchway/impl.errNoEnd", "loop.example/hatchway/impl.errNoNumber", "strconv.ErrSyntax", "strconv.ErrRange", "internal/strconv.uint64pow10", "math/bits.deBruijn32tab", "math/bits.deBruijn64tab"], ifaces := true, plainKeys := false, apart := false, laid := [("math/bits.deBruijn32tab", laid_math_bits_deBruijn32tab), ("math/bits.deBruijn64tab", laid_math_bits_deBruijn64tab), ("internal/strconv.uint64pow10", laid_internal_strconv_uint64pow10), ("strconv.ErrRange", laid_strconv_ErrRange), ("strconv.ErrSyntax", laid_strconv_ErrSyntax), ("loop.example/hatchway/impl.errNoNumber", laid_loop_example_hatchway_impl_errNoNumber), ("loop.example/hatchway/impl.errNoEnd", laid_loop_example_hatchway_impl_errNoEnd)] }
def FnPosSpansSaid : Prop := fnPosSpansRow.holds Tryz.pinned (OpenSpec.ofChange fnPosSpansSpec)

/-- ITS FALSE NEIGHBOUR: 'it returns false'. Refute it at one input. -/
def fnPosSpansWrong : ChangeSpec := { name := "fnPosSpans", vars := ["loop.example/hatchway/impl.errNoEnd", "loop.example/hatchway/impl.errNoNumber"], fn := fun _ => fun
  | [d, g1, g2] => { results := [.lit (.bool false)], args := [d], vars := [g1, g2] }
  | _ => none }
def FnPosSpansWrongFalsely : Prop := fnPosSpansRow.holds Tryz.pinned (OpenSpec.ofChange fnPosSpansWrong)

/-- 'laws.FnPosOut': WHATEVER THE INPUT: true; the input reads as it did. -/
def fnPosOutSpec : ChangeSpec := { name := "fnPosOut", vars := ["loop.example/hatchway/impl.errNoEnd", "loop.example/hatchway/impl.errNoNumber"], fn := fun _ => fun
  | [d, g1, g2] => { results := [.lit (.bool true)], args := [d], vars := [g1, g2] }
  | _ => none }
def fnPosOutRow : OpenClaim := { program := "ytoidmmedpefjfaagreatdoor", sum := "db04c80e8c0667dab0241cda8a4716080275695089e0ef9037ba8612ecffd4ea", func := "loop.example/hatchway/laws.FnPosOut", spec := "fnPosOut", inPlace := ["internal/bytealg.IndexByteString", "internal/bytealg.IndexString", "internal/abi.NoEscape"], unfollowed := true, recurses := true, named := ["internal/bytealg.MaxLen", "loop.example/hatchway/impl.errNoEnd", "loop.example/hatchway/impl.errNoNumber", "strconv.ErrSyntax", "strconv.ErrRange", "internal/strconv.uint64pow10", "math/bits.deBruijn32tab", "math/bits.deBruijn64tab"], ifaces := true, plainKeys := false, apart := false, laid := [("math/bits.deBruijn32tab", laid_math_bits_deBruijn32tab), ("math/bits.deBruijn64tab", laid_math_bits_deBruijn64tab), ("internal/strconv.uint64pow10", laid_internal_strconv_uint64pow10), ("strconv.ErrRange", laid_strconv_ErrRange), ("strconv.ErrSyntax", laid_strconv_ErrSyntax), ("loop.example/hatchway/impl.errNoNumber", laid_loop_example_hatchway_impl_errNoNumber), ("loop.example/hatchway/impl.errNoEnd", laid_loop_example_hatchway_impl_errNoEnd)] }
def FnPosOutSaid : Prop := fnPosOutRow.holds Tryz.pinned (OpenSpec.ofChange fnPosOutSpec)

/-- ITS FALSE NEIGHBOUR: 'it returns false'. Refute it at one input. -/
def fnPosOutWrong : ChangeSpec := { name := "fnPosOut", vars := ["loop.example/hatchway/impl.errNoEnd", "loop.example/hatchway/impl.errNoNumber"], fn := fun _ => fun
  | [d, g1, g2] => { results := [.lit (.bool false)], args := [d], vars := [g1, g2] }
  | _ => none }
def FnPosOutWrongFalsely : Prop := fnPosOutRow.holds Tryz.pinned (OpenSpec.ofChange fnPosOutWrong)

/-- 'laws.FnPosBack': WHATEVER THE INPUT: true; the input reads as it did. -/
def fnPosBackSpec : ChangeSpec := { name := "fnPosBack", vars := ["loop.example/hatchway/impl.errNoEnd", "loop.example/hatchway/impl.errNoNumber"], fn := fun _ => fun
  | [d, g1, g2] => { results := [.lit (.bool true)], args := [d], vars := [g1, g2] }
  | _ => none }
def fnPosBackRow : OpenClaim := { program := "ytoidmmedpefjfaagreatdoor", sum := "db04c80e8c0667dab0241cda8a4716080275695089e0ef9037ba8612ecffd4ea", func := "loop.example/hatchway/laws.FnPosBack", spec := "fnPosBack", inPlace := ["internal/bytealg.IndexByteString", "internal/bytealg.IndexString", "internal/abi.NoEscape"], unfollowed := true, recurses := true, named := ["internal/bytealg.MaxLen", "loop.example/hatchway/impl.errNoEnd", "loop.example/hatchway/impl.errNoNumber", "strconv.ErrSyntax", "strconv.ErrRange", "internal/strconv.uint64pow10", "math/bits.deBruijn32tab", "math/bits.deBruijn64tab"], ifaces := true, plainKeys := false, apart := false, laid := [("math/bits.deBruijn32tab", laid_math_bits_deBruijn32tab), ("math/bits.deBruijn64tab", laid_math_bits_deBruijn64tab), ("internal/strconv.uint64pow10", laid_internal_strconv_uint64pow10), ("strconv.ErrRange", laid_strconv_ErrRange), ("strconv.ErrSyntax", laid_strconv_ErrSyntax), ("loop.example/hatchway/impl.errNoNumber", laid_loop_example_hatchway_impl_errNoNumber), ("loop.example/hatchway/impl.errNoEnd", laid_loop_example_hatchway_impl_errNoEnd)] }
def FnPosBackSaid : Prop := fnPosBackRow.holds Tryz.pinned (OpenSpec.ofChange fnPosBackSpec)

/-- ITS FALSE NEIGHBOUR: 'it returns false'. Refute it at one input. -/
def fnPosBackWrong : ChangeSpec := { name := "fnPosBack", vars := ["loop.example/hatchway/impl.errNoEnd", "loop.example/hatchway/impl.errNoNumber"], fn := fun _ => fun
  | [d, g1, g2] => { results := [.lit (.bool false)], args := [d], vars := [g1, g2] }
  | _ => none }
def FnPosBackWrongFalsely : Prop := fnPosBackRow.holds Tryz.pinned (OpenSpec.ofChange fnPosBackWrong)

/-- 'laws.FnBakLine': WHATEVER THE INPUT: true; the input reads as it did. -/
def fnBakLineSpec : ChangeSpec := { name := "fnBakLine", vars := ["loop.example/hatchway/impl.errNoEnd", "loop.example/hatchway/impl.errNoNumber"], fn := fun _ => fun
  | [d, g1, g2] => { results := [.lit (.bool true)], args := [d], vars := [g1, g2] }
  | _ => none }
def fnBakLineRow : OpenClaim := { program := "ytoidmmedpefjfaagreatdoor", sum := "db04c80e8c0667dab0241cda8a4716080275695089e0ef9037ba8612ecffd4ea", func := "loop.example/hatchway/laws.FnBakLine", spec := "fnBakLine", inPlace := ["internal/bytealg.IndexByteString", "internal/bytealg.IndexString"], named := ["loop.example/hatchway/impl.errNoEnd", "internal/bytealg.MaxLen", "loop.example/hatchway/impl.errNoNumber", "strconv.ErrSyntax", "strconv.ErrRange", "internal/strconv.uint64pow10", "math/bits.deBruijn32tab", "math/bits.deBruijn64tab"], ifaces := true, plainKeys := false, apart := false, laid := [("math/bits.deBruijn32tab", laid_math_bits_deBruijn32tab), ("math/bits.deBruijn64tab", laid_math_bits_deBruijn64tab), ("internal/strconv.uint64pow10", laid_internal_strconv_uint64pow10), ("strconv.ErrRange", laid_strconv_ErrRange), ("strconv.ErrSyntax", laid_strconv_ErrSyntax), ("loop.example/hatchway/impl.errNoNumber", laid_loop_example_hatchway_impl_errNoNumber), ("loop.example/hatchway/impl.errNoEnd", laid_loop_example_hatchway_impl_errNoEnd)] }
def FnBakLineSaid : Prop := fnBakLineRow.holds Tryz.pinned (OpenSpec.ofChange fnBakLineSpec)

/-- ITS FALSE NEIGHBOUR: 'it returns false'. Refute it at one input. -/
def fnBakLineWrong : ChangeSpec := { name := "fnBakLine", vars := ["loop.example/hatchway/impl.errNoEnd", "loop.example/hatchway/impl.errNoNumber"], fn := fun _ => fun
  | [d, g1, g2] => { results := [.lit (.bool false)], args := [d], vars := [g1, g2] }
  | _ => none }
def FnBakLineWrongFalsely : Prop := fnBakLineRow.holds Tryz.pinned (OpenSpec.ofChange fnBakLineWrong)

/-- 'laws.FnBakRwr': WHATEVER THE INPUT: true; the input reads as it did. -/
def fnBakRwrSpec : ChangeSpec := { name := "fnBakRwr", vars := ["loop.example/hatchway/impl.errNoEnd", "loop.example/hatchway/impl.errNoNumber"], fn := fun _ => fun
  | [d1, d2, g1, g2] => { results := [.lit (.bool true)], args := [d1, d2], vars := [g1, g2] }
  | _ => none }
def fnBakRwrRow : OpenClaim := { program := "ytoidmmedpefjfaagreatdoor", sum := "db04c80e8c0667dab0241cda8a4716080275695089e0ef9037ba8612ecffd4ea", func := "loop.example/hatchway/laws.FnBakRwr", spec := "fnBakRwr", inPlace := ["internal/bytealg.IndexByteString", "internal/bytealg.IndexString"], named := ["loop.example/hatchway/impl.errNoEnd", "internal/bytealg.MaxLen", "loop.example/hatchway/impl.errNoNumber", "strconv.ErrSyntax", "strconv.ErrRange", "internal/strconv.uint64pow10", "math/bits.deBruijn32tab", "math/bits.deBruijn64tab"], ifaces := true, plainKeys := false, apart := false, laid := [("math/bits.deBruijn32tab", laid_math_bits_deBruijn32tab), ("math/bits.deBruijn64tab", laid_math_bits_deBruijn64tab), ("internal/strconv.uint64pow10", laid_internal_strconv_uint64pow10), ("strconv.ErrRange", laid_strconv_ErrRange), ("strconv.ErrSyntax", laid_strconv_ErrSyntax), ("loop.example/hatchway/impl.errNoNumber", laid_loop_example_hatchway_impl_errNoNumber), ("loop.example/hatchway/impl.errNoEnd", laid_loop_example_hatchway_impl_errNoEnd)] }
def FnBakRwrSaid : Prop := fnBakRwrRow.holds Tryz.pinned (OpenSpec.ofChange fnBakRwrSpec)

/-- ITS FALSE NEIGHBOUR: 'it returns false'. Refute it at one input. -/
def fnBakRwrWrong : ChangeSpec := { name := "fnBakRwr", vars := ["loop.example/hatchway/impl.errNoEnd", "loop.example/hatchway/impl.errNoNumber"], fn := fun _ => fun
  | [d1, d2, g1, g2] => { results := [.lit (.bool false)], args := [d1, d2], vars := [g1, g2] }
  | _ => none }
def FnBakRwrWrongFalsely : Prop := fnBakRwrRow.holds Tryz.pinned (OpenSpec.ofChange fnBakRwrWrong)

/-- 'laws.FnPosPlain': WHATEVER THE INPUT: true; the input reads as it did. -/
def fnPosPlainSpec : ChangeSpec := { name := "fnPosPlain", vars := ["loop.example/hatchway/impl.errNoEnd", "loop.example/hatchway/impl.errNoNumber"], fn := fun _ => fun
  | [d, g1, g2] => { results := [.lit (.bool true)], args := [d], vars := [g1, g2] }
  | _ => none }
def fnPosPlainRow : OpenClaim := { program := "ytoidmmedpefjfaagreatdoor", sum := "db04c80e8c0667dab0241cda8a4716080275695089e0ef9037ba8612ecffd4ea", func := "loop.example/hatchway/laws.FnPosPlain", spec := "fnPosPlain", inPlace := ["internal/bytealg.IndexByteString", "internal/bytealg.IndexString", "internal/abi.NoEscape"], unfollowed := true, recurses := true, named := ["internal/bytealg.MaxLen", "loop.example/hatchway/impl.errNoEnd", "loop.example/hatchway/impl.errNoNumber", "strconv.ErrSyntax", "strconv.ErrRange", "internal/strconv.uint64pow10", "math/bits.deBruijn32tab", "math/bits.deBruijn64tab"], ifaces := true, plainKeys := false, apart := false, laid := [("math/bits.deBruijn32tab", laid_math_bits_deBruijn32tab), ("math/bits.deBruijn64tab", laid_math_bits_deBruijn64tab), ("internal/strconv.uint64pow10", laid_internal_strconv_uint64pow10), ("strconv.ErrRange", laid_strconv_ErrRange), ("strconv.ErrSyntax", laid_strconv_ErrSyntax), ("loop.example/hatchway/impl.errNoNumber", laid_loop_example_hatchway_impl_errNoNumber), ("loop.example/hatchway/impl.errNoEnd", laid_loop_example_hatchway_impl_errNoEnd)] }
def FnPosPlainSaid : Prop := fnPosPlainRow.holds Tryz.pinned (OpenSpec.ofChange fnPosPlainSpec)

/-- ITS FALSE NEIGHBOUR: 'it returns false'. Refute it at one input. -/
def fnPosPlainWrong : ChangeSpec := { name := "fnPosPlain", vars := ["loop.example/hatchway/impl.errNoEnd", "loop.example/hatchway/impl.errNoNumber"], fn := fun _ => fun
  | [d, g1, g2] => { results := [.lit (.bool false)], args := [d], vars := [g1, g2] }
  | _ => none }
def FnPosPlainWrongFalsely : Prop := fnPosPlainRow.holds Tryz.pinned (OpenSpec.ofChange fnPosPlainWrong)

/-- 'laws.FnRwrRoom': WHATEVER THE INPUT: true; the input reads as it did. -/
def fnRwrRoomSpec : ChangeSpec := { name := "fnRwrRoom", vars := ["loop.example/hatchway/impl.errNoEnd", "loop.example/hatchway/impl.errNoNumber"], fn := fun _ => fun
  | [d, g1, g2] => { results := [.lit (.bool true)], args := [d], vars := [g1, g2] }
  | _ => none }
def fnRwrRoomRow : OpenClaim := { program := "ytoidmmedpefjfaagreatdoor", sum := "db04c80e8c0667dab0241cda8a4716080275695089e0ef9037ba8612ecffd4ea", func := "loop.example/hatchway/laws.FnRwrRoom", spec := "fnRwrRoom", inPlace := ["internal/bytealg.IndexByteString", "internal/bytealg.IndexString", "internal/abi.NoEscape"], unfollowed := true, recurses := true, named := ["internal/bytealg.MaxLen", "loop.example/hatchway/impl.errNoEnd", "loop.example/hatchway/impl.errNoNumber", "strconv.ErrSyntax", "strconv.ErrRange", "internal/strconv.uint64pow10", "math/bits.deBruijn32tab", "math/bits.deBruijn64tab"], ifaces := true, plainKeys := false, apart := false, laid := [("math/bits.deBruijn32tab", laid_math_bits_deBruijn32tab), ("math/bits.deBruijn64tab", laid_math_bits_deBruijn64tab), ("internal/strconv.uint64pow10", laid_internal_strconv_uint64pow10), ("strconv.ErrRange", laid_strconv_ErrRange), ("strconv.ErrSyntax", laid_strconv_ErrSyntax), ("loop.example/hatchway/impl.errNoNumber", laid_loop_example_hatchway_impl_errNoNumber), ("loop.example/hatchway/impl.errNoEnd", laid_loop_example_hatchway_impl_errNoEnd)] }
def FnRwrRoomSaid : Prop := fnRwrRoomRow.holds Tryz.pinned (OpenSpec.ofChange fnRwrRoomSpec)

/-- ITS FALSE NEIGHBOUR: 'it returns false'. Refute it at one input. -/
def fnRwrRoomWrong : ChangeSpec := { name := "fnRwrRoom", vars := ["loop.example/hatchway/impl.errNoEnd", "loop.example/hatchway/impl.errNoNumber"], fn := fun _ => fun
  | [d, g1, g2] => { results := [.lit (.bool false)], args := [d], vars := [g1, g2] }
  | _ => none }
def FnRwrRoomWrongFalsely : Prop := fnRwrRoomRow.holds Tryz.pinned (OpenSpec.ofChange fnRwrRoomWrong)

/-- 'laws.FnPosLine': WHATEVER THE INPUT: true; the input reads as it did. -/
def fnPosLineSpec : ChangeSpec := { name := "fnPosLine", vars := ["loop.example/hatchway/impl.errNoEnd", "loop.example/hatchway/impl.errNoNumber"], fn := fun _ => fun
  | [d, g1, g2] => { results := [.lit (.bool true)], args := [d], vars := [g1, g2] }
  | _ => none }
def fnPosLineRow : OpenClaim := { program := "ytoidmmedpefjfaagreatdoor", sum := "db04c80e8c0667dab0241cda8a4716080275695089e0ef9037ba8612ecffd4ea", func := "loop.example/hatchway/laws.FnPosLine", spec := "fnPosLine", inPlace := ["internal/bytealg.IndexByteString", "internal/bytealg.IndexString", "internal/abi.NoEscape"], unfollowed := true, recurses := true, named := ["internal/bytealg.MaxLen", "loop.example/hatchway/impl.errNoEnd", "loop.example/hatchway/impl.errNoNumber", "strconv.ErrSyntax", "strconv.ErrRange", "internal/strconv.uint64pow10", "math/bits.deBruijn32tab", "math/bits.deBruijn64tab"], ifaces := true, plainKeys := false, apart := false, laid := [("math/bits.deBruijn32tab", laid_math_bits_deBruijn32tab), ("math/bits.deBruijn64tab", laid_math_bits_deBruijn64tab), ("internal/strconv.uint64pow10", laid_internal_strconv_uint64pow10), ("strconv.ErrRange", laid_strconv_ErrRange), ("strconv.ErrSyntax", laid_strconv_ErrSyntax), ("loop.example/hatchway/impl.errNoNumber", laid_loop_example_hatchway_impl_errNoNumber), ("loop.example/hatchway/impl.errNoEnd", laid_loop_example_hatchway_impl_errNoEnd)] }
def FnPosLineSaid : Prop := fnPosLineRow.holds Tryz.pinned (OpenSpec.ofChange fnPosLineSpec)

/-- ITS FALSE NEIGHBOUR: 'it returns false'. Refute it at one input. -/
def fnPosLineWrong : ChangeSpec := { name := "fnPosLine", vars := ["loop.example/hatchway/impl.errNoEnd", "loop.example/hatchway/impl.errNoNumber"], fn := fun _ => fun
  | [d, g1, g2] => { results := [.lit (.bool false)], args := [d], vars := [g1, g2] }
  | _ => none }
def FnPosLineWrongFalsely : Prop := fnPosLineRow.holds Tryz.pinned (OpenSpec.ofChange fnPosLineWrong)

/- THE SECOND FORM. 'bulk': how many values and letters a reading holds, each counted each time it is reached (what is shared counts as often as it is met; a slice's spare places count too). A statement '..UptoSaid' is the law's where the arguments, and the package variables that the reading takes, are together of bulk at most 1048576: NARROWER than '..Said'. Prove '..Said' where nothing that the law and all that it calls make is longer than what came in: it says more and counts as full. Else prove '..UptoSaid'. A law counts once. -/
mutual
def uptoBulk {H : Type} : DataW H → Nat
  | .lit (.string bytes) => bytes.length + 1
  | .lit _ => 1
  | .nil => 1
  | .ptr d => uptoBulk d + 1
  | .slice elems spare => uptoBulkAll elems + uptoBulkAll spare + 1
  | .agg parts => uptoBulkAll parts + 1
  | .iface _ d => uptoBulk d + 1
  | .map entries => uptoBulkEntries entries + 1
  | .held _ => 1
def uptoBulkAll {H : Type} : List (DataW H) → Nat
  | [] => 0
  | d :: r => uptoBulk d + uptoBulkAll r
def uptoBulkEntries {H : Type} : List (Lit × DataW H) → Nat
  | [] => 0
  | x :: r => uptoBulkEntry x + uptoBulkEntries r
def uptoBulkEntry {H : Type} : Lit × DataW H → Nat
  | (.string bytes, d) => bytes.length + uptoBulk d + 1
  | (_, d) => uptoBulk d + 1
 end
def uptoSmall : (H : Type) → List (DataW H) → Bool := fun _ ds => decide (uptoBulkAll ds ≤ 1048576)
def OpenSpec.upto (s : _root_.Go.ChangeSpec) : _root_.Go.OpenSpec := { _root_.Go.OpenSpec.ofChange s with cond := some uptoSmall }

/-- 'laws.FnRwrLine', WHERE WHAT IT READS IS OF BULK AT MOST 1048576: true; the input reads as it did. -/
def fnRwrLineUptoRow : OpenClaim := { program := "ytoidmmedpefjfaagreatdoor", sum := "db04c80e8c0667dab0241cda8a4716080275695089e0ef9037ba8612ecffd4ea", func := "loop.example/hatchway/laws.FnRwrLine", spec := "fnRwrLine", inPlace := ["internal/bytealg.IndexByteString", "internal/bytealg.IndexString"], named := ["loop.example/hatchway/impl.errNoEnd", "internal/bytealg.MaxLen", "loop.example/hatchway/impl.errNoNumber", "strconv.ErrSyntax", "strconv.ErrRange", "internal/strconv.uint64pow10", "math/bits.deBruijn32tab", "math/bits.deBruijn64tab"], ifaces := true, plainKeys := false, apart := false, laid := [("math/bits.deBruijn32tab", laid_math_bits_deBruijn32tab), ("math/bits.deBruijn64tab", laid_math_bits_deBruijn64tab), ("internal/strconv.uint64pow10", laid_internal_strconv_uint64pow10), ("strconv.ErrRange", laid_strconv_ErrRange), ("strconv.ErrSyntax", laid_strconv_ErrSyntax), ("loop.example/hatchway/impl.errNoNumber", laid_loop_example_hatchway_impl_errNoNumber), ("loop.example/hatchway/impl.errNoEnd", laid_loop_example_hatchway_impl_errNoEnd)], narrowed := true }
def FnRwrLineUptoSaid : Prop := fnRwrLineUptoRow.holds Tryz.pinned (OpenSpec.upto fnRwrLineSpec)

/-- 'laws.FnRwrStream', WHERE WHAT IT READS IS OF BULK AT MOST 1048576: true; the input reads as it did. -/
def fnRwrStreamUptoRow : OpenClaim := { program := "ytoidmmedpefjfaagreatdoor", sum := "db04c80e8c0667dab0241cda8a4716080275695089e0ef9037ba8612ecffd4ea", func := "loop.example/hatchway/laws.FnRwrStream", spec := "fnRwrStream", inPlace := ["internal/bytealg.IndexByteString", "internal/bytealg.IndexString", "internal/abi.NoEscape"], unfollowed := true, recurses := true, named := ["internal/bytealg.MaxLen", "loop.example/hatchway/impl.errNoEnd", "loop.example/hatchway/impl.errNoNumber", "strconv.ErrSyntax", "strconv.ErrRange", "internal/strconv.uint64pow10", "math/bits.deBruijn32tab", "math/bits.deBruijn64tab"], ifaces := true, plainKeys := false, apart := false, laid := [("math/bits.deBruijn32tab", laid_math_bits_deBruijn32tab), ("math/bits.deBruijn64tab", laid_math_bits_deBruijn64tab), ("internal/strconv.uint64pow10", laid_internal_strconv_uint64pow10), ("strconv.ErrRange", laid_strconv_ErrRange), ("strconv.ErrSyntax", laid_strconv_ErrSyntax), ("loop.example/hatchway/impl.errNoNumber", laid_loop_example_hatchway_impl_errNoNumber), ("loop.example/hatchway/impl.errNoEnd", laid_loop_example_hatchway_impl_errNoEnd)], narrowed := true }
def FnRwrStreamUptoSaid : Prop := fnRwrStreamUptoRow.holds Tryz.pinned (OpenSpec.upto fnRwrStreamSpec)

/-- 'laws.FnPosSpans', WHERE WHAT IT READS IS OF BULK AT MOST 1048576: true; the input reads as it did. -/
def fnPosSpansUptoRow : OpenClaim := { program := "ytoidmmedpefjfaagreatdoor", sum := "db04c80e8c0667dab0241cda8a4716080275695089e0ef9037ba8612ecffd4ea", func := "loop.example/hatchway/laws.FnPosSpans", spec := "fnPosSpans", inPlace := ["internal/bytealg.IndexByteString", "internal/bytealg.IndexString", "internal/abi.NoEscape"], unfollowed := true, recurses := true, named := ["internal/bytealg.MaxLen", "loop.example/hatchway/impl.errNoEnd", "loop.example/hatchway/impl.errNoNumber", "strconv.ErrSyntax", "strconv.ErrRange", "internal/strconv.uint64pow10", "math/bits.deBruijn32tab", "math/bits.deBruijn64tab"], ifaces := true, plainKeys := false, apart := false, laid := [("math/bits.deBruijn32tab", laid_math_bits_deBruijn32tab), ("math/bits.deBruijn64tab", laid_math_bits_deBruijn64tab), ("internal/strconv.uint64pow10", laid_internal_strconv_uint64pow10), ("strconv.ErrRange", laid_strconv_ErrRange), ("strconv.ErrSyntax", laid_strconv_ErrSyntax), ("loop.example/hatchway/impl.errNoNumber", laid_loop_example_hatchway_impl_errNoNumber), ("loop.example/hatchway/impl.errNoEnd", laid_loop_example_hatchway_impl_errNoEnd)], narrowed := true }
def FnPosSpansUptoSaid : Prop := fnPosSpansUptoRow.holds Tryz.pinned (OpenSpec.upto fnPosSpansSpec)

/-- 'laws.FnPosOut', WHERE WHAT IT READS IS OF BULK AT MOST 1048576: true; the input reads as it did. -/
def fnPosOutUptoRow : OpenClaim := { program := "ytoidmmedpefjfaagreatdoor", sum := "db04c80e8c0667dab0241cda8a4716080275695089e0ef9037ba8612ecffd4ea", func := "loop.example/hatchway/laws.FnPosOut", spec := "fnPosOut", inPlace := ["internal/bytealg.IndexByteString", "internal/bytealg.IndexString", "internal/abi.NoEscape"], unfollowed := true, recurses := true, named := ["internal/bytealg.MaxLen", "loop.example/hatchway/impl.errNoEnd", "loop.example/hatchway/impl.errNoNumber", "strconv.ErrSyntax", "strconv.ErrRange", "internal/strconv.uint64pow10", "math/bits.deBruijn32tab", "math/bits.deBruijn64tab"], ifaces := true, plainKeys := false, apart := false, laid := [("math/bits.deBruijn32tab", laid_math_bits_deBruijn32tab), ("math/bits.deBruijn64tab", laid_math_bits_deBruijn64tab), ("internal/strconv.uint64pow10", laid_internal_strconv_uint64pow10), ("strconv.ErrRange", laid_strconv_ErrRange), ("strconv.ErrSyntax", laid_strconv_ErrSyntax), ("loop.example/hatchway/impl.errNoNumber", laid_loop_example_hatchway_impl_errNoNumber), ("loop.example/hatchway/impl.errNoEnd", laid_loop_example_hatchway_impl_errNoEnd)], narrowed := true }
def FnPosOutUptoSaid : Prop := fnPosOutUptoRow.holds Tryz.pinned (OpenSpec.upto fnPosOutSpec)

/-- 'laws.FnPosBack', WHERE WHAT IT READS IS OF BULK AT MOST 1048576: true; the input reads as it did. -/
def fnPosBackUptoRow : OpenClaim := { program := "ytoidmmedpefjfaagreatdoor", sum := "db04c80e8c0667dab0241cda8a4716080275695089e0ef9037ba8612ecffd4ea", func := "loop.example/hatchway/laws.FnPosBack", spec := "fnPosBack", inPlace := ["internal/bytealg.IndexByteString", "internal/bytealg.IndexString", "internal/abi.NoEscape"], unfollowed := true, recurses := true, named := ["internal/bytealg.MaxLen", "loop.example/hatchway/impl.errNoEnd", "loop.example/hatchway/impl.errNoNumber", "strconv.ErrSyntax", "strconv.ErrRange", "internal/strconv.uint64pow10", "math/bits.deBruijn32tab", "math/bits.deBruijn64tab"], ifaces := true, plainKeys := false, apart := false, laid := [("math/bits.deBruijn32tab", laid_math_bits_deBruijn32tab), ("math/bits.deBruijn64tab", laid_math_bits_deBruijn64tab), ("internal/strconv.uint64pow10", laid_internal_strconv_uint64pow10), ("strconv.ErrRange", laid_strconv_ErrRange), ("strconv.ErrSyntax", laid_strconv_ErrSyntax), ("loop.example/hatchway/impl.errNoNumber", laid_loop_example_hatchway_impl_errNoNumber), ("loop.example/hatchway/impl.errNoEnd", laid_loop_example_hatchway_impl_errNoEnd)], narrowed := true }
def FnPosBackUptoSaid : Prop := fnPosBackUptoRow.holds Tryz.pinned (OpenSpec.upto fnPosBackSpec)

/-- 'laws.FnBakLine', WHERE WHAT IT READS IS OF BULK AT MOST 1048576: true; the input reads as it did. -/
def fnBakLineUptoRow : OpenClaim := { program := "ytoidmmedpefjfaagreatdoor", sum := "db04c80e8c0667dab0241cda8a4716080275695089e0ef9037ba8612ecffd4ea", func := "loop.example/hatchway/laws.FnBakLine", spec := "fnBakLine", inPlace := ["internal/bytealg.IndexByteString", "internal/bytealg.IndexString"], named := ["loop.example/hatchway/impl.errNoEnd", "internal/bytealg.MaxLen", "loop.example/hatchway/impl.errNoNumber", "strconv.ErrSyntax", "strconv.ErrRange", "internal/strconv.uint64pow10", "math/bits.deBruijn32tab", "math/bits.deBruijn64tab"], ifaces := true, plainKeys := false, apart := false, laid := [("math/bits.deBruijn32tab", laid_math_bits_deBruijn32tab), ("math/bits.deBruijn64tab", laid_math_bits_deBruijn64tab), ("internal/strconv.uint64pow10", laid_internal_strconv_uint64pow10), ("strconv.ErrRange", laid_strconv_ErrRange), ("strconv.ErrSyntax", laid_strconv_ErrSyntax), ("loop.example/hatchway/impl.errNoNumber", laid_loop_example_hatchway_impl_errNoNumber), ("loop.example/hatchway/impl.errNoEnd", laid_loop_example_hatchway_impl_errNoEnd)], narrowed := true }
def FnBakLineUptoSaid : Prop := fnBakLineUptoRow.holds Tryz.pinned (OpenSpec.upto fnBakLineSpec)

/-- 'laws.FnBakRwr', WHERE WHAT IT READS IS OF BULK AT MOST 1048576: true; the input reads as it did. -/
def fnBakRwrUptoRow : OpenClaim := { program := "ytoidmmedpefjfaagreatdoor", sum := "db04c80e8c0667dab0241cda8a4716080275695089e0ef9037ba8612ecffd4ea", func := "loop.example/hatchway/laws.FnBakRwr", spec := "fnBakRwr", inPlace := ["internal/bytealg.IndexByteString", "internal/bytealg.IndexString"], named := ["loop.example/hatchway/impl.errNoEnd", "internal/bytealg.MaxLen", "loop.example/hatchway/impl.errNoNumber", "strconv.ErrSyntax", "strconv.ErrRange", "internal/strconv.uint64pow10", "math/bits.deBruijn32tab", "math/bits.deBruijn64tab"], ifaces := true, plainKeys := false, apart := false, laid := [("math/bits.deBruijn32tab", laid_math_bits_deBruijn32tab), ("math/bits.deBruijn64tab", laid_math_bits_deBruijn64tab), ("internal/strconv.uint64pow10", laid_internal_strconv_uint64pow10), ("strconv.ErrRange", laid_strconv_ErrRange), ("strconv.ErrSyntax", laid_strconv_ErrSyntax), ("loop.example/hatchway/impl.errNoNumber", laid_loop_example_hatchway_impl_errNoNumber), ("loop.example/hatchway/impl.errNoEnd", laid_loop_example_hatchway_impl_errNoEnd)], narrowed := true }
def FnBakRwrUptoSaid : Prop := fnBakRwrUptoRow.holds Tryz.pinned (OpenSpec.upto fnBakRwrSpec)

/-- 'laws.FnPosPlain', WHERE WHAT IT READS IS OF BULK AT MOST 1048576: true; the input reads as it did. -/
def fnPosPlainUptoRow : OpenClaim := { program := "ytoidmmedpefjfaagreatdoor", sum := "db04c80e8c0667dab0241cda8a4716080275695089e0ef9037ba8612ecffd4ea", func := "loop.example/hatchway/laws.FnPosPlain", spec := "fnPosPlain", inPlace := ["internal/bytealg.IndexByteString", "internal/bytealg.IndexString", "internal/abi.NoEscape"], unfollowed := true, recurses := true, named := ["internal/bytealg.MaxLen", "loop.example/hatchway/impl.errNoEnd", "loop.example/hatchway/impl.errNoNumber", "strconv.ErrSyntax", "strconv.ErrRange", "internal/strconv.uint64pow10", "math/bits.deBruijn32tab", "math/bits.deBruijn64tab"], ifaces := true, plainKeys := false, apart := false, laid := [("math/bits.deBruijn32tab", laid_math_bits_deBruijn32tab), ("math/bits.deBruijn64tab", laid_math_bits_deBruijn64tab), ("internal/strconv.uint64pow10", laid_internal_strconv_uint64pow10), ("strconv.ErrRange", laid_strconv_ErrRange), ("strconv.ErrSyntax", laid_strconv_ErrSyntax), ("loop.example/hatchway/impl.errNoNumber", laid_loop_example_hatchway_impl_errNoNumber), ("loop.example/hatchway/impl.errNoEnd", laid_loop_example_hatchway_impl_errNoEnd)], narrowed := true }
def FnPosPlainUptoSaid : Prop := fnPosPlainUptoRow.holds Tryz.pinned (OpenSpec.upto fnPosPlainSpec)

/-- 'laws.FnRwrRoom', WHERE WHAT IT READS IS OF BULK AT MOST 1048576: true; the input reads as it did. -/
def fnRwrRoomUptoRow : OpenClaim := { program := "ytoidmmedpefjfaagreatdoor", sum := "db04c80e8c0667dab0241cda8a4716080275695089e0ef9037ba8612ecffd4ea", func := "loop.example/hatchway/laws.FnRwrRoom", spec := "fnRwrRoom", inPlace := ["internal/bytealg.IndexByteString", "internal/bytealg.IndexString", "internal/abi.NoEscape"], unfollowed := true, recurses := true, named := ["internal/bytealg.MaxLen", "loop.example/hatchway/impl.errNoEnd", "loop.example/hatchway/impl.errNoNumber", "strconv.ErrSyntax", "strconv.ErrRange", "internal/strconv.uint64pow10", "math/bits.deBruijn32tab", "math/bits.deBruijn64tab"], ifaces := true, plainKeys := false, apart := false, laid := [("math/bits.deBruijn32tab", laid_math_bits_deBruijn32tab), ("math/bits.deBruijn64tab", laid_math_bits_deBruijn64tab), ("internal/strconv.uint64pow10", laid_internal_strconv_uint64pow10), ("strconv.ErrRange", laid_strconv_ErrRange), ("strconv.ErrSyntax", laid_strconv_ErrSyntax), ("loop.example/hatchway/impl.errNoNumber", laid_loop_example_hatchway_impl_errNoNumber), ("loop.example/hatchway/impl.errNoEnd", laid_loop_example_hatchway_impl_errNoEnd)], narrowed := true }
def FnRwrRoomUptoSaid : Prop := fnRwrRoomUptoRow.holds Tryz.pinned (OpenSpec.upto fnRwrRoomSpec)

/-- 'laws.FnPosLine', WHERE WHAT IT READS IS OF BULK AT MOST 1048576: true; the input reads as it did. -/
def fnPosLineUptoRow : OpenClaim := { program := "ytoidmmedpefjfaagreatdoor", sum := "db04c80e8c0667dab0241cda8a4716080275695089e0ef9037ba8612ecffd4ea", func := "loop.example/hatchway/laws.FnPosLine", spec := "fnPosLine", inPlace := ["internal/bytealg.IndexByteString", "internal/bytealg.IndexString", "internal/abi.NoEscape"], unfollowed := true, recurses := true, named := ["internal/bytealg.MaxLen", "loop.example/hatchway/impl.errNoEnd", "loop.example/hatchway/impl.errNoNumber", "strconv.ErrSyntax", "strconv.ErrRange", "internal/strconv.uint64pow10", "math/bits.deBruijn32tab", "math/bits.deBruijn64tab"], ifaces := true, plainKeys := false, apart := false, laid := [("math/bits.deBruijn32tab", laid_math_bits_deBruijn32tab), ("math/bits.deBruijn64tab", laid_math_bits_deBruijn64tab), ("internal/strconv.uint64pow10", laid_internal_strconv_uint64pow10), ("strconv.ErrRange", laid_strconv_ErrRange), ("strconv.ErrSyntax", laid_strconv_ErrSyntax), ("loop.example/hatchway/impl.errNoNumber", laid_loop_example_hatchway_impl_errNoNumber), ("loop.example/hatchway/impl.errNoEnd", laid_loop_example_hatchway_impl_errNoEnd)], narrowed := true }
def FnPosLineUptoSaid : Prop := fnPosLineUptoRow.holds Tryz.pinned (OpenSpec.upto fnPosLineSpec)

end Rows
end Go.Proofs.YtoidmmedpefjfaaGreatDoor

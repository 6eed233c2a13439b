/- SegRead of the specification, at all bytes that lie from a block's beginning on. Condition: at most 2^22 bytes. -/
import Derived.Test.YtjnhmobdigfpiaaDoorSegOk
import Derived.Test.YtjnhmobdigfpiaaDoorSegSum
import Derived.Test.YtjnhmobdigfpiaaDoorSegLaw
import Derived.Deep.QuietTactic
import Derived.BigQuiet
import Derived.Deep.RegionHeld3
import Derived.Deep.DeepCutAuto
namespace Go.Proofs.YtjnhmobdigfpiaaDoor
open Go.RowKit Go.Sort

theorem num5_nat {l : List UInt8} {i : Nat} (h : i + 2 ≤ l.length) : numAt l i = (l[i]'(by omega)).toNat * 256 + (l[i + 1]'(by omega)).toNat := by
  unfold numAt
  rw [List.getElem?_eq_getElem (by omega), List.getElem?_eq_getElem (by omega)]; rfl

/-- A block of seven cells that hold nothing yet. -/
def Fresh7 (w : World) (b : Nat) : Prop := w.heap[b]? = some (.cells #[.int .i64 0, .int .i64 0, .int .i64 0, .int .i64 0, .int .i64 0, .int .i64 0, .string ⟨#[]⟩] 26)
theorem Fresh7.later {w w' : World} {b : Nat} (h : Fresh7 w b) (hb : Below w.heap.size w w') : Fresh7 w' b := (hb.block b (Array.getElem?_eq_some_iff.1 h).1).trans h
theorem fresh7_alloc {w w' : World} (hb : Below (w.alloc (.cells #[.int .i64 0, .int .i64 0, .int .i64 0, .int .i64 0, .int .i64 0, .int .i64 0, .string ⟨#[]⟩] 26)).heap.size (w.alloc (.cells #[.int .i64 0, .int .i64 0, .int .i64 0, .int .i64 0, .int .i64 0, .int .i64 0, .string ⟨#[]⟩] 26)) w') : Fresh7 w' w.heap.size := (hb.block _ (by simp)).trans (heap_alloc_new w _)
theorem Fresh7.open {w : World} {b : Nat} (h : Fresh7 w b) : Box7 w b (.int .i64 0) (.int .i64 0) (.int .i64 0) (.int .i64 0) (.int .i64 0) (.int .i64 0) (.string ⟨#[]⟩) ∧ (w.frozen? ⟨b, 0, none⟩ = false ∧ w.frozen? ⟨b, 1, none⟩ = false ∧ w.frozen? ⟨b, 2, none⟩ = false ∧ w.frozen? ⟨b, 3, none⟩ = false ∧ w.frozen? ⟨b, 4, none⟩ = false ∧ w.frozen? ⟨b, 5, none⟩ = false ∧ w.frozen? ⟨b, 6, none⟩ = false) := by
  unfold Fresh7 at h
  refine ⟨⟨?_, ?_, ?_, ?_, ?_, ?_, ?_⟩, ?_, ?_, ?_, ?_, ?_, ?_, ?_⟩ <;> simp [World.cell?, World.frozen?, h]
theorem below_draw {w w' : World} {B : Nat} (k : Nat) (h : Below B w w') : Below B w (w'.drewN k) := h.trans ⟨rfl, rfl, rfl, Nat.le_refl _, fun _ _ => rfl⟩
theorem below_nq {w w' : World} (k : Nat) (h : Below w.heap.size w w') : Below w.heap.size w (w'.drewN k) := h.trans ⟨rfl, rfl, rfl, Nat.le_refl _, fun _ _ => rfl⟩
/-- What is answered of bytes. -/
def rdAns5 (l : List UInt8) : Value := match readL l with
  | some s => .tuple #[.agg #[.int .i64 s.sa, .int .i64 s.sp, .int .i64 s.da, .int .i64 s.dp, .int .i64 s.seq, .int .i64 s.ack, .string ⟨s.data.toArray⟩], .bool true]
  | none => .tuple #[.agg #[.int .i64 0, .int .i64 0, .int .i64 0, .int .i64 0, .int .i64 0, .int .i64 0, .string ⟨#[]⟩], .bool false]
theorem rdAns5_form (l : List UInt8) : ∃ (sa sp da dp sq ak : Int) (d : ByteArray) (b : Bool), rdAns5 l = .tuple #[.agg #[.int .i64 sa, .int .i64 sp, .int .i64 da, .int .i64 dp, .int .i64 sq, .int .i64 ak, .string d], .bool b] := by
  unfold rdAns5
  cases readL l with
  | none => exact ⟨0, 0, 0, 0, 0, 0, ⟨#[]⟩, false, rfl⟩
  | some s => exact ⟨s.sa, s.sp, s.da, s.dp, s.seq, s.ack, ⟨s.data.toArray⟩, true, rfl⟩
theorem rdAns5_none {l : List UInt8} (h : ¬ (fitB l = true ∧ segOkB (sayL l) = true)) : rdAns5 l = .tuple #[.agg #[.int .i64 0, .int .i64 0, .int .i64 0, .int .i64 0, .int .i64 0, .int .i64 0, .string ⟨#[]⟩], .bool false] := by
  unfold rdAns5 readL; rw [if_neg h]

theorem bel1 (W : World) (k : Nat) : Below W.heap.size W (W.drewN k) := below_draw _ (Below.refl _ _)
theorem bel2 (W : World) (k : Nat) (o : Obj) : Below W.heap.size W ((W.drewN k).alloc o) := (bel1 W k).alloc (Nat.le_refl _) _
theorem bel3 (W : World) (k j : Nat) (o : Obj) : Below W.heap.size W (((W.drewN k).alloc o).drewN j) := below_draw _ (bel2 W k o)
theorem bel4 (W : World) (o : Obj) : Below W.heap.size W (W.drew.alloc o) := bel2 W 1 o
theorem bel5 (W : World) (j : Nat) (o : Obj) : Below W.heap.size W ((W.drew.alloc o).drewN j) := below_draw _ (bel4 W o)
theorem below7 {B : Nat} {w X : World} {b : Nat} (h : Below B w X) (hb : B ≤ b) (v0 v1 v2 v3 v4 v5 v6 : Value) : Below B w (((((((X.setCell ⟨b, 0, none⟩ v0).setCell ⟨b, 1, none⟩ v1).setCell ⟨b, 2, none⟩ v2).setCell ⟨b, 3, none⟩ v3).setCell ⟨b, 4, none⟩ v4).setCell ⟨b, 5, none⟩ v5).setCell ⟨b, 6, none⟩ v6) := ((((((h.setCell hb _).setCell hb _).setCell hb _).setCell hb _).setCell hb _).setCell hb _).setCell hb _
theorem bel8 (W : World) (o : Obj) : Below W.heap.size W (W.alloc o) := (Below.refl _ _).alloc (Nat.le_refl _) _
theorem bel9 (W : World) (k : Nat) (o : Obj) : Below W.heap.size W ((W.alloc o).drewN k) := below_draw _ (bel8 W o)
theorem belDr {B : Nat} {W X : World} (h : Below B W X) : Below B W X.drew := below_draw 1 h
theorem belA {W X : World} (h : Below W.heap.size W X) (o : Obj) : Below W.heap.size W (X.alloc o) := h.alloc h.size o
theorem bel6 (W : World) : Below W.heap.size W W.drew := bel1 W 1

end Go.Proofs.YtjnhmobdigfpiaaDoor

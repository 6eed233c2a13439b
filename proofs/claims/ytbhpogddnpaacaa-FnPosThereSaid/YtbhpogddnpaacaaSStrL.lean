/- RwrStream of the specification. Conditions: at most 2^22 ends; the text has at most 2^21 bytes. -/
import Derived.Test.YtbhpogddnpaacaaSStr
import Derived.Test.YtbhpogddnpaacaaBox
namespace Go.Proofs.Ytbhpogddnpaacaa
open Go.RowKit Go.Sort

set_option maxRecDepth 100000 in
set_option maxHeartbeats 1600000 in
/-- RwrStream of what is no table, or of no line: nothing. -/
theorem specRwrStream_not (v : Value) (es : List (Int × Int)) (s : ByteArray) (w : World) (hn : es.length ≤ 4194304) (hs : s.size ≤ 2097152) (ht : TabAt w v es) (hno : (mapB es && strB s.data.toList) = false) :
    Calls Try.prog 32 #[.agg #[v], .string s] w fun e w' => e = .returned (.tuple #[.agg #[.slice none 0 0], .string ⟨#[]⟩]) ∧ Below w.heap.size w w' := by
  have HT := Lib.hid ht
  obtain ⟨ad, cap, rfl, hcap, hr⟩ := ht
  have hM : Hid (∀ w, TabAt w (.slice ad es.length cap) es → Calls Try.prog 12 #[.agg #[.slice ad es.length cap]] w fun e w' => e = .returned (.bool (mapB es)) ∧ Below w.heap.size w w') := fun w h => specMapOk_any _ es w hn h
  have hL : Hid (∀ w, Calls Try.prog 52 #[.string s] w fun e w' => e = .returned (.bool (strB s.data.toList)) ∧ Below w.heap.size w w') := fun w => specStr_any s w hs
  clear hr
  by_cases hm : mapB es = true
  · have hi : strB s.data.toList = false := by rw [hm] at hno; simpa using hno
    rw [hm] at hM
    rw [hi] at hL
    clear hno hm hi
    go_enter Try.func32, Try.ntmps32
    go_wp2_with (first
      | (go_at_call 12; refine (hM.out _ (HT.out.below (((Below.refl _ _).alloc (Nat.le_refl _) _).alloc (by simp) _))).mono ?_; rintro e w1 ⟨rfl, b1⟩; obtain ⟨cA, cB, b01, z1⟩ := cell_two b1; have r0 := (cB 0).1; have g0 := (cB 0).2; simp at r0; clear cA cB)
      | (go_at_call 52; refine (hL.out _).mono ?_; rintro e w2 ⟨rfl, b2⟩; replace g0 := box_frozen r0 g0 b2; replace r0 := box_below r0 b2; replace b01 := b01.trans (b2.mono (by omega))))
    refine bodyPost_ret (v := .tuple #[.agg #[.slice none 0 0], .string ⟨#[]⟩]) (by simp [results, Try.results32, go_sem, World.cell?_setCell_same _ _ _ r0]) rfl ⟨rfl, ?_⟩
    exact b01.setCell (by simp) _
  · have hm' : mapB es = false := by simpa using hm
    rw [hm'] at hM
    clear hno hm hm'
    go_enter Try.func32, Try.ntmps32
    go_wp2_with (go_at_call 12; refine (hM.out _ (HT.out.below (((Below.refl _ _).alloc (Nat.le_refl _) _).alloc (by simp) _))).mono ?_; rintro e w1 ⟨rfl, b1⟩; obtain ⟨cA, cB, b01, z1⟩ := cell_two b1; have r0 := (cB 0).1; have g0 := (cB 0).2; simp at r0; clear cA cB)
    refine bodyPost_ret (v := .tuple #[.agg #[.slice none 0 0], .string ⟨#[]⟩]) (by simp [results, Try.results32, go_sem, World.cell?_setCell_same _ _ _ r0]) rfl ⟨rfl, ?_⟩
    exact b01.setCell (by simp) _

set_option maxRecDepth 100000 in
set_option maxHeartbeats 1600000 in
/-- RwrStream of a table and a stream: the table then, in memory of the call's own, and the line. -/
theorem specRwrStream_ok (v : Value) (es : List (Int × Int)) (s : ByteArray) (w : World) (hn : es.length ≤ 4194304) (hs : s.size ≤ 2097152) (ht : TabAt w v es) (hm : mapB es = true) (hi : strB s.data.toList = true) :
    Calls Try.prog 32 #[.agg #[v], .string s] w fun e w' => ∃ g c, e = .returned (.tuple #[.agg #[.slice (some g) (streamE es (linesL s.data.toList)).1.length c], .string ⟨(streamE es (linesL s.data.toList)).2.toArray⟩]) ∧ OwnTab w' w.heap.size (.slice (some g) (streamE es (linesL s.data.toList)).1.length c) (streamE es (linesL s.data.toList)).1 ∧ Below w.heap.size w w' := by
  have HT := Lib.hid ht
  obtain ⟨ad, cap, rfl, hcap, hr⟩ := ht
  have hM : Hid (∀ w, TabAt w (.slice ad es.length cap) es → Calls Try.prog 12 #[.agg #[.slice ad es.length cap]] w fun e w' => e = .returned (.bool true) ∧ Below w.heap.size w w') := fun w h => by rw [← hm]; exact specMapOk_any _ es w hn h
  have hL : Hid (∀ w, Calls Try.prog 52 #[.string s] w fun e w' => e = .returned (.bool true) ∧ Below w.heap.size w w') := fun w => by rw [← hi]; exact specStr_any s w hs
  have hP0 : Hid (∀ (B : Nat) (ad : Addr) (cap : Nat) (w : World), B ≤ w.heap.size → OwnTab w B (.slice (some ad) es.length cap) es → Calls Try.prog 53 #[.agg #[.slice (some ad) es.length cap], .string s] w fun e w' => ∃ g c, e = .returned (.tuple #[.agg #[.slice (some g) (streamE es (linesL s.data.toList)).1.length c], .string ⟨(streamE es (linesL s.data.toList)).2.toArray⟩]) ∧ OwnTab w' B (.slice (some g) (streamE es (linesL s.data.toList)).1.length c) (streamE es (linesL s.data.toList)).1 ∧ Below w.heap.size w w') := fun B ad cap w h1 h2 => specStream_any B ad cap es s w hm hs h1 h2
  have hC : Hid (∀ wx, TabAt wx (.slice ad es.length cap) es → Calls Try.prog 54 #[.agg #[.slice ad es.length cap]] wx fun e w' => ∃ g c, e = .returned (.agg #[.slice (some g) es.length c]) ∧ OwnTab w' wx.heap.size (.slice (some g) es.length c) es ∧ Below wx.heap.size wx w') := fun wx h => specCopy_any _ es wx hn h
  obtain ⟨us, hus⟩ : ∃ us, us = (streamE es (linesL s.data.toList)).1 := ⟨_, rfl⟩
  obtain ⟨q, hq⟩ : ∃ q, q = (streamE es (linesL s.data.toList)).2.toArray := ⟨_, rfl⟩
  have hP : Hid (∀ (B : Nat) (ad : Addr) (cap : Nat) (w : World), B ≤ w.heap.size → OwnTab w B (.slice (some ad) es.length cap) es → Calls Try.prog 53 #[.agg #[.slice (some ad) es.length cap], .string s] w fun e w' => ∃ g c, e = .returned (.tuple #[.agg #[.slice (some g) us.length c], .string ⟨q⟩]) ∧ OwnTab w' B (.slice (some g) us.length c) us ∧ Below w.heap.size w w') := by rw [hus, hq]; exact hP0
  rw [← hus, ← hq]
  clear hr hm hi hus hq hP0
  go_enter Try.func32, Try.ntmps32
  go_upto_region 3 with (first
    | (go_at_call 12; refine (hM.out _ (HT.out.below (((Below.refl _ _).alloc (Nat.le_refl _) _).alloc (by simp) _))).mono ?_; rintro e w1 ⟨rfl, b1⟩; obtain ⟨cA, cB, b01, z1⟩ := cell_two b1; have t0 := (cA 0).1; have r0 := (cB 0).1; have g0 := (cB 0).2; simp at t0 r0; clear cA cB b1)
    | (go_at_call 52; refine (hL.out _).mono ?_; rintro e w2 ⟨rfl, b2⟩; replace t0 := box_below t0 b2; replace g0 := box_frozen r0 g0 b2; replace r0 := box_below r0 b2; replace b01 := b01.trans (b2.mono (by omega)); replace z1 := Nat.le_trans z1 b2.size))
  have B01 := Lib.hid b01
  clear b01
  go_wp2_with fail
  (go_at_call 54; refine (hC.out _ (HT.out.below B01.out)).mono ?_; rintro e w3 ⟨g3, c3, rfl, o3, b3⟩; have O3 := Lib.hid o3; have B3 := Lib.hid b3; clear o3 b3)
  have r3 : w3.cell? ⟨w.heap.size + 1, 0, none⟩ = some (.slice none 0 0) := (by rw [B3.out.cell (by simp; omega)]; exact r0)
  have g03 : w3.frozen? ⟨w.heap.size + 1, 0, none⟩ = false := (by rw [B3.out.frozen (by simp; omega)]; exact g0)
  have z3 := B3.out.size
  go_wp2_with fail
  (go_at_call 53; refine (hP.out w2.heap.size _ _ _ B3.out.size O3.out).mono ?_; rintro e w4 ⟨g4, c4, rfl, o4, b4⟩; have O4 := Lib.hid o4; have B4 := Lib.hid b4; clear o4 b4)
  have r4 : w4.cell? ⟨w.heap.size + 1, 0, none⟩ = some (.slice none 0 0) := (by rw [B4.out.cell (by simp; omega)]; exact r3)
  have g04 : w4.frozen? ⟨w.heap.size + 1, 0, none⟩ = false := (by rw [B4.out.frozen (by simp; omega)]; exact g03)
  go_wp2_with fail
  refine bodyPost_ret (v := .tuple #[.agg #[.slice (some g4) us.length c4], .string ⟨q⟩]) (by simp [results, Try.results32, go_sem, World.cell?_setCell_same _ _ _ r4]) rfl ⟨_, _, rfl, ?_, ?_⟩
  · exact OwnTab.mono (B := w2.heap.size) (ownsRow_setCell_below O4.out (by simp; omega) _) (by omega)
  · exact ((B01.out.trans (B3.out.mono (by omega))).trans (B4.out.mono (by omega))).setCell (by simp) _

end Go.Proofs.Ytbhpogddnpaacaa

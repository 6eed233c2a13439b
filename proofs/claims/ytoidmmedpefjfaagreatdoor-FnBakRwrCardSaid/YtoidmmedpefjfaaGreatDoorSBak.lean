/- BakLine of the specification: a line as it goes inside, by a table. Conditions: at most 2^22 ends; the text has at most 2^21 bytes. -/
import Derived.Test.YtoidmmedpefjfaaGreatDoorSSays
import Derived.Test.YtoidmmedpefjfaaGreatDoorSPuts
import Derived.Test.YtoidmmedpefjfaaGreatDoorSLin
namespace Go.Proofs.YtoidmmedpefjfaaGreatDoor
open Go.RowKit

/-- A line as it goes inside; nothing of what is no table or no line. -/
def backE (es : List (Int × Int)) (l : List UInt8) : List UInt8 := match boxE l with | none => l | some p => match endI es p with | none => l | some (a, q) => lpL a q
def bakE (es : List (Int × Int)) (l : List UInt8) : List UInt8 := if mapB es = true ∧ linB l = true then backE es l else []
theorem str_same (s : ByteArray) : (⟨s.data.toList.toArray⟩ : ByteArray) = s := Lib.mk_data s
theorem box1 {w w1 : World} {v : Value} {t : TypeId} (hb : Below (w.alloc (.cells #[v] t)).heap.size (w.alloc (.cells #[v] t)) w1) : w1.cell? ⟨w.heap.size, 0, none⟩ = some v := by
  rw [hb.cell (p := ⟨w.heap.size, 0, none⟩) (by simp), (cell_new w #[v] t 0).1]; rfl

set_option maxRecDepth 100000 in
set_option maxHeartbeats 1600000 in
theorem specBack_any (v : Value) (es : List (Int × Int)) (s : ByteArray) (w : World) (hn : es.length ≤ 4194304) (hs : s.size ≤ 2097152) (ht : TabAt w v es) :
    Calls Tryz.prog 86 #[.agg #[v], .string s] w fun e w' => e = .returned (.string ⟨(backE es s.data.toList).toArray⟩) ∧ Below w.heap.size w w' := by
  have HT := Lib.hid ht
  obtain ⟨ad, cap, rfl, hcap, hr⟩ := ht
  clear hr hcap
  rcases hb : boxE s.data.toList with _ | p
  · have HB : Hid (∀ w, Calls Tryz.prog 119 #[.string s] w fun e w' => e = .returned (.tuple #[.int .i64 0, .bool false]) ∧ Below w.heap.size w w') := fun w => by have := specBox_any s w hs; rw [hb] at this; exact this
    have HE : Hid (backE es s.data.toList = s.data.toList) := by show backE _ _ = _; unfold backE; rw [hb]
    clear hb
    go_enter Tryz.func86, Tryz.ntmps86
    go_wp2_with fail
    (go_at_call 119; refine (HB.out _).mono ?_; rintro e w1 ⟨rfl, b1⟩)
    go_wp2_with fail
    go_ret
    exact ⟨by rw [HE.out, str_same]; rfl, below_box b1⟩
  · have HB : Hid (∀ w, Calls Tryz.prog 119 #[.string s] w fun e w' => e = .returned (.tuple #[.int .i64 p, .bool true]) ∧ Below w.heap.size w w') := fun w => by have := specBox_any s w hs; rw [hb] at this; exact this
    rcases hi : endI es p with _ | ⟨a, q⟩
    · have HE : Hid (backE es s.data.toList = s.data.toList) := by show backE _ _ = _; unfold backE; rw [hb]; simp only [hi]
      have HM : Hid (∀ w, TabAt w (.slice ad es.length cap) es → Calls Tryz.prog 120 #[.agg #[.slice ad es.length cap], .int .i64 p] w fun e w' => e = .returned (.tuple #[.agg #[.int .i64 0, .int .i64 0], .bool false]) ∧ Below w.heap.size w w') := fun w h => by have := specMapEnd_any _ es p w hn h; rw [hi] at this; exact this
      clear hb hi
      go_enter Tryz.func86, Tryz.ntmps86
      go_wp2_with fail
      (go_at_call 119; refine (HB.out _).mono ?_; rintro e w1 ⟨rfl, b1⟩)
      have c1 := box1 b1
      have B1 := Lib.hid (below_box b1)
      clear b1
      go_wp2_with fail
      (go_at_call 120; refine (HM.out _ (HT.out.below B1.out)).mono ?_; rintro e w2 ⟨rfl, b2⟩)
      have B2 := Lib.hid (B1.out.trans (b2.mono B1.out.size))
      clear b2
      go_wp2_with fail
      go_ret
      exact ⟨by rw [HE.out, str_same]; rfl, B2.out.alloc B2.out.size _⟩
    · have HE : Hid (backE es s.data.toList = lpL a q) := by show backE _ _ = _; unfold backE; rw [hb]; simp only [hi]
      have HM : Hid (∀ w, TabAt w (.slice ad es.length cap) es → Calls Tryz.prog 120 #[.agg #[.slice ad es.length cap], .int .i64 p] w fun e w' => e = .returned (.tuple #[.agg #[.int .i64 a, .int .i64 q], .bool true]) ∧ Below w.heap.size w w') := fun w h => by have := specMapEnd_any _ es p w hn h; rw [hi] at this; exact this
      clear hb hi
      go_enter Tryz.func86, Tryz.ntmps86
      go_wp2_with fail
      (go_at_call 119; refine (HB.out _).mono ?_; rintro e w1 ⟨rfl, b1⟩)
      have c1 := box1 b1
      have B1 := Lib.hid (below_box b1)
      clear b1
      go_wp2_with fail
      (go_at_call 120; refine (HM.out _ (HT.out.below B1.out)).mono ?_; rintro e w2 ⟨rfl, b2⟩)
      have B2 := Lib.hid (B1.out.trans (b2.mono B1.out.size))
      have B3 := Lib.hid (B2.out.alloc B2.out.size (.cells #[.int .i64 a, .int .i64 q] 34))
      clear b2
      go_wp2_with fail
      (go_at_call 83; refine (specLinPort_any a q _).mono ?_; rintro e w3 ⟨rfl, b3⟩)
      go_wp2_with fail
      go_ret
      exact ⟨by rw [HE.out]; rfl, B3.out.trans (b3.mono B3.out.size)⟩

set_option maxRecDepth 100000 in
set_option maxHeartbeats 1600000 in
theorem specBakLine_any (v : Value) (es : List (Int × Int)) (s : ByteArray) (w : World) (hn : es.length ≤ 4194304) (hs : s.size ≤ 2097152) (ht : TabAt w v es) :
    Calls Tryz.prog 43 #[.agg #[v], .string s] w fun e w' => e = .returned (.string ⟨(bakE es s.data.toList).toArray⟩) ∧ Below w.heap.size w w' := by
  have HT := Lib.hid ht
  have HK : Hid (∀ w, TabAt w v es → Calls Tryz.prog 86 #[.agg #[v], .string s] w fun e w' => e = .returned (.string ⟨(backE es s.data.toList).toArray⟩) ∧ Below w.heap.size w w') := fun w h => specBack_any v es s w hn hs h
  have HM0 : Hid (∀ w, TabAt w v es → Calls Tryz.prog 17 #[.agg #[v]] w fun e w' => e = .returned (.bool (mapB es)) ∧ Below w.heap.size w w') := fun w h => specMapOk_any v es w hn h
  have HL0 : Hid (∀ w, Calls Tryz.prog 18 #[.string s] w fun e w' => e = .returned (.bool (linB s.data.toList)) ∧ w = w') := fun w => specLin_any s w (by omega)
  obtain ⟨ad, cap, rfl, hcap, hr⟩ := ht
  clear hr hcap
  obtain ⟨r, hr⟩ : ∃ r, r = bakE es s.data.toList := ⟨_, rfl⟩
  have hr2 : r = if mapB es = true ∧ linB s.data.toList = true then backE es s.data.toList else [] := hr
  rw [← hr]
  obtain ⟨bm, hbm⟩ : ∃ b, b = mapB es := ⟨_, rfl⟩
  obtain ⟨bl, hbl⟩ : ∃ b, b = linB s.data.toList := ⟨_, rfl⟩
  rw [← hbm] at HM0 hr2
  rw [← hbl] at HL0 hr2
  have HR := Lib.hid hr2
  clear hbm hbl hr hr2
  cases bm
  · go_enter Tryz.func43, Tryz.ntmps43
    go_wp2_with fail
    (go_at_call 17; refine (HM0.out _ (HT.out.below ((Below.refl _ _).alloc (Nat.le_refl _) _))).mono ?_; rintro e w1 ⟨rfl, b1⟩)
    go_wp2_with fail
    go_ret
    exact ⟨by rw [HR.out]; rfl, below_box b1⟩
  · cases bl
    · go_enter Tryz.func43, Tryz.ntmps43
      go_wp2_with fail
      (go_at_call 17; refine (HM0.out _ (HT.out.below ((Below.refl _ _).alloc (Nat.le_refl _) _))).mono ?_; rintro e w1 ⟨rfl, b1⟩)
      go_wp2_with fail
      (go_at_call 18; refine (HL0.out _).mono ?_; rintro e w2 ⟨rfl, rfl⟩)
      go_wp2_with fail
      go_ret
      exact ⟨by rw [HR.out]; rfl, below_box b1⟩
    · go_enter Tryz.func43, Tryz.ntmps43
      go_wp2_with fail
      (go_at_call 17; refine (HM0.out _ (HT.out.below ((Below.refl _ _).alloc (Nat.le_refl _) _))).mono ?_; rintro e w1 ⟨rfl, b1⟩)
      have c1 := box1 b1
      have B1 := Lib.hid (below_box b1)
      clear b1
      go_wp2_with fail
      (go_at_call 18; refine (HL0.out _).mono ?_; rintro e w2 ⟨rfl, rfl⟩)
      go_wp2_with fail
      (go_at_call 86; refine (HK.out _ (HT.out.below B1.out)).mono ?_; rintro e w3 ⟨rfl, b3⟩)
      go_wp2_with fail
      go_ret
      exact ⟨by rw [HR.out]; rfl, B1.out.trans (b3.mono B1.out.size)⟩

end Go.Proofs.YtoidmmedpefjfaaGreatDoor

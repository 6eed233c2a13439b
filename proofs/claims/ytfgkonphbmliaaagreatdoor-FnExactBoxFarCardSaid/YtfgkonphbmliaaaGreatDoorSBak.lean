/- BakLine of the specification: a line as it goes inside, by a table. Conditions: at most 2^22 ends; the text has at most 2^21 bytes. -/
import Derived.Test.YtfgkonphbmliaaaGreatDoorSSays
import Derived.Test.YtfgkonphbmliaaaGreatDoorSPuts
import Derived.Test.YtfgkonphbmliaaaGreatDoorSLin
namespace Go.Proofs.YtfgkonphbmliaaaGreatDoor
open Go.RowKit

/-- A line as it goes inside; nothing of what is no table or no line. -/
def backE (es : List (Int × Int)) (l : List UInt8) : List UInt8 := match boxE l with | none => l | some p => match endI es p with | none => l | some (a, q) => lpL a q
def bakE (es : List (Int × Int)) (l : List UInt8) : List UInt8 := if mapB es = true ∧ linB l = true then backE es l else []
theorem str_same (s : ByteArray) : (⟨s.data.toList.toArray⟩ : ByteArray) = s := Lib.mk_data s
theorem box1 {w w1 : World} {v : Value} {t : TypeId} (hb : Below (w.alloc (.cells #[v] t)).heap.size (w.alloc (.cells #[v] t)) w1) : w1.cell? ⟨w.heap.size, 0, none⟩ = some v := by
  rw [hb.cell (p := ⟨w.heap.size, 0, none⟩) (by simp), (cell_new w #[v] t 0).1]; rfl

set_option maxRecDepth 100000 in
set_option maxHeartbeats 1600000 in
theorem specBack_any (v : Value) (es : List (Int × Int)) (s : ByteArray) (w : World) (hn : es.length ≤ 4194304) (hs : s.size ≤ 2097152) (ht : TabAt w v es) :
    Calls Tryz.prog 136 #[.agg #[v], .string s] w fun e w' => e = .returned (.string ⟨(backE es s.data.toList).toArray⟩) ∧ Below w.heap.size w w' := by
  have HT := Lib.hid ht
  obtain ⟨ad, cap, rfl, hcap, hr⟩ := ht
  clear hr hcap
  rcases hb : boxE s.data.toList with _ | p
  · have HB : Hid (∀ w, Calls Tryz.prog 160 #[.string s] w fun e w' => e = .returned (.tuple #[.int .i64 0, .bool false]) ∧ Below w.heap.size w w') := fun w => by have := specBox_any s w hs; rw [hb] at this; exact this
    have HE : Hid (backE es s.data.toList = s.data.toList) := by show backE _ _ = _; unfold backE; rw [hb]
    clear hb
    go_enter Tryz.func136, Tryz.ntmps136
    go_wp2_with fail
    (go_at_call 160; refine (HB.out _).mono ?_; rintro e w1 ⟨rfl, b1⟩)
    go_wp2_with fail
    go_ret
    exact ⟨by rw [HE.out, str_same]; rfl, below_box b1⟩
  · have HB : Hid (∀ w, Calls Tryz.prog 160 #[.string s] w fun e w' => e = .returned (.tuple #[.int .i64 p, .bool true]) ∧ Below w.heap.size w w') := fun w => by have := specBox_any s w hs; rw [hb] at this; exact this
    rcases hi : endI es p with _ | ⟨a, q⟩
    · have HE : Hid (backE es s.data.toList = s.data.toList) := by show backE _ _ = _; unfold backE; rw [hb]; simp only [hi]
      have HM : Hid (∀ w, TabAt w (.slice ad es.length cap) es → Calls Tryz.prog 56 #[.agg #[.slice ad es.length cap], .int .i64 p] w fun e w' => e = .returned (.tuple #[.agg #[.int .i64 0, .int .i64 0], .bool false]) ∧ Below w.heap.size w w') := fun w h => by have := specMapEnd_any _ es p w hn h; rw [hi] at this; exact this
      clear hb hi
      go_enter Tryz.func136, Tryz.ntmps136
      go_wp2_with fail
      (go_at_call 160; refine (HB.out _).mono ?_; rintro e w1 ⟨rfl, b1⟩)
      have c1 := box1 b1
      have B1 := Lib.hid (below_box b1)
      clear b1
      go_wp2_with fail
      (go_at_call 56; refine (HM.out _ (HT.out.below B1.out)).mono ?_; rintro e w2 ⟨rfl, b2⟩)
      have B2 := Lib.hid (B1.out.trans (b2.mono B1.out.size))
      clear b2
      go_wp2_with fail
      go_ret
      exact ⟨by rw [HE.out, str_same]; rfl, B2.out.alloc B2.out.size _⟩
    · have HE : Hid (backE es s.data.toList = lpL a q) := by show backE _ _ = _; unfold backE; rw [hb]; simp only [hi]
      have HM : Hid (∀ w, TabAt w (.slice ad es.length cap) es → Calls Tryz.prog 56 #[.agg #[.slice ad es.length cap], .int .i64 p] w fun e w' => e = .returned (.tuple #[.agg #[.int .i64 a, .int .i64 q], .bool true]) ∧ Below w.heap.size w w') := fun w h => by have := specMapEnd_any _ es p w hn h; rw [hi] at this; exact this
      clear hb hi
      go_enter Tryz.func136, Tryz.ntmps136
      go_wp2_with fail
      (go_at_call 160; refine (HB.out _).mono ?_; rintro e w1 ⟨rfl, b1⟩)
      have c1 := box1 b1
      have B1 := Lib.hid (below_box b1)
      clear b1
      go_wp2_with fail
      (go_at_call 56; refine (HM.out _ (HT.out.below B1.out)).mono ?_; rintro e w2 ⟨rfl, b2⟩)
      have B2 := Lib.hid (B1.out.trans (b2.mono B1.out.size))
      have B3 := Lib.hid (B2.out.alloc B2.out.size (.cells #[.int .i64 a, .int .i64 q] 48))
      clear b2
      go_wp2_with fail
      (go_at_call 161; refine (specLinPort_any a q _).mono ?_; rintro e w3 ⟨rfl, b3⟩)
      go_wp2_with fail
      go_ret
      exact ⟨by rw [HE.out]; rfl, B3.out.trans (b3.mono B3.out.size)⟩

end Go.Proofs.YtfgkonphbmliaaaGreatDoor

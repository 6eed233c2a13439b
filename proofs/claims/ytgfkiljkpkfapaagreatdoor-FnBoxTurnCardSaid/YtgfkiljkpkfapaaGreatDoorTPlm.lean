/- What goes outside of a stream, as the specification says it, at a table that may be nil. Conditions: the table is ok; the text is at most 2^21 bytes. (Several texts, joined: Far, GFarL.) -/
import Derived.Test.YtgfkiljkpkfapaaGreatDoorTPlc
import Derived.Test.YtgfkiljkpkfapaaGreatDoorTPlg
import Derived.Deep.RegionWith
import Derived.Test.YtgfkiljkpkfapaaGreatDoorTPlh

/- What goes outside of streams that a box knows. Condition: lists and texts of at most 2^20. -/
namespace Go.Proofs.YtgfkiljkpkfapaaGreatDoor
open Go.RowKit Go.Sort

/-- What was sent outside of the k-th streams, as it goes there. -/
def farE (b : Bx) (k : Nat) : List UInt8 := (streamE b.es (linesL (b.cs.getD k default).kn.data.toList)).2
def farB (b : Bx) (k : Int) : List UInt8 := if boxOkB b = true ∧ 0 ≤ k ∧ k ≤ (b.cs.length : Int) - 1 then farE b k.toNat else []
theorem boxOk_parts {b : Bx} (h : boxOkB b = true) : mapB b.es = true ∧ rulesB b.rs = true ∧ b.cs.length ≤ 3 ∧ ∀ k, k < b.cs.length → connB b.es b.cs k = true := by
  unfold boxOkB at h
  simp only [Bool.and_eq_true, decide_eq_true_eq] at h
  obtain ⟨⟨⟨h1, h2⟩, h3⟩, h4⟩ := h
  exact ⟨h1, h2, h3, fun k hk => List.all_eq_true.1 h4 k (by simpa using hk)⟩
theorem conn_parts {es : List (Int × Int)} {cs : List Cn} {k : Nat} (h : connB es cs k = true) :
    insB (cs.getD k default).ia (cs.getD k default).ip = true ∧ outB (cs.getD k default).oa (cs.getD k default).op = true ∧ (cs.getD k default).op = 21 ∧ portI es ((cs.getD k default).ia, (cs.getD k default).ip) ≠ 0 ∧ strB (cs.getD k default).kn.data.toList = true ∧ strB (cs.getD k default).he.data.toList = true ∧
      knowB es (cs.getD k default).kn.data.toList = true ∧ nearB es (cs.getD k default).he.data.toList (cs.getD k default).ne.data.toList = true ∧ findCn (cs.take k) (cs.getD k default).ia (cs.getD k default).ip (cs.getD k default).oa (cs.getD k default).op < 0 := by
  unfold connB conB at h
  simp only [Bool.and_eq_true, decide_eq_true_eq] at h
  obtain ⟨⟨⟨⟨⟨⟨⟨h1, h2⟩, h3⟩, h4⟩, h5⟩, h6⟩, h7, h8⟩, h9⟩ := h
  exact ⟨h1, h2, h3, h4, h5, h6, h7, h8, h9⟩
theorem getD_at {α : Type} [Inhabited α] {l : List α} {k : Nat} (hk : k < l.length) : l.getD k default = l[k] := by simp [List.getD, hk]

end Go.Proofs.YtgfkiljkpkfapaaGreatDoor

/- What goes outside of a stream, as the specification says it, at a table that may be nil. Conditions: the table is ok; the text is at most 2^21 bytes. -/
namespace Go.Proofs.YtgfkiljkpkfapaaGreatDoor
open Go.RowKit Go.Sort

set_option maxRecDepth 100000 in
set_option maxHeartbeats 1600000 in
theorem specL7Far_anyG (B : Nat) (ad : Option Addr) (cap : Nat) (es : List (Int × Int)) (s : ByteArray) (w : World) (hm : mapB es = true) (hs : s.size ≤ 2097152) (hB : B ≤ w.heap.size) (ho : OwnTab w B (.slice ad es.length cap) es) :
    Calls Tryz.prog 60 #[.agg #[.slice ad es.length cap], .string s] w fun e w' => e = .returned (.string ⟨(streamE es (linesL s.data.toList)).2.toArray⟩) ∧ Below w.heap.size w w' := by
  have B0 : Hid (Below w.heap.size w (w.alloc (.cells #[.slice ad es.length cap] 26))) := (Below.refl _ _).alloc (Nat.le_refl _) _
  have HC : Hid (Calls Tryz.prog 104 #[.agg #[.slice ad es.length cap], .string s] (w.alloc (.cells #[.slice ad es.length cap] 26)) fun e w' => ∃ (g : Option Addr) (c : Nat), e = .returned (.tuple #[.agg #[.slice g (streamE es (linesL s.data.toList)).1.length c], .string ⟨(streamE es (linesL s.data.toList)).2.toArray⟩]) ∧ Below (w.alloc (.cells #[.slice ad es.length cap] 26)).heap.size (w.alloc (.cells #[.slice ad es.length cap] 26)) w') := by
    refine (specStream_anyG B ad cap es s _ hm hs (by simp; omega) (ho.below B0.out)).mono ?_
    rintro e w' ⟨g, c, rfl, _, b⟩
    exact ⟨g, c, rfl, b⟩
  obtain ⟨k, hk⟩ : ∃ k, k = (streamE es (linesL s.data.toList)).1.length := ⟨_, rfl⟩
  obtain ⟨ot, hot⟩ : ∃ o : ByteArray, o = ⟨(streamE es (linesL s.data.toList)).2.toArray⟩ := ⟨_, rfl⟩
  rw [← hk, ← hot] at HC
  rw [← hot]
  clear hk hot ho hm
  go_enter Tryz.func60, Tryz.ntmps60
  go_wp2_with fail
  (go_at_call 104; refine HC.out.mono ?_; rintro e w1 ⟨g, c, rfl, b1⟩)
  have B1 : Hid (Below w.heap.size w w1) := B0.out.trans (b1.mono (by simp))
  clear b1
  go_wp2_with fail
  go_ret
  first
    | exact ⟨rfl, B1.out⟩
    | exact ⟨rfl, B1.out.alloc B1.out.size _⟩

end Go.Proofs.YtgfkiljkpkfapaaGreatDoor

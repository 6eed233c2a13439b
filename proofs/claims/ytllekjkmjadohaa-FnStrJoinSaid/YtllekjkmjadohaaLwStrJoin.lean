/- The law that two streams, one behind the other, are one: at every two codes. Condition: the codes lie in memory. -/
import Derived.Test.YtllekjkmjadohaaDrawStrs
import Derived.Test.YtllekjkmjadohaaHaOk
import Derived.Test.YtllekjkmjadohaaHaTexts
import Derived.Test.YtllekjkmjadohaaSLine
import Derived.Test.YtllekjkmjadohaaLinesP
import Derived.Test.YtllekjkmjadohaaILines
import Derived.Laws.AppendOwnNone
namespace Go.Proofs.Ytllekjkmjadohaa
open Go.RowKit

theorem RowAt.grown {w w' : World} {g : Nat} {row : Option Nat} {xs : List Value} (h : RowAt w g xs) (hg : w.grownBy w' row) (hlt : g < w.heap.size) (hne : some g ≠ row) : RowAt w' g xs := fun i hi =>
  ⟨hg.cell (h i hi).1 hne, (World.frozen?_of_block (hg.block g hlt hne)).trans (h i hi).2⟩
/-- A list of texts that lies in memory: nil and empty, or a row. -/
def TxtAt (w : World) (v : Value) (xs : List (List UInt8)) : Prop := (v = .slice none 0 0 ∧ xs = []) ∨ ∃ g cap, v = .slice (some ⟨g, 0, none⟩) xs.length cap ∧ g < w.heap.size ∧ RowAt w g (xs.map strV)
theorem TxtAt.of_own {w : World} {B : Nat} {v : Value} {xs : List (List UInt8)} (h : w.ownsRow B 9 1 v xs.length (xs.map strV)) : TxtAt w v xs := by
  have h' := h
  rcases h.2 with ⟨hv, h0⟩ | ⟨g, c, cur, hv, _, hg, _⟩
  · exact .inl ⟨hv, List.eq_nil_of_length_eq_zero h0⟩
  · refine .inr ⟨g, c, hv, (Array.getElem?_eq_some_iff.1 hg).1, ?_⟩
    by_cases h0 : xs.length = 0
    · intro i hi; rw [List.length_map] at hi; omega
    · obtain ⟨g2, cap2, e, _, _, _, hc⟩ := own_cells h' (by omega)
      rw [hv] at e; simp at e
      rw [← e.1] at hc; exact hc
theorem TxtAt.below {w w' : World} {v : Value} {xs : List (List UInt8)} (h : TxtAt w v xs) (hb : Below w.heap.size w w') : TxtAt w' v xs := by
  rcases h with h | ⟨g, cap, hv, hl, hr⟩
  · exact .inl h
  · exact .inr ⟨g, cap, hv, Nat.lt_of_lt_of_le hl hb.size, hr.below hb hl⟩
theorem row_news {w : World} {g : Nat} {xs : List Value} (h : RowAt w g xs) : ∀ j u, xs[j]? = some u → w.cell? ((⟨g, 0, none⟩ : Addr).add j) = some u := by
  intro j u hj
  obtain ⟨hjl, rfl⟩ := List.getElem?_eq_some_iff.1 hj
  have e : (⟨g, 0, none⟩ : Addr).add j = ⟨g, j, none⟩ := by unfold Addr.add; split <;> simp_all
  rw [e]; exact (h j hjl).1
theorem row_one (xs : List (List UInt8)) : ∀ u ∈ xs.map strV, u.oneCell' = true := by
  intro u hu
  obtain ⟨x, _, rfl⟩ := List.mem_map.1 hu
  rfl

theorem TxtAt.rdv {w : World} {v : Value} {xs : List (List UInt8)} (h : TxtAt w v xs) : RdV w v (xs.map strV) := by
  rcases h with ⟨rfl, rfl⟩ | ⟨g, cap, rfl, _, hr⟩
  · exact ⟨none, 0, rfl, fun h => absurd h (by simp)⟩
  · exact ⟨some ⟨g, 0, none⟩, cap, by rw [List.length_map], fun _ => ⟨g, rfl, hr⟩⟩
theorem TxtAt.grown {w w' : World} {v : Value} {xs : List (List UInt8)} {row : Option Nat} (h : TxtAt w v xs) (hg : w.grownBy w' row) (hr : ∀ b, row = some b → ∀ g cap, v = .slice (some ⟨g, 0, none⟩) xs.length cap → g ≠ b) : TxtAt w' v xs := by
  rcases h with h | ⟨g, cap, hv, hl, hrow⟩
  · exact .inl h
  · exact .inr ⟨g, cap, hv, Nat.lt_of_lt_of_le hl hg.size, hrow.grown hg hl (fun e => hr g e.symm g cap hv rfl)⟩

theorem TxtAt.lt {w : World} {v : Value} {xs : List (List UInt8)} (h : TxtAt w v xs) : ∀ g n cap, v = .slice (some ⟨g, 0, none⟩) n cap → g < w.heap.size := by
  intro g n cap e
  rcases h with ⟨rfl, _⟩ | ⟨g', cap', rfl, hl, _⟩
  · simp at e
  · simp at e; omega
theorem grown_size {w w' : World} {o : Obj} {row : Option Nat} (hg : (w.alloc o).grownBy w' row) : w.heap.size ≤ w'.heap.size := by
  have := hg.size
  rw [World.size_alloc] at this
  omega
theorem own_block {w : World} {B n : Nat} {e : TypeId} {v : Value} {xs : List Value} (h : w.ownsRow B e 1 v n xs) : ∀ b, v.ownBlock = some b → B ≤ b := by
  intro b hb
  rcases h.2 with ⟨rfl, _⟩ | ⟨g, cap, cur, rfl, hg, _⟩
  · simp [Value.ownBlock] at hb
  · have : g = b := by simpa [Value.ownBlock] using hb
    omega

theorem txt_ne {w : World} {v : Value} {B k : Nat} {e : TypeId} {zs : List Value} {b g : Nat} (hl : g < B) (ho : w.ownsRow B e 1 v k zs) (hb : v.ownBlock = some b) : g ≠ b := fun e => by
  have := own_block ho b hb
  omega

/-- append of a list of texts to one that the call has made itself. -/
theorem wp_append_txt {w : World} {ops : Array Oper} {rest : List Oper} {o : Oper} {a : Act} {Q : Exit → Act → World → Prop} (hgd : o.guard = none) (s x : Operand)
    (ho : o.op = .call { callee := .builtin .append, args := #[s, x], argTypes := #[30, 30] })
    (B : Nat) (v : Value) (k : Nat) (zs : List Value) (hs : a.eval s = v) (hown : w.ownsRow B 9 1 v k zs) (u : Value) (ys : List (List UInt8)) (hx : a.eval x = u) (hu : TxtAt w u ys)
    (hk : k + ys.length ≤ 1000000) (hbase : B ≤ w.heap.size)
    (h : ∀ v' w', w'.ownsRow B 9 1 v' (k + ys.length) (zs ++ ys.map strV) → w.grownBy w' v.ownBlock → wpList Try.prog ops Q rest (a.put o.dst v') w') : wpList Try.prog ops Q (o :: rest) a w := by
  obtain ⟨i0, hi, hz0, hz1, hz2⟩ := info_parts infoStr
  rcases hu with ⟨rfl, rfl⟩ | ⟨g, cap, rfl, hl, hr⟩
  · exact wpList_append_own_none hgd s x 30 ho B 9 i0 1 Try.underlying30 hi v k zs hs hown hx (h v w (by simpa using hown) (World.grownBy.refl _ _))
  · refine wpList_append_own w hgd s x 30 ho B 9 i0 (.string ⟨#[]⟩) 1 16 Try.underlying30 hi hz0 hz1 hz2 rfl (by decide) v k zs hs hown ⟨g, 0, none⟩ ys.length cap (ys.map strV) hx (by simp) (row_news hr) (row_one ys) (by unfold maxLen; omega) (by omega) hbase ?_
    intro v' w' h1 h2 _
    exact h v' w' h1 h2

set_option maxRecDepth 100000 in
set_option maxHeartbeats 6400000 in
theorem lwStrJoin_of (ao : Option Addr) (n cap : Nat) (ao2 : Option Addr) (n2 cap2 : Nat) (w : World) (h : BytesIn w ao n) (hn : n ≤ cap) (h2 : BytesIn w ao2 n2) (hn2 : n2 ≤ cap2) (hb1 : ¬ 1048576 < n) (hb2 : ¬ 1048576 < n2) :
    Calls Try.prog 6 #[.slice ao n cap, .slice ao2 n2 cap2] w fun e w' => e = .returned (.bool true) ∧ Below w.heap.size w w' := by
  have H := Lib.hid h
  have H2 := Lib.hid h2
  clear h h2
  go_enter Try.func6, Try.ntmps6
  go_wp2_with fail
  (go_at_call 17; refine (drawStrLines_any ao n cap _ H.out hn).mono ?_; rintro e w1 ⟨s, rfl, hs, b1⟩)
  have B1 := Lib.hid b1
  have H21 := Lib.hid (H2.out.below b1)
  clear b1
  go_wp2_with fail
  (go_at_call 17; refine (drawStrLines_any ao2 n2 cap2 _ H21.out hn2).mono ?_; rintro e w2 ⟨t, rfl, ht, b2⟩)
  have B2 := Lib.hid (B1.out.trans (b2.mono B1.out.size))
  clear b2
  have hll := lines_len s.data.toList
  have hlt := lines_len t.data.toList
  rw [len_list] at hll hlt
  obtain ⟨xs, hxs⟩ : ∃ xs, xs = linesL s.data.toList := ⟨_, rfl⟩
  obtain ⟨ys, hys⟩ : ∃ ys, ys = linesL t.data.toList := ⟨_, rfl⟩
  obtain ⟨ra, hra⟩ : ∃ r : ByteArray, r = ⟨(restL s.data.toList).toArray⟩ := ⟨_, rfl⟩
  obtain ⟨rb, hrb⟩ : ∃ r : ByteArray, r = ⟨(restL t.data.toList).toArray⟩ := ⟨_, rfl⟩
  have HI : Hid (∀ w, Calls Try.prog 18 #[.string s] w fun e w' => ∃ v, e = .returned (.tuple #[v, .string ra]) ∧ w'.ownsRow w.heap.size 9 1 v xs.length (xs.map strV) ∧ Below w.heap.size w w') := fun w => by rw [hxs, hra]; exact implLines_any s w (by omega)
  have HS : Hid (∀ w, Calls Try.prog 19 #[.string s] w fun e w' => ∃ v, e = .returned (.tuple #[v, .string ra]) ∧ w'.ownsRow w.heap.size 9 1 v xs.length (xs.map strV) ∧ Below w.heap.size w w') := fun w => by rw [hxs, hra]; exact specLines_any s w (by omega)
  have HJ : Hid (∀ w, Calls Try.prog 18 #[.string t] w fun e w' => ∃ v, e = .returned (.tuple #[v, .string rb]) ∧ w'.ownsRow w.heap.size 9 1 v ys.length (ys.map strV) ∧ Below w.heap.size w w') := fun w => by rw [hys, hrb]; exact implLines_any t w (by omega)
  have ec : (s ++ t).data.toList = s.data.toList ++ t.data.toList := by simp
  obtain ⟨zs, rc, HK, hall⟩ : ∃ (zs : List (List UInt8)) (rc : ByteArray), Hid (∀ w, Calls Try.prog 18 #[.string (s ++ t)] w fun e w' => ∃ v, e = .returned (.tuple #[v, .string rc]) ∧ w'.ownsRow w.heap.size 9 1 v zs.length (zs.map strV) ∧ Below w.heap.size w w') ∧ (restL s.data.toList = [] → zs = xs ++ ys ∧ rc = rb) := by
    refine ⟨linesL (s.data.toList ++ t.data.toList), ⟨(restL (s.data.toList ++ t.data.toList)).toArray⟩, fun w => ?_, fun hr => ?_⟩
    · have := implLines_any (s ++ t) w (by simp; omega)
      rwa [ec] at this
    · obtain ⟨j1, j2⟩ := lines_join t.data.toList hr
      rw [j1, j2, hxs, hys, hrb]; exact ⟨rfl, rfl⟩
  have hrl : ra.toList = restL s.data.toList := by rw [hra, Lib.toList_data]
  have hxl : xs.length ≤ 200 := by rw [hxs]; omega
  have hyl : ys.length ≤ 200 := by rw [hys]; omega
  have n1 : ¬ 9223372036854775807 < s.size + t.size := by omega
  have HALL := Lib.hid hall
  clear hxs hys hra hrb hll hlt ec hall
  go_wp2_with fail
  (go_at_call 18; refine (HI.out _).mono ?_; rintro e w3 ⟨v3, rfl, own3, b3⟩)
  have T3 := Lib.hid (TxtAt.of_own own3)
  have D3 : Hid (RdV w3 v3 (xs.map strV)) := (RdV.of_own own3).1
  have B3 := Lib.hid (B2.out.trans (b3.mono B2.out.size))
  clear own3 b3
  go_wp2_with fail
  (go_at_call 19; refine (HS.out _).mono ?_; rintro e w4 ⟨v4, rfl, own4, b4⟩)
  have T4 := Lib.hid (T3.out.below b4)
  have D4 : Hid (RdV w4 v3 (xs.map strV)) := D3.out.below b4
  have D4' : Hid (RdV w4 v4 (xs.map strV)) := (RdV.of_own own4).1
  have B4 := Lib.hid (B3.out.trans (b4.mono B3.out.size))
  clear own4 b4 T3 D3
  go_wp2_with fail
  (go_at_call 20; refine (haTexts_same xs v3 v4 _ (by omega) D4.out D4'.out).mono ?_; rintro e w5 ⟨rfl, b5⟩)
  have T5 := Lib.hid (T4.out.below b5)
  have B5 := Lib.hid (B4.out.trans (b5.mono B4.out.size))
  clear b5 T4 D4 D4'
  go_wp2_with fail
  (go_at_call 18; refine (HJ.out _).mono ?_; rintro e w6 ⟨v6, rfl, own6, b6⟩)
  have T6 := Lib.hid (T5.out.below b6)
  have U6 := Lib.hid (TxtAt.of_own own6)
  have B6 := Lib.hid (B5.out.trans (b6.mono B5.out.size))
  clear own6 b6 T5
  go_wp2_with fail
  (go_at_call 18; refine (HK.out _).mono ?_; rintro e w7 ⟨v7, rfl, own7, b7⟩)
  have T7 := Lib.hid (T6.out.below b7)
  have U7 := Lib.hid (U6.out.below b7)
  have A7 := Lib.hid (TxtAt.of_own own7)
  have B7 := Lib.hid (B6.out.trans (b7.mono B6.out.size))
  clear own7 b7 T6 U6
  by_cases hr : restL s.data.toList = []
  · have hr0 : ra.toList = [] := by rw [hrl, hr]
    obtain ⟨rfl, rfl⟩ := HALL.out hr
    have hE : Hid ((w7.alloc (.cells #[] 9)).ownsRow w7.heap.size 9 1 (.slice (some ⟨w7.heap.size, 0, none⟩) 0 0) 0 []) := World.ownsRow_made w7 #[] 0 (Nat.le_refl _) (Nat.zero_le _) rfl
    have hal : Below w7.heap.size w7 (w7.alloc (.cells #[] 9)) := (Below.refl _ w7).alloc (Nat.le_refl _) _
    have BA := Lib.hid (B7.out.alloc B7.out.size (.cells #[] 9))
    have T8 := Lib.hid (T7.out.below hal)
    have U8 := Lib.hid (U7.out.below hal)
    have A8 := Lib.hid (A7.out.below hal)
    have LU := Lib.hid U7.out.lt
    have LA := Lib.hid A7.out.lt
    have hz7 := B7.out.size
    clear hr hrl hal
    go_wp2_with (first
      | (at_builtin; refine wp_append_txt rfl _ _ rfl w7.heap.size _ 0 [] rfl hE.out v3 xs rfl T8.out (by omega) (by simp) ?_; intro v8 w8 o8 g8; have U9 := Lib.hid (U8.out.grown g8 (fun b e g c hv => txt_ne (LU.out g _ c hv) hE.out e)); have A9 := Lib.hid (A8.out.grown g8 (fun b e g c hv => txt_ne (LA.out g _ c hv) hE.out e)); have s8 : w7.heap.size ≤ w8.heap.size := grown_size g8; have O8 := Lib.hid o8; have B8 := Lib.hid (BA.out.grown g8 BA.out.size (fun k e => Nat.le_trans hz7 (own_block hE.out k e))); clear o8 g8)
      | (at_builtin; refine wp_append_txt rfl _ _ rfl w7.heap.size v8 _ _ rfl O8.out v6 ys rfl U9.out (by omega) (by omega) ?_; intro v9 w9 o9 g9; have A10 := Lib.hid (A9.out.grown g9 (fun b e g c hv => txt_ne (LA.out g _ c hv) O8.out e)); have O9 := Lib.hid o9; have B9 := Lib.hid (B8.out.grown g9 B8.out.size (fun k e => Nat.le_trans hz7 (own_block O8.out k e))); clear o9 g9))
    have DL : Hid (RdV w9 v9 ((xs ++ ys).map strV)) := by
      have hq := (RdV.of_own O9.out).1
      show RdV w9 v9 _
      simpa using hq
    (go_at_call 20; refine (haTexts_same (xs ++ ys) v7 v9 _ (by simp; omega) A10.out.rdv DL.out).mono ?_; rintro e w10 ⟨rfl, b10⟩)
    go_wp2_with fail
    (go_at_call 16; refine (haOk_any _).mono ?_; rintro e w11 ⟨rfl, rfl⟩)
    go_wp2_with fail
    go_ret
    exact ⟨rfl, B9.out.trans (b10.mono B9.out.size)⟩
  · have hr0 : ra.toList.isEmpty = false := by rw [hrl]; simpa using hr
    clear hr hrl
    go_wp2_with fail
    (go_at_call 16; refine (haOk_any _).mono ?_; rintro e w8 ⟨rfl, rfl⟩)
    go_wp2_with fail
    go_ret
    exact ⟨rfl, B7.out⟩

set_option maxRecDepth 100000 in
set_option maxHeartbeats 800000 in
theorem lwStrJoin_any (ao : Option Addr) (n cap : Nat) (ao2 : Option Addr) (n2 cap2 : Nat) (w : World) (h : BytesIn w ao n) (hn : n ≤ cap) (h2 : BytesIn w ao2 n2) (hn2 : n2 ≤ cap2) :
    Calls Try.prog 6 #[.slice ao n cap, .slice ao2 n2 cap2] w fun e w' => e = .returned (.bool true) ∧ Below w.heap.size w w' := by
  by_cases hb1 : 1048576 < n
  · clear h h2
    go_enter Try.func6, Try.ntmps6
    go_wp2_with fail
    go_ret
    exact ⟨rfl, Below.refl _ _⟩
  · by_cases hb2 : 1048576 < n2
    · clear h h2
      go_enter Try.func6, Try.ntmps6
      go_wp2_with fail
      go_ret
      exact ⟨rfl, Below.refl _ _⟩
    · exact lwStrJoin_of ao n cap ao2 n2 cap2 w h hn h2 hn2 hb1 hb2

end Go.Proofs.Ytllekjkmjadohaa

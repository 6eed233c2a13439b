/- l3Put of the specification where there is room. Condition: the table has at most 2^22 ends and lies at an address. -/
import Derived.Test.YtbhpogddnpaacaaSPut
namespace Go.Proofs.Ytbhpogddnpaacaa
open Go.RowKit Go.Sort

theorem heap_last (w : World) (o : Obj) : (w.alloc o).heap[w.heap.size]? = some o := by
  show (w.heap.push o)[w.heap.size]? = _
  simp
theorem heap_lastd {w : World} {k : Nat} (o : Obj) (h : k = w.heap.size) : (w.alloc o).drew.heap[k]? = some o := by subst h; exact heap_last w o
theorem heap_last2d {w : World} (o o' : Obj) : ((w.alloc o).alloc o').drew.heap[w.heap.size]? = some o := (Below.heap_alloc (w.alloc o) o' _ (by simp)).trans (heap_last w o)

/-- append onto a slice of the call's own that is not nil, at a step of a region that draws its order: whatever the number that comes, none too. -/
theorem step_append_some {P : Program} (w : World) {ops : Array Oper} {o : Oper} {a : Act} {K : Act → World → Prop} {Q : Exit → Act → World → Prop} {E : Prop} (hgd : o.guard = none) (s x : Operand) (t : TypeId)
    (ho : o.op = .call { callee := .builtin .append, args := #[s, x], argTypes := #[t, t] })
    (base : Nat) (e : TypeId) (i : TypeInfo) (z : Value) (size bytes : Nat) (ht : P.underlying t = some (.slice e)) (hi : P.info? e = some i) (hz : i.zero = some z)
    (hsize : i.size = size) (hby : i.bytes = bytes) (hzs : z.cells.size = size) (hsz : 0 < size)
    (v : Value) (n : Nat) (xs : List Value) (hs : a.eval s = v) (hown : w.ownsRow base e size v n xs) (hne : v ≠ .slice none 0 0)
    (ad : Addr) (m c : Nat) (news : List Value) (hx : a.eval x = .slice (some ad) m c) (hl : news.length = m * size) (hnews : ∀ j u, news[j]? = some u → w.cell? (ad.add j) = some u) (h1 : ∀ u ∈ news, u.oneCell' = true)
    (h63 : n + m ≤ maxLen) (hbytes : (n + m) * bytes ≤ 140737488355328) (hbase : base ≤ w.heap.size)
    (h : ∀ g cap w', w'.ownsRow base e size (.slice (some ⟨g, 0, none⟩) (n + m) cap) (n + m) (xs ++ news) → w.grownBy w' v.ownBlock → base ≤ g → K (a.put o.dst (.slice (some ⟨g, 0, none⟩) (n + m) cap)) w') :
    if Region.wanted o (yielded ops a.tmps) = true then Oper.wp P o a w K Q else E := by
  have hw : Region.wanted o (yielded ops a.tmps) = true := by simp [Region.wanted, hgd]
  rw [if_pos hw]
  obtain ⟨v', w', hr, h2, h3, h4, _⟩ := run_append_own_at (P := P) w base t o.type e i z size bytes ht hi hz hsize hby hzs hsz v n xs hown ad m c news hl hnews h1 h63 hbytes hbase
  obtain ⟨g, cap, rfl, hb⟩ := own_someform h2 (fun hv => hne (h4.1 hv).1)
  unfold Oper.wp execOp
  simp only [ho, resolve, invoke, builtin, Sem.run_bind, Sem.run_pure, Result.andThen_ok, List.map_toArray, List.map_cons, List.map_nil, hs, hx, hr]
  exact h g cap w' h2 h3 hb

set_option maxRecDepth 100000 in
set_option maxHeartbeats 3200000 in
/-- l3Put where there is room: the end behind all, in a table of the call's own. -/
theorem specPut_new (ad : Addr) (cap : Nat) (es : List (Int × Int)) (a p : Int) (w : World) (hn : es.length ≤ 4194304) (ht : TabAt w (.slice (some ad) es.length cap) es) (hp : portI es (a, p) = 0) (h6 : es.length ≠ 6) :
    Calls Try.prog 59 #[.agg #[.slice (some ad) es.length cap], .agg #[.int .i64 a, .int .i64 p]] w fun e w' => ∃ g c, e = .returned (.tuple #[.agg #[.slice (some g) (es.length + 1) c], .int .i64 (500 + (es.length : Int))]) ∧ OwnTab w' w.heap.size (.slice (some g) (es.length + 1) c) (es ++ [(a, p)]) ∧ Below w.heap.size w w' := by
  have HT := Lib.hid ht
  have HP : Hid (∀ w, TabAt w (.slice (some ad) es.length cap) es → Calls Try.prog 68 #[.agg #[.slice (some ad) es.length cap], .agg #[.int .i64 a, .int .i64 p]] w fun e w' => e = .returned (.int .i64 0) ∧ Below w.heap.size w w') := fun w h => by rw [← hp]; exact specPort_any _ es a p w hn h
  obtain ⟨i0, hi, hz0, hz1, hz2⟩ := info_parts infoEnd
  have h6' : ((es.length : Int) == 6) = false := by simp; omega
  clear ht hp h6
  go_enter Try.func59, Try.ntmps59
  go_upto_region 6 with (go_at_call 68; refine (HP.out _ (HT.out.below ((((Below.refl _ _).alloc (Nat.le_refl _) _).alloc (by simp) _).alloc (by simp <;> omega) _))).mono ?_; rintro e w1 ⟨rfl, b1⟩; obtain ⟨cA, cB, cC, b01, z1⟩ := cell_three b1; have a0 := (cA 0).1; have s0 := (cA 0).2; have e0 := (cB 0).1; have e1 := (cB 1).1; have r0 := (cC 0).1; have g0 := (cC 0).2; simp at a0 e0 e1 r0)
  have HTW : Hid (TabAt w1 (.slice (some ad) es.length cap) es) := HT.out.below b01
  have hsrc : Hid (∀ wx, Below w1.heap.size w1 wx → ∀ (j : Nat) (u : Value), (flatE es)[j]? = some u → wx.cell? (ad.add j) = some u) := by
    intro wx hb j u hj
    have h1 : 0 < es.length := by
      rcases es with _ | ⟨x, r⟩
      · simp [flatE] at hj
      · simp
    obtain ⟨a', cap', e', _, hr⟩ := HTW.out
    simp at e'
    obtain ⟨g, e, hrow⟩ := hr h1
    rw [← e'.1] at e
    simp at e; subst e
    rw [show (⟨g, 0, none⟩ : Addr).add j = ⟨g, j, none⟩ from by simp [Addr.add]; omega, hb.cell (p := ⟨g, j, none⟩) (hrow.lt h1)]
    exact hrow.flat j u hj
  have own0 : Hid (∀ wx : World, w1.heap.size ≤ wx.heap.size → (wx.alloc (.cells #[] 39)).ownsRow w1.heap.size 39 2 (.slice (some ⟨wx.heap.size, 0, none⟩) 0 0) 0 []) :=
    fun wx h => World.ownsRow_made wx #[] 0 h (Nat.zero_le _) rfl
  have B0 : Hid (Below w.heap.size w w1) := b01
  clear b1 cA cB cC b01
  have a0x : ∀ o, (w1.alloc o).cell? ⟨w.heap.size, 0, none⟩ = some (.slice (some ad) es.length cap) := fun o => by rw [cell_alloc_lt (by omega)]; exact a0
  have a0y : ∀ o o', ((w1.alloc o).alloc o').cell? ⟨w.heap.size, 0, none⟩ = some (.slice (some ad) es.length cap) := fun o o' => by rw [cell_alloc_lt (by simp <;> omega), cell_alloc_lt (by omega)]; exact a0
  have e0x : ∀ o, (w1.alloc o).cell? ⟨w.heap.size + 1, 0, none⟩ = some (.int .i64 a) := fun o => by rw [cell_alloc_lt (by omega)]; exact e0
  have e0y : ∀ o o', ((w1.alloc o).alloc o').cell? ⟨w.heap.size + 1, 0, none⟩ = some (.int .i64 a) := fun o o' => by rw [cell_alloc_lt (by simp <;> omega), cell_alloc_lt (by omega)]; exact e0
  have e1x : ∀ o, (w1.alloc o).cell? ⟨w.heap.size + 1, 1, none⟩ = some (.int .i64 p) := fun o => by rw [cell_alloc_lt (by omega)]; exact e1
  have e1y : ∀ o o', ((w1.alloc o).alloc o').cell? ⟨w.heap.size + 1, 1, none⟩ = some (.int .i64 p) := fun o o' => by rw [cell_alloc_lt (by simp <;> omega), cell_alloc_lt (by omega)]; exact e1
  have own1 : Hid (((w1.alloc (.cells #[] 39)).drew).ownsRow w1.heap.size 39 2 (.slice (some ⟨w1.heap.size, 0, none⟩) 0 0) 0 []) := (own0.out w1 (Nat.le_refl _)).drew
  have own2 : Hid (∀ o, (((w1.alloc (.cells #[] 39)).alloc o).drew).ownsRow w1.heap.size 39 2 (.slice (some ⟨w1.heap.size, 0, none⟩) 0 0) 0 []) := fun o => ((own0.out w1 (Nat.le_refl _)).alloc o).drew
  have own3 : Hid (∀ o, (((w1.alloc o).alloc (.cells #[] 39)).drew).ownsRow w1.heap.size 39 2 (.slice (some ⟨w1.heap.size + 1, 0, none⟩) 0 0) 0 []) := fun o => by have := (own0.out (w1.alloc o) (by simp)).drew; simpa using this
  have bl1 : Hid (∀ o, Below w1.heap.size w1 ((w1.alloc o).drew)) := fun o => ((Below.refl _ _).alloc (Nat.le_refl _) _).drew
  have bl2 : Hid (∀ o o', Below w1.heap.size w1 (((w1.alloc o).alloc o').drew)) := fun o o' => ((((Below.refl _ _).alloc (Nat.le_refl _) _).alloc (by simp) _)).drew
  go_cut [] (fun wx => ∃ g c : Nat, wx.cell? ⟨w.heap.size, 0, none⟩ = some (.slice (some ⟨g, 0, none⟩) (es.length + 1) c) ∧ wx.cell? ⟨w.heap.size + 1 + 1, 0, none⟩ = some (.slice none 0 0) ∧ wx.frozen? ⟨w.heap.size + 1 + 1, 0, none⟩ = false ∧ wx.ownsRow w1.heap.size 39 2 (.slice (some ⟨g, 0, none⟩) (es.length + 1) c) (es.length + 1) (flatE (es ++ [(a, p)])) ∧ Below w.heap.size w wx)
  case first =>
    go_region_law (first
      | ((refine step_append_some _ rfl (.tmp 19) (.tmp 21) 32 rfl w1.heap.size 39 i0 (.agg #[.int .i64 0, .int .i64 0]) 2 16 Try.underlying32 hi hz0 hz1 hz2 rfl (by decide) (.slice (some ⟨w1.heap.size, 0, none⟩) 0 0) 0 [] (by rfl) (by first | exact own1.out | exact own2.out _ | exact own3.out _) (by simp) ad es.length cap (flatE es) (by rfl) (flatE_len es) (hsrc.out _ (by first | exact bl1.out _ | exact bl2.out _ _)) (flatE_one es) (by unfold maxLen; omega) (by omega) (by simp <;> omega) ?_)
         intro g1 c1 w2 hown1 hgrow1 hg1
         have hb2 : Below w1.heap.size w1 w2 := by first | exact (bl1.out _).grown hgrow1 (by simp) (fun k hk => by simp [Value.ownBlock] at hk; omega) | exact (bl2.out _ _).grown hgrow1 (by simp <;> omega) (fun k hk => by simp [Value.ownBlock] at hk; omega)
         try (have n5 : ∀ (j : Nat) (u : Value), [Value.int .i64 a, .int .i64 p][j]? = some u → w2.cell? ((⟨w1.heap.size + 1, 0, none⟩ : Addr).add j) = some u := World.news_of_block (cs := #[.int .i64 a, .int .i64 p]) (t := 39) (by rw [hgrow1.block (w1.heap.size + 1) (by simp) (by simp [Value.ownBlock])]; exact heap_lastd _ (by simp)))
         try (have n5 : ∀ (j : Nat) (u : Value), [Value.int .i64 a, .int .i64 p][j]? = some u → w2.cell? ((⟨w1.heap.size, 0, none⟩ : Addr).add j) = some u := World.news_of_block (cs := #[.int .i64 a, .int .i64 p]) (t := 39) (by rw [hgrow1.block w1.heap.size (by simp <;> omega) (by simp [Value.ownBlock])]; exact heap_last2d _ _))
         simp only [Nat.zero_add, List.nil_append] at hown1 ⊢
         have hs2 : w1.heap.size ≤ w2.heap.size := hb2.size
         have a0z : w2.cell? ⟨w.heap.size, 0, none⟩ = some (.slice (some ad) es.length cap) := by rw [hb2.cell (by simp <;> omega)]; exact a0
         have e0z : w2.cell? ⟨w.heap.size + 1, 0, none⟩ = some (.int .i64 a) := by rw [hb2.cell (by simp <;> omega)]; exact e0
         have e1z : w2.cell? ⟨w.heap.size + 1, 1, none⟩ = some (.int .i64 p) := by rw [hb2.cell (by simp <;> omega)]; exact e1)
      | ((refine step_append_some _ rfl (.tmp 19) (.tmp 21) 32 rfl w1.heap.size 39 i0 (.agg #[.int .i64 0, .int .i64 0]) 2 16 Try.underlying32 hi hz0 hz1 hz2 rfl (by decide) (.slice (some ⟨w1.heap.size + 1, 0, none⟩) 0 0) 0 [] (by rfl) (by first | exact own1.out | exact own2.out _ | exact own3.out _) (by simp) ad es.length cap (flatE es) (by rfl) (flatE_len es) (hsrc.out _ (by first | exact bl1.out _ | exact bl2.out _ _)) (flatE_one es) (by unfold maxLen; omega) (by omega) (by simp <;> omega) ?_)
         intro g1 c1 w2 hown1 hgrow1 hg1
         have hb2 : Below w1.heap.size w1 w2 := by first | exact (bl1.out _).grown hgrow1 (by simp) (fun k hk => by simp [Value.ownBlock] at hk; omega) | exact (bl2.out _ _).grown hgrow1 (by simp <;> omega) (fun k hk => by simp [Value.ownBlock] at hk; omega)
         try (have n5 : ∀ (j : Nat) (u : Value), [Value.int .i64 a, .int .i64 p][j]? = some u → w2.cell? ((⟨w1.heap.size + 1, 0, none⟩ : Addr).add j) = some u := World.news_of_block (cs := #[.int .i64 a, .int .i64 p]) (t := 39) (by rw [hgrow1.block (w1.heap.size + 1) (by simp) (by simp [Value.ownBlock])]; exact heap_lastd _ (by simp)))
         try (have n5 : ∀ (j : Nat) (u : Value), [Value.int .i64 a, .int .i64 p][j]? = some u → w2.cell? ((⟨w1.heap.size, 0, none⟩ : Addr).add j) = some u := World.news_of_block (cs := #[.int .i64 a, .int .i64 p]) (t := 39) (by rw [hgrow1.block w1.heap.size (by simp <;> omega) (by simp [Value.ownBlock])]; exact heap_last2d _ _))
         simp only [Nat.zero_add, List.nil_append] at hown1 ⊢
         have hs2 : w1.heap.size ≤ w2.heap.size := hb2.size
         have a0z : w2.cell? ⟨w.heap.size, 0, none⟩ = some (.slice (some ad) es.length cap) := by rw [hb2.cell (by simp <;> omega)]; exact a0
         have e0z : w2.cell? ⟨w.heap.size + 1, 0, none⟩ = some (.int .i64 a) := by rw [hb2.cell (by simp <;> omega)]; exact e0
         have e1z : w2.cell? ⟨w.heap.size + 1, 1, none⟩ = some (.int .i64 p) := by rw [hb2.cell (by simp <;> omega)]; exact e1)
      | ((refine step_append_some _ rfl (.tmp 22) (.tmp 24) 32 rfl w1.heap.size 39 i0 (.agg #[.int .i64 0, .int .i64 0]) 2 16 Try.underlying32 hi hz0 hz1 hz2 rfl (by decide) (.slice (some ⟨g1, 0, none⟩) es.length c1) es.length (flatE es) (by rfl) (by first | exact hown1 | exact hown1.alloc _) (by simp) _ 1 1 [.int .i64 a, .int .i64 p] (by rfl) rfl (by first | exact n5 | exact World.news_of_block (cs := #[.int .i64 a, .int .i64 p]) (t := 39) (heap_last w2 _)) (by intro u hu; simp at hu; rcases hu with rfl | rfl <;> rfl) (by unfold maxLen; omega) (by omega) (by first | exact hs2 | (simp; omega)) ?_)
         intro g2 c2 w3 hown2 hgrow2 hg2
         have hb3 : Below w1.heap.size w1 w3 := by first | exact hb2.grown hgrow2 hs2 (fun k hk => by simp [Value.ownBlock] at hk; omega) | exact (hb2.alloc hs2 _).grown hgrow2 (by simp <;> omega) (fun k hk => by simp [Value.ownBlock] at hk; omega)
         have a0v : w3.cell? ⟨w.heap.size, 0, none⟩ = some (.slice (some ad) es.length cap) := by rw [hb3.cell (by simp <;> omega)]; exact a0
         have s0v : w3.frozen? ⟨w.heap.size, 0, none⟩ = false := by rw [hb3.frozen (by simp <;> omega)]; exact s0))
    all_goals
      go_wp2_with fail
      go_meet
      refine ⟨g2, c2, World.cell?_setCell_same _ _ _ a0v, ?_, ?_, ?_, ?_⟩
      · rw [World.cell?_setCell_far w3 ⟨w.heap.size, 0, none⟩ ⟨w.heap.size + 1 + 1, 0, none⟩ _ (by show w.heap.size ≠ w.heap.size + 1 + 1; omega), hb3.cell (by simp; omega)]; exact r0
      · rw [World.frozen?_setCell, hb3.frozen (by simp; omega)]; exact g0
      · rw [flatE_app]; exact ownsRow_setCell_below (a := ⟨w.heap.size, 0, none⟩) hown2 (by simp; omega) _
      · exact (B0.out.trans (hb3.mono (by omega))).setCell (by simp) _
  case rest =>
    obtain ⟨g, c, k0, k1, k2, kown, kb⟩ := hcut
    have KO := Lib.hid kown
    have KB := Lib.hid kb
    clear kown kb own1 own2 own3 bl1 bl2 own0 hsrc HTW HT HP
    go_upto_region 7 with fail
    go_region
    all_goals go_wp2_with fail
    all_goals
      refine bodyPost_ret (v := .tuple #[.agg #[.slice (some ⟨g, 0, none⟩) (es.length + 1) c], .int .i64 (500 + ((es.length : Int) + 1) - 1)]) (by simp [results, Try.results59, go_sem, World.cell?_setCell_same _ _ _ k1]) rfl ⟨_, _, by rw [show (500 + ((es.length : Int) + 1) - 1) = 500 + (es.length : Int) from by omega], ?_, ?_⟩
      · have := (ownsRow_setCell_below (a := ⟨w.heap.size + 1 + 1, 0, none⟩) KO.out (by simp; omega) (.slice (some ⟨g, 0, none⟩) (es.length + 1) c)).drew
        exact OwnTab.mono (B := w1.heap.size) (by simpa [OwnTab] using this) (by omega)
      · exact (KB.out.setCell (by simp; omega) _).drew

end Go.Proofs.Ytbhpogddnpaacaa

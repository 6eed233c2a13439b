/- EndText of the program answers as EndText of the specification, at every end and at what is none; the argument stays as it was. The card: the library's tables are tied to the program's text. No condition beside what the card says. -/
import Derived.Test.YtpnjeoikojkegaaDoorText
import Derived.Test.YtpnjeoikojkegaaDoorCards
import Derived.Test.YtpnjeoikojkegaaDoorTie
import Derived.ChangeSame
import Derived.JoinedOf
import Derived.JoinedAt
import Derived.RowKit3
import Derived.LaidMore
import Derived.Stop.LaidErr
import Derived.Stop.Joined
import Derived.SevenTiedAt
namespace Go.Proofs.YtpnjeoikojkegaaDoor
open Go.ChangeShapes Go.WideShapes Go.ChangeAt Go.RowKit Go.Joins

/-- Both texts, at what is an end and at what is none. -/
theorem specText_any (a p : Int) :
    ∃ s : ByteArray, (∀ w, Calls Tryd.prog 8 #[.agg #[.int .i64 a, .int .i64 p]] w fun e w' => e = .returned (.string s) ∧ Below w.heap.size w w') ∧
      (∀ w, TabOk w → Calls Tryd.prog 10 #[.agg #[.int .i64 a, .int .i64 p]] w fun e w' => e = .returned (.string s) ∧ Below w.heap.size w w') := by
  by_cases h : endB a p = true
  · obtain ⟨h1, h2, h3, h4⟩ := end_bounds h
    obtain ⟨m, rfl⟩ := Int.eq_ofNat_of_zero_le (show 0 ≤ a by omega)
    obtain ⟨n, rfl⟩ := Int.eq_ofNat_of_zero_le (show 0 ≤ p by omega)
    exact ⟨_, fun w => specText_yes m n w h, fun w ht => implText_yes m n w h ht⟩
  · exact ⟨_, fun w => specText_no a p w (by simpa using h), fun w _ => implText_no a p w (by simpa using h)⟩

set_option maxRecDepth 100000 in
set_option maxHeartbeats 1000000 in
theorem lawEndText_any (a p : Int) (w : World) (ht : TabOk w) :
    Calls Tryd.prog 3 #[.agg #[.int .i64 a, .int .i64 p]] w fun e w' => e = .returned (.bool true) ∧ Below w.heap.size w w' := by
  obtain ⟨s, hs, hi⟩ := specText_any a p
  have HS := Lib.hid hs
  have HI := Lib.hid hi
  have HT := Lib.hid ht
  clear hs hi ht
  go_enter Tryd.func3, Tryd.ntmps3
  go_wp2_with fail
  (go_at_call 9; refine (toEnd_any _ _ _).mono ?_; rintro e w1 ⟨rfl, b1⟩; obtain ⟨c1, f1⟩ := bcell b1; have s1 : w.heap.size < w1.heap.size := by (have := b1.size; simp at this; omega))
  go_wp2_with fail
  (go_at_call 8; refine (HS.out _).mono ?_; rintro e w2 ⟨rfl, b2⟩; obtain ⟨c2, f2⟩ := bcell b2; have s2 : w.heap.size < w2.heap.size := by (have := b2.size; omega))
  go_wp2_with fail
  (go_at_call 9; refine (toEnd_any _ _ _).mono ?_; rintro e w3 ⟨rfl, b3⟩)
  have b13 := (below_box b1).trans (((b2.mono (Nat.le_of_lt s1)).trans (b3.mono (Nat.le_of_lt s2))))
  go_wp2_with fail
  (go_at_call 10; refine (HI.out _ (HT.out.below b13 (Nat.le_refl _))).mono ?_; rintro e w4 ⟨rfl, b4⟩)
  go_wp2
  go_ret
  exact ⟨rfl, b13.trans (b4.mono b13.size)⟩

theorem ownEndText : ownKnob Tryd.prog.godebug = none := by kernel_rfl
theorem cellsEndText : Tryd.prog.cellsOf 23 = 2 := by kernel_rfl

/-- What the listed tables give. -/
theorem tab_of_laid {W : World} (h : laidMetH Tryd.prog Rows.fnExactEndTextRow.laid W) : TabOk W := by
  rw [MakeChecks.laidMetH_plain _ _ _ (by kernel_rfl)] at h
  have h2 : laidMet Tryd.prog [("internal/strconv.uint64pow10", Lib.tabData .u64 Lib.pow10Tab)] W := laidMet.tail (laidMet.tail h)
  exact Lib.tabIs_of_head (g := 2) (t := 64) (e := 54) (n := 20) (by kernel_rfl) (by kernel_rfl) Tryd.underlying64 Tryd.underlying54 (by kernel_rfl) (by kernel_rfl) h2

/-- The heap that the tables' own initialisers leave meets the condition. -/
theorem doorEndText (os : Os) (args : Array Value) : laidMetH Tryd.prog Rows.fnExactEndTextRow.laid ((World.doorLaid Tryd.prog 400 os).forCall (fun _ _ => 0) ⟨#[], args, []⟩).memory :=
  laidMetH_of_parts3 (fuel := 8) (laidMet_of_run' 8 (by kernel_rfl) (by kernel_rfl)) (by kernel_rfl) (by kernel_rfl)

set_option maxRecDepth 100000 in
theorem liftedEndText (os : Os) (started : os.Started) (H : Type) (enc : TypeId × Value → H) :
    ReturnsInHanded {} Tryd.checked os 3 .any (fun w args => (Rows.fnExactEndTextSpec.pre enc Tryd.prog Tryd.f3 [] false w args ∧ laidMetH Tryd.prog Rows.fnExactEndTextRow.laid w) ∧ sizedMet enc Tryd.prog Tryd.f3 (OpenSpec.ofChange Rows.fnExactEndTextSpec) false w args)
      (Rows.fnExactEndTextSpec.post enc Tryd.prog Tryd.f3 false true false false) := by
  refine returnsInHanded_of_change_and (C := Tryd.checked) (X := fun w _ => laidMetH Tryd.prog Rows.fnExactEndTextRow.laid w) (fun _ _ _ hh h => h.of_heap hh) ownEndText started (by kernel_rfl) Tryd.func3
    (ChangeSpec.witness_shaped (enc := enc) (C := Tryd.checked) (os := os) (X := fun w _ => laidMetH Tryd.prog Rows.fnExactEndTextRow.laid w) false (World.doorLaid Tryd.prog 400 os) #[.agg #[.int .i64 0, .int .i64 0]] 8 rfl (World.shaped_of_RefB (by kernel_rfl) (by kernel_rfl)) (by kernel_rfl) (by kernel_rfl) (by kernel_rfl) (doorEndText os _)) ?_
  intro W base args ds gs before hval0 hW _ _ hL _
  have hval : ∀ (j : Nat) t v, Tryd.f3.params[j]? = some t → args[j]? = some v → Value.okWide Tryd.prog W .any base t v := hval0
  have hW' := hW
  obtain ⟨p, q, hA0, hV, rfl, _, _⟩ := hW
  have hA : DataW.TrodAll enc Tryd.prog W 0 (fun _ => true) true Tryd.f3.params.toList args.toList ds p := hA0
  rw [Tryd.params3] at hA hval
  obtain ⟨v0, d0, rfl, rfl, h0⟩ := trodAll_one hA
  obtain ⟨rfl, rfl⟩ := trodVars_none hV
  obtain ⟨c0, c1, y0, y1, m, rfl, rfl, rfl, hy0, hy1⟩ := open_agg2 Tryd.underlying23 (by kernel_rfl) cellsEndText (hval 0 23 v0 rfl rfl) h0
  obtain ⟨a, e0, rfl, wa⟩ := DataW.trod_int Tryd.underlying3 hy0
  obtain ⟨b, e1, rfl, wb⟩ := DataW.trod_int Tryd.underlying3 hy1
  simp at e0 e1
  subst e0 e1
  clear hA0 hval0
  simp only [List.append_nil] at hW'
  refine (lawEndText_any a b W (tab_of_laid hL)).mono fun e W' ⟨he, hb⟩ => ?_
  subst he
  have reads : ∀ sp : Nat → Bool, DataW.Trod enc Tryd.prog W' 0 sp true 23 (.agg #[.int .i64 a, .int .i64 b]) (.agg [.lit (.int .i64 a), .lit (.int .i64 b)]) [] := fun sp =>
    shut_agg2 (y0 := (.lit (.int .i64 a), [])) (y1 := (.lit (.int .i64 b), [])) Tryd.underlying23 (by kernel_rfl) cellsEndText ⟨1, by simp [DataW.trod, Tryd.underlying3, wa]⟩ ⟨1, by simp [DataW.trod, Tryd.underlying3, wb]⟩
  exact ⟨_, rfl, _, _, _, [], [], [], hW', trodAll_mk1 (shut_bool Tryd.underlying4 true), trodAll_mk1 (reads _), rfl, hb.frame _, fun h => by cases h⟩

theorem fnExactEndText_row : Rows.FnExactEndTextSaid :=
  OpenClaim.holds_of_wide 3 Tryd.f3 rfl rfl rfl rfl rfl rfl rfl ⟨rfl, rfl, rfl, rfl, rfl⟩ rfl rfl rfl rfl rfl (by kernel_rfl) Tryd.func3 (by kernel_rfl)
    (of_decide_eq_true (by kernel_rfl)) (by unfold Func.isWrapper; rw [if_neg (of_decide_eq_false (by kernel_rfl))]; exact ⟨rfl, rfl⟩)
    (fun os started H enc _ => liftedEndText os started H enc)

theorem fnExactEndText_holds : Rows.FnExactEndTextCardSaid :=
  Claim7.holds_tied_plain_at .later [] Rows.fnExactEndTextCard.laidKinds true Rows.fnExactEndTextCard.stood.harness true
    fnExactEndText_row (fun _ h => by cases h) (by kernel_rfl) (fun _ h => by cases h) fnExactEndText_row_tie rfl ⟨rfl, rfl⟩ (by kernel_rfl) rfl
    (fun f fn hf hfn => by
      obtain rfl : f = 3 := Option.some.inj ((show Tryd.prog.funcNamed "loop.example/hatchway/laws.FnExactEndText" = some 3 by kernel_rfl).symm.trans hf) |>.symm
      obtain rfl : fn = Tryd.f3 := (Option.some.inj (Tryd.func3.symm.trans hfn)).symm
      exact ⟨by kernel_rfl, fun j t ht => by
        rw [Tryd.params3] at ht
        have hm : t ∈ [23] := by simpa using Array.mem_of_getElem? ht
        have hall : ([23].all fun u => !Tryd.prog.wantsStandIn u) = true := by kernel_rfl
        exact (show Tryd.prog.wantsStandIn t = false by simpa using List.all_eq_true.1 hall t hm)⟩)
    (by kernel_rfl)

end Go.Proofs.YtpnjeoikojkegaaDoor

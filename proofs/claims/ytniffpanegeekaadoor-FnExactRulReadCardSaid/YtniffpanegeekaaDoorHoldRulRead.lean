/- RulRead of the program answers as RulRead of the specification, at every text; the argument stays as it was. The card: the variables that are read are tied to the program's text. No condition beside what the law sets aside and the card says. -/
import Derived.Test.YtniffpanegeekaaDoorLawRulRead
import Derived.Test.YtniffpanegeekaaDoorCards
import Derived.Test.YtniffpanegeekaaDoorTie
import Derived.ProofKit
import Derived.ChangeSame
import Derived.JoinedOf
import Derived.JoinedAt
import Derived.RowKit3
import Derived.RowKitTokens
import Derived.LaidMore
import Derived.Stop.LaidErr
import Derived.Stop.Joined
import Derived.SevenTiedAt
import Derived.Lay
import Derived.Handed
namespace Go.Proofs.YtniffpanegeekaaDoor
open Go.ChangeShapes Go.WideShapes Go.ChangeAt Go.RowKit Go.Joins Go.WideMaps Go.WideElems
open Go.ChangeMaps (open_string shut_string)

theorem handed_shaped {H : Type} {enc : TypeId × Value → H} {a : Assume} {C : Checked} {os : Os} {f : FuncId} {fn : Func} {s : ChangeSpec} {conds : List PathCond} {apart fresh handsOn again : Bool} {X : World → Array Value → Prop}
    (hX : ∀ (w w' : World) (args : Array Value), w.heap = w'.heap → X w args → X w' args) (own : ownKnob C.prog.godebug = none) (started : os.Started) (noInit : C.prog.inits.idxOf? f = none) (hfn : C.prog.funcs[f]? = some fn)
    (wit : ∃ (w : World) (tape : Tape) (i : Input), w.os = os ∧ (w.forCall tape i).Shaped C.prog ∧ i.vars = [] ∧ Input.okWide C.prog (w.forCall tape i) .any w.heap.size f i ∧
      ((s.pre enc C.prog fn conds apart (w.forCall tape i).memory i.args ∧ X (w.forCall tape i).memory i.args) ∧ sizedMet enc C.prog fn (OpenSpec.ofChange s) apart (w.forCall tape i).memory i.args) ∧ a.holds C.prog (lone (Frame.enter C.prog f i.args .normal) [] (w.forCall tape i)))
    (pays : ∀ (W : World) (base : Nat) (args : Array Value) (ds gs : List (DataW H)) (before : List MemPlace), (∀ (j : Nat) t v, fn.params[j]? = some t → args[j]? = some v → Value.okWide C.prog W .any base t v) →
      DataW.Whole enc C.prog fn.params.toList s.vars apart W args.toList ds gs before → conds.all (PathCond.test C.prog ⟨fn.params.toList, ds, s.plain.varTypes C.prog, gs⟩) = true → (DataW.weightsEach C.prog (fn.params.toList ++ s.plain.varTypes C.prog) (ds ++ gs)).all (· ≤ reachBytes) = true →
      X W args → W.ShapedOpen C.prog → a.holds C.prog (lone (Frame.enter C.prog f args .normal) [] W) → Calls C.prog f args W fun e W' => ∃ v, e = .returned v ∧ s.post enc C.prog fn apart fresh handsOn again W args v W') :
    ReturnsInHanded a C os f .any (fun w args => (s.pre enc C.prog fn conds apart w args ∧ X w args) ∧ sizedMet enc C.prog fn (OpenSpec.ofChange s) apart w args) (s.post enc C.prog fn apart fresh handsOn again) :=
  returnsInHanded_of_calls own started noInit wit fun w tape i _ hsh _ hok hpre hh => by
    have hp := hpre.1.1
    have hx := hX (w.forCall tape i).memory (w.forCall tape i) i.args rfl hpre.1.2
    have hz := hpre.2
    have ok2 := hok.2.2.2
    obtain ⟨g, hg, h1, h2, h3, h4, hval⟩ := ok2
    rw [hfn] at hg
    cases hg
    obtain ⟨ds, gs, before, hw, hc⟩ := hp
    have hw2 := DataW.Whole.of_heap (w' := w.forCall tape i) (by rfl) hw
    refine (pays _ w.heap.size i.args ds gs before hval hw2 hc (hz.weights hw) hx hsh hh).mono ?_
    rintro e W' ⟨v, rfl, hv⟩
    exact ChangeSpec.post_blind hv

theorem ownRulRead : ownKnob Tryd.prog.godebug = none := by kernel_rfl
theorem starErr : "*errors.errorString" = "*" ++ "errors.errorString" := by decide
theorem rowErr (u : TypeId) (h : Tryd.prog.typeName? 3 u = some "*errors.errorString") : u = 109 :=
  typeName_ptr_named (nm := "errors.errorString") (by rw [← starErr]; kernel_rfl) (by kernel_rfl) (by decide) u (by rw [← starErr]; exact h)

/-- What the row's list gives a walk. -/
theorem vars_of_laid {W : World} (hm : ∃ m : Int, W.cell? ⟨2, 0, none⟩ = some (.int .i64 m)) (h : laidMetH Tryd.prog Rows.fnExactRulReadRow.laid W) :
    VarsR W ∧ (∃ t a, W.var? Tryd.prog "loop.example/hatchway/impl.errNoRule" = some #[.iface t (.pointer (some a))]) ∧ (∃ t a, W.var? Tryd.prog "loop.example/hatchway/impl.errNoNumber" = some #[.iface t (.pointer (some a))]) := by
  rw [MakeChecks.laidMetH_plain _ _ _ (by kernel_rfl)] at h
  have h3 := laidMet.tail (laidMet.tail h)
  have ht : laidMet Tryd.prog (("internal/strconv.uint64pow10", Lib.tabData .u64 Lib.pow10Tab) :: _) W := h3
  have tab : TabOk W := Lib.tabIs_of_head (g := 3) (t := 80) (e := 70) (n := 20) (by kernel_rfl) (by kernel_rfl) Tryd.underlying80 Tryd.underlying70 (by kernel_rfl) (by kernel_rfl) ht
  have h4 := laidMet.tail (laidMet.tail h3)
  obtain ⟨a1, _, v1, _⟩ := laid_sentinel (g := 5) (tp := 109) (te := 111) (ts := 9) h4 (by kernel_rfl) (by kernel_rfl) Tryd.underlying45 rowErr Tryd.underlying109 Tryd.underlying111 rfl rfl Tryd.underlying9 (by kernel_rfl) (by kernel_rfl)
  have h5 := laidMet.tail h4
  obtain ⟨a2, _, v2, _⟩ := laid_sentinel (g := 4) (tp := 109) (te := 111) (ts := 9) h5 (by kernel_rfl) (by kernel_rfl) Tryd.underlying45 rowErr Tryd.underlying109 Tryd.underlying111 rfl rfl Tryd.underlying9 (by kernel_rfl) (by kernel_rfl)
  have h6 := laidMet.tail h5
  obtain ⟨a3, _, v3, _⟩ := laid_sentinel (g := 1) (tp := 109) (te := 111) (ts := 9) h6 (by kernel_rfl) (by kernel_rfl) Tryd.underlying45 rowErr Tryd.underlying109 Tryd.underlying111 rfl rfl Tryd.underlying9 (by kernel_rfl) (by kernel_rfl)
  have h7 := laidMet.tail h6
  obtain ⟨a4, _, v4, _⟩ := laid_sentinel (g := 0) (tp := 109) (te := 111) (ts := 9) h7 (by kernel_rfl) (by kernel_rfl) Tryd.underlying45 rowErr Tryd.underlying109 Tryd.underlying111 rfl rfl Tryd.underlying9 (by kernel_rfl) (by kernel_rfl)
  have c3 := World.var?_cell (g := 1) (by kernel_rfl) v3 0
  have c4 := World.var?_cell (g := 0) (by kernel_rfl) v4 0
  exact ⟨⟨tab, ⟨_, _, v2⟩, ⟨_, _, v1⟩, ⟨_, _, by simpa using c3⟩, ⟨_, _, by simpa using c4⟩, hm⟩, ⟨_, _, v4⟩, ⟨_, _, v3⟩⟩

/-- The two variables of the program's, read as tokens. -/
theorem vars_read {H : Type} (enc : TypeId × Value → H) {W : World} {x0 x1 : Value} (h0 : W.var? Tryd.prog "loop.example/hatchway/impl.errNoRule" = some #[x0]) (h1 : W.var? Tryd.prog "loop.example/hatchway/impl.errNoNumber" = some #[x1]) (i0 : IsIface x0) (i1 : IsIface x1) (sp : Nat → Bool) :
    DataW.TrodVars enc Tryd.prog W sp ["loop.example/hatchway/impl.errNoRule", "loop.example/hatchway/impl.errNoNumber"] [tok enc x0, tok enc x1] [.cell 0 0, .cell 1 0] :=
  vars_read2 enc (g0 := 0) (g1 := 1) (by kernel_rfl) (by kernel_rfl) Tryd.underlying45 h0 i0 (by kernel_rfl) (by kernel_rfl) Tryd.underlying45 h1 i1 sp

set_option maxRecDepth 100000 in
theorem liftedRulRead (os : Os) (started : os.Started) (H : Type) (enc : TypeId × Value → H) :
    ReturnsInHanded {} Tryd.checked os 5 .any (fun w args => (Rows.fnExactRulReadSpec.pre enc Tryd.prog Tryd.f5 [] false w args ∧ laidMetH Tryd.prog Rows.fnExactRulReadRow.laid w) ∧ sizedMet enc Tryd.prog Tryd.f5 (OpenSpec.ofChange Rows.fnExactRulReadSpec) false w args)
      (Rows.fnExactRulReadSpec.post enc Tryd.prog Tryd.f5 false true false false) := by
  refine handed_shaped (C := Tryd.checked) (X := fun w _ => laidMetH Tryd.prog Rows.fnExactRulReadRow.laid w) (fun _ _ _ hh h => h.of_heap hh) ownRulRead started (by kernel_rfl) Tryd.func5
    (ChangeSpec.witness_shaped (enc := enc) (C := Tryd.checked) (os := os) (X := fun w _ => laidMetH Tryd.prog Rows.fnExactRulReadRow.laid w) false (World.laidAll Tryd.prog os Rows.fnExactRulReadRow.laid) #[.string ⟨#[]⟩] 8 (World.laidAll_os _ _ _)
      (World.shaped_of_ZipB (by kernel_rfl) (by kernel_rfl)) (by kernel_rfl) (by kernel_rfl) (by kernel_rfl)
      (by rw [MakeChecks.laidMetH_plain _ _ _ (by kernel_rfl)]; exact laidMet_laidAll _ (by kernel_rfl) (by kernel_rfl))) ?_
  intro W base args ds gs before hval0 hW _ _ hL hsh _
  have hval : ∀ (j : Nat) t v, Tryd.f5.params[j]? = some t → args[j]? = some v → Value.okWide Tryd.prog W .any base t v := hval0
  have hW' := hW
  obtain ⟨p, q, hA0, hV0, rfl, _, _⟩ := hW
  have hA : DataW.TrodAll enc Tryd.prog W 0 (fun _ => true) true Tryd.f5.params.toList args.toList ds p := hA0
  have hV : DataW.TrodVars enc Tryd.prog W (fun _ => true) ["loop.example/hatchway/impl.errNoRule", "loop.example/hatchway/impl.errNoNumber"] gs q := hV0
  rw [Tryd.params5] at hA hval
  obtain ⟨v0, d0, rfl, rfl, h0⟩ := trodAll_one hA
  obtain ⟨s, rfl, rfl, rfl, hs⟩ := open_string Tryd.underlying9 (hval 0 9 v0 rfl rfl) h0
  obtain ⟨hok, ⟨t4, a4, hv4⟩, ⟨t3, a3, hv3⟩⟩ := vars_of_laid (Tryd.laysM146.s1_3 W hsh) hL
  obtain ⟨rfl, rfl⟩ := hV.unique (vars_read enc hv4 hv3 trivial trivial _)
  clear hA0 hV0 hval0
  refine (lawRulRead_any s W hok).mono fun e W' ⟨he, hb⟩ => ?_
  subst he
  exact ⟨_, rfl, _, _, _, [], [], [.cell 0 0, .cell 1 0], hW', trodAll_mk1 (shut_bool Tryd.underlying4 true), trodAll_mk1 (shut_string Tryd.underlying9 hs),
    vars_read enc (var_stays (g := 0) (by kernel_rfl) hv4 hb (Nat.le_refl _)) (var_stays (g := 1) (by kernel_rfl) hv3 hb (Nat.le_refl _)) trivial trivial _, hb.frame _, fun h => by cases h⟩

theorem fnExactRulRead_row : Rows.FnExactRulReadSaid :=
  OpenClaim.holds_of_wide 5 Tryd.f5 rfl rfl rfl rfl rfl rfl rfl ⟨rfl, rfl, rfl, rfl, rfl⟩ rfl rfl rfl rfl rfl (by kernel_rfl) Tryd.func5 (by kernel_rfl)
    (of_decide_eq_true (by kernel_rfl)) (by unfold Func.isWrapper; rw [if_neg (of_decide_eq_false (by kernel_rfl))]; exact ⟨rfl, rfl⟩)
    (fun os started H enc _ => liftedRulRead os started H enc)

theorem fnExactRulRead_holds : Rows.FnExactRulReadCardSaid :=
  Claim7.holds_tied_plain_at .later [] Rows.fnExactRulReadCard.laidKinds true Rows.fnExactRulReadCard.stood.harness true
    fnExactRulRead_row (fun _ h => by cases h) (by kernel_rfl) (fun _ h => by cases h) fnExactRulRead_row_tie rfl ⟨rfl, rfl⟩ (by kernel_rfl) rfl
    (fun f fn hf hfn => by
      obtain rfl : f = 5 := Option.some.inj ((show Tryd.prog.funcNamed "loop.example/hatchway/laws.FnExactRulRead" = some 5 by kernel_rfl).symm.trans hf) |>.symm
      obtain rfl : fn = Tryd.f5 := (Option.some.inj (Tryd.func5.symm.trans hfn)).symm
      exact ⟨by kernel_rfl, fun j t ht => by
        rw [Tryd.params5] at ht
        have hm : t ∈ [9] := by simpa using Array.mem_of_getElem? ht
        have hall : ([9].all fun u => !Tryd.prog.wantsStandIn u) = true := by kernel_rfl
        exact (show Tryd.prog.wantsStandIn t = false by simpa using List.all_eq_true.1 hall t hm)⟩)
    (by kernel_rfl)

end Go.Proofs.YtniffpanegeekaaDoor

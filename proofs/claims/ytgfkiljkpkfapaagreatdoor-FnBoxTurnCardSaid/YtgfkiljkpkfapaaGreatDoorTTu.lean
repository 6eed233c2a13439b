/- The law BoxTurn, at every code: true, and the codes stay as they were. The card: the variables that are read are tied to the program's text. No condition beside what the card says. (Several texts, joined: HoldFnBoxTurn.) -/
import Derived.Test.YtgfkiljkpkfapaaGreatDoorTTud
import Derived.Test.YtgfkiljkpkfapaaGreatDoorTPle
import Derived.Test.YtgfkiljkpkfapaaGreatDoorCards
import Derived.Test.YtgfkiljkpkfapaaGreatDoorTie
import Derived.ProofKit
import Derived.ChangeSame
import Derived.JoinedOf
import Derived.JoinedAt
import Derived.RowKit3
import Derived.RowKitTokens
import Derived.LaidMore
import Derived.Stop.LaidErr
import Derived.Stop.Joined
import Derived.SevenTiedAt
import Derived.OpenShut
import Derived.ShutString
import Derived.ChangeOld
import Derived.Below
import Derived.Carry

/- The law BoxTurn, at every code: true, and the codes stay as they were. The card: the variables that are read are tied to the program's text. No condition beside what the card says. -/

namespace Go.Proofs.YtgfkiljkpkfapaaGreatDoor
open Go.ChangeShapes Go.WideShapes Go.ChangeAt Go.RowKit Go.Joins Go.WideMaps Go.WideElems
open Go.ChangeMaps (open_string shut_string)

theorem laidOutFn : laidOutB Tryz.prog = true := by kernel_rfl

/-- A code that came in lies in memory. -/
theorem bytes_in {H : Type} {enc : TypeId × Value → H} {W : World} {a : Option Addr} {len cap : Nat} {d : DataW H} {p : List MemPlace} (h : DataW.Trod enc Tryz.prog W 0 (fun _ => true) true 22 (.slice a len cap) d p) : BytesIn W a len ∧ len ≤ cap := by
  obtain ⟨fuel, hf⟩ := h
  have hlt := DataW.trod_lt fuel _ _ _ hf
  rcases open_ints Tryz.underlying22 Tryz.underlying5 (by kernel_rfl) hf with ⟨hcs, _⟩ | ⟨x, l, c, zs, hcs, _, hl, hm, hz, _, hcell, hwz⟩
  · simp [Value.cells] at hcs
    obtain ⟨rfl, rfl, rfl⟩ := hcs
    exact ⟨.inl rfl, Nat.le_refl _⟩
  · simp [Value.cells] at hcs
    obtain ⟨rfl, rfl, rfl⟩ := hcs
    refine ⟨?_, hl⟩
    by_cases h0 : len = 0
    · exact .inl h0
    · have hzl : zs.length = cap := by simpa using hz
      have hcl : ∀ i, i < len → ∃ b : UInt8, W.cell? (x.add i) = some (.int .u8 (b.toNat : Int)) := by
        intro i hi
        have hc := hcell i (by omega)
        have hw := hwz (zs.getD i 0) (by rw [List.getD_eq_getElem?_getD, List.getElem?_eq_getElem (by omega)]; exact List.getElem_mem _)
        have h255 := bounds_u8 hw
        generalize zs.getD i 0 = z at hc h255
        refine ⟨UInt8.ofNat z.toNat, ?_⟩
        rw [hc]
        congr 2
        simp
        omega
      obtain ⟨b0, hb0⟩ := hcl 0 (by omega)
      refine .inr ⟨x, rfl, ?_, hcl⟩
      have := World.block_lt_of_cell? W _ hb0
      unfold Addr.add at this; simpa using this

theorem ownBoxTurn : ownKnob Tryz.prog.godebug = none := by kernel_rfl
theorem starErr : "*errors.errorString" = "*" ++ "errors.errorString" := by decide
theorem rowErr (u : TypeId) (h : Tryz.prog.typeName? 3 u = some "*errors.errorString") : u = 204 :=
  typeName_ptr_named (nm := "errors.errorString") (by rw [← starErr]; kernel_rfl) (by kernel_rfl) (by decide) u (by rw [← starErr]; exact h)

/-- What the row's list gives a walk. -/
theorem vars_of_laid {W : World} (h : laidMetH Tryz.prog Rows.fnBoxTurnRow.laid W) :
    VarsOk W ∧ (∃ t a, W.var? Tryz.prog "loop.example/hatchway/impl.errNoEnd" = some #[.iface t (.pointer (some a))]) ∧ (∃ t a, W.var? Tryz.prog "loop.example/hatchway/impl.errNoNumber" = some #[.iface t (.pointer (some a))]) := by
  rw [MakeChecks.laidMetH_plain _ _ _ (by kernel_rfl)] at h
  have h3 := laidMet.tail (laidMet.tail h)
  have ht : laidMet Tryz.prog (("internal/strconv.uint64pow10", Lib.tabData .u64 Lib.pow10Tab) :: _) W := h3
  have tab : TabOk W := Lib.tabIs_of_head (g := 5) (t := 208) (e := 192) (n := 20) (by kernel_rfl) (by kernel_rfl) Tryz.underlying208 Tryz.underlying192 (by kernel_rfl) (by kernel_rfl) ht
  have h4 := laidMet.tail h3
  obtain ⟨a1, _, v1, _⟩ := laid_sentinel (g := 4) (tp := 204) (te := 206) (ts := 9) h4 (by kernel_rfl) (by kernel_rfl) Tryz.underlying151 rowErr Tryz.underlying204 Tryz.underlying206 rfl rfl Tryz.underlying9 (by kernel_rfl) (by kernel_rfl)
  have h5 := laidMet.tail h4
  obtain ⟨a2, _, v2, _⟩ := laid_sentinel (g := 3) (tp := 204) (te := 206) (ts := 9) h5 (by kernel_rfl) (by kernel_rfl) Tryz.underlying151 rowErr Tryz.underlying204 Tryz.underlying206 rfl rfl Tryz.underlying9 (by kernel_rfl) (by kernel_rfl)
  have h6 := laidMet.tail h5
  obtain ⟨a3, _, v3, _⟩ := laid_sentinel (g := 2) (tp := 204) (te := 206) (ts := 9) h6 (by kernel_rfl) (by kernel_rfl) Tryz.underlying151 rowErr Tryz.underlying204 Tryz.underlying206 rfl rfl Tryz.underlying9 (by kernel_rfl) (by kernel_rfl)
  have h7 := laidMet.tail h6
  obtain ⟨a4, _, v4, _⟩ := laid_sentinel (g := 1) (tp := 204) (te := 206) (ts := 9) h7 (by kernel_rfl) (by kernel_rfl) Tryz.underlying151 rowErr Tryz.underlying204 Tryz.underlying206 rfl rfl Tryz.underlying9 (by kernel_rfl) (by kernel_rfl)
  have c3 := World.var?_cell (g := 2) (by kernel_rfl) v3 0
  have c4 := World.var?_cell (g := 1) (by kernel_rfl) v4 0
  exact ⟨⟨tab, ⟨_, _, v2⟩, ⟨_, _, v1⟩, ⟨_, _, by simpa using c3⟩, ⟨_, _, by simpa using c4⟩⟩, ⟨_, _, v4⟩, ⟨_, _, v3⟩⟩

/-- The two variables of the program's, read as tokens. -/
theorem vars_read {H : Type} (enc : TypeId × Value → H) {W : World} {x0 x1 : Value} (h0 : W.var? Tryz.prog "loop.example/hatchway/impl.errNoEnd" = some #[x0]) (h1 : W.var? Tryz.prog "loop.example/hatchway/impl.errNoNumber" = some #[x1]) (i0 : IsIface x0) (i1 : IsIface x1) (sp : Nat → Bool) :
    DataW.TrodVars enc Tryz.prog W sp ["loop.example/hatchway/impl.errNoEnd", "loop.example/hatchway/impl.errNoNumber"] [tok enc x0, tok enc x1] [.cell 1 0, .cell 2 0] :=
  vars_read2 enc (g0 := 1) (g1 := 2) (by kernel_rfl) (by kernel_rfl) Tryz.underlying151 h0 i0 (by kernel_rfl) (by kernel_rfl) Tryz.underlying151 h1 i1 sp

/-- The heap that the variables' own initialisers leave meets the condition. -/
theorem doorBoxTurn (os : Os) (args : Array Value) : laidMetH Tryz.prog Rows.fnBoxTurnRow.laid ((World.doorLaid Tryz.prog 400 os).forCall (fun _ _ => 0) ⟨#[], args, []⟩).memory :=
  laidMetH_of_parts3 (fuel := 8) (laidMet_of_run' 8 (by kernel_rfl) (by kernel_rfl)) (by kernel_rfl) (by kernel_rfl)

set_option maxRecDepth 100000 in
theorem liftedBoxTurn (os : Os) (started : os.Started) (H : Type) (enc : TypeId × Value → H) :
    ReturnsInHanded {} Tryz.checked os 3 .any (fun w args => (Rows.fnBoxTurnSpec.pre enc Tryz.prog Tryz.f3 [] false w args ∧ laidMetH Tryz.prog Rows.fnBoxTurnRow.laid w) ∧ sizedMet enc Tryz.prog Tryz.f3 (OpenSpec.ofChange Rows.fnBoxTurnSpec) false w args)
      (Rows.fnBoxTurnSpec.post enc Tryz.prog Tryz.f3 false true false false) := by
  refine returnsInHanded_of_change_and (C := Tryz.checked) (X := fun w _ => laidMetH Tryz.prog Rows.fnBoxTurnRow.laid w) (fun _ _ _ hh h => h.of_heap hh) ownBoxTurn started (by kernel_rfl) Tryz.func3
    (ChangeSpec.witness_shaped (enc := enc) (C := Tryz.checked) (os := os) (X := fun w _ => laidMetH Tryz.prog Rows.fnBoxTurnRow.laid w) false (World.doorLaid Tryz.prog 400 os) #[.slice none 0 0] 8 rfl (World.shaped_of_RefB (by kernel_rfl) (by kernel_rfl)) (by kernel_rfl) (by kernel_rfl) (by kernel_rfl) (doorBoxTurn os _)) ?_
  intro W base args ds gs before hval0 hW _ _ hL _
  have hval : ∀ (j : Nat) t v, Tryz.f3.params[j]? = some t → args[j]? = some v → Value.okWide Tryz.prog W .any base t v := hval0
  have hW' := hW
  obtain ⟨p, q, hA0, hV0, rfl, _, _⟩ := hW
  have hA : DataW.TrodAll enc Tryz.prog W 0 (fun _ => true) true Tryz.f3.params.toList args.toList ds p := hA0
  have hV : DataW.TrodVars enc Tryz.prog W (fun _ => true) ["loop.example/hatchway/impl.errNoEnd", "loop.example/hatchway/impl.errNoNumber"] gs q := hV0
  rw [Tryz.params3] at hA hval
  obtain ⟨v0, vs0, d0, ds0, p0, q0, hargs, rfl, rfl, h0, r0⟩ := trodAll_cons hA
  obtain ⟨rfl, rfl, rfl⟩ := trodAll_nil r0
  obtain rfl : args = #[v0] := by cases args; simp_all
  obtain ⟨a0, len0, cap0, rfl⟩ := okWide_slice Tryz.underlying22 (hval 0 22 v0 rfl rfl)
  have k0 := h0
  have lt0 : ∀ x ∈ p0, x.block < W.heap.size := by obtain ⟨m, hm⟩ := k0; exact DataW.trod_lt m _ _ _ hm
  obtain ⟨w0, le0⟩ := bytes_in h0
  obtain ⟨hok, ⟨t4, a4, hv4⟩, ⟨t3, a3, hv3⟩⟩ := vars_of_laid hL
  obtain ⟨rfl, rfl⟩ := hV.unique (vars_read enc hv4 hv3 trivial trivial _)
  clear hA0 hV0 hval0
  have key := lwBoxTurn_any a0 len0 cap0 W w0 le0 hok hok.1
  refine key.mono fun e W' ⟨he, bel⟩ => ?_
  subst he
  exact ⟨_, rfl, _, _, _, [], _, [.cell 1 0, .cell 2 0], hW', trodAll_mk1 (shut_bool Tryz.underlying4 true), (trodAll_cons_mk (Below.trod laidOutFn (by kernel_rfl) (of_decide_eq_true (by kernel_rfl)) k0 bel lt0) trodAll_mk0),
    vars_read enc (var_stays (g := 1) (by kernel_rfl) hv4 bel (Nat.le_refl _)) (var_stays (g := 2) (by kernel_rfl) hv3 bel (Nat.le_refl _)) trivial trivial _, bel.frame _, fun h => by cases h⟩

theorem fnBoxTurn_row : Rows.FnBoxTurnSaid :=
  OpenClaim.holds_of_wide 3 Tryz.f3 rfl rfl rfl rfl rfl rfl rfl ⟨rfl, rfl, rfl, rfl, rfl⟩ rfl rfl rfl rfl rfl (by kernel_rfl) Tryz.func3 (by kernel_rfl)
    (of_decide_eq_true (by kernel_rfl)) (by unfold Func.isWrapper; rw [if_neg (of_decide_eq_false (by kernel_rfl))]; exact ⟨rfl, rfl⟩)
    (fun os started H enc _ => liftedBoxTurn os started H enc)

theorem fnBoxTurn_holds : Rows.FnBoxTurnCardSaid :=
  Claim7.holds_tied_plain_at .later [] Rows.fnBoxTurnCard.laidKinds true Rows.fnBoxTurnCard.stood.harness true
    fnBoxTurn_row (fun _ h => by cases h) (by kernel_rfl) (fun _ h => by cases h) fnBoxTurn_row_tie rfl ⟨rfl, rfl⟩ (by kernel_rfl) rfl
    (fun f fn hf hfn => by
      obtain rfl : f = 3 := Option.some.inj ((show Tryz.prog.funcNamed "loop.example/hatchway/laws.FnBoxTurn" = some 3 by kernel_rfl).symm.trans hf) |>.symm
      obtain rfl : fn = Tryz.f3 := (Option.some.inj (Tryz.func3.symm.trans hfn)).symm
      exact ⟨by kernel_rfl, fun j t ht => by
        rw [Tryz.params3] at ht
        have hm : t ∈ [22] := by simpa using Array.mem_of_getElem? ht
        have hall : ([22].all fun u => !Tryz.prog.wantsStandIn u) = true := by kernel_rfl
        exact (show Tryz.prog.wantsStandIn t = false by simpa using List.all_eq_true.1 hall t hm)⟩)
    (by kernel_rfl)

end Go.Proofs.YtgfkiljkpkfapaaGreatDoor

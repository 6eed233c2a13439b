/- What the table of forms holds, read off what a row lists. No condition. -/
import Derived.Test.YtilfpefccklebaaDoorEvF
import Derived.Test.YtilfpefccklebaaDoorRows
import Derived.Lib.LaidTab
import Derived.Lib.LaidU8
import Derived.ChangeArms
namespace Go.Proofs.YtilfpefccklebaaDoor
open Go.RowKit

section
variable {H : Type} {enc : TypeId × Value → H} {w : World} {base : Nat} {sp : Nat → Bool} {held : Bool}
set_option maxRecDepth 100000 in
theorem form_cells {fuel : Nat} {c0 c1 c2 c3 : Value} {bs : List UInt8} {k f l : Int} {p : List MemPlace}
    (h : DataW.trod enc Tryd.prog w base sp held fuel 59 [c0, c1, c2, c3] = some (.agg [.lit (.string bs), .lit (.int .i64 k), .lit (.int .i64 f), .lit (.int .i64 l)], p)) :
    c0 = .string ⟨bs.toArray⟩ ∧ c1 = .int .i64 k ∧ c2 = .int .i64 f ∧ c3 = .int .i64 l := by
  obtain ⟨xs, n, rfl, hx, hl, hxl, hf⟩ := DataW.trod_struct Tryd.underlying59 h
  have kS : Tryd.prog.cellsOf 9 = 1 := by kernel_rfl
  have kI : Tryd.prog.cellsOf 3 = 1 := by kernel_rfl
  have h0 : DataW.trod enc Tryd.prog w base sp held n 9 (([c0, c1, c2, c3].drop 0).take (Tryd.prog.cellsOf 9)) = xs[0]? := hf 0 _ rfl
  have h1 : DataW.trod enc Tryd.prog w base sp held n 3 (([c0, c1, c2, c3].drop 1).take (Tryd.prog.cellsOf 3)) = xs[1]? := hf 1 _ rfl
  have h2 : DataW.trod enc Tryd.prog w base sp held n 3 (([c0, c1, c2, c3].drop 2).take (Tryd.prog.cellsOf 3)) = xs[2]? := hf 2 _ rfl
  have h3 : DataW.trod enc Tryd.prog w base sp held n 3 (([c0, c1, c2, c3].drop 3).take (Tryd.prog.cellsOf 3)) = xs[3]? := hf 3 _ rfl
  rw [kS] at h0
  rw [kI] at h1 h2 h3
  match xs, hxl, hx, h0, h1, h2, h3 with
  | [x0, x1, x2, x3], _, hx, h0, h1, h2, h3 =>
    have hx1 := congrArg Prod.fst hx
    simp only [List.map_cons, List.map_nil, DataW.agg.injEq, List.cons.injEq, and_true] at hx1
    obtain ⟨q0, q1, q2, q3⟩ := hx1
    obtain ⟨s, e0, r0, _⟩ := DataW.trod_string Tryd.underlying9 h0
    obtain ⟨n1, e1, r1, _⟩ := DataW.trod_int Tryd.underlying3 h1
    obtain ⟨n2, e2, r2, _⟩ := DataW.trod_int Tryd.underlying3 h2
    obtain ⟨n3, e3, r3, _⟩ := DataW.trod_int Tryd.underlying3 h3
    rw [r0] at q0
    rw [r1] at q1
    rw [r2] at q2
    rw [r3] at q3
    simp only [DataW.lit.injEq, Lit.string.injEq, Lit.int.injEq, true_and] at q0 q1 q2 q3
    simp at e0 e1 e2 e3
    subst e0 e1 e2 e3 q1 q2 q3
    refine ⟨?_, rfl, rfl, rfl⟩
    rw [q0]
set_option maxRecDepth 100000 in
theorem forms_cells {fuel : Nat} {cs : List Value} {p : List MemPlace}
    (h : DataW.trod enc Tryd.prog w base sp held fuel 60 cs = some (Rows.laid_loop_example_hatchway_impl_lineForms, p)) : cs = formsC.toList := by
  have kE : Tryd.prog.cellsOf 59 = 4 := by kernel_rfl
  have kA : Tryd.prog.cellsOf 60 = 32 := by kernel_rfl
  cases fuel with
  | zero => simp [DataW.trod] at h
  | succ fuel =>
    simp only [DataW.trod, Tryd.underlying60, kE, kA] at h
    split at h
    · rename_i hl
      obtain ⟨xs, hm, hx⟩ := Option.map_eq_some_iff.1 h
      have hx1 := congrArg Prod.fst hx
      have hxl : xs.length = 8 := by simpa using Lib.mapM_length hm
      match cs, hl with
      | [c0, c1, c2, c3, c4, c5, c6, c7, c8, c9, c10, c11, c12, c13, c14, c15, c16, c17, c18, c19, c20, c21, c22, c23, c24, c25, c26, c27, c28, c29, c30, c31], _ =>
        match xs, hxl with
        | [x0, x1, x2, x3, x4, x5, x6, x7], _ =>
          simp only [Rows.laid_loop_example_hatchway_impl_lineForms, List.map_cons, List.map_nil, DataW.agg.injEq, List.cons.injEq, and_true] at hx1
          obtain ⟨q0, q1, q2, q3, q4, q5, q6, q7⟩ := hx1
          obtain ⟨b0, hb0, hf0⟩ := Lib.mapM_at hm 0 0 rfl
          obtain rfl : x0 = b0 := Option.some.inj hb0
          obtain ⟨rfl, rfl, rfl, rfl⟩ := form_cells (c0 := c0) (c1 := c1) (c2 := c2) (c3 := c3) (bs := [115, 101, 110, 100]) (k := 1) (f := 0) (l := 2) (p := x0.2) ((show DataW.trod enc Tryd.prog w base sp held fuel 59 [c0, c1, c2, c3] = some x0 from hf0).trans (by rw [← q0]))
          obtain ⟨b1, hb1, hf1⟩ := Lib.mapM_at hm 1 1 rfl
          obtain rfl : x1 = b1 := Option.some.inj hb1
          obtain ⟨rfl, rfl, rfl, rfl⟩ := form_cells (c0 := c4) (c1 := c5) (c2 := c6) (c3 := c7) (bs := [114, 101, 112, 108, 121]) (k := 2) (f := 0) (l := 2) (p := x1.2) ((show DataW.trod enc Tryd.prog w base sp held fuel 59 [c4, c5, c6, c7] = some x1 from hf1).trans (by rw [← q1]))
          obtain ⟨b2, hb2, hf2⟩ := Lib.mapM_at hm 2 2 rfl
          obtain rfl : x2 = b2 := Option.some.inj hb2
          obtain ⟨rfl, rfl, rfl, rfl⟩ := form_cells (c0 := c8) (c1 := c9) (c2 := c10) (c3 := c11) (bs := [104, 101, 97, 114]) (k := 3) (f := 1) (l := 1) (p := x2.2) ((show DataW.trod enc Tryd.prog w base sp held fuel 59 [c8, c9, c10, c11] = some x2 from hf2).trans (by rw [← q2]))
          obtain ⟨b3, hb3, hf3⟩ := Lib.mapM_at hm 3 3 rfl
          obtain rfl : x3 = b3 := Option.some.inj hb3
          obtain ⟨rfl, rfl, rfl, rfl⟩ := form_cells (c0 := c12) (c1 := c13) (c2 := c14) (c3 := c15) (bs := [108, 111, 115, 101]) (k := 4) (f := 1) (l := 1) (p := x3.2) ((show DataW.trod enc Tryd.prog w base sp held fuel 59 [c12, c13, c14, c15] = some x3 from hf3).trans (by rw [← q3]))
          obtain ⟨b4, hb4, hf4⟩ := Lib.mapM_at hm 4 4 rfl
          obtain rfl : x4 = b4 := Option.some.inj hb4
          obtain ⟨rfl, rfl, rfl, rfl⟩ := form_cells (c0 := c16) (c1 := c17) (c2 := c18) (c3 := c19) (bs := [116, 119, 105, 99, 101]) (k := 5) (f := 1) (l := 1) (p := x4.2) ((show DataW.trod enc Tryd.prog w base sp held fuel 59 [c16, c17, c18, c19] = some x4 from hf4).trans (by rw [← q4]))
          obtain ⟨b5, hb5, hf5⟩ := Lib.mapM_at hm 5 5 rfl
          obtain rfl : x5 = b5 := Option.some.inj hb5
          obtain ⟨rfl, rfl, rfl, rfl⟩ := form_cells (c0 := c20) (c1 := c21) (c2 := c22) (c3 := c23) (bs := [98, 101, 110, 100]) (k := 6) (f := 1) (l := 3) (p := x5.2) ((show DataW.trod enc Tryd.prog w base sp held fuel 59 [c20, c21, c22, c23] = some x5 from hf5).trans (by rw [← q5]))
          obtain ⟨b6, hb6, hf6⟩ := Lib.mapM_at hm 6 6 rfl
          obtain rfl : x6 = b6 := Option.some.inj hb6
          obtain ⟨rfl, rfl, rfl, rfl⟩ := form_cells (c0 := c24) (c1 := c25) (c2 := c26) (c3 := c27) (bs := [100, 97, 116, 97]) (k := 7) (f := 1) (l := 1) (p := x6.2) ((show DataW.trod enc Tryd.prog w base sp held fuel 59 [c24, c25, c26, c27] = some x6 from hf6).trans (by rw [← q6]))
          obtain ⟨b7, hb7, hf7⟩ := Lib.mapM_at hm 7 7 rfl
          obtain rfl : x7 = b7 := Option.some.inj hb7
          obtain ⟨rfl, rfl, rfl, rfl⟩ := form_cells (c0 := c28) (c1 := c29) (c2 := c30) (c3 := c31) (bs := [119, 111, 114, 100]) (k := 8) (f := 0) (l := 1) (p := x7.2) ((show DataW.trod enc Tryd.prog w base sp held fuel 59 [c28, c29, c30, c31] = some x7 from hf7).trans (by rw [← q7]))
          rfl
    · cases h
end

theorem forms_of_laid {W : World} {l : List (String × DataW Unit)} (h : laidMet Tryd.prog l W) (hm : ("loop.example/hatchway/impl.lineForms", Rows.laid_loop_example_hatchway_impl_lineForms) ∈ l) : Forms W := by
  obtain ⟨g, t, cs, fuel, p, hg, ht, hv, hd⟩ := Lib.laidMet.reads h hm
  obtain rfl : 0 = g := Option.some.inj ((show Tryd.prog.globalNamed "loop.example/hatchway/impl.lineForms" = some 0 by kernel_rfl).symm.trans hg)
  obtain rfl : 60 = t := Option.some.inj ((show (Tryd.prog.globals[(0 : Nat)]?).map (·.type) = some 60 by kernel_rfl).symm.trans ht)
  have hc := forms_cells hd
  have hc2 : cs = formsC := Array.ext' hc
  unfold World.var? at hv
  rw [hg] at hv
  simp only [Option.bind_some] at hv
  split at hv
  · rename_i ct tt ff hh
    have e := Option.some.inj hv
    exact ⟨_, _, by rw [hh, e, hc2]⟩
  · cases hv

end Go.Proofs.YtilfpefccklebaaDoor

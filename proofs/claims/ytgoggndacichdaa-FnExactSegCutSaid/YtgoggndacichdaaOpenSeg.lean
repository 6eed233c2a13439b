/- An argument that is a segment, or bytes, as the frame of a law hands it in. No condition. -/
import Derived.Test.YtgoggndacichdaaBytes
import Derived.ProofKit
import Derived.OpenShut
import Derived.ShutString
import Derived.ChangeOld
import Derived.ChangeSame
import Derived.Lib.SmallJoins
import Derived.Carry
namespace Go.Proofs.Ytgoggndacichdaa
open Go.ChangeShapes Go.WideShapes Go.ChangeAt Go.RowKit

theorem array7 {α : Type} {cs : Array α} (h : cs.size = 7) : ∃ c0 c1 c2 c3 c4 c5 c6, cs = #[c0, c1, c2, c3, c4, c5, c6] := by
  obtain ⟨l⟩ := cs
  match l, h with
  | [c0, c1, c2, c3, c4, c5, c6], _ => exact ⟨c0, c1, c2, c3, c4, c5, c6, rfl⟩
theorem cellsSegL : Try.prog.cellsOf 25 = 7 := by kernel_rfl
theorem cellsEndS : Try.prog.cellsOf 23 = 2 := by kernel_rfl
theorem cellsIntS : Try.prog.cellsOf 3 = 1 := by kernel_rfl
theorem cellsStrS : Try.prog.cellsOf 9 = 1 := by kernel_rfl

theorem end_of {H : Type} {enc : TypeId × Value → H} {W : World} {n : Nat} {c0 c1 : Value} {y : DataW H × List MemPlace} (h : DataW.trod enc Try.prog W 0 (fun _ => true) true n 23 [c0, c1] = some y) :
    ∃ a p : Int, c0 = .int .i64 a ∧ c1 = .int .i64 p ∧ (Lit.int .i64 a).wf = true ∧ (Lit.int .i64 p).wf = true := by
  obtain ⟨y0, y1, n', _, _, h0, h1⟩ := trod_struct2 Try.underlying23 h
  have h0' : DataW.trod enc Try.prog W 0 (fun _ => true) true n' 3 [c0] = some y0 := by simpa [cellsIntS] using h0
  have h1' : DataW.trod enc Try.prog W 0 (fun _ => true) true n' 3 [c1] = some y1 := by simpa [cellsIntS] using h1
  obtain ⟨a, e0, _, w0⟩ := DataW.trod_int Try.underlying3 h0'
  obtain ⟨p, e1, _, w1⟩ := DataW.trod_int Try.underlying3 h1'
  simp at e0 e1
  exact ⟨a, p, e0, e1, w0, w1⟩

set_option maxRecDepth 100000 in
theorem seg_in {H : Type} {enc : TypeId × Value → H} {W : World} {base : Nat} {v : Value} {d : DataW H} {p : List MemPlace} (hv : Value.okWide Try.prog W .any base 25 v)
    (h : DataW.Trod enc Try.prog W 0 (fun _ => true) true 25 v d p) : ∃ (sa sp da dp sq ak : Int) (s : ByteArray), v = .agg #[.int .i64 sa, .int .i64 sp, .int .i64 da, .int .i64 dp, .int .i64 sq, .int .i64 ak, .string s] ∧
      (Lit.int .i64 sa).wf = true ∧ (Lit.int .i64 sp).wf = true ∧ (Lit.int .i64 da).wf = true ∧ (Lit.int .i64 dp).wf = true ∧ (Lit.int .i64 sq).wf = true ∧ (Lit.int .i64 ak).wf = true ∧ s.size ≤ maxLen := by
  obtain ⟨cs, rfl, hsz⟩ := okWide_struct Try.underlying25 hv
  obtain ⟨c0, c1, c2, c3, c4, c5, c6, rfl⟩ := array7 (hsz.trans cellsSegL)
  obtain ⟨fuel, hf⟩ := h
  obtain ⟨xs, n, _, _, _, hlen, hg⟩ := DataW.trod_struct Try.underlying25 hf
  match xs, hlen with
  | [y0, y1, y2, y3, y4], _ =>
    have g0 : DataW.trod enc Try.prog W 0 (fun _ => true) true n 23 [c0, c1] = some y0 := by simpa [Value.cells, cellsEndS] using hg 0 _ rfl
    have g1 : DataW.trod enc Try.prog W 0 (fun _ => true) true n 23 [c2, c3] = some y1 := by simpa [Value.cells, cellsEndS] using hg 1 _ rfl
    have g2 : DataW.trod enc Try.prog W 0 (fun _ => true) true n 3 [c4] = some y2 := by simpa [Value.cells, cellsIntS] using hg 2 _ rfl
    have g3 : DataW.trod enc Try.prog W 0 (fun _ => true) true n 3 [c5] = some y3 := by simpa [Value.cells, cellsIntS] using hg 3 _ rfl
    have g4 : DataW.trod enc Try.prog W 0 (fun _ => true) true n 9 [c6] = some y4 := by simpa [Value.cells, cellsStrS] using hg 4 _ rfl
    obtain ⟨sa, sp, rfl, rfl, w0, w1⟩ := end_of g0
    obtain ⟨da, dp, rfl, rfl, w2, w3⟩ := end_of g1
    obtain ⟨sq, e2, _, w4⟩ := DataW.trod_int Try.underlying3 g2
    obtain ⟨ak, e3, _, w5⟩ := DataW.trod_int Try.underlying3 g3
    obtain ⟨s, e4, _, w6⟩ := DataW.trod_string Try.underlying9 g4
    simp at e2 e3 e4
    subst e2 e3 e4
    exact ⟨sa, sp, da, dp, sq, ak, s, rfl, w0, w1, w2, w3, w4, w5, w6⟩

theorem int_bd {a : Int} (h : (Lit.int .i64 a).wf = true) : -9223372036854775808 ≤ a ∧ a ≤ 9223372036854775807 := by
  simp [Lit.wf, IntKind.min, IntKind.max, IntKind.signed, IntKind.bits] at h
  omega

/-- Bytes that came in lie in memory, at any address. -/
theorem bytesArg {H : Type} {enc : TypeId × Value → H} {W : World} {a : Option Addr} {len cap : Nat} {d : DataW H} {p : List MemPlace} (h : DataW.Trod enc Try.prog W 0 (fun _ => true) true 33 (.slice a len cap) d p) : ∃ l : List UInt8, ArgB W (.slice a len cap) l ∧ l.length ≤ 9223372036854775807 := by
  obtain ⟨fuel, hf⟩ := h
  rcases open_ints Try.underlying33 Try.underlying5 (by kernel_rfl) hf with ⟨hcs, _⟩ | ⟨x, l, c, zs, hcs, _, hl, hm, hz, _, hcell, hwz⟩
  · simp [Value.cells] at hcs
    obtain ⟨rfl, rfl, rfl⟩ := hcs
    exact ⟨[], ⟨none, 0, rfl, Nat.le_refl _, fun h => by simp at h⟩, by simp⟩
  · simp [Value.cells] at hcs
    obtain ⟨rfl, rfl, rfl⟩ := hcs
    have hzl : zs.length = cap := by simpa using hz
    have hcl : ∀ i, i < len → ∃ b : UInt8, W.cell? (x.add i) = some (.int .u8 (b.toNat : Int)) := by
      intro i hi
      have hc := hcell i (by omega)
      have hw := hwz (zs.getD i 0) (by rw [List.getD_eq_getElem?_getD, List.getElem?_eq_getElem (by omega)]; exact List.getElem_mem _)
      have h255 := bounds_u8 hw
      generalize zs.getD i 0 = z at hc h255
      refine ⟨UInt8.ofNat z.toNat, ?_⟩
      rw [hc]
      congr 2
      simp
      omega
    have hl2 : ∀ n, n ≤ len → ∃ l : List UInt8, l.length = n ∧ ∀ i (hi : i < l.length), W.cell? (x.add i) = some (.int .u8 (l[i].toNat : Int)) := by
      intro n
      induction n with
      | zero => intro _; exact ⟨[], rfl, fun i hi => by simp at hi⟩
      | succ n ih =>
        intro hn
        obtain ⟨l, h1, h2⟩ := ih (by omega)
        obtain ⟨b, hb⟩ := hcl n (by omega)
        refine ⟨l ++ [b], by simp [h1], fun i hi => ?_⟩
        by_cases e : i < l.length
        · rw [List.getElem_append_left e]; exact h2 i e
        · simp at hi
          have e2 : i = l.length := by omega
          subst e2
          rw [List.getElem_append_right (Nat.le_refl _)]
          simp only [Nat.sub_self, List.getElem_cons_zero]
          rw [h1]; exact hb
    obtain ⟨l, h1, h2⟩ := hl2 len (Nat.le_refl _)
    subst h1
    refine ⟨l, ⟨some x, cap, rfl, hl, fun hn => ⟨x, rfl, ?_, h2⟩⟩, Nat.le_trans hl (by unfold maxLen at hm; exact hm)⟩
    have := World.block_lt_of_cell? W _ (h2 0 hn)
    unfold Addr.add at this; simpa using this

end Go.Proofs.Ytgoggndacichdaa

/- An argument that is a segment, or bytes, as the frame of a law hands it in. No condition. (Several texts, joined: LawTurn3, Bytes, OpenSeg.) -/
import Derived.Test.YtglpijjkihpeeaaGreatDoorTBxTm
import Derived.Test.YtglpijjkihpeeaaGreatDoorTBxTn
import Derived.Test.YtglpijjkihpeeaaGreatDoorTBxTo
import Derived.Test.YtglpijjkihpeeaaGreatDoorRdV
import Derived.Lib.AppendStr
import Derived.Lib.Hide
import Derived.ProofKit
import Derived.OpenShut
import Derived.ShutString
import Derived.ChangeOld
import Derived.ChangeSame
import Derived.Lib.SmallJoins
import Derived.Carry

/- The law of BoxTurn. Conditions: the arguments' lists lie in the machine's memory, at any address; the variables that are read hold what they are laid with. -/
namespace Go.Proofs.YtglpijjkihpeeaaGreatDoor
open Go.RowKit Go.Sort

theorem lawBoxTurn_any (v : Value) (b : Bx) (sa sp da dp sq ak : Int) (d : ByteArray) (w : World) (hv : ArgBx w v b) (hm : bxMax b) (hd : d.size ≤ maxLen) (wd : (Lit.int .i64 dp).wf = true) (hvars : VarsOk w) (htb : TabOk w) :
    Calls Tryz.prog 4 #[v, .agg #[.int .i64 sa, .int .i64 sp, .int .i64 da, .int .i64 dp, .int .i64 sq, .int .i64 ak, .string d]] w fun e w' => e = .returned (.bool true) ∧ Below w.heap.size w w' :=
  lawTurnS.main ⟨lawTurn1⟩ ⟨lawTurn2⟩ ⟨lawTurn3⟩ v b sa sp da dp sq ak d w hv hm hd wd hvars htb

end Go.Proofs.YtglpijjkihpeeaaGreatDoor

/- Lists of bytes in memory: an argument's, at any address; read from a block's beginning on; of the call's own. No condition. -/
namespace Go.Proofs.YtglpijjkihpeeaaGreatDoor
open Go.RowKit

def byV (l : List UInt8) : List Value := l.map fun c => .int .u8 (c.toNat : Int)
theorem byV_len (l : List UInt8) : (byV l).length = l.length := by simp [byV]
theorem byV_app (l m : List UInt8) : byV (l ++ m) = byV l ++ byV m := by simp [byV]
theorem byV_at (l : List UInt8) (i : Nat) (h : i < (byV l).length) : (byV l)[i] = .int .u8 ((l[i]'(by rw [byV_len] at h; exact h)).toNat : Int) := by simp [byV]
theorem byV_take (l : List UInt8) (n : Nat) : (byV l).take n = byV (l.take n) := by simp [byV]
theorem byV_one (l : List UInt8) : ∀ u ∈ byV l, u.oneCell' = true := by
  intro u hu
  simp only [byV, List.mem_map] at hu
  obtain ⟨c, _, rfl⟩ := hu
  rfl
theorem byV_str (s : ByteArray) : Lib.strCells s = byV s.data.toList := rfl
theorem infoByte : (Tryz.prog.info? 5).map (fun i => (i.zero, i.size, i.bytes)) = some (some (.int .u8 0), 1, 1) := by kernel_rfl

theorem add_blockB (a : Addr) (i : Nat) : (a.add i).block = a.block := by unfold Addr.add; split <;> rfl
/-- An argument's bytes, at any address. -/
def ArgB (w : World) (v : Value) (l : List UInt8) : Prop := ∃ ao cap, v = .slice ao l.length cap ∧ l.length ≤ cap ∧ (0 < l.length → ∃ x : Addr, ao = some x ∧ x.block < w.heap.size ∧ ∀ i (hi : i < l.length), w.cell? (x.add i) = some (.int .u8 (l[i].toNat : Int)))
theorem ArgB.below {w w' : World} {v : Value} {l : List UInt8} (h : ArgB w v l) (hb : Below w.heap.size w w') : ArgB w' v l := by
  obtain ⟨ao, cap, rfl, hc, hr⟩ := h
  refine ⟨ao, cap, rfl, hc, fun hn => ?_⟩
  obtain ⟨x, rfl, hx, hrow⟩ := hr hn
  exact ⟨x, rfl, Nat.lt_of_lt_of_le hx hb.size, fun i hi => (hb.cell (p := x.add i) (by rw [add_blockB]; exact hx)).trans (hrow i hi)⟩
/-- A slice reads as these bytes, from its block's beginning on. -/
def RdB (w : World) (v : Value) (l : List UInt8) : Prop := ∃ ao cap, v = .slice ao l.length cap ∧ l.length ≤ cap ∧ (0 < l.length → ∃ g, ao = some ⟨g, 0, none⟩ ∧ RowAt w g (byV l))
theorem RdB.below {w w' : World} {v : Value} {l : List UInt8} (h : RdB w v l) (hb : Below w.heap.size w w') : RdB w' v l := by
  obtain ⟨ao, cap, rfl, hc, hr⟩ := h
  refine ⟨ao, cap, rfl, hc, fun hn => ?_⟩
  obtain ⟨g, rfl, hrow⟩ := hr hn
  exact ⟨g, rfl, hrow.below hb (hrow.lt (by rw [byV_len]; exact hn))⟩
/-- Bytes of the call's own. -/
def OwnB (w : World) (B : Nat) (v : Value) (l : List UInt8) : Prop := w.ownsRow B 5 1 v l.length (byV l)
theorem OwnB.below {w w' : World} {B : Nat} {v : Value} {l : List UInt8} (h : OwnB w B v l) (hb : Below w.heap.size w w') : OwnB w' B v l := own_below h hb
theorem OwnB.mono {w : World} {B B' : Nat} {v : Value} {l : List UInt8} (h : OwnB w B v l) (hB : B' ≤ B) : OwnB w B' v l := own_base h hB
theorem OwnB.form {w : World} {B : Nat} {v : Value} {l : List UInt8} (h : OwnB w B v l) : ∃ a cap, v = .slice a l.length cap := own_form h
theorem OwnB.nil (w : World) (B : Nat) : OwnB w B (.slice none 0 0) [] := ⟨rfl, Or.inl ⟨rfl, rfl⟩⟩
theorem OwnB.cells {w : World} {B : Nat} {v : Value} {l : List UInt8} (h : OwnB w B v l) (hn : 0 < l.length) : ∃ g cap, v = .slice (some ⟨g, 0, none⟩) l.length cap ∧ l.length ≤ cap ∧ B ≤ g ∧ g < w.heap.size ∧ RowAt w g (byV l) := by
  obtain ⟨g, cap, rfl, hB, hg, hc, hr⟩ := own_cells h hn
  exact ⟨g, cap, rfl, hc, hB, hg, hr⟩
theorem OwnB.rd {w : World} {B : Nat} {v : Value} {l : List UInt8} (h : OwnB w B v l) : RdB w v l := by
  by_cases hn : 0 < l.length
  · obtain ⟨g, cap, rfl, hc, hB, hg, hr⟩ := h.cells hn
    exact ⟨_, cap, rfl, hc, fun _ => ⟨_, rfl, hr⟩⟩
  · rcases h.2 with ⟨rfl, h1⟩ | ⟨g, cap, cur, rfl, hB, hg, h2, _⟩
    · exact ⟨none, 0, by rw [h1], by omega, fun h => absurd h hn⟩
    · exact ⟨_, cap, rfl, h2, fun h => absurd h hn⟩
theorem OwnB.drew {w : World} {B : Nat} {v : Value} {l : List UInt8} (h : OwnB w B v l) : OwnB w.drew B v l := World.ownsRow.drew h

end Go.Proofs.YtglpijjkihpeeaaGreatDoor

/- An argument that is a segment, or bytes, as the frame of a law hands it in. No condition. -/
namespace Go.Proofs.YtglpijjkihpeeaaGreatDoor
open Go.ChangeShapes Go.WideShapes Go.ChangeAt Go.RowKit

theorem array7 {α : Type} {cs : Array α} (h : cs.size = 7) : ∃ c0 c1 c2 c3 c4 c5 c6, cs = #[c0, c1, c2, c3, c4, c5, c6] := by
  obtain ⟨l⟩ := cs
  match l, h with
  | [c0, c1, c2, c3, c4, c5, c6], _ => exact ⟨c0, c1, c2, c3, c4, c5, c6, rfl⟩
theorem cellsSegL : Tryz.prog.cellsOf 50 = 7 := by kernel_rfl
theorem cellsEndS : Tryz.prog.cellsOf 48 = 2 := by kernel_rfl
theorem cellsIntS : Tryz.prog.cellsOf 3 = 1 := by kernel_rfl
theorem cellsStrS : Tryz.prog.cellsOf 9 = 1 := by kernel_rfl

theorem end_of {H : Type} {enc : TypeId × Value → H} {W : World} {n : Nat} {c0 c1 : Value} {y : DataW H × List MemPlace} (h : DataW.trod enc Tryz.prog W 0 (fun _ => true) true n 48 [c0, c1] = some y) :
    ∃ a p : Int, c0 = .int .i64 a ∧ c1 = .int .i64 p ∧ (Lit.int .i64 a).wf = true ∧ (Lit.int .i64 p).wf = true := by
  obtain ⟨y0, y1, n', _, _, h0, h1⟩ := trod_struct2 Tryz.underlying48 h
  have h0' : DataW.trod enc Tryz.prog W 0 (fun _ => true) true n' 3 [c0] = some y0 := by simpa [cellsIntS] using h0
  have h1' : DataW.trod enc Tryz.prog W 0 (fun _ => true) true n' 3 [c1] = some y1 := by simpa [cellsIntS] using h1
  obtain ⟨a, e0, _, w0⟩ := DataW.trod_int Tryz.underlying3 h0'
  obtain ⟨p, e1, _, w1⟩ := DataW.trod_int Tryz.underlying3 h1'
  simp at e0 e1
  exact ⟨a, p, e0, e1, w0, w1⟩

set_option maxRecDepth 100000 in
theorem seg_in {H : Type} {enc : TypeId × Value → H} {W : World} {base : Nat} {v : Value} {d : DataW H} {p : List MemPlace} (hv : Value.okWide Tryz.prog W .any base 50 v)
    (h : DataW.Trod enc Tryz.prog W 0 (fun _ => true) true 50 v d p) : ∃ (sa sp da dp sq ak : Int) (s : ByteArray), v = .agg #[.int .i64 sa, .int .i64 sp, .int .i64 da, .int .i64 dp, .int .i64 sq, .int .i64 ak, .string s] ∧
      (Lit.int .i64 sa).wf = true ∧ (Lit.int .i64 sp).wf = true ∧ (Lit.int .i64 da).wf = true ∧ (Lit.int .i64 dp).wf = true ∧ (Lit.int .i64 sq).wf = true ∧ (Lit.int .i64 ak).wf = true ∧ s.size ≤ maxLen := by
  obtain ⟨cs, rfl, hsz⟩ := okWide_struct Tryz.underlying50 hv
  obtain ⟨c0, c1, c2, c3, c4, c5, c6, rfl⟩ := array7 (hsz.trans cellsSegL)
  obtain ⟨fuel, hf⟩ := h
  obtain ⟨xs, n, _, _, _, hlen, hg⟩ := DataW.trod_struct Tryz.underlying50 hf
  match xs, hlen with
  | [y0, y1, y2, y3, y4], _ =>
    have g0 : DataW.trod enc Tryz.prog W 0 (fun _ => true) true n 48 [c0, c1] = some y0 := by simpa [Value.cells, cellsEndS] using hg 0 _ rfl
    have g1 : DataW.trod enc Tryz.prog W 0 (fun _ => true) true n 48 [c2, c3] = some y1 := by simpa [Value.cells, cellsEndS] using hg 1 _ rfl
    have g2 : DataW.trod enc Tryz.prog W 0 (fun _ => true) true n 3 [c4] = some y2 := by simpa [Value.cells, cellsIntS] using hg 2 _ rfl
    have g3 : DataW.trod enc Tryz.prog W 0 (fun _ => true) true n 3 [c5] = some y3 := by simpa [Value.cells, cellsIntS] using hg 3 _ rfl
    have g4 : DataW.trod enc Tryz.prog W 0 (fun _ => true) true n 9 [c6] = some y4 := by simpa [Value.cells, cellsStrS] using hg 4 _ rfl
    obtain ⟨sa, sp, rfl, rfl, w0, w1⟩ := end_of g0
    obtain ⟨da, dp, rfl, rfl, w2, w3⟩ := end_of g1
    obtain ⟨sq, e2, _, w4⟩ := DataW.trod_int Tryz.underlying3 g2
    obtain ⟨ak, e3, _, w5⟩ := DataW.trod_int Tryz.underlying3 g3
    obtain ⟨s, e4, _, w6⟩ := DataW.trod_string Tryz.underlying9 g4
    simp at e2 e3 e4
    subst e2 e3 e4
    exact ⟨sa, sp, da, dp, sq, ak, s, rfl, w0, w1, w2, w3, w4, w5, w6⟩

theorem int_bd {a : Int} (h : (Lit.int .i64 a).wf = true) : -9223372036854775808 ≤ a ∧ a ≤ 9223372036854775807 := by
  simp [Lit.wf, IntKind.min, IntKind.max, IntKind.signed, IntKind.bits] at h
  omega

/-- Bytes that came in lie in memory, at any address. -/
theorem bytesArg {H : Type} {enc : TypeId × Value → H} {W : World} {a : Option Addr} {len cap : Nat} {d : DataW H} {p : List MemPlace} (h : DataW.Trod enc Tryz.prog W 0 (fun _ => true) true 22 (.slice a len cap) d p) : ∃ l : List UInt8, ArgB W (.slice a len cap) l ∧ l.length ≤ 9223372036854775807 := by
  obtain ⟨fuel, hf⟩ := h
  rcases open_ints Tryz.underlying22 Tryz.underlying5 (by kernel_rfl) hf with ⟨hcs, _⟩ | ⟨x, l, c, zs, hcs, _, hl, hm, hz, _, hcell, hwz⟩
  · simp [Value.cells] at hcs
    obtain ⟨rfl, rfl, rfl⟩ := hcs
    exact ⟨[], ⟨none, 0, rfl, Nat.le_refl _, fun h => by simp at h⟩, by simp⟩
  · simp [Value.cells] at hcs
    obtain ⟨rfl, rfl, rfl⟩ := hcs
    have hzl : zs.length = cap := by simpa using hz
    have hcl : ∀ i, i < len → ∃ b : UInt8, W.cell? (x.add i) = some (.int .u8 (b.toNat : Int)) := by
      intro i hi
      have hc := hcell i (by omega)
      have hw := hwz (zs.getD i 0) (by rw [List.getD_eq_getElem?_getD, List.getElem?_eq_getElem (by omega)]; exact List.getElem_mem _)
      have h255 := bounds_u8 hw
      generalize zs.getD i 0 = z at hc h255
      refine ⟨UInt8.ofNat z.toNat, ?_⟩
      rw [hc]
      congr 2
      simp
      omega
    have hl2 : ∀ n, n ≤ len → ∃ l : List UInt8, l.length = n ∧ ∀ i (hi : i < l.length), W.cell? (x.add i) = some (.int .u8 (l[i].toNat : Int)) := by
      intro n
      induction n with
      | zero => intro _; exact ⟨[], rfl, fun i hi => by simp at hi⟩
      | succ n ih =>
        intro hn
        obtain ⟨l, h1, h2⟩ := ih (by omega)
        obtain ⟨b, hb⟩ := hcl n (by omega)
        refine ⟨l ++ [b], by simp [h1], fun i hi => ?_⟩
        by_cases e : i < l.length
        · rw [List.getElem_append_left e]; exact h2 i e
        · simp at hi
          have e2 : i = l.length := by omega
          subst e2
          rw [List.getElem_append_right (Nat.le_refl _)]
          simp only [Nat.sub_self, List.getElem_cons_zero]
          rw [h1]; exact hb
    obtain ⟨l, h1, h2⟩ := hl2 len (Nat.le_refl _)
    subst h1
    refine ⟨l, ⟨some x, cap, rfl, hl, fun hn => ⟨x, rfl, ?_, h2⟩⟩, Nat.le_trans hl (by unfold maxLen at hm; exact hm)⟩
    have := World.block_lt_of_cell? W _ (h2 0 hn)
    unfold Addr.add at this; simpa using this

end Go.Proofs.YtglpijjkihpeeaaGreatDoor

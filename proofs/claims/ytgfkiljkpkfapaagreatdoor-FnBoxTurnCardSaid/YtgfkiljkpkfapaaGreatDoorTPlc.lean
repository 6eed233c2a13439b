/- Whether a box is ok, as the specification asks. Condition: lists and texts of at most 2^20. (Several texts, joined: SFindCn, SConn, ArgCn, OpenRul, ArgTab, OpenTab, OpenBx, ArgOwn, BoxLaw, BoxPure, MayS, SBoxOk.) -/
import Derived.Test.YtgfkiljkpkfapaaGreatDoorTPlb
import Derived.Test.YtgfkiljkpkfapaaGreatDoorSMap
import Derived.Lib.QuietBelow
import Derived.Test.YtgfkiljkpkfapaaGreatDoorTPla
import Derived.Test.YtgfkiljkpkfapaaGreatDoorCnMem
import Derived.Test.YtgfkiljkpkfapaaGreatDoorRulLaw
import Derived.ProofKit
import Derived.OpenShut
import Derived.ShutString
import Derived.ChangeOld
import Derived.ChangeSame
import Derived.Lib.SmallJoins
import Derived.Carry
import Derived.Deep.Slices
import Derived.Test.YtgfkiljkpkfapaaGreatDoorToTab
import Derived.Deep.SlicePairs
import Derived.Test.YtgfkiljkpkfapaaGreatDoorBoxMk
import Derived.Deep.RegionWith

/- Where streams stand, as the specification looks for them. Condition: at most 2^22 streams. -/
namespace Go.Proofs.YtgfkiljkpkfapaaGreatDoor
open Go.RowKit Go.Sort

set_option maxRecDepth 100000 in
set_option maxHeartbeats 1600000 in
theorem specFindCn_any (v : Value) (cs : List Cn) (ia ip oa op : Int) (w : World) (hn : cs.length ≤ 4194304) (hv : RdCn w v cs) :
    Calls Tryz.prog 89 #[v, .agg #[.int .i64 ia, .int .i64 ip], .agg #[.int .i64 oa, .int .i64 op]] w fun e w' => e = .returned (.int .i64 (findCn cs ia ip oa op)) ∧ Below w.heap.size w w' := by
  obtain ⟨ad, cap, rfl, hcap, hr⟩ := hv
  have HR := Lib.hid hr
  clear hr
  go_enter Tryz.func89, Tryz.ntmps89
  go_wp2
  go_loopw [7] (fun i wr => ∃ k : Nat, k ≤ cs.length ∧ i = .int .i64 k ∧ (∀ j (hj : j < k) (hl : j < cs.length), sameCn cs[j] ia ip oa op = false) ∧ wr.cell? ⟨w.heap.size, 0, none⟩ = some (.int .i64 ia) ∧ wr.cell? ⟨w.heap.size, 1, none⟩ = some (.int .i64 ip) ∧ wr.cell? ⟨w.heap.size + 1, 0, none⟩ = some (.int .i64 oa) ∧ wr.cell? ⟨w.heap.size + 1, 1, none⟩ = some (.int .i64 op) ∧ Below w.heap.size w wr) (fun i _ => cs.length - (intOf i).toNat)
  case atStart => exact ⟨0, Nat.zero_le _, rfl, fun j hj => by omega, by simp, by simp, by simp, by simp, ((Below.refl _ _).alloc (Nat.le_refl _) _).alloc (by simp) _⟩
  case round =>
    obtain ⟨k, hk, rfl, hd, k0, k1, k2, k3, hb⟩ := hrel
    have HD := Lib.hid hd
    clear hd
    by_cases hlt : k < cs.length
    · obtain ⟨g, rfl, hrow⟩ := HR.out (by omega)
      have hl : 0 < (flatC cnC cs).length := by rw [flatC_len cnC_len]; omega
      obtain ⟨⟨a, p, o, q, kn, he, ne⟩, hp⟩ : ∃ p, p = cs[k] := ⟨_, rfl⟩
      obtain ⟨⟨r0, r1, r2, r3, _, _, _⟩, _⟩ := (hrow.below hb (hrow.lt hl)).conn k hlt _ hp
      simp only at r0 r1 r2 r3
      have HP := Lib.hid hp
      have hk2 : (k : Int) ≤ (cap : Int) := by omega
      clear hp hrow HR hl
      have g1 := eqEnds1
      have g2 := eqEnds2
      have HX : Hid (sameCn cs[k] ia ip oa op = (decide (a = ia) && decide (p = ip) && (decide (o = oa) && decide (q = op)))) := by show _ = _; rw [← HP.out]; rfl
      have HN : Hid (sameCn cs[k] ia ip oa op = false → ∀ j (hj : j < k + 1) (hl : j < cs.length), sameCn cs[j] ia ip oa op = false) := fun h j hj hl => by
        by_cases e : j = k
        · subst e; exact h
        · exact HD.out j (by omega) hl
      clear HP
      by_cases h1 : a = ia
      rotate_left
      · have HF : Hid (sameCn cs[k] ia ip oa op = false) := by show _ = _; rw [HX.out]; simp [h1]
        clear HX
        go_wp2_with fail
        go_quiet (fail)
        go_wp2
        go_roundw
        case rel => exact ⟨k + 1, by omega, by go_num, HN.out HF.out, k0, k1, k2, k3, hb.trans ⟨rfl, rfl, rfl, Nat.le_refl _, fun _ _ => rfl⟩⟩
        case measure => simp [intOf]; omega
      subst h1
      by_cases h2 : p = ip
      rotate_left
      · have HF : Hid (sameCn cs[k] a ip oa op = false) := by show _ = _; rw [HX.out]; simp [h2]
        clear HX
        go_wp2_with fail
        go_quiet (fail)
        go_wp2
        go_roundw
        case rel => exact ⟨k + 1, by omega, by go_num, HN.out HF.out, k0, k1, k2, k3, hb.trans ⟨rfl, rfl, rfl, Nat.le_refl _, fun _ _ => rfl⟩⟩
        case measure => simp [intOf]; omega
      subst h2
      by_cases h3 : o = oa
      rotate_left
      · have HF : Hid (sameCn cs[k] a p oa op = false) := by show _ = _; rw [HX.out]; simp [h3]
        clear HX
        go_wp2_with fail
        go_quiet (fail)
        go_wp2
        go_roundw
        case rel => exact ⟨k + 1, by omega, by go_num, HN.out HF.out, k0, k1, k2, k3, hb.trans ⟨rfl, rfl, rfl, Nat.le_refl _, fun _ _ => rfl⟩⟩
        case measure => simp [intOf]; omega
      subst h3
      by_cases h4 : q = op
      rotate_left
      · have HF : Hid (sameCn cs[k] a p o op = false) := by show _ = _; rw [HX.out]; simp [h4]
        clear HX
        go_wp2_with fail
        go_quiet (fail)
        go_wp2
        go_roundw
        case rel => exact ⟨k + 1, by omega, by go_num, HN.out HF.out, k0, k1, k2, k3, hb.trans ⟨rfl, rfl, rfl, Nat.le_refl _, fun _ _ => rfl⟩⟩
        case measure => simp [intOf]; omega
      subst h4
      have HT : Hid (findCn cs a p o q = k) := findCn_hit hlt (by rw [HX.out]; simp) fun j hj => HD.out j hj (by omega)
      clear HX HN HD
      go_wp2_with fail
      go_quiet (fail)
      go_wp2
      go_ret
      exact ⟨ret_int HT.out.symm, hb.trans ⟨rfl, rfl, rfl, Nat.le_refl _, fun _ _ => rfl⟩⟩
    · go_wp2
      go_ret
      exact ⟨ret_int (findCn_miss fun j hj => HD.out j (by omega) hj).symm, hb⟩

end Go.Proofs.YtgfkiljkpkfapaaGreatDoor

/- Whether streams are ok, as the specification asks. Conditions: at most 2^22 streams; texts of at most 2^21 bytes. -/
namespace Go.Proofs.YtgfkiljkpkfapaaGreatDoor
open Go.RowKit Go.Sort

/-- The texts of streams are no longer than may be read. -/
def cnSz (cs : List Cn) : Prop := ∀ c ∈ cs, c.kn.size ≤ 2097152 ∧ c.he.size ≤ 2097152 ∧ c.ne.size ≤ 2097152
theorem seven_all {w : World} {b : Nat} {t : TypeId} {x0 x1 x2 x3 x4 x5 x6 : Value} (h : Blk w b t [x0, x1, x2, x3, x4, x5, x6]) :
    w.cell? ⟨b, 0, none⟩ = some x0 ∧ w.cell? ⟨b, 1, none⟩ = some x1 ∧ w.cell? ⟨b, 2, none⟩ = some x2 ∧ w.cell? ⟨b, 3, none⟩ = some x3 ∧ w.cell? ⟨b, 4, none⟩ = some x4 ∧ w.cell? ⟨b, 5, none⟩ = some x5 ∧ w.cell? ⟨b, 6, none⟩ = some x6 :=
  ⟨(h.cell 0 x0 rfl).1, (h.cell 1 x1 rfl).1, (h.cell 2 x2 rfl).1, (h.cell 3 x3 rfl).1, (h.cell 4 x4 rfl).1, (h.cell 5 x5 rfl).1, (h.cell 6 x6 rfl).1⟩

end Go.Proofs.YtgfkiljkpkfapaaGreatDoor

/- Streams as the law has them become the program's; what the law says of their size. Condition: at most 2^22 streams. -/
namespace Go.Proofs.YtgfkiljkpkfapaaGreatDoor
open Go.RowKit

/-- A slice of streams lies in the world, at any address. -/
def ArgCn (w : World) (v : Value) (l : List Cn) : Prop := ∃ a cap, v = .slice a l.length cap ∧ (l.length ≤ cap ∧ (a = none → cap = 0)) ∧ (0 < l.length → ∃ x : Addr, a = some x ∧ x.block < w.heap.size ∧ ∀ i (hi : i < l.length) j u, (cnC l[i])[j]? = some u → w.cell? (x.add (i * 7 + j)) = some u)
theorem ArgCn.below {w w' : World} {v : Value} {l : List Cn} (h : ArgCn w v l) (hb : Below w.heap.size w w') : ArgCn w' v l := by
  obtain ⟨a, cap, rfl, hc, hr⟩ := h
  refine ⟨a, cap, rfl, hc, fun h => ?_⟩
  obtain ⟨x, rfl, hx, hrow⟩ := hr h
  exact ⟨x, rfl, Nat.lt_of_lt_of_le hx hb.size, fun i hi j u hu => by
    rw [hb.cell (p := x.add (i * 7 + j)) (by rw [add_blk]; exact hx)]; exact hrow i hi j u hu⟩
/-- Streams in a list of the call's own. -/
def OwnCn (w : World) (B : Nat) (v : Value) (l : List Cn) : Prop := w.ownsRow B 49 7 v l.length (flatC cnC l)
theorem OwnCn.fr {w : World} {B : Nat} {v : Value} {l : List Cn} (h : OwnCn w B v l) : FrCn w B v l := FrL.own h
theorem OwnCn.rd {w : World} {B : Nat} {v : Value} {l : List Cn} (h : OwnCn w B v l) : RdCn w v l := RdC.of_own cnC_len (by decide) h

/-- What is left of a size behind streams; below 0, if it is not enough. -/
def szCn (left : Int) (c : Cn) : Int := if left < (c.kn.size : Int) then -1 else if left - c.kn.size < (c.he.size : Int) then -1 else if left - c.kn.size - c.he.size < (c.ne.size : Int) then -1 else left - c.kn.size - c.he.size - c.ne.size
/-- The streams' texts are no longer than a length may be. -/
def cnMax (l : List Cn) : Prop := ∀ c ∈ l, c.kn.size ≤ maxLen ∧ c.he.size ≤ maxLen ∧ c.ne.size ≤ maxLen
/-- No text is longer than this. -/
def cnIn (l : List Cn) (m : Int) : Prop := ∀ c ∈ l, (c.kn.size : Int) ≤ m ∧ (c.he.size : Int) ≤ m ∧ (c.ne.size : Int) ≤ m

end Go.Proofs.YtgfkiljkpkfapaaGreatDoor

/- An argument that is a rule, or rules, as the frame of a law hands it in. No condition. -/
namespace Go.Proofs.YtgfkiljkpkfapaaGreatDoor
open Go.ChangeShapes Go.WideShapes Go.ChangeAt Go.RowKit Go.Deep

end Go.Proofs.YtgfkiljkpkfapaaGreatDoor

/- An argument's table, wherever it lies: how its ends become the program's. Condition: at most 2^22 ends. -/
namespace Go.Proofs.YtgfkiljkpkfapaaGreatDoor
open Go.RowKit Go.Sort

theorem Addr.add_block' (a : Addr) (i : Nat) : (a.add i).block = a.block := by unfold Addr.add; split <;> rfl
/-- A slice of ends lies in the world, at any address. -/
def ArgTab (w : World) (v : Value) (es : List (Int × Int)) : Prop := ∃ a cap, v = .slice a es.length cap ∧ (es.length ≤ cap ∧ (a = none → cap = 0)) ∧ (0 < es.length → ∃ x, a = some x ∧ x.block < w.heap.size ∧ ∀ i (hi : i < es.length), w.cell? (x.add (i * 2)) = some (.int .i64 es[i].1) ∧ w.cell? (x.add (i * 2 + 1)) = some (.int .i64 es[i].2))
theorem ArgTab.below {w w' : World} {v : Value} {es : List (Int × Int)} (h : ArgTab w v es) (hb : Below w.heap.size w w') : ArgTab w' v es := by
  obtain ⟨a, cap, rfl, hc, hr⟩ := h
  refine ⟨a, cap, rfl, hc, fun h => ?_⟩
  obtain ⟨x, rfl, hx, hrow⟩ := hr h
  exact ⟨x, rfl, Nat.lt_of_lt_of_le hx hb.size, fun i hi => by
    rw [hb.cell (p := x.add (i * 2)) (by rw [Addr.add_block']; exact hx), hb.cell (p := x.add (i * 2 + 1)) (by rw [Addr.add_block']; exact hx)]; exact hrow i hi⟩

end Go.Proofs.YtgfkiljkpkfapaaGreatDoor

/- An argument that is a table of ends, as the frame of a law hands it in: its ends lie in the machine's memory, at any address. No condition. -/
namespace Go.Proofs.YtgfkiljkpkfapaaGreatDoor
open Go.ChangeShapes Go.WideShapes Go.ChangeAt Go.RowKit Go.Deep

end Go.Proofs.YtgfkiljkpkfapaaGreatDoor

/- An argument that is a box, as the frame of a law hands it in: its rules, ends and streams lie in memory, at any address. No condition. -/
namespace Go.Proofs.YtgfkiljkpkfapaaGreatDoor
open Go.ChangeShapes Go.WideShapes Go.ChangeAt Go.RowKit Go.Deep

/-- A stream's ends have numbers that are ones. -/
def cnWf1 (c : Cn) : Prop := ((Lit.int .i64 c.ia).wf = true ∧ (Lit.int .i64 c.ip).wf = true) ∧ ((Lit.int .i64 c.oa).wf = true ∧ (Lit.int .i64 c.op).wf = true)
def cnWf (l : List Cn) : Prop := ∀ c ∈ l, cnWf1 c
/-- A box as it came in: its rules, its table's ends and its streams lie in memory, at any address. -/
def ArgBx (w : World) (v : Value) (b : Bx) : Prop := ∃ r t c, v = .agg #[r, t, c] ∧ ArgRl w r b.rs ∧ ArgTab w t b.es ∧ ArgCn w c b.cs
theorem ArgBx.below {w w' : World} {v : Value} {b : Bx} (h : ArgBx w v b) (hb : Below w.heap.size w w') : ArgBx w' v b := by
  obtain ⟨r, t, c, rfl, h1, h2, h3⟩ := h
  exact ⟨r, t, c, rfl, h1.below hb, h2.below hb, h3.below hb⟩
/-- Its lists are no longer than a length may be. -/
def bxMax (b : Bx) : Prop := b.rs.length ≤ 9223372036854775807 ∧ b.es.length ≤ 9223372036854775807 ∧ b.cs.length ≤ 9223372036854775807 ∧ cnMax b.cs ∧ wfE b.es ∧ cnWf b.cs

end Go.Proofs.YtgfkiljkpkfapaaGreatDoor

/- An argument's table, wherever it lies, as the program's: it lies in a block of ends alone. Condition: at most 2^22 ends. -/
namespace Go.Proofs.YtgfkiljkpkfapaaGreatDoor
open Go.RowKit Go.Sort

/-- A block of ends with m cells. -/
def Shape (w : World) (g m : Nat) : Prop := ∃ l : List Value, w.heap[g]? = some (.cells ⟨l⟩ 31) ∧ l.length = m
theorem Shape.below {w w' : World} {g m : Nat} (h : Shape w g m) (hb : Below w.heap.size w w') : Shape w' g m := by
  obtain ⟨l, h1, h2⟩ := h
  exact ⟨l, (hb.block g (Array.getElem?_eq_some_iff.1 h1).1).trans h1, h2⟩
theorem Shape.set {w : World} {g m : Nat} (h : Shape w g m) (j : Nat) (u : Value) : Shape (w.setCell ⟨g, j, none⟩ u) g m := by
  obtain ⟨l, h1, h2⟩ := h
  refine ⟨l.set j u, ?_, by simpa using h2⟩
  show (w.heap.modify g _)[g]? = _
  rw [Array.getElem?_modify]
  simp [h1]
theorem Shape.own {w : World} {B g : Nat} {es : List (Int × Int)} (h : Shape w g (es.length * 2)) (he : EndsAt w g es) (hB : B ≤ g) (hm : es.length ≤ maxLen) : OwnTab w B (.slice (some ⟨g, 0, none⟩) es.length es.length) es := by
  obtain ⟨l, h1, h2⟩ := h
  refine ⟨flatE_len es, Or.inr ⟨g, es.length, ⟨l⟩, rfl, hB, h1, Nat.le_refl _, hm, by simpa using h2, ?_⟩⟩
  rw [List.take_of_length_le (by show l.length ≤ _; omega)]
  apply List.ext_getElem?
  intro j
  by_cases hj : j < (flatE es).length
  · have hc := he.flat j (flatE es)[j] (List.getElem?_eq_getElem hj)
    rw [List.getElem?_eq_getElem hj, ← hc]
    simp [World.cell?, h1]
  · rw [List.getElem?_eq_none (by rw [flatE_len] at hj; show l.length ≤ j; omega), List.getElem?_eq_none (by omega)]

end Go.Proofs.YtgfkiljkpkfapaaGreatDoor

/- A box as the law has it becomes the program's; what the law says of its size. Condition: at most 2^22 rules, ends and streams each. -/
namespace Go.Proofs.YtgfkiljkpkfapaaGreatDoor
open Go.RowKit Go.Sort

/-- A box of the call's own, each list in a block of its own. -/
def OwnBx (w : World) (B : Nat) (v : Value) (b : Bx) : Prop := ∃ g1 g2 c2 g3, v = .agg #[.slice (some ⟨g1, 0, none⟩) b.rs.length b.rs.length, .slice (some ⟨g2, 0, none⟩) b.es.length c2, .slice (some ⟨g3, 0, none⟩) b.cs.length b.cs.length] ∧
  OwnRl w B (.slice (some ⟨g1, 0, none⟩) b.rs.length b.rs.length) b.rs ∧ OwnTab w B (.slice (some ⟨g2, 0, none⟩) b.es.length c2) b.es ∧ OwnCn w B (.slice (some ⟨g3, 0, none⟩) b.cs.length b.cs.length) b.cs
theorem OwnBx.fr {w : World} {B : Nat} {v : Value} {b : Bx} (h : OwnBx w B v b) : FrBx w B v b := by
  obtain ⟨g1, g2, c2, g3, rfl, h1, h2, h3⟩ := h
  exact ⟨_, _, _, rfl, FrL.own h1, h2.fr, h3.fr⟩
theorem OwnBx.rd {w : World} {B : Nat} {v : Value} {b : Bx} (h : OwnBx w B v b) : RdBx w v b := h.fr.rd
theorem OwnBx.later {w w' : World} {B : Nat} {v : Value} {b : Bx} (h : OwnBx w B v b) (hb : Below w.heap.size w w') : OwnBx w' B v b := by
  obtain ⟨g1, g2, c2, g3, rfl, h1, h2, h3⟩ := h
  exact ⟨g1, g2, c2, g3, rfl, own_later h1 hb, own_later h2 hb, own_later h3 hb⟩
theorem OwnBx.base {w : World} {B B' : Nat} {v : Value} {b : Bx} (h : OwnBx w B v b) (hB : B' ≤ B) : OwnBx w B' v b := by
  obtain ⟨g1, g2, c2, g3, rfl, h1, h2, h3⟩ := h
  exact ⟨g1, g2, c2, g3, rfl, own_lower h1 hB, own_lower h2 hB, own_lower h3 hB⟩
theorem Blk.far {w : World} {g : Nat} {t : TypeId} {l : List Value} (h : Blk w g t l) {a : Addr} (ha : a.block ≠ g) (u : Value) : Blk (w.setCell a u) g t l := by
  unfold Blk at h ⊢
  show (w.heap.modify a.block _)[g]? = _
  rw [Array.getElem?_modify, if_neg ha]
  exact h
/-- A box is small: its lists, and its texts. -/
def bxSz (b : Bx) : Prop := b.rs.length ≤ 1048576 ∧ b.es.length ≤ 1048576 ∧ b.cs.length ≤ 1048576 ∧ cnIn b.cs 1048576

end Go.Proofs.YtgfkiljkpkfapaaGreatDoor

/- A box's streams as the program asks of them: it is what the specification asks. No condition. -/
namespace Go.Proofs.YtgfkiljkpkfapaaGreatDoor
open Go.RowKit Go.Sort

theorem portI_ins {es : List (Int × Int)} (hm : mapB es = true) {a p : Int} (h : portI es (a, p) ≠ 0) : insB a p = true := by
  by_cases hmem : (a, p) ∈ es
  · exact mapB_ins hm _ hmem
  · exact absurd (portI_not hmem) h
theorem lines_lin {l : List UInt8} (h : strB l = true) : ∀ x ∈ linesL l, linB x = true := by
  unfold strB at h
  simp only [Bool.and_eq_true] at h
  exact List.all_eq_true.1 h.1.2
theorem bakE_back {es : List (Int × Int)} {l : List UInt8} (hm : mapB es = true) (hl : linB l = true) : bakE es l = backE es l := if_pos ⟨hm, hl⟩
/-- Whether streams are ok, in the order in which the program asks. -/
def conI (es : List (Int × Int)) (c : Cn) : Bool := decide (portI es (c.ia, c.ip) ≠ 0) && outB c.oa c.op && decide (c.op = 21) && (strB c.kn.data.toList && knowB es c.kn.data.toList) && (strB c.he.data.toList && nearB es c.he.data.toList c.ne.data.toList)
theorem conI_eq {es : List (Int × Int)} (hm : mapB es = true) (c : Cn) : conI es c = conB es c := by
  unfold conI conB
  by_cases h : portI es (c.ia, c.ip) ≠ 0
  · rw [portI_ins hm h, decide_eq_true h]
    cases outB c.oa c.op <;> cases decide (c.op = 21) <;> cases strB c.kn.data.toList <;> cases strB c.he.data.toList <;> cases knowB es c.kn.data.toList <;> simp
  · rw [decide_eq_false h]
    simp
theorem findCn_form (cs : List Cn) (ia ip oa op : Int) : (findCn cs ia ip oa op = -1 ∧ ∀ j (hj : j < cs.length), sameCn cs[j] ia ip oa op = false) ∨ ∃ k, ∃ hk : k < cs.length, findCn cs ia ip oa op = (k : Int) ∧ sameCn cs[k] ia ip oa op = true ∧ ∀ j (hj : j < k), sameCn (cs[j]'(by omega)) ia ip oa op = false := by
  unfold findCn
  cases h : cs.findIdx? (fun c => sameCn c ia ip oa op) with
  | none =>
    refine Or.inl ⟨rfl, fun j hj => ?_⟩
    rw [List.findIdx?_eq_none_iff] at h
    exact h _ (List.getElem_mem hj)
  | some k =>
    rw [List.findIdx?_eq_some_iff_getElem] at h
    obtain ⟨hk, h1, h2⟩ := h
    exact Or.inr ⟨k, hk, rfl, h1, fun j hj => by simpa using h2 j hj⟩
theorem find_take {cs : List Cn} {k : Nat} (hk : k < cs.length) {ia ip oa op : Int} (hs : sameCn cs[k] ia ip oa op = true) : decide (findCn (cs.take k) ia ip oa op < 0) = decide (findCn cs ia ip oa op = (k : Int)) := by
  rcases findCn_form (cs.take k) ia ip oa op with ⟨h1, h2⟩ | ⟨j, hj, h1, h2, h3⟩
  · have hl : (cs.take k).length = k := by rw [List.length_take]; omega
    have : findCn cs ia ip oa op = k := findCn_hit hk hs fun j hj => by
      have := h2 j (by omega)
      rwa [List.getElem_take] at this
    rw [h1, this]
    simp
  · have hl : (cs.take k).length = k := by rw [List.length_take]; omega
    rw [List.getElem_take] at h2
    have hjk : j < k := by omega
    have : findCn cs ia ip oa op = j := findCn_hit (by omega) h2 fun i hi => by
      have := h3 i hi
      rwa [List.getElem_take] at this
    rw [h1, this, decide_eq_false (by omega), decide_eq_false (by omega)]
theorem connB_I {es : List (Int × Int)} (hm : mapB es = true) {cs : List Cn} {k : Nat} (hk : k < cs.length) (c : Cn) (hc : c = cs[k]) :
    connB es cs k = (decide (findCn cs c.ia c.ip c.oa c.op = (k : Int)) && conI es c) := by
  unfold connB
  rw [show cs.getD k default = c from by simp [List.getD, hk, hc], conI_eq hm, find_take hk (by rw [← hc]; simp [sameCn]), Bool.and_comm]
theorem all_no {P : Nat → Bool} {n k : Nat} (hk : k < n) (h : P k = false) : (List.range n).all P = false :=
  List.all_eq_false.2 ⟨k, by simpa using hk, by simp [h]⟩
theorem all_yes {P : Nat → Bool} {n : Nat} (h : ∀ j, j < n → P j = true) : (List.range n).all P = true :=
  List.all_eq_true.2 (fun j hj => h j (by simpa using hj))

end Go.Proofs.YtgfkiljkpkfapaaGreatDoor

/- RulMay of the specification, at rules in memory and two ends. Condition: at most 2^22 rules. -/
namespace Go.Proofs.YtgfkiljkpkfapaaGreatDoor
open Go.RowKit

theorem rulesB_no {l : List Rl} {k : Nat} (hk : k < l.length) (h : ruleB l[k] = false) : rulesB l = false := by
  unfold rulesB
  rw [show l.all ruleB = false from List.all_eq_false.2 ⟨l[k], List.getElem_mem _, by simp [h]⟩]; simp
theorem rulesB_yes {l : List Rl} (h5 : l.length ≤ 5) (h : ∀ r ∈ l, ruleB r = true) : rulesB l = true := by
  unfold rulesB
  rw [List.all_eq_true.2 h, decide_eq_true h5]; rfl
theorem take_all_snoc {l : List Rl} {k : Nat} (hk : k < l.length) (h : ∀ r ∈ l.take k, ruleB r = true) (h2 : ruleB l[k] = true) : ∀ r ∈ l.take (k + 1), ruleB r = true := by
  intro r hr
  rw [List.take_succ_eq_append_getElem hk] at hr
  rcases List.mem_append.1 hr with hr | hr
  · exact h r hr
  · simp at hr; subst hr; exact h2
theorem may_step {l : List Rl} {k : Nat} (hk : k < l.length) (ia oa op : Int) : mayL (l.drop k) ia oa op = if aboutB l[k] ia oa op = true then l[k].al else mayL (l.drop (k + 1)) ia oa op := by
  rw [List.drop_eq_getElem_cons hk]; rfl

set_option maxRecDepth 100000 in
set_option maxHeartbeats 1600000 in
theorem specRules_any (v : Value) (l : List Rl) (w : World) (hn : l.length ≤ 4194304) (hv : RdRl w v l) :
    Calls Tryz.prog 43 #[v] w fun e w' => e = .returned (.bool (rulesB l)) ∧ Below w.heap.size w w' := by
  obtain ⟨av, cv, rfl, hcv, hrv⟩ := hv
  have HV := Lib.hid hrv
  clear hrv
  by_cases h5 : l.length ≤ 5
  · obtain ⟨q, hq⟩ : ∃ q, q = rulesB l := ⟨_, rfl⟩
    have HQ := Lib.hid hq
    rw [← hq]
    clear hq
    go_enter Tryz.func43, Tryz.ntmps43
    go_wp2
    go_loopw [3] (fun i wr => ∃ k : Nat, k ≤ l.length ∧ i = .int .i64 k ∧ Hid (∀ r ∈ l.take k, ruleB r = true) ∧ Below w.heap.size w wr) (fun i _ => l.length - (intOf i).toNat)
    case atStart => exact ⟨0, Nat.zero_le _, rfl, fun r hr => by simp at hr, Below.refl _ _⟩
    case round =>
      obtain ⟨k, hk, rfl, HD, hb⟩ := hrel
      by_cases hlt : k < l.length
      · obtain ⟨g1, o1, rfl, hg1, hr1⟩ := HV.out (by omega)
        obtain ⟨⟨al, a, b, c, d, e, f⟩, hap⟩ : ∃ x, x = l[k] := ⟨_, rfl⟩
        obtain ⟨p0, p1, p2, p3, p4, p5, p6⟩ := rl_seven hr1 k hlt al a b c d e f hap
        rw [← hb.cell (by exact hg1)] at p0 p1 p2 p3 p4 p5 p6
        have hk1 : (k : Int) ≤ (cv : Int) := by omega
        have hk3 : (k : Int) < (l.length : Int) := by omega
        cases ht : ruleB ⟨al, a, b, c, d, e, f⟩
        · have HF : Hid (q = false) := HQ.out.trans (rulesB_no hlt (by rw [← hap]; exact ht))
          have HM : Hid (∀ w, Calls Tryz.prog 84 #[.agg #[.bool al, .int .i64 a, .int .i64 b, .int .i64 c, .int .i64 d, .int .i64 e, .int .i64 f]] w fun e w' => e = .returned (.bool false) ∧ Below w.heap.size w w') := fun w => by rw [← ht]; exact specRulOk_any al a b c d e f w
          clear hr1 hap ht
          go_wp2_with (go_at_call 84; refine (HM.out _).mono ?_; rintro e' w2 ⟨rfl, b2⟩)
          go_ret
          exact ⟨ret_bool HF.out.symm, hb.trans (b2.mono hb.size)⟩
        · have HF : Hid (∀ r ∈ l.take (k + 1), ruleB r = true) := take_all_snoc hlt HD.out (by rw [← hap]; exact ht)
          have HM : Hid (∀ w, Calls Tryz.prog 84 #[.agg #[.bool al, .int .i64 a, .int .i64 b, .int .i64 c, .int .i64 d, .int .i64 e, .int .i64 f]] w fun e w' => e = .returned (.bool true) ∧ Below w.heap.size w w') := fun w => by rw [← ht]; exact specRulOk_any al a b c d e f w
          clear hr1 hap ht
          go_wp2_with (go_at_call 84; refine (HM.out _).mono ?_; rintro e' w2 ⟨rfl, b2⟩)
          go_roundw
          case rel => exact ⟨k + 1, by omega, by go_num, HF, hb.trans (b2.mono hb.size)⟩
          case measure => simp [intOf]; omega
      · have hkn : k = l.length := by omega
        subst hkn
        have HF : Hid (q = true) := HQ.out.trans (rulesB_yes h5 (by have := HD.out; rwa [List.take_of_length_le (Nat.le_refl _)] at this))
        go_wp2
        go_ret
        exact ⟨ret_bool HF.out.symm, hb⟩
  · have HF : Hid (rulesB l = false) := by show _ = _; unfold rulesB; rw [decide_eq_false h5]; rfl
    go_enter Tryz.func43, Tryz.ntmps43
    go_wp2
    go_ret
    exact ⟨ret_bool HF.out.symm, Below.refl _ _⟩

set_option maxRecDepth 100000 in
set_option maxHeartbeats 800000 in
theorem specFits_any (al : Bool) (i it o ot p pt ia ip oa op : Int) (w : World) :
    Calls Tryz.prog 152 #[.agg #[.bool al, .int .i64 i, .int .i64 it, .int .i64 o, .int .i64 ot, .int .i64 p, .int .i64 pt], .agg #[.int .i64 ia, .int .i64 ip], .agg #[.int .i64 oa, .int .i64 op]] w fun e w' => e = .returned (.bool (aboutB ⟨al, i, it, o, ot, p, pt⟩ ia oa op)) ∧ Below w.heap.size w w' := by
  have HS : Hid (aboutB ⟨al, i, it, o, ot, p, pt⟩ ia oa op = (inB ia i it && inB oa o ot && inB op p pt)) := rfl
  obtain ⟨q, hq⟩ : ∃ q, q = aboutB ⟨al, i, it, o, ot, p, pt⟩ ia oa op := ⟨_, rfl⟩
  rw [← hq] at HS ⊢
  clear hq
  cases h1 : inB ia i it
  rotate_left
  cases h2 : inB oa o ot
  rotate_left
  cases h3 : inB op p pt
  rotate_left
  all_goals
    try rw [h1] at HS
    try rw [h2] at HS
    try rw [h3] at HS
    first
    | (have hq : q = true := by (have := HS.out; simpa using this)
       subst hq)
    | (have hq : q = false := by (have := HS.out; simpa using this)
       subst hq)
    clear HS
    go_enter Tryz.func152, Tryz.ntmps152
    go_wp2_with (go_at_call 49; refine (specIn_any _ _ _ _).mono ?_; rintro e w' ⟨rfl, rfl⟩)
    go_ret
    exact ⟨rfl, (((Below.refl _ _).alloc (Nat.le_refl _) _).alloc (by simp) _).alloc (by simp; omega) _⟩

set_option maxRecDepth 100000 in
set_option maxHeartbeats 1600000 in
theorem specMayL_any (v : Value) (l : List Rl) (ia ip oa op : Int) (w : World) (hn : l.length ≤ 4194304) (hv : RdRl w v l) :
    Calls Tryz.prog 138 #[v, .agg #[.int .i64 ia, .int .i64 ip], .agg #[.int .i64 oa, .int .i64 op]] w fun e w' => e = .returned (.bool (mayL l ia oa op)) ∧ Below w.heap.size w w' := by
  obtain ⟨av, cv, rfl, hcv, hrv⟩ := hv
  have HV := Lib.hid hrv
  clear hrv
  obtain ⟨q, hq⟩ : ∃ q, q = mayL l ia oa op := ⟨_, rfl⟩
  have HQ := Lib.hid hq
  rw [← hq]
  clear hq
  go_enter Tryz.func138, Tryz.ntmps138
  have C0 : Hid (∀ W0 : World, W0 = (w.alloc (.cells #[.int .i64 ia, .int .i64 ip] 31)).alloc (.cells #[.int .i64 oa, .int .i64 op] 31) → (W0.cell? ⟨w.heap.size, 0, none⟩ = some (.int .i64 ia) ∧ W0.cell? ⟨w.heap.size, 1, none⟩ = some (.int .i64 ip) ∧ W0.cell? ⟨w.heap.size + 1, 0, none⟩ = some (.int .i64 oa) ∧ W0.cell? ⟨w.heap.size + 1, 1, none⟩ = some (.int .i64 op)) ∧ Below w.heap.size w W0 ∧ W0.heap.size = w.heap.size + 2) := fun W0 h => by
    subst h
    refine ⟨⟨?_, ?_, ?_, ?_⟩, ((Below.refl _ _).alloc (Nat.le_refl _) _).alloc (by simp) _, by simp⟩
    · rw [cell_alloc_lt (by simp)]; exact (cell_new w _ _ 0).1
    · rw [cell_alloc_lt (by simp)]; exact (cell_new w _ _ 1).1
    · simp
    · simp
  obtain ⟨W0, hW0⟩ : ∃ W0, W0 = (w.alloc (.cells #[.int .i64 ia, .int .i64 ip] 31)).alloc (.cells #[.int .i64 oa, .int .i64 op] 31) := ⟨_, rfl⟩
  obtain ⟨⟨i0, i1, t0, t1⟩, B0, z0⟩ := C0.out W0 hW0
  have HB0 := Lib.hid B0
  go_wp2
  rw [← hW0]
  clear hW0 C0 B0
  go_loopw [7] (fun i wr => ∃ k : Nat, k ≤ l.length ∧ i = .int .i64 k ∧ Hid (mayL (l.drop k) ia oa op = q) ∧ Below W0.heap.size W0 wr) (fun i _ => l.length - (intOf i).toNat)
  case atStart => exact ⟨0, Nat.zero_le _, rfl, HQ.out.symm, Below.refl _ _⟩
  case round =>
    obtain ⟨k, hk, rfl, HD, hb⟩ := hrel
    have hbs := hb.size
    have hsz : w.heap.size + 2 ≤ wr.heap.size := by omega
    have HBW : Hid (Below w.heap.size w wr) := HB0.out.trans (hb.mono (by omega))
    have HB := Lib.hid hb
    rw [← hb.cell (by simp; omega)] at i0 i1 t0 t1
    by_cases hlt : k < l.length
    · obtain ⟨g1, o1, rfl, hg1, hr1⟩ := HV.out (by omega)
      obtain ⟨⟨al, a, b, c, d, e, f⟩, hap⟩ : ∃ x, x = l[k] := ⟨_, rfl⟩
      obtain ⟨p0, p1, p2, p3, p4, p5, p6⟩ := rl_seven hr1 k hlt al a b c d e f hap
      rw [← HBW.out.cell (by exact hg1)] at p0 p1 p2 p3 p4 p5 p6
      have hgw : g1 < wr.heap.size := by omega
      have hk1 : (k : Int) ≤ (cv : Int) := by omega
      have hk3 : (k : Int) < (l.length : Int) := by omega
      have hst := may_step hlt ia oa op
      rw [← hap, HD.out] at hst
      cases ht : aboutB ⟨al, a, b, c, d, e, f⟩ ia oa op
      · have HF : Hid (mayL (l.drop (k + 1)) ia oa op = q) := by rw [ht] at hst; exact hst.symm
        have HM : Hid (∀ w, Calls Tryz.prog 152 #[.agg #[.bool al, .int .i64 a, .int .i64 b, .int .i64 c, .int .i64 d, .int .i64 e, .int .i64 f], .agg #[.int .i64 ia, .int .i64 ip], .agg #[.int .i64 oa, .int .i64 op]] w fun e w' => e = .returned (.bool false) ∧ Below w.heap.size w w') := fun w => by rw [← ht]; exact specFits_any al a b c d e f ia ip oa op w
        clear hr1 hap ht hst HV HQ HD
        go_wp2_with fail
        go_region_with (go_at_call 152; refine (HM.out _).mono ?_; rintro e' w2 ⟨rfl, b2⟩; have BB : Hid (Below W0.heap.size W0 w2) := (by first | exact HB.out.trans ((((Below.refl _ _).drew).trans b2).mono hbs) | exact HB.out.trans (b2.mono hbs)); clear b2)
        all_goals
          go_wp2
          go_roundw
          case rel => exact ⟨k + 1, by omega, by go_num, HF, BB.out⟩
          case measure => simp [intOf]; omega
      · have HF : Hid (q = al) := by rw [ht] at hst; exact hst
        have HM : Hid (∀ w, Calls Tryz.prog 152 #[.agg #[.bool al, .int .i64 a, .int .i64 b, .int .i64 c, .int .i64 d, .int .i64 e, .int .i64 f], .agg #[.int .i64 ia, .int .i64 ip], .agg #[.int .i64 oa, .int .i64 op]] w fun e w' => e = .returned (.bool true) ∧ Below w.heap.size w w') := fun w => by rw [← ht]; exact specFits_any al a b c d e f ia ip oa op w
        have H0 : Hid (∀ w2, Below W0.heap.size W0 w2 → w2.cell? ⟨g1, o1 + k * 7, none⟩ = some (.bool al)) := fun w2 h2 => by
          have := (rl_seven hr1 k hlt al a b c d e f hap).1
          rw [← (HB0.out.trans (h2.mono (by omega))).cell (by exact hg1)] at this; exact this
        clear hr1 hap ht hst HV HQ HD
        go_wp2_with fail
        go_region_with (go_at_call 152; refine (HM.out _).mono ?_; rintro e' w2 ⟨rfl, b2⟩; have BB : Hid (Below W0.heap.size W0 w2) := (by first | exact HB.out.trans ((((Below.refl _ _).drew).trans b2).mono hbs) | exact HB.out.trans (b2.mono hbs)); have r0 := H0.out _ BB.out; clear b2)
        all_goals
          go_wp2
          go_ret
          exact ⟨ret_bool HF.out.symm, HB0.out.trans (BB.out.mono (by omega))⟩
    · have hkn : k = l.length := by omega
      subst hkn
      have HF : Hid (q = true) := by
        have := HD.out
        rw [List.drop_of_length_le (Nat.le_refl _)] at this
        exact this.symm
      go_wp2
      go_ret
      exact ⟨ret_bool HF.out.symm, HBW.out⟩

end Go.Proofs.YtgfkiljkpkfapaaGreatDoor

/- Whether a box is ok, as the specification asks. Condition: lists and texts of at most 2^20. -/
namespace Go.Proofs.YtgfkiljkpkfapaaGreatDoor
open Go.RowKit Go.Sort

theorem cnSz_of {cs : List Cn} (h : cnIn cs 1048576) : cnSz cs := fun c hc => by have := h c hc; omega

end Go.Proofs.YtgfkiljkpkfapaaGreatDoor

/- A table's ends are all inside; its two maps. Conditions: at most 2^22 ends, all of whose numbers are ints. (Several texts, joined: Semi, Shelf, ICut, ISeq, ISeqS, ShelfB, IBuild, ILin, IStr, Maps, IMaps, IPorts.) -/
import Derived.Test.YtgfkiljkpkfapaaGreatDoorTPla
import Derived.Lib.LastIndexByte
import Derived.Lib.CutLaws
import Derived.Shelf.Lays
import Derived.Shelf.LaysC
import Derived.Shelf.LaysM
import Derived.Test.YtgfkiljkpkfapaaGreatDoorProg
import Derived.Test.YtgfkiljkpkfapaaGreatDoorChecked
import Derived.Test.YtgfkiljkpkfapaaGreatDoorGen
import Derived.Shelf.Strings.LastIndex
import Derived.Shelf.Strings.Search2
import Derived.Lib.IndexBytes
import Derived.RegionTactic
import Derived.IntWalk
import Derived.Lib.SmallJoins
import Derived.RangeFuncNested
import Derived.RangeFuncBound
import Derived.RangeFuncCalls
import Derived.RangeFuncLeaves
import Derived.RangeFuncBox
import Derived.Shelf.Abstract
import Derived.Shelf.RegionOpen
import Derived.WalkKit
import Derived.OwnWalkIn
import Derived.TacticsInMore
import Derived.LoopNIn
import Derived.LoopIn
import Derived.Maps.AppendAt
import Derived.Test.YtgfkiljkpkfapaaGreatDoorBase
import Derived.Shelf.Strings.BuilderK
import Derived.Lib.Hide
import Derived.OwnWalk
import Derived.Maps.OwnSet
import Derived.MapViews
import Derived.Test.YtgfkiljkpkfapaaGreatDoorRows
import Derived.Test.YtgfkiljkpkfapaaGreatDoorTPlb
import Derived.DeepKeys4
import Derived.ChangeSame
import Derived.Test.YtgfkiljkpkfapaaGreatDoorInside

/- Plain facts: a text's lines are those that are cut off one by one at the sign that ends a line; what is behind the last such sign. No program. No condition. -/
namespace Go.Proofs.YtgfkiljkpkfapaaGreatDoor

theorem indexK_none {b0 : UInt8} {l : List UInt8} (h : Lib.index l [b0] < 0) : ∀ c ∈ l, c ≠ b0 := by
  induction l with
  | nil => simp
  | cons b r ih =>
    unfold Lib.index at h
    intro c hc
    split at h
    · omega
    · rename_i hb
      have hb' : b ≠ b0 := by
        intro e; subst e; simp at hb
      have hge := Lib.index_ge r [b0]
      split at h
      · rename_i h2
        have h2' : Lib.index r [b0] = -1 := by simpa using h2
        rcases List.mem_cons.1 hc with rfl | hc
        · exact hb'
        · exact ih (by omega) c hc
      · rename_i h2
        have h2' : Lib.index r [b0] ≠ -1 := by simpa using h2
        omega
theorem cutK_yes {b0 : UInt8} {l : List UInt8} (h : 0 ≤ Lib.index l [b0]) : l = (Lib.cut l [b0]).1 ++ b0 :: (Lib.cut l [b0]).2.1 ∧ ∀ c ∈ (Lib.cut l [b0]).1, c ≠ b0 := by
  unfold Lib.cut
  rw [if_pos h]
  simp only [List.length_singleton]
  induction l with
  | nil => simp [Lib.index] at h
  | cons b r ih =>
    by_cases hb : b = b0
    · subst hb
      have e : Lib.index (b :: r) [b] = 0 := by simp [Lib.index]
      rw [e]; simp
    · have hp : List.isPrefixOf [b0] (b :: r) = false := by
        show (b0 == b && List.isPrefixOf [] r) = false
        rw [show (b0 == b) = false by (simp; exact fun e => hb e.symm)]; rfl
      have hge := Lib.index_ge r [b0]
      by_cases h2 : Lib.index r [b0] = -1
      · have e : Lib.index (b :: r) [b0] = -1 := by unfold Lib.index; rw [hp]; simp [h2]
        omega
      · have e : Lib.index (b :: r) [b0] = Lib.index r [b0] + 1 := by
          rw [Lib.index, hp]; simp [h2]
        rw [e]
        have h3 : 0 ≤ Lib.index r [b0] := by omega
        obtain ⟨i1, i2⟩ := ih h3
        have e3 : (Lib.index r [b0] + 1).toNat = (Lib.index r [b0]).toNat + 1 := by omega
        rw [e3]
        refine ⟨?_, ?_⟩
        · rw [List.take_succ_cons, show (Lib.index r [b0]).toNat + 1 + 1 = ((Lib.index r [b0]).toNat + 1) + 1 from rfl, List.drop_succ_cons, List.cons_append, ← i1]
        · intro c hc
          rw [List.take_succ_cons] at hc
          rcases List.mem_cons.1 hc with rfl | hc
          · exact hb
          · exact i2 c hc
theorem cutK_no {b0 : UInt8} {l : List UInt8} (h : ¬ 0 ≤ Lib.index l [b0]) : Lib.cut l [b0] = (l, [], false) := by unfold Lib.cut; rw [if_neg h]

theorem stl_plain (l : List UInt8) (x : List (List UInt8) × List UInt8) (h : ∀ c ∈ l, c ≠ 59) : l.foldl stl x = (x.1, x.2 ++ l) := by
  induction l generalizing x with
  | nil => simp
  | cons c r ih =>
    rw [List.foldl_cons, ih _ (fun c hc => h c (by simp [hc]))]
    unfold stl; rw [if_neg (h c (by simp))]; simp
theorem stl_shift (l : List UInt8) (a x : List (List UInt8)) (y : List UInt8) : l.foldl stl (a ++ x, y) = (a ++ (l.foldl stl (x, y)).1, (l.foldl stl (x, y)).2) := by
  induction l generalizing x y with
  | nil => rfl
  | cons c r ih =>
    rw [List.foldl_cons, List.foldl_cons]
    by_cases h : c = 59
    · have e1 : stl (a ++ x, y) c = (a ++ (x ++ [y]), []) := by unfold stl; rw [if_pos h]; simp
      have e2 : stl (x, y) c = (x ++ [y], []) := by unfold stl; rw [if_pos h]
      rw [e1, e2, ih]
    · have e1 : stl (a ++ x, y) c = (a ++ x, y ++ [c]) := by unfold stl; rw [if_neg h]
      have e2 : stl (x, y) c = (x, y ++ [c]) := by unfold stl; rw [if_neg h]
      rw [e1, e2, ih]
/-- A text that begins with a line and its sign. -/
theorem linesF_cons {p r : List UInt8} (h : ∀ c ∈ p, c ≠ 59) : linesL (p ++ 59 :: r) = p :: linesL r ∧ restL (p ++ 59 :: r) = restL r := by
  have e : linesF (p ++ 59 :: r) = ([p] ++ (linesF r).1, (linesF r).2) := by
    unfold linesF
    rw [List.foldl_append, stl_plain p _ h, List.foldl_cons]
    have e1 : stl (([] : List (List UInt8)), [] ++ p) 59 = ([p] ++ [], []) := by unfold stl; simp
    show r.foldl stl (stl ([], [] ++ p) 59) = _
    rw [e1, stl_shift]
  constructor
  · show (linesF _).1 = _; rw [e]; rfl
  · show (linesF _).2 = _; rw [e]; rfl
theorem lines_none {l : List UInt8} (h : ∀ c ∈ l, c ≠ 59) : linesL l = [] ∧ restL l = l := by
  have e : linesF l = ([], l) := by unfold linesF; rw [stl_plain l _ h]; rfl
  constructor
  · show (linesF _).1 = _; rw [e]
  · show (linesF _).2 = _; rw [e]
/-- What is behind the last sign. -/
theorem rest_last {p r : List UInt8} (h : ∀ c ∈ r, c ≠ 59) : restL (p ++ 59 :: r) = r := by
  show (linesF _).2 = _
  unfold linesF
  rw [List.foldl_append, List.foldl_cons]
  have e1 : ∀ x, stl x 59 = (x.1 ++ [x.2], []) := fun x => by unfold stl; simp
  rw [e1, stl_plain r _ h]; rfl

theorem lines_cut_yes {l : List UInt8} (h : 0 ≤ Lib.index l [59]) : linesL l = (Lib.cut l [59]).1 :: linesL (Lib.cut l [59]).2.1 := by
  obtain ⟨e, hp⟩ := cutK_yes h
  exact (congrArg linesL e).trans (linesF_cons hp).1
theorem lines_cut_no {l : List UInt8} (h : ¬ 0 ≤ Lib.index l [59]) : linesL l = [] := (lines_none (indexK_none (by omega))).1
theorem cut_len {l : List UInt8} (h : 0 ≤ Lib.index l [59]) : (Lib.cut l [59]).2.1.length < l.length := by
  obtain ⟨e, _⟩ := cutK_yes h
  have := congrArg List.length e
  simp at this; omega

theorem bang_list (s : ByteArray) (j : Nat) (hj : j < s.size) : s.data[j]! = s.data.toList[j]'(by simpa using hj) := by
  rw [getElem!_pos s.data j (by simpa using hj)]; simp
/-- What is behind the last sign, by its place. -/
theorem rest_at (s : ByteArray) : ∃ i : Nat, Lib.lastIndexByte s 59 + 1 = i ∧ i ≤ s.size ∧ restL s.data.toList = s.data.toList.drop i := by
  have hl : s.data.toList.length = s.size := by simp
  rcases Lib.lastIndexByte_spec s 59 with ⟨e, hn⟩ | ⟨i, hi, e, hc, hn⟩
  · refine ⟨0, by omega, by omega, ?_⟩
    rw [List.drop_zero]
    refine (lines_none fun c hm => ?_).2
    obtain ⟨j, hj, rfl⟩ := List.getElem_of_mem hm
    have := hn j (by omega)
    rw [bang_list s j (by omega)] at this
    intro e'; rw [e'] at this; exact this rfl
  · refine ⟨i + 1, by omega, by omega, ?_⟩
    have hc' : s.data.toList[i]'(by omega) = 59 := by
      rw [bang_list s i hi] at hc
      apply UInt8.toNat_inj.1
      have : (59 : UInt8).toNat = 59 := rfl
      omega
    have e1 : s.data.toList = s.data.toList.take i ++ 59 :: s.data.toList.drop (i + 1) := by
      rw [← hc', List.getElem_cons_drop, List.take_append_drop]
    rw [e1]
    have e2 : (s.data.toList.take i ++ 59 :: s.data.toList.drop (i + 1)).drop (i + 1) = s.data.toList.drop (i + 1) := by rw [← e1]
    rw [e2]
    refine rest_last fun c hm => ?_
    obtain ⟨j, hj, rfl⟩ := List.getElem_of_mem hm
    rw [List.length_drop] at hj
    rw [List.getElem_drop]
    have := hn (i + 1 + j) (by omega) (by omega)
    rw [bang_list s _ (by omega)] at this
    intro e'; rw [e'] at this; exact this rfl

end Go.Proofs.YtgfkiljkpkfapaaGreatDoor

/- The layings of the library's contracts at this dump: that the bodies of the library functions that are met here are the bodies that the contracts were proved of. No condition. -/
namespace Go.Proofs
open Go.Shelf
def Tryz.laysM171_ren : Go.Shelf.Ren := ⟨fun | 171 => 170 | 243 => 179 | 246 => 185 | 283 => 189 | 284 => 190 | 285 => 191 | 286 => 192 | 129 => 196 | 317 => 195 | 318 => 197 | 319 => 198 | 320 => 199 | 337 => 200 | 338 => 201 | n => n, fun | 3 => 3 | 9 => 9 | 2 => 2 | 4 => 4 | 171 => 198 | 0 => 0 | 53 => 192 | 37 => 22 | 5 => 5 | 173 => 201 | 212 => 208 | 51 => 164 | 20 => 20 | 213 => 209 | 46 => 177 | 232 => 212 | 233 => 213 | n => n, fun | 17 => 5 | 18 => 6 | 19 => 7 | n => n⟩
theorem Tryz.laysM171 : Go.Proofs.LaysM.n171 Tryz.prog Tryz.laysM171_ren := {
  mixed := by kernel_rfl
  f129 := Tryz.func196.trans (congrArg some (by kernel_rfl))
  f171 := Tryz.func170.trans (congrArg some (by kernel_rfl))
  f243 := Tryz.func179.trans (congrArg some (by kernel_rfl))
  f246 := Tryz.func185.trans (congrArg some (by kernel_rfl))
  f283 := Tryz.func189.trans (congrArg some (by kernel_rfl))
  f284 := Tryz.func190.trans (congrArg some (by kernel_rfl))
  f285 := Tryz.func191.trans (congrArg some (by kernel_rfl))
  f286 := Tryz.func192.trans (congrArg some (by kernel_rfl))
  f317 := Tryz.func195.trans (congrArg some (by kernel_rfl))
  f318 := Tryz.func197.trans (congrArg some (by kernel_rfl))
  f319 := Tryz.func198.trans (congrArg some (by kernel_rfl))
  f320 := Tryz.func199.trans (congrArg some (by kernel_rfl))
  f337 := Tryz.func200.trans (congrArg some (by kernel_rfl))
  f338 := Tryz.func201.trans (congrArg some (by kernel_rfl))
  t0 := Tryz.underlying0
  a0 := Tryz.isAgg0
  z0 := Tryz.sizeOf0
  v0 := Tryz.zeroValue0
  t2 := Tryz.underlying2
  a2 := Tryz.isAgg2
  z2 := Tryz.sizeOf2
  v2 := Tryz.zeroValue2
  t3 := Tryz.underlying3
  a3 := Tryz.isAgg3
  z3 := Tryz.sizeOf3
  v3 := Tryz.zeroValue3
  t4 := Tryz.underlying4
  a4 := Tryz.isAgg4
  z4 := Tryz.sizeOf4
  v4 := Tryz.zeroValue4
  t5 := Tryz.underlying5
  a5 := Tryz.isAgg5
  z5 := Tryz.sizeOf5
  v5 := Tryz.zeroValue5
  t9 := Tryz.underlying9
  a9 := Tryz.isAgg9
  z9 := Tryz.sizeOf9
  v9 := Tryz.zeroValue9
  t20 := Tryz.underlying20
  a20 := Tryz.isAgg20
  z20 := Tryz.sizeOf20
  v20 := Tryz.zeroValue20
  t37 := Tryz.underlying22
  a37 := Tryz.isAgg22
  z37 := Tryz.sizeOf22
  v37 := Tryz.zeroValue22
  t46 := Tryz.underlying177
  a46 := Tryz.isAgg177
  z46 := Tryz.sizeOf177
  v46 := Tryz.zeroValue177
  t51 := Tryz.underlying164
  a51 := Tryz.isAgg164
  z51 := Tryz.sizeOf164
  v51 := Tryz.zeroValue164
  t53 := Tryz.underlying192
  a53 := Tryz.isAgg192
  z53 := Tryz.sizeOf192
  v53 := Tryz.zeroValue192
  t171 := Tryz.underlying198
  a171 := Tryz.isAgg198
  z171 := Tryz.sizeOf198
  v171 := Tryz.zeroValue198
  t173 := Tryz.underlying201
  a173 := Tryz.isAgg201
  z173 := Tryz.sizeOf201
  v173 := Tryz.zeroValue201
  t212 := Tryz.underlying208
  a212 := Tryz.isAgg208
  z212 := Tryz.sizeOf208
  v212 := Tryz.zeroValue208
  t213 := Tryz.underlying209
  a213 := Tryz.isAgg209
  z213 := Tryz.sizeOf209
  t232 := Tryz.underlying212
  a232 := Tryz.isAgg212
  z232 := Tryz.sizeOf212
  v232 := Tryz.zeroValue212
  t233 := Tryz.underlying213
  a233 := Tryz.isAgg213
  z233 := Tryz.sizeOf213
  v233 := Tryz.zeroValue213
  g17 := by kernel_rfl
  g18 := by kernel_rfl
  g19 := by kernel_rfl
  i0 := by kernel_rfl
  i2 := by kernel_rfl
  i3 := by kernel_rfl
  i4 := by kernel_rfl
  i5 := by kernel_rfl
  i9 := by kernel_rfl
  i20 := by kernel_rfl
  i37 := by kernel_rfl
  i46 := by kernel_rfl
  i51 := by kernel_rfl
  i53 := by kernel_rfl
  i171 := by kernel_rfl
  i173 := by kernel_rfl
  i212 := by kernel_rfl
  i232 := by kernel_rfl
  i233 := by kernel_rfl
  m17 := by kernel_rfl
  m18 := by kernel_rfl
  m19 := by kernel_rfl }
def Tryz.lays219_ren : Go.Shelf.Ren := ⟨fun | 219 => 148 | 217 => 165 | 225 => 166 | 224 => 167 | 267 => 168 | 266 => 175 | 314 => 176 | n => n, fun | 9 => 9 | 3 => 3 | 4 => 4 | 5 => 5 | 46 => 177 | 146 => 165 | 51 => 164 | n => n, fun | 1 => 0 | n => n⟩
theorem Tryz.lays219 : Go.Proofs.Lays.n219 Tryz.prog Tryz.lays219_ren := {
  mixed := by kernel_rfl
  f217 := Tryz.func165.trans (congrArg some (by kernel_rfl))
  f219 := Tryz.func148.trans (congrArg some (by kernel_rfl))
  f224 := Tryz.func167.trans (congrArg some (by kernel_rfl))
  f225 := Tryz.func166.trans (congrArg some (by kernel_rfl))
  f266 := Tryz.func175.trans (congrArg some (by kernel_rfl))
  f267 := Tryz.func168.trans (congrArg some (by kernel_rfl))
  f314 := Tryz.func176.trans (congrArg some (by kernel_rfl))
  t3 := Tryz.underlying3
  a3 := Tryz.isAgg3
  z3 := Tryz.sizeOf3
  v3 := Tryz.zeroValue3
  t4 := Tryz.underlying4
  a4 := Tryz.isAgg4
  z4 := Tryz.sizeOf4
  v4 := Tryz.zeroValue4
  t5 := Tryz.underlying5
  a5 := Tryz.isAgg5
  z5 := Tryz.sizeOf5
  v5 := Tryz.zeroValue5
  t9 := Tryz.underlying9
  a9 := Tryz.isAgg9
  z9 := Tryz.sizeOf9
  v9 := Tryz.zeroValue9
  t46 := Tryz.underlying177
  a46 := Tryz.isAgg177
  z46 := Tryz.sizeOf177
  v46 := Tryz.zeroValue177
  t51 := Tryz.underlying164
  a51 := Tryz.isAgg164
  z51 := Tryz.sizeOf164
  v51 := Tryz.zeroValue164
  t146 := Tryz.underlying165
  a146 := Tryz.isAgg165
  z146 := Tryz.sizeOf165
  v146 := Tryz.zeroValue165
  g1 := by kernel_rfl }
def Tryz.laysC172_ren : Go.Shelf.Ren := ⟨fun | 172 => 169 | 244 => 177 | 245 => 178 | 247 => 180 | 279 => 181 | 280 => 182 | 281 => 183 | 282 => 184 | 287 => 186 | 316 => 187 | 171 => 170 | 205 => 188 | 321 => 193 | 322 => 194 | 243 => 179 | 246 => 185 | 283 => 189 | 284 => 190 | 285 => 191 | 286 => 192 | 129 => 196 | 317 => 195 | 318 => 197 | 319 => 198 | 320 => 199 | 337 => 200 | 338 => 201 | n => n, fun | 9 => 9 | 3 => 3 | 75 => 151 | 76 => 152 | 4 => 4 | 5 => 5 | 167 => 185 | 37 => 22 | 0 => 0 | 85 => 186 | 2 => 2 | 168 => 188 | 53 => 192 | 175 => 193 | 46 => 177 | 210 => 196 | 127 => 163 | 145 => 206 | 143 => 204 | 21 => 21 | 171 => 198 | 173 => 201 | 212 => 208 | 51 => 164 | 20 => 20 | 213 => 209 | 232 => 212 | 233 => 213 | 80 => 155 | n => n, fun | 15 => 3 | 16 => 4 | 17 => 5 | 18 => 6 | 19 => 7 | n => n⟩
theorem Tryz.laysC172 : Go.Proofs.LaysC.n172 Tryz.prog Tryz.laysC172_ren := {
  mixed := by kernel_rfl
  f129 := Tryz.func196.trans (congrArg some (by kernel_rfl))
  f171 := Tryz.func170.trans (congrArg some (by kernel_rfl))
  f172 := Tryz.func169.trans (congrArg some (by kernel_rfl))
  f205 := Tryz.func188.trans (congrArg some (by kernel_rfl))
  f243 := Tryz.func179.trans (congrArg some (by kernel_rfl))
  f244 := Tryz.func177.trans (congrArg some (by kernel_rfl))
  f245 := Tryz.func178.trans (congrArg some (by kernel_rfl))
  f246 := Tryz.func185.trans (congrArg some (by kernel_rfl))
  f247 := Tryz.func180.trans (congrArg some (by kernel_rfl))
  f279 := Tryz.func181.trans (congrArg some (by kernel_rfl))
  f280 := Tryz.func182.trans (congrArg some (by kernel_rfl))
  f281 := Tryz.func183.trans (congrArg some (by kernel_rfl))
  f282 := Tryz.func184.trans (congrArg some (by kernel_rfl))
  f283 := Tryz.func189.trans (congrArg some (by kernel_rfl))
  f284 := Tryz.func190.trans (congrArg some (by kernel_rfl))
  f285 := Tryz.func191.trans (congrArg some (by kernel_rfl))
  f286 := Tryz.func192.trans (congrArg some (by kernel_rfl))
  f287 := Tryz.func186.trans (congrArg some (by kernel_rfl))
  f316 := Tryz.func187.trans (congrArg some (by kernel_rfl))
  f317 := Tryz.func195.trans (congrArg some (by kernel_rfl))
  f318 := Tryz.func197.trans (congrArg some (by kernel_rfl))
  f319 := Tryz.func198.trans (congrArg some (by kernel_rfl))
  f320 := Tryz.func199.trans (congrArg some (by kernel_rfl))
  f321 := Tryz.func193.trans (congrArg some (by kernel_rfl))
  f322 := Tryz.func194.trans (congrArg some (by kernel_rfl))
  f337 := Tryz.func200.trans (congrArg some (by kernel_rfl))
  f338 := Tryz.func201.trans (congrArg some (by kernel_rfl))
  t0 := Tryz.underlying0
  a0 := Tryz.isAgg0
  z0 := Tryz.sizeOf0
  v0 := Tryz.zeroValue0
  t2 := Tryz.underlying2
  a2 := Tryz.isAgg2
  z2 := Tryz.sizeOf2
  v2 := Tryz.zeroValue2
  t3 := Tryz.underlying3
  a3 := Tryz.isAgg3
  z3 := Tryz.sizeOf3
  v3 := Tryz.zeroValue3
  t4 := Tryz.underlying4
  a4 := Tryz.isAgg4
  z4 := Tryz.sizeOf4
  v4 := Tryz.zeroValue4
  t5 := Tryz.underlying5
  a5 := Tryz.isAgg5
  z5 := Tryz.sizeOf5
  v5 := Tryz.zeroValue5
  t9 := Tryz.underlying9
  a9 := Tryz.isAgg9
  z9 := Tryz.sizeOf9
  v9 := Tryz.zeroValue9
  t20 := Tryz.underlying20
  a20 := Tryz.isAgg20
  z20 := Tryz.sizeOf20
  v20 := Tryz.zeroValue20
  t21 := Tryz.underlying21
  a21 := Tryz.isAgg21
  z21 := Tryz.sizeOf21
  v21 := Tryz.zeroValue21
  t37 := Tryz.underlying22
  a37 := Tryz.isAgg22
  z37 := Tryz.sizeOf22
  v37 := Tryz.zeroValue22
  t46 := Tryz.underlying177
  a46 := Tryz.isAgg177
  z46 := Tryz.sizeOf177
  v46 := Tryz.zeroValue177
  t51 := Tryz.underlying164
  a51 := Tryz.isAgg164
  z51 := Tryz.sizeOf164
  v51 := Tryz.zeroValue164
  t53 := Tryz.underlying192
  a53 := Tryz.isAgg192
  z53 := Tryz.sizeOf192
  v53 := Tryz.zeroValue192
  t75 := Tryz.underlying151
  a75 := Tryz.isAgg151
  z75 := Tryz.sizeOf151
  v75 := Tryz.zeroValue151
  t76 := Tryz.underlying152
  a76 := Tryz.isAgg152
  z76 := Tryz.sizeOf152
  v76 := Tryz.zeroValue152
  t85 := Tryz.underlying186
  a85 := Tryz.isAgg186
  z85 := Tryz.sizeOf186
  v85 := Tryz.zeroValue186
  t127 := Tryz.underlying163
  a127 := Tryz.isAgg163
  z127 := Tryz.sizeOf163
  v127 := Tryz.zeroValue163
  t143 := Tryz.underlying204
  a143 := Tryz.isAgg204
  z143 := Tryz.sizeOf204
  v143 := Tryz.zeroValue204
  t145 := Tryz.underlying206
  a145 := Tryz.isAgg206
  z145 := Tryz.sizeOf206
  v145 := Tryz.zeroValue206
  t167 := Tryz.underlying185
  a167 := Tryz.isAgg185
  z167 := Tryz.sizeOf185
  v167 := Tryz.zeroValue185
  t168 := Tryz.underlying188
  a168 := Tryz.isAgg188
  z168 := Tryz.sizeOf188
  v168 := Tryz.zeroValue188
  t171 := Tryz.underlying198
  a171 := Tryz.isAgg198
  z171 := Tryz.sizeOf198
  v171 := Tryz.zeroValue198
  t173 := Tryz.underlying201
  a173 := Tryz.isAgg201
  z173 := Tryz.sizeOf201
  v173 := Tryz.zeroValue201
  t175 := Tryz.underlying193
  a175 := Tryz.isAgg193
  z175 := Tryz.sizeOf193
  v175 := Tryz.zeroValue193
  t210 := Tryz.underlying196
  a210 := Tryz.isAgg196
  z210 := Tryz.sizeOf196
  v210 := Tryz.zeroValue196
  t212 := Tryz.underlying208
  a212 := Tryz.isAgg208
  z212 := Tryz.sizeOf208
  v212 := Tryz.zeroValue208
  t213 := Tryz.underlying209
  a213 := Tryz.isAgg209
  z213 := Tryz.sizeOf209
  t232 := Tryz.underlying212
  a232 := Tryz.isAgg212
  z232 := Tryz.sizeOf212
  v232 := Tryz.zeroValue212
  t233 := Tryz.underlying213
  a233 := Tryz.isAgg213
  z233 := Tryz.sizeOf213
  v233 := Tryz.zeroValue213
  g15 := by kernel_rfl
  g16 := by kernel_rfl
  g17 := by kernel_rfl
  g18 := by kernel_rfl
  g19 := by kernel_rfl
  t80 := Tryz.underlying155
  a80 := Tryz.isAgg155
  z80 := Tryz.sizeOf155
  v80 := Tryz.zeroValue155
  i0 := by kernel_rfl
  i2 := by kernel_rfl
  i3 := by kernel_rfl
  i4 := by kernel_rfl
  i5 := by kernel_rfl
  i9 := by kernel_rfl
  i20 := by kernel_rfl
  i21 := by kernel_rfl
  i37 := by kernel_rfl
  i46 := by kernel_rfl
  i51 := by kernel_rfl
  i53 := by kernel_rfl
  i75 := by kernel_rfl
  i76 := by kernel_rfl
  i80 := by kernel_rfl
  i85 := by kernel_rfl
  i127 := by kernel_rfl
  i143 := by kernel_rfl
  i145 := by kernel_rfl
  i167 := by kernel_rfl
  i168 := by kernel_rfl
  i171 := by kernel_rfl
  i173 := by kernel_rfl
  i175 := by kernel_rfl
  i210 := by kernel_rfl
  i212 := by kernel_rfl
  i232 := by kernel_rfl
  i233 := by kernel_rfl
  m15 := by kernel_rfl
  m16 := by kernel_rfl
  m17 := by kernel_rfl
  m18 := by kernel_rfl
  m19 := by kernel_rfl
  c0 := by kernel_rfl
  c2 := by kernel_rfl
  c3 := by kernel_rfl
  c4 := by kernel_rfl
  c5 := by kernel_rfl
  c9 := by kernel_rfl
  c20 := by kernel_rfl
  c21 := by kernel_rfl
  c37 := by kernel_rfl
  c46 := by kernel_rfl
  c51 := by kernel_rfl
  c53 := by kernel_rfl
  c75 := by kernel_rfl
  c76 := by kernel_rfl
  c80 := by kernel_rfl
  c85 := by kernel_rfl
  c127 := by kernel_rfl
  c143 := by kernel_rfl
  c145 := by kernel_rfl
  c167 := by kernel_rfl
  c168 := by kernel_rfl
  c171 := by kernel_rfl
  c173 := by kernel_rfl
  c175 := by kernel_rfl
  c210 := by kernel_rfl
  c212 := by kernel_rfl
  c213 := by kernel_rfl
  c232 := by kernel_rfl
  c233 := by kernel_rfl }
def Tryz.lays148_ren : Go.Shelf.Ren := ⟨fun | 148 => 108 | 222 => 134 | 223 => 135 | 269 => 149 | n => n, fun | 9 => 9 | 3 => 3 | 4 => 4 | 5 => 5 | 146 => 165 | 51 => 164 | 46 => 177 | n => n, fun | n => n⟩
theorem Tryz.lays148 : Go.Proofs.Lays.n148 Tryz.prog Tryz.lays148_ren := {
  mixed := by kernel_rfl
  f148 := Tryz.func108.trans (congrArg some (by kernel_rfl))
  f222 := Tryz.func134.trans (congrArg some (by kernel_rfl))
  f223 := Tryz.func135.trans (congrArg some (by kernel_rfl))
  f269 := Tryz.func149.trans (congrArg some (by kernel_rfl))
  t3 := Tryz.underlying3
  a3 := Tryz.isAgg3
  z3 := Tryz.sizeOf3
  v3 := Tryz.zeroValue3
  t4 := Tryz.underlying4
  a4 := Tryz.isAgg4
  z4 := Tryz.sizeOf4
  v4 := Tryz.zeroValue4
  t5 := Tryz.underlying5
  a5 := Tryz.isAgg5
  z5 := Tryz.sizeOf5
  v5 := Tryz.zeroValue5
  t9 := Tryz.underlying9
  a9 := Tryz.isAgg9
  z9 := Tryz.sizeOf9
  v9 := Tryz.zeroValue9
  t46 := Tryz.underlying177
  a46 := Tryz.isAgg177
  z46 := Tryz.sizeOf177
  v46 := Tryz.zeroValue177
  t51 := Tryz.underlying164
  a51 := Tryz.isAgg164
  z51 := Tryz.sizeOf164
  v51 := Tryz.zeroValue164
  t146 := Tryz.underlying165
  a146 := Tryz.isAgg165
  z146 := Tryz.sizeOf165
  v146 := Tryz.zeroValue165 }
end Go.Proofs

/- The text cut at its first sign that ends a line, by the library; what is behind the last one. Condition: the text has at most 2^48 bytes. -/
namespace Go.Proofs.YtgfkiljkpkfapaaGreatDoor
open Go.RowKit Go.Sort

set_option maxRecDepth 100000 in
set_option maxHeartbeats 800000 in
theorem cutSemiS_any (s : ByteArray) (w : World) (hs : s.size ≤ 281474976710656) :
    Calls Tryz.prog 133 #[.string s, .string ⟨#[59]⟩] w fun e w' => e = .returned (.tuple #[.string ⟨(Lib.cut s.data.toList [59]).1.toArray⟩, .string ⟨(Lib.cut s.data.toList [59]).2.1.toArray⟩, .bool (Lib.cut s.data.toList [59]).2.2]) ∧ ∃ n, w' = w.drewN n := by
  have hc : ∀ w, Calls Tryz.prog 148 #[.string s, .string ⟨#[59]⟩] w fun e w' => e = .returned (.int .i64 (Lib.index s.data.toList [59])) ∧ w' = w := by
    intro w; have := Any.stringslite_Index_one Tryz.lays219 s 59 w; rw [← Lib.index_one] at this; exact this
  have HC := Lib.hid hc
  clear hc
  rcases Lib.indexB_cases s ⟨#[59]⟩ with hix | ⟨i, hix, hroom⟩
  · obtain ⟨e1, e2, e3⟩ := Lib.cutB_miss s ⟨#[59]⟩ hix
    have hix' : Lib.index s.data.toList [59] = -1 := hix
    have E1 : Hid ((⟨(Lib.cut s.data.toList [59]).1.toArray⟩ : ByteArray) = s) := e1
    have E2 : Hid ((⟨(Lib.cut s.data.toList [59]).2.1.toArray⟩ : ByteArray) = ByteArray.empty) := e2
    have E3 : Hid ((Lib.cut s.data.toList [59]).2.2 = false) := e3
    have HI := Lib.hid hix'
    clear e1 e2 e3 hix hix'
    go_enter Tryz.func133, Tryz.ntmps133
    go_wp2_with (go_at_call 148; refine (HC.out _).mono ?_; rintro e w' ⟨rfl, rfl⟩; rw [HI.out])
    go_ret3
    exact ⟨by rw [E1.out, E2.out, E3.out]; rfl, 0, rfl⟩
  · obtain ⟨e1, e2, e3⟩ := Lib.cutB_hit s ⟨#[59]⟩ i hix
    have hix' : Lib.index s.data.toList [59] = i := hix
    have hr : i + 1 ≤ s.size := hroom
    have E1 : Hid ((⟨(Lib.cut s.data.toList [59]).1.toArray⟩ : ByteArray) = s.extract 0 i) := e1
    have E2 : Hid ((⟨(Lib.cut s.data.toList [59]).2.1.toArray⟩ : ByteArray) = s.extract (i + 1) s.size) := e2
    have E3 : Hid ((Lib.cut s.data.toList [59]).2.2 = true) := e3
    have HI := Lib.hid hix'
    clear e1 e2 e3 hix hix' hroom
    have c1 : (0 : Int) ≤ ↑i := by omega
    have c2 : (↑i : Int) ≤ ↑s.size := by omega
    have c3 : (0 : Int) ≤ ↑i + 1 := by omega
    have c4 : (↑i + 1 : Int) ≤ ↑s.size := by omega
    have c5 : IntKind.i64.wrap ((i : Int) + 1) = (i : Int) + 1 := IntWalk.i64_in _ (by omega)
    have c6 : ((i : Int) + 1).toNat = i + 1 := by omega
    go_enter Tryz.func133, Tryz.ntmps133
    go_wp2_with (go_at_call 148; refine (HC.out _).mono ?_; rintro e w' ⟨rfl, rfl⟩; rw [HI.out])
    go_region
    go_wp2
    go_ret3
    exact ⟨by rw [E1.out, E2.out, E3.out]; rfl, 1, rfl⟩

theorem cutSemi_any (s : ByteArray) (w : World) (hs : s.size ≤ 281474976710656) :
    Calls Tryz.prog 107 #[.string s, .string ⟨#[59]⟩] w fun e w' => e = .returned (.tuple #[.string ⟨(Lib.cut s.data.toList [59]).1.toArray⟩, .string ⟨(Lib.cut s.data.toList [59]).2.1.toArray⟩, .bool (Lib.cut s.data.toList [59]).2.2]) ∧ ∃ n, w' = w.drewN n := by
  go_enter Tryz.func107, Tryz.ntmps107
  go_wp2_with (go_at_call 133; refine (cutSemiS_any _ _ hs).mono ?_; rintro e w' ⟨rfl, n, rfl⟩)
  go_ret3
  exact ⟨rfl, n, rfl⟩


theorem lastSemi_any (s : ByteArray) (w : World) (hs : s.size ≤ 281474976710656) :
    Calls Tryz.prog 108 #[.string s, .string ⟨#[59]⟩] w fun e w' => e = .returned (.int .i64 (Lib.lastIndexByte s 59)) ∧ w' = w :=
  Any.strings_LastIndex_one Tryz.lays148 s ⟨#[59]⟩ rfl (by omega) w

set_option maxRecDepth 100000 in
set_option maxHeartbeats 800000 in
theorem rest_any (s : ByteArray) (w : World) (hs : s.size ≤ 281474976710656) :
    Calls Tryz.prog 63 #[.string s] w fun e w' => e = .returned (.string ⟨(restL s.data.toList).toArray⟩) ∧ w' = w := by
  obtain ⟨i, hi, hle, hr⟩ := rest_at s
  have c1 : (0 : Int) ≤ (i : Int) := by omega
  have c2 : (i : Int) ≤ (s.size : Int) := by omega
  have c5 : IntKind.i64.wrap (Lib.lastIndexByte s 59 + 1) = (i : Int) := by rw [hi]; exact IntWalk.i64_in _ (by omega)
  have HX : Hid (s.extract i s.size = ⟨(restL s.data.toList).toArray⟩) := by
    show s.extract i s.size = _
    rw [hr, ext_list, List.take_of_length_le (by rw [len_list]; omega)]
  have HI := Lib.hid hi
  clear hr hi
  go_enter Tryz.func63, Tryz.ntmps63
  go_wp2_with (go_at_call 108; refine (lastSemi_any _ _ hs).mono ?_; rintro e w' ⟨rfl, rfl⟩)
  go_ret
  exact ⟨by rw [← HX.out]; simp, rfl⟩

end Go.Proofs.YtgfkiljkpkfapaaGreatDoor

/- The lines of a text, told one by one: what the program's iterator gives to each loop body. Condition: the text has at most 2^21 bytes. -/
namespace Go.Proofs.YtgfkiljkpkfapaaGreatDoor
open Go.RowKit Go.Shelf

/-- How long a text is. -/
def szOf : Value → Nat | .string s => s.size | _ => 0

theorem grownBy_drewN (W : World) (n : Nat) : W.grownBy (W.drewN n) none := ⟨rfl, rfl, rfl, Nat.le_refl _, fun _ _ _ => rfl⟩

set_option maxRecDepth 100000 in
set_option maxHeartbeats 1000000 in
theorem tell_in (n : Nat) (hn : 1 ≤ n) (l Bn : Nat) (s : ByteArray) (hs : s.size ≤ 2097152) (J Jx : List (List UInt8) → World → Prop)
    (hY : ∀ pre x W, J pre W → pre.length < (linesL s.data.toList).length → YieldAt Fence.wide (n - 1) Tryz.prog l #[.string ⟨x.toArray⟩] W fun e W' =>
      (e = .returned (.bool true) ∧ J (pre ++ [x]) W' ∧ True) ∨ (e = .returned (.bool false) ∧ Jx (pre ++ [x]) W'))
    (W : World) (hJ : AbidesFrom W.heap.size J) (hBn : W.cell? ⟨Bn, 0, none⟩ = some (.string s)) (h0 : J [] W) :
    CallsIn Fence.wide n Tryz.prog 106 #[.func (.yield l) #[] #[], .pointer (some ⟨Bn, 0, none⟩)] W fun e W' => (∃ v, e = .returned v) ∧
      ((∃ ys, ys = linesL s.data.toList ∧ J ys W') ∨ (∃ pre, pre <+: linesL s.data.toList ∧ Jx pre W')) := by
  refine callsIn_of_wp Tryz.func106 rfl trivial ?_ rfl
  simp only [Tryz.ntmps106, List.size_toArray, List.length_cons, List.length_nil, Nat.reduceAdd, Nat.reduceSub, Array.replicate_succ, Array.replicate_zero, List.push_toArray, List.append_toArray, List.nil_append, List.cons_append]
  gi_wp2
  gi_loopw [3] (fun p wr => ∃ (pre : List (List UInt8)) (t : ByteArray), p = .string t ∧ t.size ≤ s.size ∧ linesL s.data.toList = pre ++ linesL t.data.toList ∧ J pre wr)
    (fun p _ => szOf p)
  case atStart =>
    exact ⟨[], s, rfl, Nat.le_refl _, rfl, h0⟩
  case round =>
    obtain ⟨pre, t, rfl, ht, hx, hJs⟩ := hrel
    by_cases hi : 0 ≤ Lib.index t.data.toList [59]
    · have h3 : (Lib.cut t.data.toList [59]).2.2 = true := by unfold Lib.cut; rw [if_pos hi]
      have hl := lines_cut_yes hi
      have hm := cut_len hi
      rw [len_list] at hm
      obtain ⟨x, hxx⟩ : ∃ x, x = (Lib.cut t.data.toList [59]).1 := ⟨_, rfl⟩
      obtain ⟨r, hrr⟩ : ∃ r, r = (Lib.cut t.data.toList [59]).2.1 := ⟨_, rfl⟩
      have hcut : ∀ w, Calls Tryz.prog 107 #[.string t, .string ⟨#[59]⟩] w fun e w' => e = .returned (.tuple #[.string ⟨x.toArray⟩, .string ⟨r.toArray⟩, .bool true]) ∧ ∃ n, w' = w.drewN n := by
        intro w; have := cutSemi_any t w (by omega); rw [h3, ← hxx, ← hrr] at this; exact this
      rw [← hxx, ← hrr] at hl
      rw [← hrr] at hm
      rw [hl] at hx
      have HC := Lib.hid hcut
      have HX := Lib.hid hx
      have hlen : pre.length < (linesL s.data.toList).length := by rw [hx]; simp
      clear hcut hxx hrr h3 hi hx hl
      gi_wp2_with (refine ⟨trivial, ?_⟩; gi_at_call 107; refine (callsIn_wide.2 (HC.out _)).mono ?_; rintro e w1 ⟨rfl, k, rfl⟩; obtain ⟨fn, tmps, assign, body, hy, hR⟩ := hY pre x _ (hJ _ _ _ none hJs (grownBy_drewN wr k) (fun r e => by cases e)) hlen)
      refine hR.mono ?_
      rintro e W3 (⟨rfl, hJ3, _⟩ | ⟨rfl, hJx3⟩)
      · gi_wp2
        go_roundw
        case rel => exact ⟨pre ++ [x], ⟨r.toArray⟩, rfl, by (have e : (⟨r.toArray⟩ : ByteArray).size = r.length := rfl); omega, by rw [HX.out]; simp, hJ3⟩
        case measure => show (⟨r.toArray⟩ : ByteArray).size < t.size; exact hm
      · gi_wp2
        refine bodyPost_ret (results_none rfl _ _ _) rfl ?_
        exact ⟨⟨_, rfl⟩, .inr ⟨pre ++ [x], ⟨linesL r, by rw [HX.out]; simp⟩, hJx3⟩⟩
    · have hcut : ∀ w, Calls Tryz.prog 107 #[.string t, .string ⟨#[59]⟩] w fun e w' => e = .returned (.tuple #[.string t, .string ⟨#[]⟩, .bool false]) ∧ ∃ n, w' = w.drewN n := by
        intro w; have := cutSemi_any t w (by omega); rw [cutK_no hi] at this; exact this
      have HC := Lib.hid hcut
      have hl := lines_cut_no hi
      rw [hl, List.append_nil] at hx
      have HX := Lib.hid hx
      clear hcut hi hl hx
      gi_wp2_with (refine ⟨trivial, ?_⟩; gi_at_call 107; refine (callsIn_wide.2 (HC.out _)).mono ?_; rintro e w1 ⟨rfl, k, rfl⟩)
      refine ⟨fun _ h => (by cases h), ?_⟩
      gi_wp2
      refine bodyPost_ret (results_none rfl _ _ _) rfl ?_
      exact ⟨⟨_, rfl⟩, .inl ⟨pre, HX.out.symm, hJ _ _ _ none hJs (grownBy_drewN wr k) (fun r e => by cases e)⟩⟩

theorem linesOf_any (s : ByteArray) (w : World) :
    Calls Tryz.prog 62 #[.string s] w fun e w' => e = .returned (.func (.func 106) #[] #[.pointer (some ⟨w.heap.size, 0, none⟩)]) ∧ w' = w.alloc (.cells #[.string s] 9) := by
  go_enter Tryz.func62, Tryz.ntmps62
  go_wp2
  go_ret
  exact ⟨rfl, rfl⟩

/-- What linesOf hands back tells the text's lines, in their order, until a round says no more. -/
theorem tell_stops (n : Nat) (hn : 1 ≤ n) (Bn : Nat) (s : ByteArray) (hs : s.size ≤ 2097152) (w : World) (hBn : Bn < w.heap.size) (hc : w.cell? ⟨Bn, 0, none⟩ = some (.string s)) :
    SeqStopsK Fence.wide n Tryz.prog 106 #[.pointer (some ⟨Bn, 0, none⟩)] (fun x : List UInt8 => #[Value.string ⟨x.toArray⟩]) (fun _ _ => True) (fun ys => ys = linesL s.data.toList) (fun pre => pre <+: linesL s.data.toList) (linesL s.data.toList).length w := fun l J Jx W hW hJ _ hY h0 =>
  tell_in n hn l Bn s hs J Jx hY W hJ ((hW.cell (p := ⟨Bn, 0, none⟩) hBn).trans hc) h0

end Go.Proofs.YtgfkiljkpkfapaaGreatDoor

/- The lines of a text, told one by one, each with the knowledge that it is one of the text's lines. Condition: the text has at most 2^21 bytes. -/
namespace Go.Proofs.YtgfkiljkpkfapaaGreatDoor
open Go.RowKit Go.Shelf

/-- A line of this text. -/
abbrev LineOf (s : ByteArray) := { x : List UInt8 // x ∈ linesL s.data.toList }

set_option maxRecDepth 100000 in
set_option maxHeartbeats 1000000 in
theorem tell_inS (n : Nat) (hn : 1 ≤ n) (l Bn : Nat) (s : ByteArray) (hs : s.size ≤ 2097152) (J Jx : List (LineOf s) → World → Prop)
    (hY : ∀ pre x W, J pre W → pre.length < (linesL s.data.toList).length → YieldAt Fence.wide (n - 1) Tryz.prog l #[.string ⟨x.1.toArray⟩] W fun e W' =>
      (e = .returned (.bool true) ∧ J (pre ++ [x]) W' ∧ True) ∨ (e = .returned (.bool false) ∧ Jx (pre ++ [x]) W'))
    (W : World) (hJ : AbidesFrom W.heap.size J) (hBn : W.cell? ⟨Bn, 0, none⟩ = some (.string s)) (h0 : J [] W) :
    CallsIn Fence.wide n Tryz.prog 106 #[.func (.yield l) #[] #[], .pointer (some ⟨Bn, 0, none⟩)] W fun e W' => (∃ v, e = .returned v) ∧
      ((∃ ys : List (LineOf s), ys.map Subtype.val = linesL s.data.toList ∧ J ys W') ∨ (∃ pre : List (LineOf s), pre.map Subtype.val <+: linesL s.data.toList ∧ Jx pre W')) := by
  refine callsIn_of_wp Tryz.func106 rfl trivial ?_ rfl
  simp only [Tryz.ntmps106, List.size_toArray, List.length_cons, List.length_nil, Nat.reduceAdd, Nat.reduceSub, Array.replicate_succ, Array.replicate_zero, List.push_toArray, List.append_toArray, List.nil_append, List.cons_append]
  gi_wp2
  gi_loopw [3] (fun p wr => ∃ (pre : List (LineOf s)) (t : ByteArray), p = .string t ∧ t.size ≤ s.size ∧ linesL s.data.toList = pre.map Subtype.val ++ linesL t.data.toList ∧ J pre wr)
    (fun p _ => szOf p)
  case atStart =>
    exact ⟨[], s, rfl, Nat.le_refl _, rfl, h0⟩
  case round =>
    obtain ⟨pre, t, rfl, ht, hx, hJs⟩ := hrel
    by_cases hi : 0 ≤ Lib.index t.data.toList [59]
    · have h3 : (Lib.cut t.data.toList [59]).2.2 = true := by unfold Lib.cut; rw [if_pos hi]
      have hl := lines_cut_yes hi
      have hm := cut_len hi
      rw [len_list] at hm
      obtain ⟨x, hxx⟩ : ∃ x, x = (Lib.cut t.data.toList [59]).1 := ⟨_, rfl⟩
      obtain ⟨r, hrr⟩ : ∃ r, r = (Lib.cut t.data.toList [59]).2.1 := ⟨_, rfl⟩
      have hcut : ∀ w, Calls Tryz.prog 107 #[.string t, .string ⟨#[59]⟩] w fun e w' => e = .returned (.tuple #[.string ⟨x.toArray⟩, .string ⟨r.toArray⟩, .bool true]) ∧ ∃ n, w' = w.drewN n := by
        intro w; have := cutSemi_any t w (by omega); rw [h3, ← hxx, ← hrr] at this; exact this
      rw [← hxx, ← hrr] at hl
      rw [← hrr] at hm
      rw [hl] at hx
      have HC := Lib.hid hcut
      have HX := Lib.hid hx
      have hlen : pre.length < (linesL s.data.toList).length := by rw [hx]; simp
      have hmem : x ∈ linesL s.data.toList := by rw [hx]; simp
      clear hcut hxx hrr h3 hi hx hl
      gi_wp2_with (refine ⟨trivial, ?_⟩; gi_at_call 107; refine (callsIn_wide.2 (HC.out _)).mono ?_; rintro e w1 ⟨rfl, k, rfl⟩; obtain ⟨fn, tmps, assign, body, hy, hR⟩ := hY pre ⟨x, hmem⟩ _ (hJ _ _ _ none hJs (grownBy_drewN wr k) (fun r e => by cases e)) hlen)
      refine hR.mono ?_
      rintro e W3 (⟨rfl, hJ3, _⟩ | ⟨rfl, hJx3⟩)
      · gi_wp2
        go_roundw
        case rel => exact ⟨pre ++ [⟨x, hmem⟩], ⟨r.toArray⟩, rfl, by (have e : (⟨r.toArray⟩ : ByteArray).size = r.length := rfl); omega, HX.out.trans (by simp), hJ3⟩
        case measure => show (⟨r.toArray⟩ : ByteArray).size < t.size; exact hm
      · gi_wp2
        refine bodyPost_ret (results_none rfl _ _ _) rfl ?_
        exact ⟨⟨_, rfl⟩, .inr ⟨pre ++ [⟨x, hmem⟩], ⟨linesL r, (HX.out.trans (by simp)).symm⟩, hJx3⟩⟩
    · have hcut : ∀ w, Calls Tryz.prog 107 #[.string t, .string ⟨#[59]⟩] w fun e w' => e = .returned (.tuple #[.string t, .string ⟨#[]⟩, .bool false]) ∧ ∃ n, w' = w.drewN n := by
        intro w; have := cutSemi_any t w (by omega); rw [cutK_no hi] at this; exact this
      have HC := Lib.hid hcut
      have hl := lines_cut_no hi
      rw [hl, List.append_nil] at hx
      have HX := Lib.hid hx
      clear hcut hi hl hx
      gi_wp2_with (refine ⟨trivial, ?_⟩; gi_at_call 107; refine (callsIn_wide.2 (HC.out _)).mono ?_; rintro e w1 ⟨rfl, k, rfl⟩)
      refine ⟨fun _ h => (by cases h), ?_⟩
      gi_wp2
      refine bodyPost_ret (results_none rfl _ _ _) rfl ?_
      exact ⟨⟨_, rfl⟩, .inl ⟨pre, HX.out.symm, hJ _ _ _ none hJs (grownBy_drewN wr k) (fun r e => by cases e)⟩⟩

theorem tell_stopsS (n : Nat) (hn : 1 ≤ n) (Bn : Nat) (s : ByteArray) (hs : s.size ≤ 2097152) (w : World) (hBn : Bn < w.heap.size) (hc : w.cell? ⟨Bn, 0, none⟩ = some (.string s)) :
    SeqStopsK Fence.wide n Tryz.prog 106 #[.pointer (some ⟨Bn, 0, none⟩)] (fun x : LineOf s => #[Value.string ⟨x.1.toArray⟩]) (fun _ _ => True) (fun ys => ys.map Subtype.val = linesL s.data.toList) (fun pre => pre.map Subtype.val <+: linesL s.data.toList) (linesL s.data.toList).length w := fun l J Jx W hW hJ _ hY h0 =>
  tell_inS n hn l Bn s hs J Jx hY W hJ ((hW.cell (p := ⟨Bn, 0, none⟩) hBn).trans hc) h0

end Go.Proofs.YtgfkiljkpkfapaaGreatDoor

/- The layings of the library's contracts at this dump: that the bodies of the library functions that are met here are the bodies that the contracts were proved of. No condition. -/
namespace Go.Proofs
open Go.Shelf
def Tryz.lays169_ren : Go.Shelf.Ren := ⟨fun | 169 => 131 | n => n, fun | 70 => 147 | 9 => 9 | 0 => 0 | 72 => 149 | 37 => 22 | 127 => 163 | 3 => 3 | 5 => 5 | n => n, fun | n => n⟩
theorem Tryz.lays169 : Go.Proofs.Lays.n169 Tryz.prog Tryz.lays169_ren := {
  mixed := by kernel_rfl
  f169 := Tryz.func131.trans (congrArg some (by kernel_rfl))
  t0 := Tryz.underlying0
  a0 := Tryz.isAgg0
  z0 := Tryz.sizeOf0
  v0 := Tryz.zeroValue0
  t3 := Tryz.underlying3
  a3 := Tryz.isAgg3
  z3 := Tryz.sizeOf3
  v3 := Tryz.zeroValue3
  t9 := Tryz.underlying9
  a9 := Tryz.isAgg9
  z9 := Tryz.sizeOf9
  v9 := Tryz.zeroValue9
  t37 := Tryz.underlying22
  a37 := Tryz.isAgg22
  z37 := Tryz.sizeOf22
  v37 := Tryz.zeroValue22
  t70 := Tryz.underlying147
  a70 := Tryz.isAgg147
  z70 := Tryz.sizeOf147
  v70 := Tryz.zeroValue147
  t72 := Tryz.underlying149
  a72 := Tryz.isAgg149
  z72 := Tryz.sizeOf149
  v72 := Tryz.zeroValue149
  t127 := Tryz.underlying163
  a127 := Tryz.isAgg163
  z127 := Tryz.sizeOf163
  v127 := Tryz.zeroValue163 }
end Go.Proofs

/- strings.Builder in this program: what WriteString and String do to a builder that the call owns. Condition: no more than 2^47 bytes. -/
namespace Go.Proofs.YtgfkiljkpkfapaaGreatDoor
open Go.RowKit Go.Shelf

set_option maxRecDepth 100000 in
theorem bldExtra : Builder.Extra Tryz.prog Tryz.lays169_ren where
  sizeBuilder := by kernel_rfl
  liesBuilder := by kernel_rfl
  t5 := by kernel_rfl
  a5 := fun _ => by kernel_rfl
  z5 := fun _ => by kernel_rfl
  v5 := fun _ => by kernel_rfl
  infoByte := by kernel_rfl
  cellsByte := by kernel_rfl
  sizeByte := by kernel_rfl
  neB5 := by decide

/-- A builder of the call's own, behind B, that holds these bytes. -/
def Bld (B b : Nat) (l : List UInt8) (w : World) : Prop := Lib.IsBuilderF 149 5 B b (Lib.byteCells l) w
/-- What a builder's own work leaves: all blocks but its own, and rows of bytes. -/
def Kept (b : Nat) (w w' : World) : Prop := Lib.OthersKept 5 (some b) w w'

theorem buildString_any (B b : Nat) (l : List UInt8) (w : World) (h : Bld B b l w) (hB : B ≤ w.heap.size) :
    Calls Tryz.prog 131 #[.pointer (some ⟨b, 0, none⟩)] w fun e w' => e = .returned (.string ⟨l.toArray⟩) ∧ Bld B b l w' ∧ Below B w w' ∧ Kept b w w' :=
  Any.Builder_String_any_k Tryz.lays169 bldExtra B b l w h hB

set_option maxRecDepth 100000 in
set_option maxHeartbeats 1600000 in
theorem check_used (b : Nat) (w : World) (h0 : w.cell? ⟨b, 0, none⟩ = some (.pointer (some ⟨b, 0, none⟩))) :
    Calls Tryz.prog 145 #[.pointer (some ⟨b, 0, none⟩)] w fun e w' => e = .returned (.tuple #[]) ∧ w = w' := by
  obtain ⟨j, hj, _⟩ := Option.map_eq_some_iff.1 bldExtra.sizeBuilder
  have hs := Lib.run_neq_ptr_same w ⟨b, 0, none⟩ Tryz.underlying147 hj
  go_enter Tryz.func145, Tryz.ntmps145
  go_wp2
  try rw [hs]
  try go_wp2
  go_end0
  exact ⟨rfl, rfl⟩

set_option maxRecDepth 100000 in
set_option maxHeartbeats 1600000 in
theorem check_fresh (b : Nat) (w : World) (h0 : w.cell? ⟨b, 0, none⟩ = some (.pointer none)) (hsh : w.shape? b = some (149, 2)) (hfz : w.frozen? ⟨b, 0, none⟩ = false) :
    Calls Tryz.prog 145 #[.pointer (some ⟨b, 0, none⟩)] w fun e w' => e = .returned (.tuple #[]) ∧ w' = w.setCell ⟨b, 0, none⟩ (.pointer (some ⟨b, 0, none⟩)) := by
  obtain ⟨j, hj, hjs⟩ := Option.map_eq_some_iff.1 bldExtra.sizeBuilder
  have hu := Lib.run_to_unsafe w ⟨b, 0, none⟩ Tryz.underlying147 Tryz.underlying175 hj (by rw [hjs]; decide) hsh (Nat.zero_lt_succ 1)
  have hn : (callFunc 163 #[.pointer (some ⟨b, 0, none⟩)]).run Tryz.prog w = .ok (.value (.pointer (some ⟨b, 0, none⟩))) w := by
    rw [run_callFunc_extern Tryz.func163 (by kernel_rfl) (by kernel_rfl) (by kernel_rfl) (e := Extern.AbiNoEscape.same) (by kernel_rfl), Lib.run_noEscape]
    rfl
  have hf := Lib.run_from_unsafe w ⟨b, 0, none⟩ Tryz.underlying175 Tryz.underlying147 hj hsh bldExtra.liesBuilder
  go_enter Tryz.func145, Tryz.ntmps145
  go_wp2
  first
    | rw [hu]
    | skip
  try simp only [Result.andThen]
  try rw [Oper.upon_value]
  try go_wp2
  try rw [hn]
  try simp only [Result.andThen]
  try rw [Oper.upon_value]
  try go_wp2
  try rw [hf]
  try simp only [Result.andThen]
  try rw [Oper.upon_value]
  try go_wp2
  go_end0
  exact ⟨rfl, rfl⟩

theorem check_any (B b : Nat) (l : List UInt8) (w : World) (h : Bld B b l w) :
    Calls Tryz.prog 145 #[.pointer (some ⟨b, 0, none⟩)] w fun e w' => e = .returned (.tuple #[]) ∧ Lib.BuilderAtF 149 5 B b (.pointer (some ⟨b, 0, none⟩)) (Lib.byteCells l) w' ∧ Below B w w' ∧ Kept b w w' := by
  rcases h with h | h
  · refine (check_fresh b w h.cell0 h.shape h.frozen0).mono ?_
    rintro e w' ⟨rfl, rfl⟩
    exact ⟨rfl, h.used _, (Below.refl B w).setCell (p := ⟨b, 0, none⟩) h.1 _, (Lib.OthersKept.refl _ _ w).setCell ⟨b, 0, none⟩ rfl _⟩
  · refine (check_used b w h.cell0).mono ?_
    rintro e w' ⟨rfl, rfl⟩
    exact ⟨rfl, h, Below.refl B _, Lib.OthersKept.refl _ _ _⟩

set_option maxRecDepth 100000 in
set_option maxHeartbeats 1600000 in
theorem write_any (B b : Nat) (l x : List UInt8) (w : World) (h : Bld B b l w) (hlen : l.length + x.length ≤ 140737488355328) (hB : B ≤ w.heap.size) :
    Calls Tryz.prog 129 #[.pointer (some ⟨b, 0, none⟩), .string ⟨x.toArray⟩] w fun e w' => e = .returned (.tuple #[.int .i64 (x.length : Int), .nilIface]) ∧ Bld B b (l ++ x) w' ∧ Below B w w' ∧ Kept b w w' := by
  obtain ⟨i0, hi, hz0, hz1, hz2⟩ := info_parts bldExtra.infoByte
  have hx : (Lib.strCells ⟨x.toArray⟩ : List Value) = Lib.byteCells x := by simp [Lib.strCells, Lib.byteCells]
  have hxs : (⟨x.toArray⟩ : ByteArray).size = x.length := by show x.toArray.size = _; simp
  have HC : Hid (Calls Tryz.prog 145 #[.pointer (some ⟨b, 0, none⟩)] w fun e w' => e = .returned (.tuple #[]) ∧ Lib.BuilderAtF 149 5 B b (.pointer (some ⟨b, 0, none⟩)) (Lib.byteCells l) w' ∧ Below B w w' ∧ Kept b w w') := check_any B b l w h
  have HX := Lib.hid hx
  have HXS := Lib.hid hxs
  clear hx hxs h
  go_enter Tryz.func129, Tryz.ntmps129
  go_wp2_with fail
  (go_at_call 145; refine HC.out.mono ?_; rintro e w1 ⟨rfl, h1, hb1, hk1⟩)
  obtain ⟨hBb, v, hbk, hown, hne⟩ := h1
  have c1 : w1.cell? ⟨b, 1, none⟩ = some v := by rw [Lib.cell_of_heap hbk]; rfl
  have hbl : b < w1.heap.size := (Array.getElem?_eq_some_iff.1 hbk).1
  have z1 := hb1.size
  go_wp2_with (at_builtin; refine Lib.wpList_append_own_stringF _ rfl _ _ 22 9 rfl B 5 i0 Tryz.underlying22 Tryz.underlying9 hi hz0 hz1 hz2 _ _ _ rfl hown ⟨x.toArray⟩ rfl ?c3 ?c4 ?c5 ?_)
  case c3 => rw [HXS.out]; unfold maxLen; rw [Lib.byteCells_length]; omega
  case c4 => rw [HXS.out, Lib.byteCells_length]; omega
  case c5 => omega
  intro v' w2 hown' hgrow _
  have hb2 : w2.heap[b]? = some (.cells #[.pointer (some ⟨b, 0, none⟩), v] 149 (0, 0)) := by
    rw [hgrow.block b hbl (fun e => hne e.symm)]
    exact hbk
  have d1 : w2.cell? ⟨b, 1, none⟩ = some v := by rw [Lib.cell_of_heap hb2]; rfl
  have f1 : w2.frozen? ⟨b, 1, none⟩ = false := Lib.frozen_of_heap hb2 1
  obtain ⟨ao, n', cap, rfl⟩ : ∃ ao n' cap, v' = .slice ao n' cap := by
    rcases hown'.2 with ⟨hv, _⟩ | ⟨g, cap, cur, fz, hv, _⟩
    · exact ⟨_, _, _, hv⟩
    · exact ⟨_, _, _, hv⟩
  go_wp2_with fail
  go_ret2
  refine ⟨by first | rfl | (rw [HXS.out]) | simp, ?_, ?_, (Lib.OthersKept.grown hk1 hgrow (Lib.ownsRowF_kind hown)).setCell ⟨b, 1, none⟩ rfl _⟩
  · refine .inr (Lib.BuilderAtF.put hBb hb2 ?_ bldExtra.neB5)
    rw [Lib.byteCells_append, ← HX.out]
    rw [List.length_append, Lib.strCells_length]
    exact hown'
  · exact (hb1.grown hgrow (by omega) (fun k hk => (hown.lt k hk).1)).setCell (p := ⟨b, 1, none⟩) hBb _

end Go.Proofs.YtgfkiljkpkfapaaGreatDoor

/- LinOk of the program, at every text. No condition. -/
namespace Go.Proofs.YtgfkiljkpkfapaaGreatDoor
open Go.RowKit

set_option maxRecDepth 100000 in
set_option maxHeartbeats 800000 in
theorem implByte_any (c : UInt8) (w : World) :
    Calls Tryz.prog 90 #[.int .u8 (c.toNat : Int)] w fun e w' => e = .returned (.bool (byteB c)) ∧ w = w' := by
  by_cases h1 : 97 ≤ c.toNat <;> by_cases h2 : c.toNat ≤ 122 <;> by_cases h3 : 48 ≤ c.toNat <;> by_cases h4 : c.toNat ≤ 57 <;> by_cases h5 : c.toNat = 32 <;>
    first
    | (exfalso; omega)
    | (have h6 : ((c.toNat : Int) == 32) = decide (c.toNat = 32) := by (rw [Bool.eq_iff_iff]; simp; omega)
       simp only [h5, decide_true, decide_false] at h6
       go_enter Tryz.func90, Tryz.ntmps90
       go_wp2
       go_ret
       exact ⟨by (simp [byteB, h1, h2, h3, h4, h5] <;> omega), rfl⟩)

set_option maxRecDepth 100000 in
set_option maxHeartbeats 800000 in
theorem implLin_all (s : ByteArray) (w : World) :
    Calls Tryz.prog 45 #[.string s] w fun e w' => e = .returned (.bool (linB s.data.toList)) ∧ w = w' := by
  by_cases h16 : 16 < s.size
  · go_enter Tryz.func45, Tryz.ntmps45
    go_wp2_with fail
    go_ret
    exact ⟨ret_bool (by unfold linB; rw [len_list, decide_eq_false (by omega)]; rfl), rfl⟩
  · go_enter Tryz.func45, Tryz.ntmps45
    go_wp2_with fail
    go_loop [9] (fun i => ∃ k : Nat, k ≤ s.size ∧ i = .int .i64 k ∧ (∀ c ∈ s.data.toList.take k, byteB c = true)) (fun i => s.size - (intOf i).toNat)
    case atStart => exact ⟨0, Nat.zero_le _, rfl, by simp⟩
    case round =>
      obtain ⟨k, hk, rfl, hd⟩ := hrel
      have HD := Lib.hid hd
      clear hd
      by_cases hlt : k < s.size
      · have HT : Hid (s.data.toList.take (k + 1) = s.data.toList.take k ++ [s[k]]) := take_snoc s k hlt
        by_cases hb : byteB s[k] = true
        · have HB := Lib.hid hb
          go_wp2_with (go_at_call 90; refine (implByte_any _ _).mono ?_; rintro e w' ⟨rfl, rfl⟩)
          go_round
          case rel =>
            refine ⟨k + 1, by omega, by go_num, ?_⟩
            rw [HT.out]; intro c hc
            rcases List.mem_append.1 hc with hc | hc
            · exact HD.out c hc
            · simp at hc; subst hc; exact HB.out
          case measure => simp [intOf]; omega
        · have HB : Hid (linB s.data.toList = false) := by
            unfold linB
            have : s.data.toList.all byteB = false := by
              rw [List.all_eq_false]; exact ⟨s[k], mem_at s k hlt, hb⟩
            show (_ && _) = false
            rw [this]; simp
          go_wp2_with (go_at_call 90; refine (implByte_any _ _).mono ?_; rintro e w' ⟨rfl, rfl⟩)
          go_ret
          exact ⟨ret_bool HB.out.symm, rfl⟩
      · have HL : Hid (linB s.data.toList = true) := by
          have he : s.data.toList.take k = s.data.toList := List.take_of_length_le (by rw [len_list]; omega)
          show (_ && _) = true
          rw [len_list, decide_eq_true (by omega), ← he, List.all_eq_true.2 HD.out]; rfl
        go_wp2_with fail
        go_ret
        exact ⟨ret_bool HL.out.symm, rfl⟩

theorem implLin_any (s : ByteArray) (w : World) (_ : s.size ≤ 281474976710656) :
    Calls Tryz.prog 45 #[.string s] w fun e w' => e = .returned (.bool (linB s.data.toList)) ∧ w = w' := implLin_all s w

end Go.Proofs.YtgfkiljkpkfapaaGreatDoor

/- StrOk of the program, at every text. Condition: the text has at most 2^21 bytes. -/
namespace Go.Proofs.YtgfkiljkpkfapaaGreatDoor
open Go.RowKit Go.Shelf
attribute [local go_sem] Oper.semAt_some

theorem all_not {l : List (List UInt8)} {x : List UInt8} (h : x ∈ l) (hx : linB x = false) : l.all linB = false := by
  rw [List.all_eq_false]; exact ⟨x, h, by simp [hx]⟩

set_option maxRecDepth 100000 in
set_option maxHeartbeats 2000000 in
theorem implStr_in (n : Nat) (hn : 3 ≤ n) (s : ByteArray) (w : World) (hs : s.size ≤ 2097152) (h120 : ¬ 120 < s.size) :
    CallsIn Fence.wide n Tryz.prog 120 #[.string s] w fun e w' => e = .returned (.bool (strB s.data.toList)) ∧ Below w.heap.size w w' := by
  have h1 : 1 ≤ n := by omega
  have HS : Hid (strB s.data.toList = ((linesL s.data.toList).all linB && linB (restL s.data.toList))) := by
    show strB s.data.toList = _
    unfold strB; rw [len_list, decide_eq_true (by omega)]; rfl
  have hrl := rest_le s.data.toList
  rw [len_list] at hrl
  have sR : (⟨(restL s.data.toList).toArray⟩ : ByteArray).size ≤ 281474976710656 := by show (restL s.data.toList).length ≤ _; omega
  have HR : Hid (∀ w, Calls Tryz.prog 45 #[.string ⟨(restL s.data.toList).toArray⟩] w fun e w' => e = .returned (.bool (linB (restL s.data.toList))) ∧ w = w') := fun w => implLin_any ⟨(restL s.data.toList).toArray⟩ w sR
  refine callsIn_of_wp_marks Tryz.func120 rfl trivial ?_ rfl
  simp only [Tryz.ntmps120, List.size_toArray, List.length_cons, List.length_nil, Nat.reduceAdd, Nat.reduceSub, Array.replicate_succ, Array.replicate_zero, List.push_toArray, List.append_toArray, List.nil_append, List.cons_append]
  gi_wp2_with (refine ⟨trivial, ?_⟩; gi_at_call 62; refine (callsIn_wide.2 (linesOf_any _ _)).mono ?_; rintro e w' ⟨rfl, rfl⟩)
  obtain ⟨W0, hW0⟩ : ∃ W0, (w.alloc (.cells #[.bool false] 4)).alloc (.cells #[.string s] 9) = W0 := ⟨_, rfl⟩
  have hs0 : W0.heap.size = w.heap.size + 2 := by rw [← hW0]; simp
  have bO : Boxed W0 w.heap.size 4 (.bool false) := by rw [← hW0]; exact (Boxed.new w _ _).alloc _
  have bS : Boxed W0 (w.heap.size + 1) 9 (.string s) := by rw [← hW0]; have := Boxed.new (w.alloc (.cells #[.bool false] 4)) 9 (.string s); rwa [World.size_alloc] at this
  have hB0 : Below w.heap.size w W0 := by rw [← hW0]; exact ((Below.refl _ w).alloc (Nat.le_refl _) _).alloc (by simp) _
  rw [hW0]
  refine wpIn_rangeFunc_ownF rfl h1 (gf := 106) (lb := #[.pointer (some ⟨w.heap.size + 1, 0, none⟩)]) rfl trivial (enters_of Tryz.func106 (by kernel_rfl) rfl)
    (tell_stops (n - 1) (by omega) (w.heap.size + 1) s hs W0 (by omega) bS.cell) (fun _ _ => trivial) (fun _ _ _ _ _ _ _ _ => trivial) (Below.refl _ _) (fun _ => rfl)
    (fun pre W => ((∀ y ∈ pre, linB y = true) ∧ W.cell? ⟨w.heap.size, 0, none⟩ = some (.bool false) ∧ W.frozen? ⟨w.heap.size, 0, none⟩ = false) ∧ Below w.heap.size w W)
    (fun c pre W => (c = .ret ∧ (∃ y ∈ pre, linB y = false) ∧ W.cell? ⟨w.heap.size, 0, none⟩ = some (.bool false)) ∧ Below w.heap.size w W)
    (OwnFrom.and (Own.from (fun s A B row hs hg hr => ⟨hs.1, cell_kept hs.2.1 hg hr, (frozen_kept hs.2.1 hg hr).trans hs.2.2⟩) _) (ownFrom_below (Nat.le_refl _) (by omega)))
    (fun c => OwnFrom.and (Own.from (fun s A B row hs hg hr => ⟨hs.1, hs.2.1, cell_kept hs.2.2 hg hr⟩) _) (ownFrom_below (Nat.le_refl _) (by omega)))
    ⟨⟨by simp, bO.cell, bO.frozen⟩, hB0⟩
    (fun x => { tmps := #[.string s, undef, .pointer (some ⟨w.heap.size, 0, none⟩), .string ⟨x.toArray⟩, .string s, .int .i64 (s.size : Int), .bool (decide (120 < (s.size : Int))), .string s, .func (.func 106) #[] #[.pointer (some ⟨w.heap.size + 1, 0, none⟩)], .string ⟨x.toArray⟩, undef, undef, undef, undef, undef, undef], defers := [] }) ?assign ?body ?done ?stop
  case assign =>
    intro l x W K hK
    gi_wp2
    exact hK
  case body =>
    rintro l pre x W ⟨⟨hp, hcr, hfr⟩, hB⟩ _
    have HL : Hid (∀ w, Calls Tryz.prog 45 #[.string ⟨x.toArray⟩] w fun e w' => e = .returned (.bool (linB x)) ∧ w = w') := fun w => implLin_all ⟨x.toArray⟩ w
    have hd : 1 ≤ n - 1 - 1 := by omega
    gi_wp2_with (refine ⟨trivial, ?_⟩; gi_at_call 45; refine (CallsIn.inRound l (callsIn_wide.2 (HL.out _))).mono ?_; rintro e w' ⟨rfl, rfl⟩)
    · rename_i hx
      exact ⟨KeepsOthers.setCell _ _ _, ⟨rfl, ⟨x, by simp, by simpa using hx⟩, World.cell?_setCell_same' _ _ _ (by rw [hcr]; rfl)⟩, hB.setCell (p := ⟨w.heap.size, 0, none⟩) (Nat.le_refl _) _⟩
    · rename_i hx
      exact ⟨KeepsOthers.refl _, trivial, ⟨fun y hy => (List.mem_append.1 hy).elim (hp y) (fun e => by simp at e; subst e; simpa using hx), hcr, hfr⟩, hB⟩
  case done =>
    rintro D xs W hD rfl ⟨⟨hall, hcr, hfr⟩, hB⟩ hK
    gi_wp2_with (refine ⟨trivial, ?_⟩; first
      | (gi_at_call 63; refine (callsIn_wide.2 (rest_any _ _ (by omega))).mono ?_; rintro e w2 ⟨rfl, e2⟩; have e3 := e2.symm; subst e3)
      | (gi_at_call 45; refine (callsIn_wide.2 (HR.out _)).mono ?_; rintro e w2 ⟨rfl, rfl⟩))
    have hK' := (KeepsOthers.setCell W ⟨w.heap.size, 0, none⟩ (.bool (linB (restL s.data.toList)))).same D _ hK rfl
    refine ⟨by simp, .inl ⟨_, _, rfl, run_takeDeferred hK', ?_⟩⟩
    have hc5 := cell_kept (World.cell?_setCell_same' W ⟨w.heap.size, 0, none⟩ (.bool (linB (restL s.data.toList))) (by rw [hcr]; rfl)) (grownBy_putObj' _ D (.deferred none)) (fun r e => by cases e; exact ⟨_, hK', rfl⟩)
    refine ⟨.bool (linB (restL s.data.toList)), ?_, ?_, (hB.setCell (p := ⟨w.heap.size, 0, none⟩) (Nat.le_refl _) _).trans (belowK_b (w := w) (Nat.le_refl _) _ D _ _ (by omega) hK' rfl rfl)⟩
    · simp [results, Tryz.results120, go_sem, hc5]
    · rw [HS.out, List.all_eq_true.2 hall]; rfl
  case stop =>
    rintro D c pre W hD hpre ⟨⟨rfl, ⟨y, hy, hyb⟩, hcr⟩, hB⟩ hK
    gi_wp2
    refine ⟨by simp, .inl ⟨_, _, rfl, run_takeDeferred hK, ?_⟩⟩
    have hc5 := cell_kept hcr (grownBy_putObj' _ D (.deferred none)) (fun r e => by cases e; exact ⟨_, hK, rfl⟩)
    refine ⟨.bool false, ?_, ?_, hB.trans (belowK_b (w := w) (Nat.le_refl _) W D _ _ (by omega) hK rfl rfl)⟩
    · simp [results, Tryz.results120, go_sem, hc5]
    · rw [HS.out, all_not (hpre.subset hy) hyb]; rfl

set_option maxRecDepth 100000 in
set_option maxHeartbeats 800000 in
theorem implStr_any (s : ByteArray) (w : World) (hs : s.size ≤ 2097152) :
    Calls Tryz.prog 120 #[.string s] w fun e w' => e = .returned (.bool (strB s.data.toList)) ∧ Below w.heap.size w w' := by
  by_cases h120 : 120 < s.size
  · go_enter Tryz.func120, Tryz.ntmps120
    go_wp2_with fail
    refine bodyPost_ret (v := .bool false) (by simp [results, Tryz.results120, go_sem]) rfl ⟨ret_bool (by unfold strB; rw [len_list, decide_eq_false (by omega)]; rfl), ?_⟩
    exact (Below.refl _ w).alloc (Nat.le_refl _) _
  · exact callsIn_wide.1 (implStr_in 3 (by omega) s w hs h120)

end Go.Proofs.YtgfkiljkpkfapaaGreatDoor

/- Maps that a call makes: a block is a map of just these entries; the look-up, the store of a new key, the length. Condition: the keys are of a type that can be read as a key. -/
namespace Go.Proofs.YtgfkiljkpkfapaaGreatDoor
open Go.RowKit Go.ChangeMaps Go.MapKept
open Go.Maps (Keyed)

/-- Block b is a map of these entries, in the order in which they came. -/
def MapAt (P : Program) (k : TypeId) (w : World) (b : Nat) (L : List (Value × Value)) : Prop :=
  ∃ es clock, w.heap[b]? = some (.map es clock) ∧ Stamped es clock ∧ es.toList.map (fun x => (x.key, x.val)) = L ∧ ∀ p ∈ L, ∃ l, keyOf P k p.1 = some l

section
variable {P : Program} {k : TypeId} {w : World} {b : Nat} {L : List (Value × Value)}

theorem MapAt.lt (h : MapAt P k w b L) : b < w.heap.size := by
  obtain ⟨es, clock, hb, _⟩ := h
  exact (Array.getElem?_eq_some_iff.1 hb).1

theorem mapAt_made (w : World) (P : Program) (k : TypeId) : MapAt P k (w.alloc (.map #[] 0)) w.heap.size [] :=
  ⟨#[], 0, (MapKept.heap_alloc w _).1, stamped_empty 0, rfl, fun p hp => by cases hp⟩

/-- Where the block is the same, the map is. -/
theorem MapAt.same {w' : World} (h : MapAt P k w b L) (hs : w'.heap[b]? = w.heap[b]?) : MapAt P k w' b L := by
  obtain ⟨es, clock, hb, r⟩ := h
  exact ⟨es, clock, hs.trans hb, r⟩

theorem MapAt.below {w' : World} {B : Nat} (h : MapAt P k w b L) (hb : Below B w w') (hB : b < B) : MapAt P k w' b L := h.same (hb.block b hB)

theorem MapAt.look {t e : TypeId} {z : Value} (h : MapAt P k w b L) (K : Keyed P k) (ht : P.underlying t = some (.map k e)) (hz : (zeroValue e).run P w = .ok z w) {key : Value} {kl : Lit} (hkey : keyOf P k key = some kl) :
    (∀ v, (key, v) ∈ L → (Instr.lookup t (.map (some b)) key true).run P w = .ok (.tuple #[v, .bool true]) w) ∧ ((∀ p ∈ L, p.1 ≠ key) → (Instr.lookup t (.map (some b)) key true).run P w = .ok (.tuple #[z, .bool false]) w) := by
  obtain ⟨es, clock, hb, hst, rfl, hks⟩ := h
  have hks' : ∀ x ∈ es.toList, ∃ l, keyOf P k x.key = some l := fun x hx => hks (x.key, x.val) (List.mem_map.2 ⟨x, hx, rfl⟩)
  have hnd : es.toList.Pairwise (fun x y => x.key ≠ y.key) := ((stamped_iff es clock).1 hst).2.2
  rcases K.find w hkey es.toList hks' with ⟨h1, h2⟩ | ⟨j, e0, h1, h2, h3⟩
  · refine ⟨fun v hv => ?_, fun _ => by simp [Instr.lookup, run_underlying ht, MapKept.run_getObj_map hb, K.check w _ hkey, h1, hz, Result.andThen]⟩
    obtain ⟨x, hx, he⟩ := List.mem_map.1 hv
    exact absurd (congrArg Prod.fst he) (h2 x hx)
  · have hm0 : e0 ∈ es.toList := List.mem_of_getElem? h2
    have hrun : (Instr.lookup t (.map (some b)) key true).run P w = .ok (.tuple #[e0.val, .bool true]) w := by simp [Instr.lookup, run_underlying ht, MapKept.run_getObj_map hb, K.check w _ hkey, h1, Result.andThen]
    refine ⟨fun v hv => ?_, fun hno => absurd h3 (hno (e0.key, e0.val) (List.mem_map.2 ⟨e0, hm0, rfl⟩))⟩
    obtain ⟨x, hx, he⟩ := List.mem_map.1 hv
    have hxk : x.key = key := congrArg Prod.fst he
    have hxv : x.val = v := congrArg Prod.snd he
    have hxe : x = e0 := by
      obtain ⟨i, hi, hxi⟩ := List.getElem_of_mem hx
      obtain ⟨hj, hje⟩ := List.getElem?_eq_some_iff.1 h2
      rcases Nat.lt_trichotomy i j with hij | hij | hij
      · have := List.pairwise_iff_getElem.1 hnd i j hi hj hij
        rw [hxi, hje, hxk, h3] at this
        exact absurd rfl this
      · subst hij
        exact hxi.symm.trans hje
      · have := List.pairwise_iff_getElem.1 hnd j i hj hi hij
        rw [hxi, hje, hxk, h3] at this
        exact absurd rfl this
    rw [hrun, ← hxv, hxe]

theorem MapAt.store {t e : TypeId} (h : MapAt P k w b L) (K : Keyed P k) (ht : P.underlying t = some (.map k e)) {key : Value} {kl : Lit} (hkey : keyOf P k key = some kl) (hno : ∀ p ∈ L, p.1 ≠ key) (val : Value) :
    ∃ w', (Instr.mapUpdate t (.map (some b)) key val).run P w = .ok () w' ∧ MapAt P k w' b (L ++ [(key, val)]) ∧ w.mapTurned w' b := by
  obtain ⟨es, clock, hb, hst, rfl, hks⟩ := h
  have hks' : ∀ x ∈ es.toList, ∃ l, keyOf P k x.key = some l := fun x hx => hks (x.key, x.val) (List.mem_map.2 ⟨x, hx, rfl⟩)
  have hno' : ∀ x ∈ es.toList, x.key ≠ key := fun x hx => hno (x.key, x.val) (List.mem_map.2 ⟨x, hx, rfl⟩)
  rcases K.find w hkey es.toList hks' with ⟨h1, _⟩ | ⟨j, e0, _, h2, h3⟩
  · refine ⟨setBlock w b (.map (es.push ⟨key, val, clock⟩) (clock + 1)), ?_, ⟨_, _, heap_setBlock_same hb _, stamped_push hst hno', by simp, ?_⟩, ⟨es, clock, _, _, hb, rfl⟩⟩
    · simp [Instr.mapUpdate, run_underlying ht, MapKept.run_getObj_map hb, K.check w false hkey, h1, MapKept.run_setObj_map _ hb, Result.andThen, setBlock]
    · intro p hp
      rcases List.mem_append.1 hp with hp | hp
      · exact hks p hp
      · rw [List.mem_singleton.1 hp]
        exact ⟨kl, hkey⟩
  · exact absurd h3 (hno' e0 (List.mem_of_getElem? h2))

theorem MapAt.len {t e : TypeId} (h : MapAt P k w b L) (ht : P.underlying t = some (.map k e)) (ty : TypeId) : (Builtin.len_ #[t] ty #[.map (some b)]).run P w = .ok (.int .i64 (L.length : Int)) w := by
  obtain ⟨es, clock, hb, hst, rfl, hks⟩ := h
  simp [Builtin.len_, run_underlying ht, MapKept.run_getObj_map hb, goInt, Result.andThen]

end

section
variable {P : Program} (w : World) {ops : Array Oper} {rest : List Oper} {o : Oper} {a : Act} {Q : Exit → Act → World → Prop}

/-- 'v, ok := m[k]', where the key is there. -/
theorem wpList_look_hit (hg : o.guard = none) (m x : Operand) (t : TypeId) (hop : o.op = Op.lookup t m x true)
    (k e : TypeId) (K : Keyed P k) (ht : P.underlying t = some (.map k e)) {z : Value} (hz : (zeroValue e).run P w = .ok z w) (b : Nat) (L : List (Value × Value))
    (hm : a.eval m = .map (some b)) (hown : MapAt P k w b L) (key : Value) (kl : Lit) (hx : a.eval x = key) (hkey : keyOf P k key = some kl) (v : Value) (hv : (key, v) ∈ L)
    (hK : wpList P ops Q rest (a.put o.dst (.tuple #[v, .bool true])) w) :
    wpList P ops Q (o :: rest) a w := by
  refine wpList_plain hg fun K' hK' => ?_
  have hrun := (hown.look K ht hz hkey).1 v hv
  unfold Oper.wp
  simp [execOp, hop, hm, hx, hrun, Result.andThen]
  exact hK' _ _ hK

/-- .. where it is not. -/
theorem wpList_look_miss (hg : o.guard = none) (m x : Operand) (t : TypeId) (hop : o.op = Op.lookup t m x true)
    (k e : TypeId) (K : Keyed P k) (ht : P.underlying t = some (.map k e)) {z : Value} (hz : (zeroValue e).run P w = .ok z w) (b : Nat) (L : List (Value × Value))
    (hm : a.eval m = .map (some b)) (hown : MapAt P k w b L) (key : Value) (kl : Lit) (hx : a.eval x = key) (hkey : keyOf P k key = some kl) (hno : ∀ p ∈ L, p.1 ≠ key)
    (hK : wpList P ops Q rest (a.put o.dst (.tuple #[z, .bool false])) w) :
    wpList P ops Q (o :: rest) a w := by
  refine wpList_plain hg fun K' hK' => ?_
  have hrun := (hown.look K ht hz hkey).2 hno
  unfold Oper.wp
  simp [execOp, hop, hm, hx, hrun, Result.andThen]
  exact hK' _ _ hK

/-- 'm[k] = v' of a key that is not there. -/
theorem wpList_store_new (hg : o.guard = none) (m x v : Operand) (t : TypeId) (hop : o.op = Op.mapUpdate t m x v)
    (k e : TypeId) (K : Keyed P k) (ht : P.underlying t = some (.map k e)) (b : Nat) (L : List (Value × Value))
    (hm : a.eval m = .map (some b)) (hown : MapAt P k w b L) (key val : Value) (kl : Lit) (hx : a.eval x = key) (hv : a.eval v = val) (hkey : keyOf P k key = some kl) (hno : ∀ p ∈ L, p.1 ≠ key)
    (hK : ∀ w', MapAt P k w' b (L ++ [(key, val)]) → w.mapTurned w' b → wpList P ops Q rest (a.put o.dst undef) w') :
    wpList P ops Q (o :: rest) a w := by
  refine wpList_plain hg fun K' hK' => ?_
  obtain ⟨w', hrun, r1, r2⟩ := hown.store K ht hkey hno val
  unfold Oper.wp
  simp [execOp, hop, hm, hx, hv, hrun, Result.andThen]
  exact hK' _ _ (hK w' r1 r2)

/-- 'len(m)'. -/
theorem wpList_len_at (hg : o.guard = none) (m : Operand) (t : TypeId) (hop : o.op = Op.call { callee := Callee.builtin Builtin.len, args := #[m], argTypes := #[t] })
    (k e : TypeId) (ht : P.underlying t = some (.map k e)) (b : Nat) (L : List (Value × Value)) (hm : a.eval m = .map (some b)) (hown : MapAt P k w b L)
    (hK : wpList P ops Q rest (a.put o.dst (.int .i64 (L.length : Int))) w) :
    wpList P ops Q (o :: rest) a w := by
  refine wpList_plain hg fun K' hK' => ?_
  unfold Oper.wp
  simp [execOp, hop, resolve, invoke, builtin, hm, hown.len ht o.type, Result.andThen]
  exact hK' _ _ hK

end

end Go.Proofs.YtgfkiljkpkfapaaGreatDoor

/- The program's map both ways: made, joined, asked, counted. Conditions: at most 2^22 ends, all of whose numbers are ints; what is joined comes with the next port. -/
namespace Go.Proofs.YtgfkiljkpkfapaaGreatDoor
open Go.RowKit Go.ChangeMaps Go.MapKept Go.WideElems Go.Joins
open Go.Maps (Keyed keyOf_int_mk int_keyed)

set_option maxRecDepth 100000 in
theorem laidOutM : laidOutB Tryz.prog = true := by kernel_rfl
set_option maxRecDepth 100000 in
theorem rowEnd : (31 : TypeId) < Tryz.prog.types.size := of_decide_eq_true (by kernel_rfl)
set_option maxRecDepth 100000 in
theorem deepEnd : Tryz.prog.keyTypeAt (Tryz.prog.types.size + 1) 31 = true := by kernel_rfl
set_option maxRecDepth 100000 in
theorem wideEnd : (match Tryz.prog.underlying 31 with | some (.array _ _) | some (.struct _) => true | _ => false) = true := by kernel_rfl
theorem cellsEndI : Tryz.prog.cellsOf 31 = 2 := by kernel_rfl
set_option maxRecDepth 100000 in
theorem lawEnd : Keyed Tryz.prog 31 := Keyed.of_law (deep_law_laid laidOutM (m := 2) (by omega) rowEnd (by kernel_rfl) wideEnd)
set_option maxRecDepth 100000 in
theorem lawInt : Keyed Tryz.prog 3 := int_keyed Tryz.underlying3
theorem zInt (w : World) : (zeroValue 3).run Tryz.prog w = .ok (.int .i64 0) w := by kernel_rfl
theorem zEnd (w : World) : (zeroValue 31).run Tryz.prog w = .ok (.agg #[.int .i64 0, .int .i64 0]) w := by kernel_rfl
set_option maxRecDepth 100000 in
theorem formedEnd (c0 c1 : Value) : (Value.agg #[c0, c1]).formed Tryz.prog 31 = true := by
  simp [Value.formed, Tryz.underlying31, cellsEndI]
set_option maxRecDepth 100000 in
theorem keyEnd {a p : Int} (wa : (Lit.int .i64 a).wf = true) (wp : (Lit.int .i64 p).wf = true) : ∃ kl, keyOf Tryz.prog 31 (.agg #[.int .i64 a, .int .i64 p]) = some kl := by
  have h : DataW.Trod (H := Unit) (fun _ => ()) Tryz.prog (default : World) 0 (fun _ => true) true 31 (.agg #[.int .i64 a, .int .i64 p]) _ _ :=
    shut_agg2 (y0 := (.lit (.int .i64 a), [])) (y1 := (.lit (.int .i64 p), [])) Tryz.underlying31 (by kernel_rfl) cellsEndI ⟨1, by simp [DataW.trod, Tryz.underlying3, wa]⟩ ⟨1, by simp [DataW.trod, Tryz.underlying3, wp]⟩
  exact ⟨_, (keyOf_asKey deepEnd wideEnd (formedEnd _ _) h).1⟩

/-- Nothing but the maps in these two blocks has turned. -/
structure Two (g1 g2 : Nat) (w w' : World) : Prop where
  os : w'.os = w.os
  tape : w'.tape = w.tape
  output : w'.output = w.output
  size : w.heap.size ≤ w'.heap.size
  block : ∀ k, k < w.heap.size → k ≠ g1 → k ≠ g2 → w'.heap[k]? = w.heap[k]?
theorem Two.refl (g1 g2 : Nat) (w : World) : Two g1 g2 w w := ⟨rfl, rfl, rfl, Nat.le_refl _, fun _ _ _ _ => rfl⟩
theorem Two.trans {g1 g2 : Nat} {a b c : World} (h : Two g1 g2 a b) (k : Two g1 g2 b c) : Two g1 g2 a c :=
  ⟨k.os.trans h.os, k.tape.trans h.tape, k.output.trans h.output, Nat.le_trans h.size k.size, fun i hi h1 h2 => (k.block i (Nat.lt_of_lt_of_le hi h.size) h1 h2).trans (h.block i hi h1 h2)⟩
theorem Two.of_below {g1 g2 : Nat} {w w' : World} (h : Below w.heap.size w w') : Two g1 g2 w w' := ⟨h.os, h.tape, h.output, h.size, fun k hk _ _ => h.block k hk⟩
theorem Two.below {g1 g2 B : Nat} {w w' : World} (h : Two g1 g2 w w') (hB : B ≤ w.heap.size) (h1 : B ≤ g1) (h2 : B ≤ g2) : Below B w w' :=
  ⟨h.os, h.tape, h.output, h.size, fun k hk => h.block k (by omega) (by omega) (by omega)⟩
theorem Two.cell {g1 g2 : Nat} {w w' : World} (h : Two g1 g2 w w') {b i : Nat} (hb : b < w.heap.size) (h1 : b ≠ g1) (h2 : b ≠ g2) : w'.cell? ⟨b, i, none⟩ = w.cell? ⟨b, i, none⟩ := by
  simp only [World.cell?]
  rw [h.block b hb h1 h2]
theorem Two.frozen {g1 g2 : Nat} {w w' : World} (h : Two g1 g2 w w') {b i : Nat} (hb : b < w.heap.size) (h1 : b ≠ g1) (h2 : b ≠ g2) : w'.frozen? ⟨b, i, none⟩ = w.frozen? ⟨b, i, none⟩ :=
  World.frozen?_of_block (h.block b hb h1 h2)
theorem Two.alloc {g1 g2 : Nat} {w w' : World} (h : Two g1 g2 w w') (o : Obj) : Two g1 g2 w (w'.alloc o) := h.trans (Two.of_below ((Below.refl _ _).alloc (Nat.le_refl _) _))
theorem turned_two {g1 g2 : Nat} {w w' : World} {g : Nat} (h : w.mapTurned w' g) (hg : g = g1 ∨ g = g2) : Two g1 g2 w w' := by
  have hr := h.grown
  refine ⟨hr.os, hr.tape, hr.output, hr.size, fun k hk h1 h2 => hr.block k hk fun e => ?_⟩
  injection e with e
  omega

/-- The two maps of these ends: each end's first port, and each port's end. -/
def Both (w : World) (g1 g2 : Nat) (es : List (Int × Int)) : Prop := MapAt Tryz.prog 31 w g1 (valsL es) ∧ MapAt Tryz.prog 3 w g2 (keysL es) ∧ g1 ≠ g2
theorem Both.below {w w' : World} {g1 g2 B : Nat} {es : List (Int × Int)} (h : Both w g1 g2 es) (hb : Below B w w') (h1 : g1 < B) (h2 : g2 < B) : Both w' g1 g2 es :=
  ⟨h.1.below hb h1, h.2.1.below hb h2, h.2.2⟩
theorem Both.lt {w : World} {g1 g2 : Nat} {es : List (Int × Int)} (h : Both w g1 g2 es) : g1 < w.heap.size ∧ g2 < w.heap.size := ⟨h.1.lt, h.2.1.lt⟩
theorem Both.later {w w' : World} {g1 g2 : Nat} {es : List (Int × Int)} (h : Both w g1 g2 es) (hb : Below w.heap.size w w') : Both w' g1 g2 es := h.below hb h.lt.1 h.lt.2

set_option maxRecDepth 100000 in
set_option maxHeartbeats 800000 in
theorem newBoth_any (w : World) :
    Calls Tryz.prog 91 #[] w fun e w' => ∃ g1 g2, e = .returned (.agg #[.map (some g1), .map (some g2)]) ∧ w.heap.size ≤ g1 ∧ w.heap.size ≤ g2 ∧ Both w' g1 g2 [] ∧ Below w.heap.size w w' := by
  have hmm := @run_makeMap Tryz.prog
  go_enter Tryz.func91, Tryz.ntmps91
  go_wp2_with fail
  refine bodyPost_ret (v := .agg #[.map (some (w.heap.size + 1)), .map (some (w.heap.size + 1 + 1))]) (by simp [results, Tryz.results91, go_sem]) rfl ⟨_, _, rfl, by omega, by omega, ⟨?_, ?_, by omega⟩, ?_⟩
  · have h := mapAt_made (w.alloc (.cells #[.map (some (w.heap.size + 1)), .map (some (w.heap.size + 1 + 1))] 79)) Tryz.prog 31
    have hs : (w.alloc (.cells #[.map (some (w.heap.size + 1)), .map (some (w.heap.size + 1 + 1))] 79)).heap.size = w.heap.size + 1 := by simp
    rw [hs] at h
    exact h.below ((Below.refl _ _).alloc (Nat.le_refl _) _) (by simp)
  · have h := mapAt_made ((w.alloc (.cells #[.map (some (w.heap.size + 1)), .map (some (w.heap.size + 1 + 1))] 79)).alloc (.map #[] 0)) Tryz.prog 3
    have hs : ((w.alloc (.cells #[.map (some (w.heap.size + 1)), .map (some (w.heap.size + 1 + 1))] 79)).alloc (.map #[] 0)).heap.size = w.heap.size + 1 + 1 := by simp
    rwa [hs] at h
  · exact (((Below.refl _ _).alloc (Nat.le_refl _) _).alloc (by simp) _).alloc (by simp; omega) _

set_option maxRecDepth 100000 in
set_option maxHeartbeats 800000 in
theorem join_new (g1 g2 : Nat) (es : List (Int × Int)) (a p : Int) (w : World) (hb : Both w g1 g2 es) (wa : (Lit.int .i64 a).wf = true) (wp : (Lit.int .i64 p).wf = true) (hn : es.length ≤ 4194304) (hno : (a, p) ∉ es) :
    Calls Tryz.prog 92 #[.agg #[.map (some g1), .map (some g2)], .agg #[.int .i64 a, .int .i64 p], .int .i64 (500 + (es.length : Int))] w fun e w' => e = .returned (.tuple #[]) ∧ Both w' g1 g2 (es ++ [(a, p)]) ∧ Two g1 g2 w w' := by
  obtain ⟨kl, hkl⟩ := keyEnd wa wp
  have hkp := keyOf_int_mk Tryz.underlying3 (pV_wf hn)
  have HKL := Lib.hid hkl
  have HKP := Lib.hid hkp
  have HB : Hid (∀ o1 o2, Both ((w.alloc o1).alloc o2) g1 g2 es) := fun o1 o2 => hb.later (((Below.refl _ _).alloc (Nat.le_refl _) _).alloc (by simp) _)
  have l1 := hb.lt.1
  have l2 := hb.lt.2
  have hne := hb.2.2
  have HN2 : Hid (∀ q ∈ keysL es, q.1 ≠ .int .i64 (500 + (es.length : Int))) := keys_miss (by omega)
  have HN1 : Hid (∀ q ∈ valsL es, q.1 ≠ .agg #[.int .i64 a, .int .i64 p]) := vals_miss hno
  have HV : Hid (valsL (es ++ [(a, p)]) = valsL es ++ [(.agg #[.int .i64 a, .int .i64 p], .int .i64 (500 + (es.length : Int)))]) := by show valsL _ = _; rw [valsL_snoc, if_neg hno]; rfl
  have HK : Hid (keysL (es ++ [(a, p)]) = keysL es ++ [(.int .i64 (500 + (es.length : Int)), .agg #[.int .i64 a, .int .i64 p])]) := by show keysL _ = _; rw [keysL_snoc]; rfl
  clear hkl hkp hb hno
  go_enter Tryz.func92, Tryz.ntmps92
  go_wp2_with (first
    | (at_mapUpdate; refine wpList_store_new _ rfl _ _ _ 77 rfl 3 31 lawInt Tryz.underlying77 g2 (keysL es) rfl (HB.out _ _).2.1 (.int .i64 (500 + (es.length : Int))) (.agg #[.int .i64 a, .int .i64 p]) _ rfl rfl HKP.out HN2.out ?_; intro w3 m3 t3; have T3 : Two g1 g2 _ _ := turned_two t3 (.inr rfl); have c0 : w3.cell? ⟨w.heap.size, 0, none⟩ = some (.map (some g1)) := (by rw [T3.cell (by simp; omega) (by omega) (by omega)]; simp); have c1 : w3.cell? ⟨w.heap.size, 1, none⟩ = some (.map (some g2)) := (by rw [T3.cell (by simp; omega) (by omega) (by omega)]; simp); have d0 : w3.cell? ⟨w.heap.size + 1, 0, none⟩ = some (.int .i64 a) := (by rw [T3.cell (by simp) (by omega) (by omega)]; simp); have d1 : w3.cell? ⟨w.heap.size + 1, 1, none⟩ = some (.int .i64 p) := (by rw [T3.cell (by simp) (by omega) (by omega)]; simp); have K1 := Lib.hid ((HB.out _ _).1.same (t3.grown.block g1 (HB.out _ _).lt.1 (by simpa using hne))); have M3 := Lib.hid m3; clear m3)
    | (at_lookup; refine wpList_look_miss _ rfl _ _ 76 rfl 31 3 lawEnd Tryz.underlying76 (zInt _) g1 (valsL es) rfl K1.out (.agg #[.int .i64 a, .int .i64 p]) _ rfl HKL.out HN1.out ?_)
    | (at_mapUpdate; refine wpList_store_new _ rfl _ _ _ 76 rfl 31 3 lawEnd Tryz.underlying76 g1 (valsL es) rfl K1.out (.agg #[.int .i64 a, .int .i64 p]) (.int .i64 (500 + (es.length : Int))) _ rfl rfl HKL.out HN1.out ?_; intro w4 m4 t4; have T4 : Two g1 g2 _ _ := turned_two t4 (.inl rfl); have M4 := Lib.hid m4; clear m4))
  go_end0
  refine ⟨rfl, ⟨by rw [HV.out]; exact M4.out, by rw [HK.out]; exact M3.out.same (t4.grown.block g2 M3.out.lt (by simpa using Ne.symm hne)), hne⟩, ?_⟩
  exact ((Two.of_below (((Below.refl _ _).alloc (Nat.le_refl _) _).alloc (by simp) _)).trans T3).trans T4

set_option maxRecDepth 100000 in
set_option maxHeartbeats 800000 in
theorem join_dup (g1 g2 : Nat) (es : List (Int × Int)) (a p : Int) (w : World) (hb : Both w g1 g2 es) (wa : (Lit.int .i64 a).wf = true) (wp : (Lit.int .i64 p).wf = true) (hn : es.length ≤ 4194304) (hno : (a, p) ∈ es) :
    Calls Tryz.prog 92 #[.agg #[.map (some g1), .map (some g2)], .agg #[.int .i64 a, .int .i64 p], .int .i64 (500 + (es.length : Int))] w fun e w' => e = .returned (.tuple #[]) ∧ Both w' g1 g2 (es ++ [(a, p)]) ∧ Two g1 g2 w w' := by
  obtain ⟨kl, hkl⟩ := keyEnd wa wp
  have hkp := keyOf_int_mk Tryz.underlying3 (pV_wf hn)
  have HKL := Lib.hid hkl
  have HKP := Lib.hid hkp
  have HB : Hid (∀ o1 o2, Both ((w.alloc o1).alloc o2) g1 g2 es) := fun o1 o2 => hb.later (((Below.refl _ _).alloc (Nat.le_refl _) _).alloc (by simp) _)
  have l1 := hb.lt.1
  have l2 := hb.lt.2
  have hne := hb.2.2
  have HN2 : Hid (∀ q ∈ keysL es, q.1 ≠ .int .i64 (500 + (es.length : Int))) := keys_miss (by omega)
  have HN1 : Hid ((.agg #[.int .i64 a, .int .i64 p], .int .i64 (portI es (a, p))) ∈ valsL es) := vals_hit hno
  have HV : Hid (valsL (es ++ [(a, p)]) = valsL es) := by show valsL _ = _; rw [valsL_snoc, if_pos hno]
  have HK : Hid (keysL (es ++ [(a, p)]) = keysL es ++ [(.int .i64 (500 + (es.length : Int)), .agg #[.int .i64 a, .int .i64 p])]) := by show keysL _ = _; rw [keysL_snoc]; rfl
  clear hkl hkp hb hno
  go_enter Tryz.func92, Tryz.ntmps92
  go_wp2_with (first
    | (at_mapUpdate; refine wpList_store_new _ rfl _ _ _ 77 rfl 3 31 lawInt Tryz.underlying77 g2 (keysL es) rfl (HB.out _ _).2.1 (.int .i64 (500 + (es.length : Int))) (.agg #[.int .i64 a, .int .i64 p]) _ rfl rfl HKP.out HN2.out ?_; intro w3 m3 t3; have T3 : Two g1 g2 _ _ := turned_two t3 (.inr rfl); have c0 : w3.cell? ⟨w.heap.size, 0, none⟩ = some (.map (some g1)) := (by rw [T3.cell (by simp; omega) (by omega) (by omega)]; simp); have c1 : w3.cell? ⟨w.heap.size, 1, none⟩ = some (.map (some g2)) := (by rw [T3.cell (by simp; omega) (by omega) (by omega)]; simp); have d0 : w3.cell? ⟨w.heap.size + 1, 0, none⟩ = some (.int .i64 a) := (by rw [T3.cell (by simp) (by omega) (by omega)]; simp); have d1 : w3.cell? ⟨w.heap.size + 1, 1, none⟩ = some (.int .i64 p) := (by rw [T3.cell (by simp) (by omega) (by omega)]; simp); have K1 := Lib.hid ((HB.out _ _).1.same (t3.grown.block g1 (HB.out _ _).lt.1 (by simpa using hne))); have M3 := Lib.hid m3; clear m3)
    | (at_lookup; refine wpList_look_hit _ rfl _ _ 76 rfl 31 3 lawEnd Tryz.underlying76 (zInt _) g1 (valsL es) rfl K1.out (.agg #[.int .i64 a, .int .i64 p]) _ rfl HKL.out _ HN1.out ?_))
  go_end0
  refine ⟨rfl, ⟨by rw [HV.out]; exact K1.out, by rw [HK.out]; exact M3.out, hne⟩, ?_⟩
  exact (Two.of_below (((Below.refl _ _).alloc (Nat.le_refl _) _).alloc (by simp) _)).trans T3

theorem join_any (g1 g2 : Nat) (es : List (Int × Int)) (a p : Int) (w : World) (hb : Both w g1 g2 es) (wa : (Lit.int .i64 a).wf = true) (wp : (Lit.int .i64 p).wf = true) (hn : es.length ≤ 4194304) :
    Calls Tryz.prog 92 #[.agg #[.map (some g1), .map (some g2)], .agg #[.int .i64 a, .int .i64 p], .int .i64 (500 + (es.length : Int))] w fun e w' => e = .returned (.tuple #[]) ∧ Both w' g1 g2 (es ++ [(a, p)]) ∧ Two g1 g2 w w' := by
  by_cases h : (a, p) ∈ es
  · exact join_dup g1 g2 es a p w hb wa wp hn h
  · exact join_new g1 g2 es a p w hb wa wp hn h

set_option maxRecDepth 100000 in
set_option maxHeartbeats 800000 in
theorem size_any (g1 g2 : Nat) (es : List (Int × Int)) (w : World) (hb : Both w g1 g2 es) :
    Calls Tryz.prog 97 #[.agg #[.map (some g1), .map (some g2)]] w fun e w' => e = .returned (.int .i64 ((valsL es).length : Int)) ∧ Below w.heap.size w w' := by
  have HB : Hid (∀ o1, Both (w.alloc o1) g1 g2 es) := fun o1 => hb.later ((Below.refl _ _).alloc (Nat.le_refl _) _)
  clear hb
  go_enter Tryz.func97, Tryz.ntmps97
  go_wp2_with (at_len; refine wpList_len_at _ rfl _ 76 rfl 31 3 Tryz.underlying76 g1 (valsL es) rfl (HB.out _).1 ?_)
  go_ret
  exact ⟨rfl, (Below.refl _ _).alloc (Nat.le_refl _) _⟩

/-- What valueOf answers. -/
def valV (es : List (Int × Int)) (e : Int × Int) : Value := .tuple #[.int .i64 (portI es e), .bool (decide (e ∈ es))]
set_option maxRecDepth 100000 in
set_option maxHeartbeats 800000 in
theorem value_any (g1 g2 : Nat) (es : List (Int × Int)) (a p : Int) (w : World) (hb : Both w g1 g2 es) (wa : (Lit.int .i64 a).wf = true) (wp : (Lit.int .i64 p).wf = true) :
    Calls Tryz.prog 51 #[.agg #[.map (some g1), .map (some g2)], .agg #[.int .i64 a, .int .i64 p]] w fun e w' => e = .returned (valV es (a, p)) ∧ Below w.heap.size w w' := by
  obtain ⟨kl, hkl⟩ := keyEnd wa wp
  have HKL := Lib.hid hkl
  have HB : Hid (∀ o1 o2, Both ((w.alloc o1).alloc o2) g1 g2 es) := fun o1 o2 => hb.later (((Below.refl _ _).alloc (Nat.le_refl _) _).alloc (by simp) _)
  by_cases hno : (a, p) ∈ es
  · have HN1 : Hid ((.agg #[.int .i64 a, .int .i64 p], .int .i64 (portI es (a, p))) ∈ valsL es) := vals_hit hno
    have HE : Hid (valV es (a, p) = .tuple #[.int .i64 (portI es (a, p)), .bool true]) := by show valV _ _ = _; unfold valV; rw [decide_eq_true hno]
    obtain ⟨q, hq⟩ : ∃ q, q = portI es (a, p) := ⟨_, rfl⟩
    rw [HE.out]
    rw [← hq] at HN1 ⊢
    clear hkl hb hno hq HE
    go_enter Tryz.func51, Tryz.ntmps51
    go_wp2_with (at_lookup; refine wpList_look_hit _ rfl _ _ 76 rfl 31 3 lawEnd Tryz.underlying76 (zInt _) g1 (valsL es) rfl (HB.out _ _).1 (.agg #[.int .i64 a, .int .i64 p]) _ rfl HKL.out _ HN1.out ?_)
    go_ret2
    exact ⟨rfl, ((Below.refl _ _).alloc (Nat.le_refl _) _).alloc (by simp) _⟩
  · have HN1 : Hid (∀ q ∈ valsL es, q.1 ≠ .agg #[.int .i64 a, .int .i64 p]) := vals_miss hno
    have HE : Hid (valV es (a, p) = .tuple #[.int .i64 0, .bool false]) := by show valV _ _ = _; unfold valV; rw [decide_eq_false hno, portI_not hno]
    rw [HE.out]
    clear hkl hb hno HE
    go_enter Tryz.func51, Tryz.ntmps51
    go_wp2_with (at_lookup; refine wpList_look_miss _ rfl _ _ 76 rfl 31 3 lawEnd Tryz.underlying76 (zInt _) g1 (valsL es) rfl (HB.out _ _).1 (.agg #[.int .i64 a, .int .i64 p]) _ rfl HKL.out HN1.out ?_)
    go_ret2
    exact ⟨rfl, ((Below.refl _ _).alloc (Nat.le_refl _) _).alloc (by simp) _⟩

theorem endI_hit {es : List (Int × Int)} {port : Int} (h : 500 ≤ port ∧ port ≤ 500 + (es.length : Int) - 1) : ∃ k, ∃ hk : k < es.length, port = 500 + (k : Int) ∧ endI es port = some es[k] := by
  refine ⟨(port - 500).toNat, by omega, by omega, ?_⟩
  unfold endI
  rw [if_pos h, List.getElem?_eq_getElem (by omega)]
theorem endI_miss {es : List (Int × Int)} {port : Int} (h : ¬ (500 ≤ port ∧ port ≤ 500 + (es.length : Int) - 1)) : endI es port = none := by
  unfold endI
  rw [if_neg h]

set_option maxRecDepth 100000 in
set_option maxHeartbeats 800000 in
theorem key_any (g1 g2 : Nat) (es : List (Int × Int)) (port : Int) (w : World) (hb : Both w g1 g2 es) (wn : (Lit.int .i64 port).wf = true) :
    Calls Tryz.prog 47 #[.agg #[.map (some g1), .map (some g2)], .int .i64 port] w fun e w' => e = .returned (endV (endI es port)) ∧ Below w.heap.size w w' := by
  have hkp := keyOf_int_mk Tryz.underlying3 wn
  have HKP := Lib.hid hkp
  have HB : Hid (∀ o1 o2, Both ((w.alloc o1).alloc o2) g1 g2 es) := fun o1 o2 => hb.later (((Below.refl _ _).alloc (Nat.le_refl _) _).alloc (by simp) _)
  by_cases hin : 500 ≤ port ∧ port ≤ 500 + (es.length : Int) - 1
  · obtain ⟨k, hk, rfl, he⟩ := endI_hit hin
    obtain ⟨⟨a, p⟩, hap⟩ : ∃ x, x = es[k] := ⟨_, rfl⟩
    have HN1 : Hid ((.int .i64 (500 + (k : Int)), .agg #[.int .i64 a, .int .i64 p]) ∈ keysL es) := by have := keys_hit hk; rw [← hap] at this; exact this
    rw [he, ← hap]
    simp only [endV]
    clear hkp hb hin he hap
    go_enter Tryz.func47, Tryz.ntmps47
    go_wp2_with (at_lookup; refine wpList_look_hit _ rfl _ _ 77 rfl 3 31 lawInt Tryz.underlying77 (zEnd _) g2 (keysL es) rfl (HB.out _ _).2.1 (.int .i64 (500 + (k : Int))) _ rfl HKP.out (.agg #[.int .i64 a, .int .i64 p]) HN1.out ?_)
    refine bodyPost_ret (v := .tuple #[.agg #[.int .i64 a, .int .i64 p], .bool true]) (by simp [results, Tryz.results47, go_sem]) rfl ⟨rfl, ?_⟩
    exact (((Below.refl _ _).alloc (Nat.le_refl _) _).alloc (by simp) _).alloc (by simp; omega) _
  · have HN1 : Hid (∀ q ∈ keysL es, q.1 ≠ .int .i64 port) := keys_miss hin
    rw [endI_miss hin]
    simp only [endV]
    clear hkp hb hin
    go_enter Tryz.func47, Tryz.ntmps47
    go_wp2_with (at_lookup; refine wpList_look_miss _ rfl _ _ 77 rfl 3 31 lawInt Tryz.underlying77 (zEnd _) g2 (keysL es) rfl (HB.out _ _).2.1 (.int .i64 port) _ rfl HKP.out HN1.out ?_)
    refine bodyPost_ret (v := .tuple #[.agg #[.int .i64 0, .int .i64 0], .bool false]) (by simp [results, Tryz.results47, go_sem]) rfl ⟨rfl, ?_⟩
    exact (((Below.refl _ _).alloc (Nat.le_refl _) _).alloc (by simp) _).alloc (by simp; omega) _

end Go.Proofs.YtgfkiljkpkfapaaGreatDoor

/- A table's ends are all inside; its two maps. Conditions: at most 2^22 ends, all of whose numbers are ints. -/
namespace Go.Proofs.YtgfkiljkpkfapaaGreatDoor
open Go.RowKit Go.Sort

set_option maxRecDepth 100000 in
set_option maxHeartbeats 800000 in
theorem allInside_any (v : Value) (es : List (Int × Int)) (w : World) (hn : es.length ≤ 4194304) (ht : TabAt w v es) :
    Calls Tryz.prog 96 #[v] w fun e w' => e = .returned (.bool (es.all (fun e => insB e.1 e.2))) ∧ Below w.heap.size w w' := by
  obtain ⟨ad, cap, rfl, hcap, hr⟩ := ht
  have HR := Lib.hid hr
  clear hr
  go_enter Tryz.func96, Tryz.ntmps96
  go_wp2_with fail
  go_loopw [7] (fun i wr => ∃ k : Nat, k ≤ es.length ∧ i = .int .i64 k ∧ (∀ x ∈ es.take k, insB x.1 x.2 = true) ∧ Below w.heap.size w wr) (fun i _ => es.length - (intOf i).toNat)
  case atStart => exact ⟨0, Nat.zero_le _, rfl, fun x hx => by simp at hx, Below.refl _ _⟩
  case round =>
    obtain ⟨k, hk, rfl, hd, hb⟩ := hrel
    have HD := Lib.hid hd
    clear hd
    by_cases hlt : k < es.length
    · obtain ⟨g, rfl, hrow⟩ := HR.out (by omega)
      obtain ⟨r0, r1⟩ := (hrow.below hb (hrow.lt (by omega))) k hlt
      obtain ⟨⟨a, p⟩, hap⟩ : ∃ x, x = es[k] := ⟨_, rfl⟩
      rw [← hap] at r0 r1
      simp only at r0 r1
      have HA := Lib.hid hap
      have hk2 : (k : Int) ≤ (cap : Int) := by have := hcap.1; omega
      clear hap hrow HR
      by_cases hi : insB a p = true
      · go_wp2_with (go_at_call 32; refine (implInside_any a p _).mono ?_; rintro e w2 ⟨rfl, b2⟩)
        go_roundw
        case rel =>
          refine ⟨k + 1, by omega, by go_num, fun x hx => ?_, (hb.alloc hb.size _).trans (b2.mono (by simp; have := hb.size; omega))⟩
          rw [take_snocE es k hlt] at hx
          rcases List.mem_append.1 hx with hx | hx
          · exact HD.out x hx
          · rw [List.mem_singleton.1 hx, ← HA.out]; exact hi
        case measure => simp [intOf]; omega
      · have hi' : insB a p = false := by simpa using hi
        have HF : Hid (es.all (fun e => insB e.1 e.2) = false) := by
          show es.all _ = false
          rw [List.all_eq_false]
          exact ⟨es[k], List.getElem_mem hlt, by rw [← HA.out]; exact hi⟩
        clear hi
        go_wp2_with (go_at_call 32; refine (implInside_any a p _).mono ?_; rintro e w2 ⟨rfl, b2⟩)
        go_ret
        exact ⟨ret_bool HF.out.symm, (hb.alloc hb.size _).trans (b2.mono (by simp; have := hb.size; omega))⟩
    · have HF : Hid (es.all (fun e => insB e.1 e.2) = true) := by
        show es.all _ = true
        rw [List.all_eq_true]
        exact fun x hx => HD.out x (by rwa [List.take_of_length_le (by omega)])
      go_wp2_with fail
      go_ret
      exact ⟨ret_bool HF.out.symm, hb⟩

theorem Both.setCell {w : World} {g1 g2 : Nat} {es : List (Int × Int)} (h : Both w g1 g2 es) {a : Addr} (h1 : a.block ≠ g1) (h2 : a.block ≠ g2) (u : Value) : Both (w.setCell a u) g1 g2 es :=
  ⟨h.1.same (Below.heap_setCell _ _ _ _ (Ne.symm h1)), h.2.1.same (Below.heap_setCell _ _ _ _ (Ne.symm h2)), h.2.2⟩

theorem join_at (g1 g2 k : Nat) (es : List (Int × Int)) (a p : Int) (w : World) (hk : es.length = k) (hb : Both w g1 g2 es) (wa : (Lit.int .i64 a).wf = true) (wp : (Lit.int .i64 p).wf = true) (hn : k ≤ 4194304) :
    Calls Tryz.prog 92 #[.agg #[.map (some g1), .map (some g2)], .agg #[.int .i64 a, .int .i64 p], .int .i64 (500 + (k : Int))] w fun e w' => e = .returned (.tuple #[]) ∧ Both w' g1 g2 (es ++ [(a, p)]) ∧ Two g1 g2 w w' := by
  subst hk
  exact join_any g1 g2 es a p w hb wa wp hn

set_option maxRecDepth 100000 in
set_option maxHeartbeats 1600000 in
theorem portsOf_any (v : Value) (es : List (Int × Int)) (w : World) (hn : es.length ≤ 4194304) (hwf : wfE es) (ht : TabAt w v es) :
    Calls Tryz.prog 46 #[.agg #[v]] w fun e w' => ∃ g1 g2, e = .returned (.agg #[.map (some g1), .map (some g2)]) ∧ w.heap.size ≤ g1 ∧ w.heap.size ≤ g2 ∧ Both w' g1 g2 es ∧ Below w.heap.size w w' := by
  obtain ⟨ad, cap, rfl, hcap, hr⟩ := ht
  have HR := Lib.hid hr
  have HW := Lib.hid hwf
  clear hr hwf
  go_enter Tryz.func46, Tryz.ntmps46
  go_wp2_with fail
  (go_at_call 91; refine (newBoth_any _).mono ?_; rintro e w1 ⟨g1, g2, rfl, hg1, hg2, hb, b1⟩; obtain ⟨cA, cB, b01, z1⟩ := cell_two b1; have t0 := (cA 0).1; have r0 := (cB 0).1; have r1 := (cB 1).1; have f0 := (cB 0).2; have f1 := (cB 1).2; simp at t0 r0 r1 hg1 hg2; have l1 := hb.lt.1; have l2 := hb.lt.2; have HB := Lib.hid hb; have B1 := Lib.hid b01; have t1 : ∀ o, (w1.alloc o).cell? ⟨w.heap.size, 0, none⟩ = some (.slice ad es.length cap) := (fun o => by rw [cell_alloc_lt (by omega)]; exact t0); clear hb b01 cA cB b1)
  go_wp2_with fail
  obtain ⟨W3, hW3⟩ : ∃ W3, W3 = w1.alloc (.cells #[.map (some g1), .map (some g2)] 79) := ⟨_, rfl⟩
  obtain ⟨b3, hb3⟩ : ∃ b3, b3 = w1.heap.size := ⟨_, rfl⟩
  have p0 : W3.cell? ⟨b3, 0, none⟩ = some (.map (some g1)) := by rw [hW3, hb3]; exact (cell_new w1 _ _ 0).1
  have p1 : W3.cell? ⟨b3, 1, none⟩ = some (.map (some g2)) := by rw [hW3, hb3]; exact (cell_new w1 _ _ 1).1
  have r30 : W3.cell? ⟨w.heap.size + 1, 0, none⟩ = some (.map none) := by rw [hW3, cell_alloc_lt (by omega)]; exact r0
  have r31 : W3.cell? ⟨w.heap.size + 1, 1, none⟩ = some (.map none) := by rw [hW3, cell_alloc_lt (by omega)]; exact r1
  have f30 : W3.frozen? ⟨w.heap.size + 1, 0, none⟩ = false := by rw [hW3, frozen_alloc_lt (by omega)]; exact f0
  have f31 : W3.frozen? ⟨w.heap.size + 1, 1, none⟩ = false := by rw [hW3, frozen_alloc_lt (by omega)]; exact f1
  have HB3 : Hid (Both W3 g1 g2 []) := by rw [hW3]; exact HB.out.later ((Below.refl _ _).alloc (Nat.le_refl _) _)
  have B3 : Hid (Below w.heap.size w W3) := by rw [hW3]; exact B1.out.alloc B1.out.size _
  have z3 : b3 < W3.heap.size := by rw [hW3, hb3]; simp
  rw [← hW3, ← hb3]
  rw [← hb3] at z1 l1 l2
  clear hW3 hb3 HB B1 t0 t1 r0 r1 f0 f1
  go_loopw [10] (fun i wr => ∃ k : Nat, k ≤ es.length ∧ i = .int .i64 k ∧ Both wr g1 g2 (es.take k) ∧ Two g1 g2 W3 wr) (fun i _ => es.length - (intOf i).toNat)
  case atStart => exact ⟨0, Nat.zero_le _, rfl, HB3.out, Two.refl _ _ _⟩
  case round =>
    obtain ⟨k, hk, rfl, hb, h2⟩ := hrel
    have HB := Lib.hid hb
    have H2 := Lib.hid h2
    have zr := h2.size
    have q0 : wr.cell? ⟨b3, 0, none⟩ = some (.map (some g1)) := (h2.cell z3 (by omega) (by omega)).trans p0
    have q1 : wr.cell? ⟨b3, 1, none⟩ = some (.map (some g2)) := (h2.cell z3 (by omega) (by omega)).trans p1
    have BW : Hid (Below w.heap.size w wr) := B3.out.trans (h2.below B3.out.size (by omega) (by omega))
    clear hb
    by_cases hlt : k < es.length
    · obtain ⟨g, rfl, hrow⟩ := HR.out (by omega)
      obtain ⟨s0, s1⟩ := (hrow.below BW.out (hrow.lt (by omega))) k hlt
      have hw := HW.out es[k] (List.getElem_mem hlt)
      have HT : Hid (es.take (k + 1) = es.take k ++ [es[k]]) := take_snocE es k hlt
      obtain ⟨⟨a, p⟩, hap⟩ : ∃ x, x = es[k] := ⟨_, rfl⟩
      rw [← hap] at s0 s1 hw HT
      simp only at s0 s1 hw
      have HWF := Lib.hid hw
      have hk2 : (k : Int) ≤ (cap : Int) := by have := hcap.1; omega
      have hk3 : (k : Int) ≤ 4194304 := by omega
      have q0' : ∀ o, (wr.alloc o).cell? ⟨b3, 0, none⟩ = some (.map (some g1)) := fun o => by rw [cell_alloc_lt (by omega)]; exact q0
      have q1' : ∀ o, (wr.alloc o).cell? ⟨b3, 1, none⟩ = some (.map (some g2)) := fun o => by rw [cell_alloc_lt (by omega)]; exact q1
      clear hap hrow HR hw h2
      go_wp2_with (go_at_call 92; refine (join_at g1 g2 k (es.take k) a p _ (by simp; omega) (HB.out.later ((Below.refl _ _).alloc (Nat.le_refl _) _)) HWF.out.1 HWF.out.2 (by omega)).mono ?_; rintro e w2 ⟨rfl, hb2, t2⟩; have HB2 := Lib.hid hb2; clear hb2)
      go_roundw
      case rel => exact ⟨k + 1, by omega, by go_num, by rw [HT.out]; exact HB2.out, (H2.out.alloc _).trans t2⟩
      case measure => simp [intOf]; omega
    · have HT : Hid (es.take k = es) := List.take_of_length_le (by omega)
      have r0 : wr.cell? ⟨w.heap.size + 1, 0, none⟩ = some (.map none) := (h2.cell (by omega) (by omega) (by omega)).trans r30
      have r1 : wr.cell? ⟨w.heap.size + 1, 1, none⟩ = some (.map none) := (h2.cell (by omega) (by omega) (by omega)).trans r31
      have f0 : wr.frozen? ⟨w.heap.size + 1, 0, none⟩ = false := (h2.frozen (by omega) (by omega) (by omega)).trans f30
      have f1 : wr.frozen? ⟨w.heap.size + 1, 1, none⟩ = false := (h2.frozen (by omega) (by omega) (by omega)).trans f31
      obtain ⟨e0, e1, e2⟩ := set_two (.map (some g1)) (.map (some g2)) r0 r1
      have E1 := Lib.hid e1
      have E2 := Lib.hid e2
      clear h2 e1 e2
      go_wp2_with fail
      refine bodyPost_ret (v := .agg #[.map (some g1), .map (some g2)]) (by simp [results, Tryz.results46, go_sem, E1.out, E2.out]) rfl ⟨g1, g2, rfl, by omega, by omega, ?_, (BW.out.setCell (by simp) _).setCell (by simp) _⟩
      have hb := HB.out
      rw [HT.out] at hb
      exact (hb.setCell (by simp; omega) (by simp; omega) _).setCell (by simp; omega) (by simp; omega) _

end Go.Proofs.YtgfkiljkpkfapaaGreatDoor

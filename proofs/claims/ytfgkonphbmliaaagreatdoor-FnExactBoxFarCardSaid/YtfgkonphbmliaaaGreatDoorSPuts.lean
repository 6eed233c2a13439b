/- l3Put, MapEnd and MapPut of the specification. Condition: the table has at most 2^22 ends. -/
import Derived.Test.YtfgkonphbmliaaaGreatDoorSPutN
import Derived.Deep.RegionWith
namespace Go.Proofs.YtfgkonphbmliaaaGreatDoor
open Go.RowKit Go.Sort

theorem portI_zero {es : List (Int × Int)} {e : Int × Int} (h : ¬ 0 < portI es e) : portI es e = 0 := by
  have := (findI_bounds es e).1
  unfold portI at *
  split <;> simp_all <;> omega

theorem specPut_any (B : Nat) (ad : Addr) (cap : Nat) (es : List (Int × Int)) (a p : Int) (w : World) (hn : es.length ≤ 4194304) (hB : B ≤ w.heap.size) (ho : OwnTab w B (.slice (some ad) es.length cap) es) :
    Calls Tryz.prog 57 #[.agg #[.slice (some ad) es.length cap], .agg #[.int .i64 a, .int .i64 p]] w fun e w' => ∃ g c, e = .returned (.tuple #[.agg #[.slice (some g) (putE es (a, p)).1.length c], .int .i64 (putE es (a, p)).2]) ∧ OwnTab w' B (.slice (some g) (putE es (a, p)).1.length c) (putE es (a, p)).1 ∧ Below w.heap.size w w' := by
  by_cases h : 0 < portI es (a, p)
  · rw [show putE es (a, p) = (es, portI es (a, p)) from if_pos h]
    refine (specPut_has ad cap es a p w hn ho.tab h).mono ?_
    rintro e w' ⟨rfl, hb⟩
    exact ⟨_, _, rfl, ho.below hb, hb⟩
  · have h0 := portI_zero h
    by_cases h6 : es.length = 6
    · rw [show putE es (a, p) = (es, 0) from by unfold putE; rw [if_neg h, if_pos h6]]
      refine (specPut_full ad cap es a p w hn ho.tab h0 h6).mono ?_
      rintro e w' ⟨rfl, hb⟩
      exact ⟨_, _, rfl, ho.below hb, hb⟩
    · rw [show putE es (a, p) = (es ++ [(a, p)], 500 + (es.length : Int)) from by unfold putE; rw [if_neg h, if_neg h6]]
      refine (specPut_new ad cap es a p w hn ho.tab h0 h6).mono ?_
      rintro e w' ⟨g, c, rfl, h1, hb⟩
      exact ⟨g, c, by simp, by simpa using h1.mono hB, hb⟩

set_option maxRecDepth 100000 in
set_option maxHeartbeats 800000 in
theorem specMapEnd_any (v : Value) (es : List (Int × Int)) (port : Int) (w : World) (hn : es.length ≤ 4194304) (ht : TabAt w v es) :
    Calls Tryz.prog 56 #[.agg #[v], .int .i64 port] w fun e w' => e = .returned (endV (endI es port)) ∧ Below w.heap.size w w' := by
  obtain ⟨ad, cap, rfl, hcap, hr⟩ := ht
  have HR := Lib.hid hr
  clear hr
  by_cases hin : 500 ≤ port ∧ port ≤ 500 + (es.length : Int) - 1
  · have hI : inB port 500 (500 + (es.length : Int) - 1) = true := by unfold inB; simp; omega
    obtain ⟨k, hk⟩ : ∃ k : Nat, port = 500 + (k : Int) := ⟨(port - 500).toNat, by omega⟩
    subst hk
    have hlt : k < es.length := by omega
    obtain ⟨g, rfl, hrow⟩ := HR.out (by omega)
    obtain ⟨r0, r1⟩ := hrow k hlt
    obtain ⟨⟨a, p⟩, hap⟩ : ∃ x, x = es[k] := ⟨_, rfl⟩
    have hE : Hid (endI es (500 + (k : Int)) = some (a, p)) := by
      show endI es (500 + (k : Int)) = _
      unfold endI
      rw [if_pos hin, show (500 + (k : Int) - 500).toNat = k from by omega, List.getElem?_eq_getElem hlt, hap]
    rw [← hap] at r0 r1
    simp only at r0 r1
    have hg : g < w.heap.size := hrow.lt (by omega)
    have hI' := Lib.hid hI
    have hk2 : (k : Int) ≤ (cap : Int) := by have := hcap.1; omega
    have K0 : ∀ o o', ((w.alloc o).alloc o').cell? ⟨g, k * 2, none⟩ = some (.int .i64 a) := fun o o' => by rw [cell_alloc_lt (by simp; omega), cell_alloc_lt hg]; exact r0
    have K1 : ∀ o o', ((w.alloc o).alloc o').cell? ⟨g, k * 2 + 1, none⟩ = some (.int .i64 p) := fun o o' => by rw [cell_alloc_lt (by simp; omega), cell_alloc_lt hg]; exact r1
    have hk5 : (500 + (k : Int) - 500) = (k : Int) := by omega
    clear hrow HR hap hI r0 r1 hin
    go_enter Tryz.func56, Tryz.ntmps56
    go_wp2_with (go_at_call 48; refine (specIn_any _ _ _ _).mono ?_; rintro e w' ⟨rfl, rfl⟩; have hi2 := hI'.out)
    refine bodyPost_ret (v := .tuple #[.agg #[.int .i64 a, .int .i64 p], .bool true]) (by simp [results, Tryz.results56, go_sem]) rfl ⟨by rw [hE.out]; rfl, ?_⟩
    exact (((Below.refl _ _).alloc (Nat.le_refl _) _).alloc (by simp) _)
  · have hI : inB port 500 (500 + (es.length : Int) - 1) = false := by unfold inB; simp; omega
    have hE : Hid (endI es port = none) := by show endI es port = _; unfold endI; rw [if_neg hin]
    clear hin HR
    go_enter Tryz.func56, Tryz.ntmps56
    go_wp2_with (go_at_call 48; refine (specIn_any _ _ _ _).mono ?_; rintro e w' ⟨rfl, rfl⟩)
    refine bodyPost_ret (v := .tuple #[.agg #[.int .i64 0, .int .i64 0], .bool false]) (by simp [results, Tryz.results56, go_sem]) rfl ⟨by rw [hE.out]; rfl, ?_⟩
    exact (((Below.refl _ _).alloc (Nat.le_refl _) _).alloc (by simp) _)

end Go.Proofs.YtfgkonphbmliaaaGreatDoor

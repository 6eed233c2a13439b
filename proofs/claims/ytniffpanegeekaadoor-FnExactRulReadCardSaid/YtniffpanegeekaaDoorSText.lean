/- EndText of the specification: address and port in decimals, a space between; nothing of what is no end. No condition. -/
import Derived.Test.YtniffpanegeekaaDoorPlain
import Derived.Test.YtniffpanegeekaaDoorEnd
import Derived.Lib.QuietBelow
namespace Go.Proofs.YtniffpanegeekaaDoor
open Go.RowKit Go.Sort

/-- The text of an end, as bytes. -/
def endL (a p : Nat) : List UInt8 := Lib.decDigits a ++ 32 :: Lib.decDigits p
theorem text_cat (x y : List UInt8) : (⟨x.toArray⟩ : ByteArray) ++ ⟨#[32]⟩ ++ ⟨y.toArray⟩ = ⟨(x ++ 32 :: y).toArray⟩ := by
  apply ByteArray.ext; simp
theorem end_bounds {a p : Int} (h : endB a p = true) : 1 ≤ a ∧ a ≤ 109 ∧ 1 ≤ p ∧ p ≤ 999 := by
  simp [endB, insB, outB, boxB, inB] at h; omega

/-- The text of an end, or of what is none. -/
def etL (a p : Int) : List UInt8 := if endB a p = true then endL a.toNat p.toNat else []
theorem etL_yes {a p : Int} (h : endB a p = true) : etL a p = endL a.toNat p.toNat := if_pos h
theorem etL_no {a p : Int} (h : endB a p = false) : etL a p = [] := if_neg (by simp [h])
theorem etL_len (a p : Int) : (etL a p).length ≤ 20 := by
  unfold etL
  split
  · rename_i h
    obtain ⟨h1, h2, h3, h4⟩ := end_bounds h
    have l1 := dec_len4 (k := a.toNat) (by omega)
    have l2 := dec_len4 (k := p.toNat) (by omega)
    simp [endL]; omega
  · simp
end Go.Proofs.YtniffpanegeekaaDoor

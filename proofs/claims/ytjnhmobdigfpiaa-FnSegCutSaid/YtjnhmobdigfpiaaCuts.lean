/- Plain facts on cutting bytes into segments, and on what a segment adds to what is known. No program. No condition. -/
import Derived.Test.YtjnhmobdigfpiaaSegs
namespace Go.Proofs.Ytjnhmobdigfpiaa

/-- What is known of a stream, and what a segment adds to it. -/
def addL (known : List UInt8) (seq : Int) (d : List UInt8) : List UInt8 := if 0 ≤ seq ∧ seq ≤ known.length then known ++ d.drop (known.length - seq.toNat) else known
theorem addL_out {known : List UInt8} {seq : Int} {d : List UInt8} (h : ¬ (0 ≤ seq ∧ seq ≤ known.length)) : addL known seq d = known := if_neg h
theorem addL_in {known : List UInt8} {q : Nat} {d : List UInt8} (h : q ≤ known.length) : addL known q d = known ++ d.drop (known.length - q) := by
  unfold addL; rw [if_pos ⟨by omega, by omega⟩, Int.toNat_natCast]
theorem addL_old {known : List UInt8} {q : Nat} {d : List UInt8} (h : q + d.length ≤ known.length) : addL known q d = known := by
  rw [addL_in (by omega), List.drop_of_length_le (by omega), List.append_nil]

/-- The k-th piece of bytes from a place on; how many there are; all of them. -/
def pieceL (s : Sg) (far : List UInt8) (a k : Nat) : Sg := { s with seq := ((a + 12 * k : Nat) : Int), data := (far.drop (a + 12 * k)).take 12 }
def piecesN (n a : Nat) : Nat := (n - a - 1) / 12 + 1
def cutL (s : Sg) (far : List UInt8) (a : Nat) : List Sg := (List.range (piecesN far.length (min a far.length))).map (pieceL s far (min a far.length))
theorem cutL_len (s : Sg) (far : List UInt8) (a : Nat) : (cutL s far a).length = piecesN far.length (min a far.length) := by simp [cutL]
theorem cutL_at (s : Sg) (far : List UInt8) (a k : Nat) (h : k < (cutL s far a).length) : (cutL s far a)[k] = pieceL s far (min a far.length) k := by simp [cutL]
theorem cutL_take {s : Sg} {far : List UInt8} {a k : Nat} (h : k < (cutL s far a).length) : (cutL s far a).take (k + 1) = (cutL s far a).take k ++ [pieceL s far (min a far.length) k] := by
  rw [List.take_succ_eq_append_getElem h, cutL_at]
theorem piece_data_len (s : Sg) (far : List UInt8) (a k : Nat) : (pieceL s far a k).data.length = min 12 (far.length - (a + 12 * k)) := by
  simp [pieceL]
theorem pieces_lt {n a k : Nat} (h : a < n) : k < piecesN n a ↔ a + 12 * k < n := by unfold piecesN; omega
theorem pieces_pos (n a : Nat) : 0 < piecesN n a := by unfold piecesN; omega
theorem pieces_end {n a : Nat} (h : n ≤ a) : piecesN n a = 1 := by unfold piecesN; omega
/-- The segments that SegCut answers. -/
def segCutL (s : Sg) (far : List UInt8) (a : Int) : List Sg := if segOkB s = true ∧ far.length ≤ 240 ∧ 0 ≤ a then cutL s far a.toNat else []

end Go.Proofs.Ytjnhmobdigfpiaa

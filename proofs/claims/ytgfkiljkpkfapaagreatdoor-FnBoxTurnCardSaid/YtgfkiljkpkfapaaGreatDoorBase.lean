/- Which numbers are ends, and what a contract that leaves older blocks alone says of their cells. No condition. -/
import Derived.Test.YtgfkiljkpkfapaaGreatDoorRows
import Derived.ProofKit
import Derived.WalkKit
import Derived.WalkSpells
import Derived.Deep.QuietTactic
import Derived.BigQuiet
namespace Go.Proofs.YtgfkiljkpkfapaaGreatDoor
open Go.RowKit

def inB (n lo hi : Int) : Bool := decide (lo ≤ n) && decide (n ≤ hi)
def insB (a p : Int) : Bool := inB a 1 9 && inB p 1 999
def outB (a p : Int) : Bool := inB a 100 109 && inB p 1 999
def boxB (a p : Int) : Bool := decide (a = 50) && inB p 1 999
def endB (a p : Int) : Bool := insB a p || outB a p || boxB a p

/-- What a contract's 'Below' says of the cells of older blocks. -/
theorem bcell {W w1 : World} (hb : Below W.heap.size W w1) : (∀ b o, b < W.heap.size → w1.cell? ⟨b, o, none⟩ = W.cell? ⟨b, o, none⟩) ∧ (∀ b o, b < W.heap.size → w1.frozen? ⟨b, o, none⟩ = W.frozen? ⟨b, o, none⟩) :=
  ⟨fun b o h => hb.cell (p := ⟨b, o, none⟩) h, fun b o h => hb.frozen (p := ⟨b, o, none⟩) h⟩

theorem below_box {w : World} {o : Obj} {w1 : World} (h : Below (w.alloc o).heap.size (w.alloc o) w1) : Below w.heap.size w w1 :=
  ((Below.refl _ _).alloc (Nat.le_refl _) _).trans (h.mono (by simp))

end Go.Proofs.YtgfkiljkpkfapaaGreatDoor

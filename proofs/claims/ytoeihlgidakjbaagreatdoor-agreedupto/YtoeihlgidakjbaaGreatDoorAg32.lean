/- What an end tells goes by turns: plain mathematics. spoken, Spoken. -/
import Derived.Test.YtoeihlgidakjbaaGreatDoorAg4
import Derived.Test.YtoeihlgidakjbaaGreatDoorAg31
namespace Go.Proofs.YtoeihlgidakjbaaGreatDoor
open Go.RowKit Go.Lib
end Go.Proofs.YtoeihlgidakjbaaGreatDoor
namespace Go.Proofs.YtoeihlgidakjbaaGreatDoor
open Go.RowKit Go.Lib
def ActsAt (w : World) (v : Value) (n : Nat) (K : Nat → Int) (F : Nat → Bool) : Prop := ∃ a cap g off, v = .slice a n cap ∧ (0 < n → a = some ⟨g, off, none⟩ ∧ g < w.heap.size) ∧ ∀ i, i < n → w.cell? ⟨g, off + i * 2, none⟩ = some (.int .i64 (K i)) ∧ w.cell? ⟨g, off + i * 2 + 1, none⟩ = some (.bool (F i)) ∧ -9223372036854775808 ≤ K i ∧ K i < 9223372036854775808
end Go.Proofs.YtoeihlgidakjbaaGreatDoor

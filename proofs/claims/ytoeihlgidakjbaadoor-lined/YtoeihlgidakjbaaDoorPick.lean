/- pick returns the number that it picks; the world stays. -/
import Derived.Test.YtoeihlgidakjbaaDoorProg
import Derived.Test.YtoeihlgidakjbaaDoorSum
import Derived.WalkSpells
import Derived.WalkLawsBesides
namespace Go.Proofs.YtoeihlgidakjbaaDoor
open Go.RowKit

set_option maxHeartbeats 400000 in
theorem pick_any (c : Int) (n : Nat) (w : World) (h0 : 0 < n) (hn : n ≤ 1000000) (hc1 : -9223372036854775808 ≤ c) (hc2 : c < 9223372036854775808) :
    Calls Tryd.prog 6 #[.int .i64 c, .int .i64 n] w fun e w' => e = .returned (.int .i64 (pickN c n : Int)) ∧ w = w' := by
  have hz : ((n : Int) == 0) = false := by simp; omega
  by_cases hneg : c < 0
  · have hp : ((pickN c n : Nat) : Int) = (-(c + 1)) % (n : Int) := by
      unfold pickN; rw [if_pos hneg, Int.natCast_emod, Int.toNat_of_nonneg (by omega)]
    rw [hp]; clear hp
    go_enter Tryd.func6, Tryd.ntmps6
    go_wp2
    go_ret
    exact ⟨ret_int (neg_tm c n hneg), rfl⟩
  · have hp : ((pickN c n : Nat) : Int) = c % (n : Int) := by
      unfold pickN; rw [if_neg hneg, Int.natCast_emod, Int.toNat_of_nonneg (by omega)]
    rw [hp]; clear hp
    go_enter Tryd.func6, Tryd.ntmps6
    go_wp2
    go_ret
    exact ⟨rfl, rfl⟩
end Go.Proofs.YtoeihlgidakjbaaDoor

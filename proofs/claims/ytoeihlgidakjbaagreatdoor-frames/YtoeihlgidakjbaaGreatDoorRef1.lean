/- The reference's one, two and sum. -/
import Derived.Test.YtoeihlgidakjbaaGreatDoorEMath
namespace Go.Proofs.YtoeihlgidakjbaaGreatDoor
open Go.RowKit

set_option maxHeartbeats 1000000 in
theorem one_any (c : UInt8) (w : World) :
    Calls Tryz.prog 48 #[.int .i64 (c.toNat : Int)] w fun e w' => e = .returned (.string ⟨#[c]⟩) ∧ Below w.heap.size w w' := by
  have hw := wrap_u8_byte c
  have hcv := conv_bytes (w.alloc (.cells #[.int .u8 (c.toNat : Int)] 5)) w.heap.size 0 1 [c] (by intro k hk; simp at hk; subst hk; simp)
  have hl : [c].length = 1 := rfl
  rw [hl] at hcv
  clear hl
  go_enter Tryz.func48, Tryz.ntmps48
  go_wp2
  go_ret
  exact ⟨rfl, (Below.refl _ _).alloc (Nat.le_refl _) _⟩

theorem one_nat (n : Int) (w : World) (h0 : 0 ≤ n) (h : n < 256) :
    Calls Tryz.prog 48 #[.int .i64 n] w fun e w' => e = .returned (.string ⟨#[UInt8.ofNat n.toNat]⟩) ∧ Below w.heap.size w w' := by
  have e : ((UInt8.ofNat n.toNat).toNat : Int) = n := by rw [byte_of _ (by omega)]; omega
  have := one_any (UInt8.ofNat n.toNat) w
  rw [e] at this
  exact this

set_option maxHeartbeats 1000000 in
theorem two_any (n : Nat) (w : World) (hn : n < 65536) :
    Calls Tryz.prog 49 #[.int .i64 (n : Int)] w fun e w' => e = .returned (.string ⟨(twoL n).toArray⟩) ∧ Below w.heap.size w w' := by
  go_enter Tryz.func49, Tryz.ntmps49
  go_wp2_with fail
  refine (one_nat _ _ (by omega) (by omega)).mono ?_
  rintro e w1 ⟨rfl, hb1⟩
  go_wp2_with fail
  refine (one_nat _ _ (by omega) (by omega)).mono ?_
  rintro e w2 ⟨rfl, hb2⟩
  go_wp2_with fail
  go_ret
  exact ⟨ret_str (two_str n hn), hb1.trans (hb2.mono hb1.size)⟩

set_option maxHeartbeats 1000000 in
theorem rsum_any (s : ByteArray) (w : World) (hn : s.size ≤ 140737488351232) :
    Calls Tryz.prog 50 #[.string s] w fun e w' => e = .returned (.int .i64 (sumL s.data.toList : Int)) ∧ w = w' := by
  go_enter Tryz.func50, Tryz.ntmps50
  go_wp2
  go_loop [3, 4] (fun n i => ∃ k : Nat, k ≤ s.size ∧ i = .int .i64 k ∧ n = .int .i64 (sumL (s.data.toList.take k) : Int)) (fun _ i => s.size - (intOf i).toNat)
  case atStart => exact ⟨0, Nat.zero_le _, rfl, rfl⟩
  case round =>
    obtain ⟨k, hk, rfl, rfl⟩ := hrel
    have hs := sumL_lt (s.data.toList.take k)
    by_cases hlt : k < s.size
    · have HS : Hid (sumL (s.data.toList.take (k + 1)) = (sumL (s.data.toList.take k) * 17 + (s[k]).toNat) % 65536) := by
        have hl : k < s.data.toList.length := by simpa using hlt
        rw [take_snoc s.data.toList k hl, sumL_snoc]; rfl
      have hb := UInt8.toNat_lt s[k]
      go_wp2
      go_round
      case rel => exact ⟨k + 1, by omega, by go_num, by rw [HS.out]; go_num⟩
      case measure => simp [intOf]; omega
    · go_wp2
      go_ret
      have hl : s.data.toList.take k = s.data.toList := List.take_of_length_le (by simp; omega)
      rw [hl]
      exact ⟨rfl, rfl⟩
end Go.Proofs.YtoeihlgidakjbaaGreatDoor

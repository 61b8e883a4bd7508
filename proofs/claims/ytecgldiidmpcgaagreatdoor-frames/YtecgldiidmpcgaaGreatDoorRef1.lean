/- The reference's one, two and sum. -/
import Derived.Test.YtecgldiidmpcgaaGreatDoorLnd0
namespace Go.Proofs.YtecgldiidmpcgaaGreatDoor
open Go.RowKit

set_option maxHeartbeats 1000000 in
theorem one_any (c : UInt8) (w : World) :
    Calls Tryz.prog 11 #[.int .i64 (c.toNat : Int)] w fun e w' => e = .returned (.string ⟨#[c]⟩) ∧ Below w.heap.size w w' := by
  have hw := wrap_u8_byte c
  have hcv := conv_bytes (w.alloc (.cells #[.int .u8 (c.toNat : Int)] 5)) w.heap.size 0 1 [c] (by intro k hk; simp at hk; subst hk; simp)
  have hl : [c].length = 1 := rfl
  rw [hl] at hcv
  clear hl
  go_enter Tryz.func11, Tryz.ntmps11
  go_wp2
  go_ret
  exact ⟨rfl, (Below.refl _ _).alloc (Nat.le_refl _) _⟩

theorem byte_of (n : Nat) (h : n < 256) : ((UInt8.ofNat n).toNat : Int) = (n : Int) := by rw [UInt8.toNat_ofNat']; omega
theorem one_nat (n : Int) (w : World) (h0 : 0 ≤ n) (h : n < 256) :
    Calls Tryz.prog 11 #[.int .i64 n] w fun e w' => e = .returned (.string ⟨#[UInt8.ofNat n.toNat]⟩) ∧ Below w.heap.size w w' := by
  have e : ((UInt8.ofNat n.toNat).toNat : Int) = n := by rw [byte_of _ (by omega)]; omega
  have := one_any (UInt8.ofNat n.toNat) w
  rw [e] at this
  exact this

theorem ret_str {a b : ByteArray} (h : a.data.toList = b.data.toList) : Ending.returned (.string a) = .returned (.string b) := by
  obtain ⟨⟨x⟩⟩ := a
  obtain ⟨⟨y⟩⟩ := b
  simp at h
  rw [h]
theorem str_eq {a : ByteArray} {l : List UInt8} (h : a.data.toList = l) : a = ⟨l.toArray⟩ := by
  obtain ⟨⟨x⟩⟩ := a
  simp at h
  rw [h]
theorem app_toList (a b : ByteArray) : (a ++ b).data.toList = a.data.toList ++ b.data.toList := by simp
/-- Two bytes of a number, the lower one first. -/
def twoL (n : Nat) : List UInt8 := [UInt8.ofNat (n % 256), UInt8.ofNat (n / 256)]
theorem two_str (n : Nat) (hn : n < 65536) : (({ data := #[UInt8.ofNat (n % 256)] } : ByteArray) ++ { data := #[UInt8.ofNat (n / 256 % 256)] }).data.toList = (⟨(twoL n).toArray⟩ : ByteArray).data.toList := by
  rw [app_toList, Nat.mod_eq_of_lt (show n / 256 < 256 by omega)]
  rfl
set_option maxHeartbeats 1000000 in
theorem two_any (n : Nat) (w : World) (hn : n < 65536) :
    Calls Tryz.prog 12 #[.int .i64 (n : Int)] w fun e w' => e = .returned (.string ⟨(twoL n).toArray⟩) ∧ Below w.heap.size w w' := by
  go_enter Tryz.func12, Tryz.ntmps12
  go_wp2_with fail
  refine (one_nat _ _ (by omega) (by omega)).mono ?_
  rintro e w1 ⟨rfl, hb1⟩
  go_wp2_with fail
  refine (one_nat _ _ (by omega) (by omega)).mono ?_
  rintro e w2 ⟨rfl, hb2⟩
  go_wp2_with fail
  go_ret
  exact ⟨ret_str (two_str n hn), hb1.trans (hb2.mono hb1.size)⟩

set_option maxHeartbeats 1000000 in
theorem rsum_any (s : ByteArray) (w : World) (hn : s.size ≤ 140737488351232) :
    Calls Tryz.prog 13 #[.string s] w fun e w' => e = .returned (.int .i64 (sumL s.data.toList : Int)) ∧ w = w' := by
  go_enter Tryz.func13, Tryz.ntmps13
  go_wp2
  go_loop [3, 4] (fun n i => ∃ k : Nat, k ≤ s.size ∧ i = .int .i64 k ∧ n = .int .i64 (sumL (s.data.toList.take k) : Int)) (fun _ i => s.size - (intOf i).toNat)
  case atStart => exact ⟨0, Nat.zero_le _, rfl, rfl⟩
  case round =>
    obtain ⟨k, hk, rfl, rfl⟩ := hrel
    have hs := sumL_lt (s.data.toList.take k)
    by_cases hlt : k < s.size
    · have HS : Hid (sumL (s.data.toList.take (k + 1)) = (sumL (s.data.toList.take k) * 17 + (s[k]).toNat) % 65536) := by
        have hl : k < s.data.toList.length := by simpa using hlt
        rw [take_snoc s.data.toList k hl, sumL_snoc]; rfl
      have hb := UInt8.toNat_lt s[k]
      go_wp2
      go_round
      case rel => exact ⟨k + 1, by omega, by go_num, by rw [HS.out]; go_num⟩
      case measure => simp [intOf]; omega
    · go_wp2
      go_ret
      have hl : s.data.toList.take k = s.data.toList := List.take_of_length_le (by simp; omega)
      rw [hl]
      exact ⟨rfl, rfl⟩
end Go.Proofs.YtecgldiidmpcgaaGreatDoor

/- sumOf returns the document's sum of the bytes that its slice reads as; the world stays. -/
import Derived.Test.YtoeihlgidakjbaaGreatDoorProg
import Derived.Test.YtoeihlgidakjbaaGreatDoorMath
import Derived.WalkSpells
import Derived.WalkLawsBesides
namespace Go.Proofs.YtoeihlgidakjbaaGreatDoor
open Go.RowKit

theorem u16_step (s c : Nat) (_hs : s < 65536) (_hc : c < 256) : IntKind.u16.wrap (IntKind.u16.wrap ((s : Int) * 17) + IntKind.u16.wrap (c : Int)) = (((s * 17 + c) % 65536 : Nat) : Int) := by
  simp only [IntKind.wrap, IntKind.signed, IntKind.bits, Bool.false_and, Bool.false_eq_true, if_false]
  omega

set_option maxHeartbeats 400000 in
theorem sumOf_any (b off cap : Nat) (l : List UInt8) (w : World) (hr : Rd w b off l) (hn : l.length ≤ 2000000) :
    Calls Tryz.prog 126 #[.slice (some ⟨b, off, none⟩) l.length cap] w fun e w' => e = .returned (.int .u16 (sumL l : Int)) ∧ w = w' := by
  go_enter Tryz.func126, Tryz.ntmps126
  go_wp2
  go_loop [3, 8] (fun s i => ∃ k : Nat, k ≤ l.length ∧ i = .int .i64 k ∧ s = .int .u16 (sumL (l.take k) : Int)) (fun _ i => l.length - (intOf i).toNat)
  case atStart => exact ⟨0, Nat.zero_le _, rfl, rfl⟩
  case round =>
    obtain ⟨k, hk, rfl, rfl⟩ := hrel
    have hs := sumL_lt (l.take k)
    by_cases hlt : k < l.length
    · have hc := hr k hlt
      have hsn := sumL_snoc (l.take k) l[k]
      have HS : Hid (sumL (l.take (k + 1)) = (sumL (l.take k) * 17 + (l[k]).toNat) % 65536) := by rw [take_snoc l k hlt]; exact hsn
      clear hsn
      go_wp2
      go_round
      case rel => exact ⟨k + 1, by omega, by go_num, by rw [HS.out, u16_step _ _ hs (UInt8.toNat_lt _)]⟩
      case measure => simp [intOf]; omega
    · go_wp2
      go_ret
      have hl : l.take k = l := List.take_of_length_le (by omega)
      rw [hl]
      exact ⟨rfl, rfl⟩

theorem ret_int {k : IntKind} {a b : Int} (h : a = b) : Ending.returned (.int k a) = .returned (.int k b) := by rw [h]
/-- The number that 'pick' picks. -/
def pickN (c : Int) (n : Nat) : Nat := (if c < 0 then -(c + 1) else c).toNat % n
theorem pickN_lt (c : Int) (n : Nat) (h : 0 < n) : pickN c n < n := Nat.mod_lt _ h
theorem neg_tm (c : Int) (n : Nat) (h : c < 0) : -((c + 1).tmod (n : Int)) = -(c + 1) % (n : Int) := by
  rw [← Int.neg_tmod, Int.tmod_eq_emod_of_nonneg (by omega)]
end Go.Proofs.YtoeihlgidakjbaaGreatDoor

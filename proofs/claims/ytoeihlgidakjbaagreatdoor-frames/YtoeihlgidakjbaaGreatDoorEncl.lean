/- enclose returns new memory that reads as the content between two flags, with escapes; nothing old turns. -/
import Derived.Test.YtoeihlgidakjbaaGreatDoorProg
import Derived.Test.YtoeihlgidakjbaaGreatDoorMath
import Derived.WalkSpells
import Derived.WalkLawsBesides
namespace Go.Proofs.YtoeihlgidakjbaaGreatDoor
open Go.RowKit

theorem Tryz.infoB : (Tryz.prog.info? 5).map (fun i => (i.zero, i.size, i.bytes)) = some (some (.int .u8 0), 1, 1) := by kernel_rfl

set_option maxHeartbeats 1000000 in
theorem enclose_any (b off cap : Nat) (l : List UInt8) (w : World) (hr : Rd w b off l) (hbl : b < w.heap.size) (hn : l.length ≤ 2000000) :
    Calls Tryz.prog 112 #[.slice (some ⟨b, off, none⟩) l.length cap] w fun e w' => ∃ v, e = .returned v ∧ w'.ownsRow w.heap.size 5 1 v (encl l).length ((encl l).map bv) ∧ Below w.heap.size w w' := by
  obtain ⟨i0, hi, hz0, hz1, hz2⟩ := info_parts Tryz.infoB
  go_enter Tryz.func112, Tryz.ntmps112
  go_wp2_with (first | (at_make; refine wpList_make_own _ rfl _ _ 52 rfl w.heap.size 5 i0 (.int .u8 0) 1 Tryz.underlying52 hi hz0 hz1 .i64 .i64 _ (2 * l.length + 2) rfl rfl (by omega) (by rw [hz2]; omega) (by unfold maxLen; omega) (Nat.le_refl _) ?_; intro w0 hown0 hgrow0) | (at_builtin; refine wpList_append_own _ rfl (.tmp 11) (.tmp 12) 52 rfl w.heap.size 5 i0 (.int .u8 0) 1 1 Tryz.underlying52 hi hz0 hz1 hz2 rfl (by decide) _ _ _ rfl (hown0.alloc _) ⟨w0.heap.size, 0, none⟩ 1 1 [.int .u8 126] rfl rfl (cell_one_new _ _ _) (by intro u hu; simp at hu; subst hu; rfl) (by unfold maxLen; omega) (by omega) (by have := hgrow0.size; simp; omega) ?_; intro v1 w1 hown1 hgrow1 _))
  have hb0 : Below w.heap.size w w0 := (Below.refl _ _).grown hgrow0 (Nat.le_refl _) (fun k hk => by cases hk)
  have hb1 : Below w.heap.size w w1 := below_own hb0 hb0.size hown0 _ hgrow1
  have R1 : w1.ownsRow w.heap.size 5 1 v1 (1 + (escL (l.take 0)).length) ((126 :: escL (l.take 0)).map bv) := hown1
  clear hown1 hgrow1 hb0 hown0 hgrow0
  go_loopw [3, 16] (fun v i wr => ∃ k : Nat, k ≤ l.length ∧ i = .int .i64 k ∧ wr.ownsRow w.heap.size 5 1 v (1 + (escL (l.take k)).length) ((126 :: escL (l.take k)).map bv) ∧ Below w.heap.size w wr) (fun _ i _ => l.length - (intOf i).toNat)
  case atStart => exact ⟨0, Nat.zero_le _, rfl, R1, hb1⟩
  case round =>
    obtain ⟨k, hk, rfl, hown, hnx⟩ := hrel
    have hle := escL_len (l.take k)
    have hlt' : (l.take k).length ≤ k := List.length_take_le _ _
    clear R1 hb1
    by_cases hlt : k < l.length
    · have hc : wr.cell? ⟨b, off + k, none⟩ = some (.int .u8 ((l[k]).toNat : Int)) := (hnx.cell hbl).trans (hr k hlt)
      have HS : Hid (escL (l.take (k + 1)) = escL (l.take k) ++ esc l[k]) := escL_take l k hlt
      have HB := hnx
      generalize l[k] = c at hc HS
      by_cases h6 : c.toNat = 126 ∨ c.toNat = 125
      · have HE : Hid (esc c = [125, c ^^^ 32]) := by unfold esc; rw [if_pos h6]; exact rfl
        have HR : Hid (∀ (v2 : Value) (w2 : World), w2.ownsRow w.heap.size 5 1 v2 (1 + (escL (l.take k)).length + 2) (((126 :: escL (l.take k)).map bv) ++ [.int .u8 125, .int .u8 (bits .xor .u8 (c.toNat : Int) 32)]) → w2.ownsRow w.heap.size 5 1 v2 (1 + (escL (l.take (k + 1))).length) ((126 :: escL (l.take (k + 1))).map bv)) := by
          intro v2 w2 h
          rw [HS.out, HE.out]
          rw [byte_xor] at h
          simpa [bv, Nat.add_assoc] using h
        rcases h6 with h6 | h6
        · have h1 : ((c.toNat : Int) == 126) = true := by simp; omega
          clear h6
          go_wp2_with (first | (at_builtin; refine wpList_append_own _ rfl (.tmp 26) (.tmp 29) 52 rfl w.heap.size 5 i0 (.int .u8 0) 1 1 Tryz.underlying52 hi hz0 hz1 hz2 rfl (by decide) _ _ _ rfl (hown.alloc _) ⟨wr.heap.size, 0, none⟩ 2 2 [.int .u8 125, .int .u8 (bits .xor .u8 (c.toNat : Int) 32)] rfl rfl (cell_two_new _ _ _ _) (by intro u hu; simp at hu; rcases hu with rfl | rfl <;> rfl) (by unfold maxLen; omega) (by omega) (by have := hnx.size; simp; omega) ?_; intro v2 w2 hown2 hgrow2 _))
          go_roundw
          case rel => exact ⟨k + 1, by omega, by go_num, HR.out _ _ hown2, below_own HB HB.size hown _ hgrow2⟩
          case measure => simp [intOf]; omega
        · have h1 : ((c.toNat : Int) == 126) = false := by simp; omega
          have h2 : ((c.toNat : Int) == 125) = true := by simp; omega
          clear h6
          go_wp2_with (first | (at_builtin; refine wpList_append_own _ rfl (.tmp 26) (.tmp 29) 52 rfl w.heap.size 5 i0 (.int .u8 0) 1 1 Tryz.underlying52 hi hz0 hz1 hz2 rfl (by decide) _ _ _ rfl (hown.alloc _) ⟨wr.heap.size, 0, none⟩ 2 2 [.int .u8 125, .int .u8 (bits .xor .u8 (c.toNat : Int) 32)] rfl rfl (cell_two_new _ _ _ _) (by intro u hu; simp at hu; rcases hu with rfl | rfl <;> rfl) (by unfold maxLen; omega) (by omega) (by have := hnx.size; simp; omega) ?_; intro v2 w2 hown2 hgrow2 _))
          go_roundw
          case rel => exact ⟨k + 1, by omega, by go_num, HR.out _ _ hown2, below_own HB HB.size hown _ hgrow2⟩
          case measure => simp [intOf]; omega
      · have HE : Hid (esc c = [c]) := by unfold esc; rw [if_neg h6]; exact rfl
        have HR : Hid (∀ (v2 : Value) (w2 : World), w2.ownsRow w.heap.size 5 1 v2 (1 + (escL (l.take k)).length + 1) (((126 :: escL (l.take k)).map bv) ++ [.int .u8 (c.toNat : Int)]) → w2.ownsRow w.heap.size 5 1 v2 (1 + (escL (l.take (k + 1))).length) ((126 :: escL (l.take (k + 1))).map bv)) := by
          intro v2 w2 h
          rw [HS.out, HE.out]
          simpa [bv, Nat.add_assoc] using h
        have h1 : ((c.toNat : Int) == 126) = false := by simp; omega
        have h2 : ((c.toNat : Int) == 125) = false := by simp; omega
        clear h6
        go_wp2_with (first | (at_builtin; refine wpList_append_own _ rfl (.tmp 31) (.tmp 33) 52 rfl w.heap.size 5 i0 (.int .u8 0) 1 1 Tryz.underlying52 hi hz0 hz1 hz2 rfl (by decide) _ _ _ rfl (hown.alloc _) ⟨wr.heap.size, 0, none⟩ 1 1 [.int .u8 (c.toNat : Int)] rfl rfl (cell_one_new _ _ _) (by intro u hu; simp at hu; subst hu; rfl) (by unfold maxLen; omega) (by omega) (by have := hnx.size; simp; omega) ?_; intro v2 w2 hown2 hgrow2 _))
        go_roundw
        case rel => exact ⟨k + 1, by omega, by go_num, HR.out _ _ hown2, below_own HB HB.size hown _ hgrow2⟩
        case measure => simp [intOf]; omega
    · have hl : l.take k = l := List.take_of_length_le (by omega)
      rw [hl] at hown
      have hle := escL_len l
      clear hl
      go_wp2_with (first | (at_builtin; refine wpList_append_own _ rfl (.tmp 36) (.tmp 37) 52 rfl w.heap.size 5 i0 (.int .u8 0) 1 1 Tryz.underlying52 hi hz0 hz1 hz2 rfl (by decide) _ _ _ rfl (hown.alloc _) ⟨wr.heap.size, 0, none⟩ 1 1 [.int .u8 126] rfl rfl (cell_one_new _ _ _) (by intro u hu; simp at hu; subst hu; rfl) (by unfold maxLen; omega) (by omega) (by have := hnx.size; simp; omega) ?_; intro v2 w2 hown2 hgrow2 _))
      go_ret
      refine ⟨_, rfl, ?_, below_own hnx hnx.size hown _ hgrow2⟩
      have e : (encl l).length = 1 + (escL l).length + 1 := by simp [encl]; omega
      have e2 : (encl l).map bv = (126 :: escL l).map bv ++ [.int .u8 126] := by simp [encl, bv]
      rw [e, e2]; exact hown2
end Go.Proofs.YtoeihlgidakjbaaGreatDoor

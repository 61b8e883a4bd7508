/- IsPacket, Write and Frame: Frame refuses what is no packet, and else returns new memory that reads as the packet's bytes on the line; nothing old turns. -/
import Derived.Test.YtoeihlgidakjbaaGreatDoorCont
namespace Go.Proofs.YtoeihlgidakjbaaGreatDoor
open Go.RowKit

/-- Is it a packet? -/
def isPkt (code id : Int) (n : Nat) : Bool := decide (1 ≤ code) && decide (code ≤ 255) && decide (0 ≤ id) && decide (id ≤ 255) && decide (n ≤ 40)

theorem bcell {W w1 : World} (hb : Below W.heap.size W w1) : (∀ b o, b < W.heap.size → w1.cell? ⟨b, o, none⟩ = W.cell? ⟨b, o, none⟩) ∧ (∀ b o, b < W.heap.size → w1.frozen? ⟨b, o, none⟩ = W.frozen? ⟨b, o, none⟩) :=
  ⟨fun b o h => hb.cell (p := ⟨b, o, none⟩) h, fun b o h => hb.frozen (p := ⟨b, o, none⟩) h⟩

set_option maxHeartbeats 1000000 in
theorem isPacket_any (code id : Int) (s : ByteArray) (w : World) (hs : s.size ≤ maxLen) :
    Calls Tryz.prog 76 #[.agg #[.int .i64 code, .int .i64 id, .string s]] w fun e w' => e = .returned (.bool (isPkt code id s.size)) ∧ Below w.heap.size w w' := by
  unfold maxLen at hs
  have hB : ∀ o : Obj, Below w.heap.size w (w.alloc o) := fun o => (Below.refl _ _).alloc (Nat.le_refl _) o
  unfold isPkt
  by_cases h1 : 1 ≤ code
  · by_cases h2 : code ≤ 255
    · by_cases h3 : 0 ≤ id
      · by_cases h4 : id ≤ 255
        · by_cases h5 : s.size ≤ 40
          · go_enter Tryz.func76, Tryz.ntmps76
            go_wp2
            go_ret
            exact ⟨by simp [h1, h2, h3, h4, h5]; omega, hB _⟩
          · have h5' : decide ((s.size : Int) ≤ 40) = false := by simp; omega
            go_enter Tryz.func76, Tryz.ntmps76
            go_wp2
            go_ret
            exact ⟨by simp [h5], hB _⟩
        · have h5' : decide (id ≤ 255) = false := by simp; omega
          go_enter Tryz.func76, Tryz.ntmps76
          go_wp2
          go_ret
          exact ⟨by simp, hB _⟩
      · have h5' : decide (0 ≤ id) = false := by simp; omega
        go_enter Tryz.func76, Tryz.ntmps76
        go_wp2
        go_ret
        exact ⟨by simp, hB _⟩
    · have h5' : decide (code ≤ 255) = false := by simp; omega
      go_enter Tryz.func76, Tryz.ntmps76
      go_wp2
      go_ret
      exact ⟨by simp, hB _⟩
  · have h5' : decide (1 ≤ code) = false := by simp; omega
    go_enter Tryz.func76, Tryz.ntmps76
    go_wp2
    go_ret
    exact ⟨by simp, hB _⟩

set_option maxHeartbeats 1000000 in
theorem write_any (c d : UInt8) (s : ByteArray) (w : World) (hn : s.size ≤ 1000000) :
    Calls Tryz.prog 77 #[.agg #[.int .i64 (c.toNat : Int), .int .i64 (d.toNat : Int), .string s]] w fun e w' => ∃ v, e = .returned v ∧ w'.ownsRow w.heap.size 5 1 v (encl (content c d s.data.toList)).length ((encl (content c d s.data.toList)).map bv) ∧ Below w.heap.size w w' := by
  have hcl : (content c d s.data.toList).length ≤ 2000000 := by rw [content_len]; simp; omega
  have hc0 : 0 < (content c d s.data.toList).length := by rw [content_len]; omega
  go_enter Tryz.func77, Tryz.ntmps77
  go_wp2_with fail
  refine (contentOf_any c d s _ hn).mono ?_
  rintro e w1 ⟨v1, rfl, hown1, hb1⟩
  obtain ⟨hn1, g, cap, rfl, hg1, hg2, _, _, hrd⟩ := owns_rd hown1 hc0
  have hbb : Below w.heap.size w w1 := ((Below.refl _ _).alloc (Nat.le_refl _) _).trans (hb1.mono (by simp))
  clear hown1 hn1
  go_wp2_with fail
  refine (enclose_any g 0 cap (content c d s.data.toList) w1 hrd hg2 hcl).mono ?_
  rintro e w2 ⟨v2, rfl, hown2, hb2⟩
  go_wp2_with fail
  go_ret
  exact ⟨_, rfl, owns_mono hown2 hbb.size, hbb.trans (hb2.mono hbb.size)⟩

set_option maxHeartbeats 1000000 in
theorem frame_no (code id : Int) (s : ByteArray) (w : World) (hs : s.size ≤ maxLen) (h : isPkt code id s.size = false) :
    Calls Tryz.prog 51 #[.agg #[.int .i64 code, .int .i64 id, .string s]] w fun e w' => e = .returned (.tuple #[.slice none 0 0, .int .i64 2]) ∧ Below w.heap.size w w' := by
  go_enter Tryz.func51, Tryz.ntmps51
  go_wp2_with fail
  refine (isPacket_any code id s _ hs).mono ?_
  rintro e w1 ⟨rfl, hb1⟩
  go_wp2_with fail
  go_ret2
  exact ⟨rfl, ((Below.refl _ _).alloc (Nat.le_refl _) _).trans (hb1.mono (by simp))⟩

set_option maxHeartbeats 1000000 in
theorem frame_yes (c d : UInt8) (s : ByteArray) (w : World) (hn : s.size ≤ 40) (h0 : 0 < c.toNat) :
    Calls Tryz.prog 51 #[.agg #[.int .i64 (c.toNat : Int), .int .i64 (d.toNat : Int), .string s]] w fun e w' => ∃ v, e = .returned (.tuple #[v, .int .i64 0]) ∧ w'.ownsRow w.heap.size 5 1 v (encl (content c d s.data.toList)).length ((encl (content c d s.data.toList)).map bv) ∧ Below w.heap.size w w' := by
  have hp : isPkt (c.toNat : Int) (d.toNat : Int) s.size = true := by
    have := UInt8.toNat_lt c; have := UInt8.toNat_lt d
    unfold isPkt; simp; omega
  go_enter Tryz.func51, Tryz.ntmps51
  go_wp2_with fail
  refine (isPacket_any _ _ s _ (by unfold maxLen; omega)).mono ?_
  rintro e w1 ⟨rfl, hb1⟩
  rw [hp]
  obtain ⟨hc, hf⟩ := bcell hb1
  have hbb : Below w.heap.size w w1 := ((Below.refl _ _).alloc (Nat.le_refl _) _).trans (hb1.mono (by simp))
  go_wp2_with fail
  refine (write_any c d s w1 (by omega)).mono ?_
  rintro e w2 ⟨v2, rfl, hown2, hb2⟩
  go_wp2_with fail
  go_ret2
  exact ⟨_, rfl, owns_mono hown2 hbb.size, hbb.trans (hb2.mono hbb.size)⟩
end Go.Proofs.YtoeihlgidakjbaaGreatDoor

/- The laws' holds: what a hold is in memory; marked. -/
import Derived.Test.YtoeihlgidakjbaaGreatDoorLaw1
namespace Go.Proofs.YtoeihlgidakjbaaGreatDoor
open Go.RowKit Go.Lib

/-- Bytes that bear a mark; numbers that bear a mark. -/
def BR (w : World) (v : Value) (n : Nat) (m : Int) : Prop := ∃ a cap g, v = .slice a n cap ∧ n ≤ 140737488355000 ∧ (0 < n → a = some ⟨g, 0, none⟩) ∧ ∀ j, j < n → w.cell? ⟨g, j, none⟩ = some (.int .u8 (signN m (j : Int)))
def NR (w : World) (v : Value) (n : Nat) (m : Int) : Prop := ∃ a cap g, v = .slice a n cap ∧ n ≤ 140737488355000 ∧ (0 < n → a = some ⟨g, 0, none⟩) ∧ ∀ j, j < n → w.cell? ⟨g, j, none⟩ = some (.int .i64 (-m))
/-- A hold: its block, its two lists, its mark. -/
structure HE where
  hb : Nat
  vb : Value
  nb : Nat
  vn : Value
  nn : Nat
  m : Int
structure HI (w : World) (e : HE) : Prop where
  c0 : w.cell? ⟨e.hb, 0, none⟩ = some e.vb
  c1 : w.cell? ⟨e.hb, 1, none⟩ = some e.vn
  c2 : w.cell? ⟨e.hb, 2, none⟩ = some (.int .i64 e.m)
  b : BR w e.vb e.nb e.m
  n : NR w e.vn e.nn e.m
  m0 : 0 < e.m
  m1 : e.m ≤ 4611686018427387904

theorem sign_q (m i : Int) (w : World) : Calls Tryz.prog 87 #[.int .i64 m, .int .i64 i] w fun e w' => e = .returned (.int .u8 (signN m i)) ∧ w' = w :=
  (sign_any m i w).mono (by rintro e w' ⟨rfl, rfl⟩; exact ⟨rfl, rfl⟩)

set_option maxHeartbeats 1000000 in
theorem marked_any (e : HE) (w : World) (h : HI w e) :
    Calls Tryz.prog 63 #[.pointer (some ⟨e.hb, 0, none⟩)] w fun r w' => r = .returned (.bool true) ∧ ∃ n, w' = w.drewN n := by
  obtain ⟨hb, vb, nb, vn, nn, m⟩ := e
  obtain ⟨c0, c1, c2, hb1, hn1, m0, m1⟩ := h
  simp only at c0 c1 c2 hb1 hn1 m0 m1
  obtain ⟨ab, capb, gb, rfl, hnb, hab, hcb⟩ := hb1
  obtain ⟨an, capn, gn, rfl, hnn, han, hcn⟩ := hn1
  have HCB : Hid (∀ j, j < nb → w.cell? ⟨gb, j, none⟩ = some (.int .u8 (signN m (j : Int)))) := hcb
  have HCN : Hid (∀ j, j < nn → w.cell? ⟨gn, j, none⟩ = some (.int .i64 (-m))) := hcn
  have HAB : Hid (0 < nb → ab = some ⟨gb, 0, none⟩) := hab
  have HAN : Hid (0 < nn → an = some ⟨gn, 0, none⟩) := han
  clear hcb hcn hab han
  show Calls Tryz.prog 63 #[.pointer (some ⟨hb, 0, none⟩)] w _
  go_enter Tryz.func63, Tryz.ntmps63
  go_wp2_with fail
  go_loopw [3] (fun i wr => ∃ k : Nat, k ≤ nb ∧ i = .int .i64 (k : Int) ∧ ∃ n, wr = w.drewN n) (fun i _ => nb - (intOf i).toNat)
  case atStart => exact ⟨0, by omega, rfl, 0, rfl⟩
  case round =>
    obtain ⟨k, hk, rfl, n, rfl⟩ := hrel
    by_cases hlt : k < nb
    · obtain rfl := HAB.out (by omega)
      have ck : (w.drewN n).cell? ⟨gb, k, none⟩ = some (.int .u8 (signN m (k : Int))) := HCB.out k hlt
      have hI : (k : Int) < (nb : Int) := by omega
      have d0 : (w.drewN n).cell? ⟨hb, 0, none⟩ = _ := c0
      have d2 : (w.drewN n).cell? ⟨hb, 2, none⟩ = _ := c2
      clear c0 c1 c2 HCB HCN HAB HAN
      generalize hwr : w.drewN n = wr at *
      have HWR : Hid (wr = w.drewN n) := hwr.symm
      clear hwr
      go_wp2_with fail
      go_quiet ((go_at_call 87; exact Calls.quiet_of_same (sign_q _ _ _)))
      go_wp2_with fail
      exact ⟨⟨k + 1, by omega, by go_num, n + nq, by rw [HWR.out]; simp⟩, by simp [intOf]; omega⟩
    · go_wp2_with fail
      go_loopw [4] (fun i wr => ∃ k : Nat, k ≤ nn ∧ i = .int .i64 (k : Int) ∧ ∃ n, wr = w.drewN n) (fun i _ => nn - (intOf i).toNat)
      case atStart => exact ⟨0, by omega, rfl, n, rfl⟩
      case round =>
        obtain ⟨k2, hk2, rfl, n2, rfl⟩ := hrel
        by_cases hlt2 : k2 < nn
        · obtain rfl := HAN.out (by omega)
          have ck := HCN.out k2 hlt2
          have hI : (k2 : Int) < (nn : Int) := by omega
          go_wp2_with fail
          go_quiet (fail)
          go_wp2_with fail
          exact ⟨⟨k2 + 1, by omega, by go_num, n2 + nq, rfl⟩, by simp [intOf]; omega⟩
        · go_wp2_with fail
          go_ret
          exact ⟨rfl, _, rfl⟩
end Go.Proofs.YtoeihlgidakjbaaGreatDoor

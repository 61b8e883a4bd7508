/- The laws' marks: every place of a hold's lists is written. -/
import Derived.Test.YtoeihlgidakjbaaGreatDoorHold2
import Derived.Deep.RegionHeld3
namespace Go.Proofs.YtoeihlgidakjbaaGreatDoor
open Go.RowKit Go.Lib

def marksB (m : Int) (n : Nat) : List Value := (List.range n).map fun (j : Nat) => Value.int .u8 (signN m (j : Int))
theorem marksB_len (m : Int) (n : Nat) : (marksB m n).length = n := by simp [marksB]
theorem marks_set (m : Int) (xs : List Value) (k : Nat) (h : k < xs.length) : (marksB m k ++ xs.drop k).set k (.int .u8 (signN m (k : Int))) = marksB m (k + 1) ++ xs.drop (k + 1) := by
  rw [List.set_append, if_neg (by rw [marksB_len]; omega), marksB_len, Nat.sub_self, List.drop_eq_getElem_cons h, List.set_cons_zero]
  rw [marksB, marksB, List.range_succ, List.map_append, List.append_assoc]
  rfl
theorem nums_set (m : Int) (xs : List Value) (k : Nat) (h : k < xs.length) : (List.replicate k (Value.int .i64 (-m)) ++ xs.drop k).set k (.int .i64 (-m)) = List.replicate (k + 1) (Value.int .i64 (-m)) ++ xs.drop (k + 1) := by
  rw [List.set_append, if_neg (by simp), List.length_replicate, Nat.sub_self, List.drop_eq_getElem_cons h, List.set_cons_zero]
  rw [List.replicate_succ', List.append_assoc]
  rfl

set_option maxHeartbeats 2000000 in
theorem marks_any (hb B : Nat) (vb vn : Value) (nb nn : Nat) (xs ys : List Value) (m : Int) (w : World) (c0 : w.cell? ⟨hb, 0, none⟩ = some vb) (c1 : w.cell? ⟨hb, 1, none⟩ = some vn) (c2 : w.cell? ⟨hb, 2, none⟩ = some (.int .i64 m))
    (ob : w.ownsRow B 5 1 vb nb xs) (on : w.ownsRow B 3 1 vn nn ys) (hbl : hb < w.heap.size) (h1 : vb.ownBlock ≠ some hb) (h2 : vn.ownBlock ≠ some hb) (h3 : vb.ownBlock = none ∨ vb.ownBlock ≠ vn.ownBlock) (m0 : 0 < m) (m1 : m ≤ 4611686018427387904) (hnb : nb ≤ 140737488355000) (hnn : nn ≤ 140737488355000) :
    Calls Tryz.prog 78 #[.pointer (some ⟨hb, 0, none⟩)] w fun r w' => r = .returned (.tuple #[]) ∧ w'.ownsRow B 5 1 vb nb (marksB m nb) ∧ w'.ownsRow B 3 1 vn nn (List.replicate nn (.int .i64 (-m))) ∧ Tch (fun b => vb.ownBlock = some b ∨ vn.ownBlock = some b) w w' := by
  have hxl : xs.length = nb := by simpa using ob.1
  have hyl : ys.length = nn := by simpa using on.1
  obtain ⟨ab, capb, gb, rfl, hab, _, _⟩ := own_shape ob
  obtain ⟨an, capn, gn, rfl, han, _, _⟩ := own_shape on
  have HAB : Hid (0 < nb → ab = some ⟨gb, 0, none⟩) := hab
  have HAN : Hid (0 < nn → an = some ⟨gn, 0, none⟩) := han
  have HXL : Hid (xs.length = nb) := hxl
  have HYL : Hid (ys.length = nn) := hyl
  have H1 : Hid ((Value.slice ab nb capb).ownBlock ≠ some hb) := h1
  have H2 : Hid ((Value.slice an nn capn).ownBlock ≠ some hb) := h2
  have H3 : Hid ((Value.slice ab nb capb).ownBlock = none ∨ (Value.slice ab nb capb).ownBlock ≠ (Value.slice an nn capn).ownBlock) := h3
  clear hab han hxl hyl h1 h2 h3
  go_enter Tryz.func78, Tryz.ntmps78
  go_wp2_with fail
  go_loopw [2] (fun i wr => ∃ k : Nat, k ≤ nb ∧ i = .int .i64 (k : Int) ∧ wr.ownsRow B 5 1 (.slice ab nb capb) nb (marksB m k ++ xs.drop k) ∧ Tch (fun b => (Value.slice ab nb capb).ownBlock = some b) w wr) (fun i _ => nb - (intOf i).toNat)
  case atStart => exact ⟨0, by omega, rfl, by simpa [marksB] using ob, Tch.refl _ _⟩
  case round =>
    obtain ⟨k, hk, rfl, obr, ht⟩ := hrel
    have d0 : wr.cell? ⟨hb, 0, none⟩ = some (.slice ab nb capb) := (World.cell?_of_block (w := w) (a := ⟨hb, 0, none⟩) (ht.block hb hbl H1.out)).trans c0
    have d2 : wr.cell? ⟨hb, 2, none⟩ = some (.int .i64 m) := (World.cell?_of_block (w := w) (a := ⟨hb, 2, none⟩) (ht.block hb hbl H1.out)).trans c2
    by_cases hlt : k < nb
    · obtain rfl := HAB.out (by omega)
      have zk := obr.frozenAt k
      have hne : hb ≠ gb := fun e => H1.out (by rw [e]; rfl)
      have ck : ∃ v, wr.cell? ⟨gb, k, none⟩ = some v := by
        have hx := HXL.out
        rw [obr.cellAt k (by omega)]
        exact ⟨_, List.getElem?_eq_getElem (by rw [List.length_append, marksB_len, List.length_drop]; omega)⟩
      obtain ⟨vk, ck⟩ := ck
      have HW : Hid ((wr.setCell ⟨gb, k, none⟩ (.int .u8 (signN m (k : Int)))).ownsRow B 5 1 (.slice (some ⟨gb, 0, none⟩) nb capb) nb (marksB m (k + 1) ++ xs.drop (k + 1)) ∧ Tch (fun b => (Value.slice (some ⟨gb, 0, none⟩) nb capb).ownBlock = some b) w (wr.setCell ⟨gb, k, none⟩ (.int .u8 (signN m (k : Int))))) := by
        refine ⟨?_, ht.trans (Tch.set _ _ _ _ rfl)⟩
        have h := (obr.stored k (.int .u8 (signN m (k : Int)))).1
        rw [marks_set m xs k (by have := HXL.out; omega)] at h
        exact h
      have hI : (k : Int) < (nb : Int) := by omega
      clear ht obr
      go_wp2_with fail
      go_region_held3 (fun w' => w'.cell? ⟨hb, 0, none⟩ = some (.slice (some ⟨gb, 0, none⟩) nb capb) ∧ w'.cell? ⟨hb, 2, none⟩ = some (.int .i64 m)) (first | exact ⟨d0, d2⟩ | assumption | exact ⟨(set_ne hne).trans d0, (set_ne hne).trans d2⟩) (first | (go_at_call 87; refine (sign_any _ _ _).mono ?_; rintro e wq ⟨rfl, rfl⟩))
      go_wp2_with fail
      exact ⟨⟨k + 1, by omega, by go_num, HW.out.1.drew, HW.out.2.drew⟩, by simp [intOf]; omega⟩
    · obtain ⟨w1, hw1⟩ : ∃ w1, w1 = wr := ⟨_, rfl⟩
      subst hw1
      have e1 : marksB m k ++ xs.drop k = marksB m nb := by
        have e2 : k = nb := by omega
        rw [e2, List.drop_eq_nil_of_le (by have := HXL.out; omega), List.append_nil]
      rw [e1] at obr
      clear e1
      have onr : w1.ownsRow B 3 1 (.slice an nn capn) nn ys := owns_tch on ht (fun b hb1 hb2 => by
        rcases H3.out with h | h
        · rw [h] at hb2; cases hb2
        · exact h (hb2.trans hb1.symm))
      have d1 : w1.cell? ⟨hb, 1, none⟩ = some (.slice an nn capn) := (World.cell?_of_block (w := w) (a := ⟨hb, 1, none⟩) (ht.block hb hbl H1.out)).trans c1
      have hbl2 : hb < w1.heap.size := Nat.lt_of_lt_of_le hbl ht.size
      clear ob on c0 c1 c2
      go_wp2_with fail
      go_loopw [3] (fun i wx => ∃ k : Nat, k ≤ nn ∧ i = .int .i64 (k : Int) ∧ wx.ownsRow B 3 1 (.slice an nn capn) nn (List.replicate k (Value.int .i64 (-m)) ++ ys.drop k) ∧ Tch (fun b => (Value.slice an nn capn).ownBlock = some b) w1 wx) (fun i _ => nn - (intOf i).toNat)
      case atStart => exact ⟨0, by omega, rfl, by simpa using onr, Tch.refl _ _⟩
      case round =>
        obtain ⟨k2, hk2, rfl, onx, htx⟩ := hrel
        have x1 : wr.cell? ⟨hb, 1, none⟩ = some (.slice an nn capn) := (World.cell?_of_block (w := w1) (a := ⟨hb, 1, none⟩) (htx.block hb hbl2 H2.out)).trans d1
        have x2 : wr.cell? ⟨hb, 2, none⟩ = some (.int .i64 m) := (World.cell?_of_block (w := w1) (a := ⟨hb, 2, none⟩) (htx.block hb hbl2 H2.out)).trans d2
        clear d0 d1 d2
        by_cases hlt2 : k2 < nn
        · obtain rfl := HAN.out (by omega)
          have zk := onx.frozenAt k2
          have hne : hb ≠ gn := fun e => H2.out (by rw [e]; rfl)
          have ck : ∃ v, wr.cell? ⟨gn, k2, none⟩ = some v := by
            have hy := HYL.out
            rw [onx.cellAt k2 (by omega)]
            exact ⟨_, List.getElem?_eq_getElem (by rw [List.length_append, List.length_replicate, List.length_drop]; omega)⟩
          obtain ⟨vk, ck⟩ := ck
          have HW : Hid ((wr.setCell ⟨gn, k2, none⟩ (.int .i64 (-m))).ownsRow B 3 1 (.slice (some ⟨gn, 0, none⟩) nn capn) nn (List.replicate (k2 + 1) (Value.int .i64 (-m)) ++ ys.drop (k2 + 1)) ∧ Tch (fun b => (Value.slice (some ⟨gn, 0, none⟩) nn capn).ownBlock = some b) w1 (wr.setCell ⟨gn, k2, none⟩ (.int .i64 (-m)))) := by
            refine ⟨?_, htx.trans (Tch.set _ _ _ _ rfl)⟩
            have h := (onx.stored k2 (.int .i64 (-m))).1
            rw [nums_set m ys k2 (by have := HYL.out; omega)] at h
            exact h
          have hI : (k2 : Int) < (nn : Int) := by omega
          clear htx onx ht obr onr
          go_wp2_with fail
          go_region_held3 (fun w' => w'.cell? ⟨hb, 1, none⟩ = some (.slice (some ⟨gn, 0, none⟩) nn capn) ∧ w'.cell? ⟨hb, 2, none⟩ = some (.int .i64 m)) (first | exact ⟨x1, x2⟩ | assumption | exact ⟨(set_ne hne).trans x1, (set_ne hne).trans x2⟩) (fail)
          go_wp2_with fail
          exact ⟨⟨k2 + 1, by omega, by go_num, HW.out.1.drew, HW.out.2.drew⟩, by simp [intOf]; omega⟩
        · have e1 : List.replicate k2 (Value.int .i64 (-m)) ++ ys.drop k2 = List.replicate nn (Value.int .i64 (-m)) := by
            have e2 : k2 = nn := by omega
            rw [e2, List.drop_eq_nil_of_le (by have := HYL.out; omega), List.append_nil]
          rw [e1] at onx
          have obx : wr.ownsRow B 5 1 (.slice ab nb capb) nb (marksB m nb) := owns_tch obr htx (fun b hb1 hb2 => by
            rcases H3.out with h | h
            · rw [h] at hb1; cases hb1
            · exact h (hb1.trans hb2.symm))
          clear e1
          go_wp2_with fail
          go_end0
          exact ⟨rfl, obx, onx, (ht.mono (fun _ h => .inl h)).trans (htx.mono (fun _ h => .inr h))⟩
end Go.Proofs.YtoeihlgidakjbaaGreatDoor

/- The reference's Items and Terms. The reference's Terms. The laws' nums and unhurt: numbers that are lent. -/
import Derived.Test.YtoeihlgidakjbaaGreatDoorEa15
namespace Go.Proofs.YtoeihlgidakjbaaGreatDoor
open Go.RowKit Go.Lib
def ItemsR (w w' : World) (s : List UInt8) (r : Ending) : Prop := Below w.heap.size w w' ∧
  ((itemsL s = none ∧ r = .returned (.tuple #[.slice none 0 0, .bool false])) ∨ ∃ l v, itemsL s = some l ∧ r = .returned (.tuple #[v, .bool true]) ∧ w'.ownsRow w.heap.size 151 2 v l.length (itemC l))
set_option maxRecDepth 100000 in
set_option maxHeartbeats 4000000 in
theorem items_any (S : ByteArray) (w : World) (hn : S.size ≤ 100000) :
    Calls Tryz.prog 118 #[.string S] w fun r w' => ItemsR w w' S.data.toList r := by
  obtain ⟨i0, hi, hz0, hz1, hz2⟩ := info_parts Tryz.infoT
  by_cases h3 : S.size % 3 ≠ 0
  · have e : itemsL S.data.toList = none := itemsAux_odd _ _ (by simpa using h3)
    have HE : Hid (_) := e
    have hm : (((S.size : Int) % 3) == 0) = false := by simp; omega
    clear e
    go_enter Tryz.func118, Tryz.ntmps118
    go_wp2_with fail
    go_ret2
    exact ⟨Below.refl _ _, .inl ⟨HE.out, rfl⟩⟩
  · have hm : (((S.size : Int) % 3) == 0) = true := by simp; omega
    have H3 : Hid (S.size % 3 = 0) := by show _ = _; omega
    clear h3
    go_enter Tryz.func118, Tryz.ntmps118
    go_wp2_with fail
    have hcc : (((S.size : Int) % 3) != 0) = false := by have := H3.out; simp; omega
    simp only [hcc]
    clear hcc
    go_loopw [4, 5] (fun v i wr => ∃ (k j : Nat) (acc : List (Nat × Nat)) (a : Option Addr) (cap : Nat), j ≤ S.size ∧ i = .int .i64 j ∧ v = .slice a k cap ∧ Hid (j = 3 * k ∧ acc.length = k ∧ wr.ownsRow w.heap.size 151 2 (.slice a k cap) k (itemC acc) ∧ itemsL S.data.toList = (itemsAux (S.data.toList.drop (3 * k)) (lastW acc)).map (acc ++ ·) ∧ Below w.heap.size w wr)) (fun _ i _ => S.size - (intOf i).toNat)
    case atStart =>
      refine ⟨0, 0, [], none, 0, Nat.zero_le _, rfl, rfl, rfl, rfl, World.ownsRow_nil _ _ _ _, ?_, Below.refl _ _⟩
      simp [itemsL, lastW]
    case round =>
      obtain ⟨k, j, acc, a, cap, hj, rfl, rfl, HW⟩ := hrel
      by_cases hlt : j < S.size
      · have hj2 : j + 2 < S.size := by have := HW.out.1; have := H3.out; omega
        have HD : Hid (S.data.toList.drop (3 * k) = S[j] :: S[j + 1] :: S[j + 2] :: S.data.toList.drop (3 * (k + 1))) := by
          show _ = _
          rw [show 3 * (k + 1) = 3 * k + 3 by omega, ← HW.out.1]
          rw [drop_cons' _ j (by simpa using hlt), drop_cons' _ (j + 1) (by simp; omega), drop_cons' _ (j + 2) (by simpa using hj2)]
          rfl
        have HX0 : Hid (∀ x y z : Nat, x = (S[j]).toNat → y = (S[j + 1]).toNat → z = (S[j + 2]).toNat → ((x < 1 ∨ 4 < x ∨ x ≤ lastW acc) → itemsL S.data.toList = none) ∧ (¬ (x < 1 ∨ 4 < x ∨ x ≤ lastW acc) → itemsL S.data.toList = (itemsAux (S.data.toList.drop (3 * (k + 1))) (lastW (acc ++ [(x, y + 256 * z)]))).map ((acc ++ [(x, y + 256 * z)]) ++ ·))) := by
          rintro x y z rfl rfl rfl
          refine ⟨fun h => ?_, fun h => ?_⟩
          · rw [HW.out.2.2.2.1, HD.out, itemsAux_bad _ _ _ _ _ h]; rfl
          · rw [HW.out.2.2.2.1, HD.out, itemsAux_next _ _ _ _ _ h, lastW_snoc, Option.map_map]
            congr 1
            funext l
            simp
        have hI0 : (j : Int) < (S.size : Int) := by omega
        have hx1 : ∀ wx, (Instr.index 9 (.string S) (.int .i64 ((j : Int) + 1))).run Tryz.prog wx = .ok (.int .u8 ((S[j + 1]).toNat : Int)) wx := fun wx => by
          rw [run_index_string wx 9 S .i64 ((j : Int) + 1) Tryz.underlying9, dif_pos (by omega)]; rfl
        have hx2 : ∀ wx, (Instr.index 9 (.string S) (.int .i64 ((j : Int) + 2))).run Tryz.prog wx = .ok (.int .u8 ((S[j + 2]).toNat : Int)) wx := fun wx => by
          rw [run_index_string wx 9 S .i64 ((j : Int) + 2) Tryz.underlying9, dif_pos (by omega)]; rfl
        have hxl := UInt8.toNat_lt S[j]
        have hyl := UInt8.toNat_lt S[j + 1]
        have hzl := UInt8.toNat_lt S[j + 2]
        have HX := HX0.out _ _ _ rfl rfl rfl
        clear HX0 HD
        generalize hxe : (S[j]).toNat = x at *
        generalize (S[j + 1]).toNat = y at *
        generalize (S[j + 2]).toNat = z at *
        have HBAD : Hid ((x < 1 ∨ 4 < x ∨ x ≤ lastW acc) → itemsL S.data.toList = none) := HX.1
        have HGOOD : Hid (_) := HX.2
        clear HX
        by_cases b1 : x < 1
        · go_wp2_with fail
          go_ret2
          exact ⟨HW.out.2.2.2.2, .inl ⟨HBAD.out (.inl b1), rfl⟩⟩
        by_cases b2 : 4 < x
        · go_wp2_with fail
          go_ret2
          exact ⟨HW.out.2.2.2.2, .inl ⟨HBAD.out (.inr (.inl b2)), rfl⟩⟩
        have hw1 : IntKind.i64.wrap ((j : Int) + 1) = (j : Int) + 1 := wrap_in (by omega) (by omega)
        have hw2 : IntKind.i64.wrap ((j : Int) + 2) = (j : Int) + 2 := wrap_in (by omega) (by omega)
        have hw3 : IntKind.i64.wrap (y : Int) = (y : Int) := wrap_in (by omega) (by omega)
        have hw4 : IntKind.i64.wrap (z : Int) = (z : Int) := wrap_in (by omega) (by omega)
        have hw5 : IntKind.i64.wrap (256 * (z : Int)) = 256 * (z : Int) := wrap_in (by omega) (by omega)
        have hw6 : IntKind.i64.wrap ((y : Int) + 256 * (z : Int)) = (y : Int) + 256 * (z : Int) := wrap_in (by omega) (by omega)
        have hB := HW.out.2.2.2.2.size
        have hkb : k ≤ 100000 := by have := HW.out.1; omega
        have OWN : Hid (wr.ownsRow w.heap.size 151 2 (.slice a k cap) k (itemC acc)) := HW.out.2.2.1
        have hlast := lastW_get acc
        rw [HW.out.2.1] at hlast
        obtain hk0 | ⟨q, hkq⟩ : k = 0 ∨ ∃ q, k = q + 1 := by
          cases k with
          | zero => exact .inl rfl
          | succ q => exact .inr ⟨q, rfl⟩
       
        · subst hk0
          go_wp2_with fail
          go_region_held_law (fun _ => True) (first | exact True.intro) ((refine step_append_lies _ (by rfl) (.tmp 43) (.tmp 58) 145 (by rfl) w.heap.size 151 i0 (.agg #[.int .i64 0, .int .i64 0]) 2 16 Tryz.underlying145 hi hz0 hz1 hz2 (by rfl) (by decide) _ 0 (itemC acc) (by rfl) (OWN.out.alloc _).drew ⟨wr.heap.size, 0, none⟩ 1 1 [.int .i64 (x : Int), .int .i64 ((y : Int) + 256 * (z : Int))] (by rfl) (by rfl) (news2 _ _ _ _) (by intro u hu; simp at hu; rcases hu with rfl | rfl <;> rfl) (by omega) (by unfold maxLen; omega) (by omega) (by simp; omega) (wr.heap.size + 1) (by simp) ?_; intro gv capv w1 hown1 hgrow1 hat1 hlt1))
          simp only [List.getElem_toArray, List.getElem_cons_succ, List.getElem_cons_zero, List.set_cons_succ, List.set_cons_zero, List.setIfInBounds_toArray]
          go_wp2_with fail
          all_goals
            refine ⟨⟨1, j + 3, acc ++ [(x, y + 256 * z)], _, _, by omega, by go_num, rfl, by have := HW.out.1; omega, by have := HW.out.2.1; simp [this], ?_, HGOOD.out (by have := HW.out.2.1; rw [show acc = [] from List.eq_nil_of_length_eq_zero this]; show ¬ (x < 1 ∨ 4 < x ∨ x ≤ 0); omega), HW.out.2.2.2.2.trans ((tch_grownD (W0 := wr) hgrow1).below hB (fun k hk => (OWN.out.lt k hk).1))⟩, by simp [intOf]; omega⟩
            have e : itemC (acc ++ [(x, y + 256 * z)]) = itemC acc ++ [.int .i64 (x : Int), .int .i64 ((y : Int) + 256 * (z : Int))] := by simp [itemC]
            rw [e]; exact hown1
        · subst hkq
          obtain ⟨a', cap', g, hv, ha, hc⟩ := own_shape2 OWN.out
          obtain ⟨rfl, rfl⟩ : a = a' ∧ cap = cap' := by injection hv with h1 _ h2; exact ⟨h1, h2⟩
          obtain ⟨rfl, hbg, hgl⟩ := ha (by omega)
          have cl : wr.cell? ⟨g, q * 2, none⟩ = some (.int .i64 (lastW acc : Int)) := hc _ _ (hlast q rfl)
          have hq0 : (0 : Int) < (q : Int) + 1 := by omega
          have hq1 : (0 : Int) < ((q + 1 : Nat) : Int) := by omega
          have hq2 : (q : Int) < (q : Int) + 1 := by omega
          clear hv ha hc hlast
          by_cases b3 : x ≤ lastW acc
          · have b3i : (x : Int) ≤ (lastW acc : Int) := by omega
            generalize hlw : lastW acc = lw at *
            go_wp2_with fail
            go_ret2
            exact ⟨HW.out.2.2.2.2, .inl ⟨HBAD.out (.inr (.inr b3)), rfl⟩⟩
          have b3i : ¬ (x : Int) ≤ (lastW acc : Int) := by omega
          go_wp2_with fail
          go_region_held_law (fun _ => True) (first | exact True.intro) ((refine step_append_lies _ (by rfl) (.tmp 43) (.tmp 58) 145 (by rfl) w.heap.size 151 i0 (.agg #[.int .i64 0, .int .i64 0]) 2 16 Tryz.underlying145 hi hz0 hz1 hz2 (by rfl) (by decide) _ (q + 1) (itemC acc) (by rfl) (OWN.out.alloc _).drew ⟨wr.heap.size, 0, none⟩ 1 1 [.int .i64 (x : Int), .int .i64 ((y : Int) + 256 * (z : Int))] (by rfl) (by rfl) (news2 _ _ _ _) (by intro u hu; simp at hu; rcases hu with rfl | rfl <;> rfl) (by omega) (by unfold maxLen; omega) (by omega) (by simp; omega) (wr.heap.size + 1) (by simp) ?_; intro gv capv w1 hown1 hgrow1 hat1 hlt1))
          simp only [List.getElem_toArray, List.getElem_cons_succ, List.getElem_cons_zero, List.set_cons_succ, List.set_cons_zero, List.setIfInBounds_toArray]
          go_wp2_with fail
          all_goals
            refine ⟨⟨q + 1 + 1, j + 3, acc ++ [(x, y + 256 * z)], _, _, by omega, by go_num, rfl, by have := HW.out.1; omega, by have := HW.out.2.1; simp [this], ?_, HGOOD.out (by omega), HW.out.2.2.2.2.trans ((tch_grownD (W0 := wr) hgrow1).below hB (fun k hk => (OWN.out.lt k hk).1))⟩, by simp [intOf]; omega⟩
            have e : itemC (acc ++ [(x, y + 256 * z)]) = itemC acc ++ [.int .i64 (x : Int), .int .i64 ((y : Int) + 256 * (z : Int))] := by simp [itemC]
            rw [e]; exact hown1
      · have hk : j = S.size := by omega
        have HF : Hid (itemsL S.data.toList = some acc) := by
          have := HW.out.2.2.2.1
          rw [← HW.out.1, hk, List.drop_eq_nil_of_le (by simp)] at this
          rw [itemsAux] at this
          show _ = _
          simpa using this
        clear hk
        go_wp2_with fail
        go_ret2
        refine ⟨HW.out.2.2.2.2, .inr ⟨acc, _, HF.out, rfl, ?_⟩⟩
        rw [HW.out.2.1]; exact HW.out.2.2.1
end Go.Proofs.YtoeihlgidakjbaaGreatDoor
namespace Go.Proofs.YtoeihlgidakjbaaGreatDoor
open Go.RowKit Go.Lib
set_option maxRecDepth 100000 in
set_option maxHeartbeats 4000000 in
theorem terms_any (S : ByteArray) (w : World) (hn : S.size ≤ 100000) :
    Calls Tryz.prog 86 #[.string S] w fun r w' => r = .returned (termsV S.data.toList) ∧ Below w.heap.size w w' := by
  go_enter Tryz.func86, Tryz.ntmps86
  go_wp2_with fail
  refine (items_any S _ hn).mono ?_
  rintro e w1 ⟨hb1, hR⟩
  have k0 : ((w.alloc (.cells #[.int .i64 0, .int .i64 0, .int .i64 0] 74)).alloc (.cells #[.int .i64 0, .int .i64 0, .int .i64 0] 74)).heap[w.heap.size]? = some (.cells #[.int .i64 0, .int .i64 0, .int .i64 0] 74 (0, 0)) := (Below.block ((Below.refl _ _).alloc (Nat.le_refl _) _) w.heap.size (by simp)).trans (heap_alloc_new w _)
  have k1 : ((w.alloc (.cells #[.int .i64 0, .int .i64 0, .int .i64 0] 74)).alloc (.cells #[.int .i64 0, .int .i64 0, .int .i64 0] 74)).heap[w.heap.size + 1]? = some (.cells #[.int .i64 0, .int .i64 0, .int .i64 0] 74 (0, 0)) := heap_alloc2_new w _ _
  have kb : Below w.heap.size w ((w.alloc (.cells #[.int .i64 0, .int .i64 0, .int .i64 0] 74)).alloc (.cells #[.int .i64 0, .int .i64 0, .int .i64 0] 74)) := ((Below.refl _ _).alloc (Nat.le_refl _) _).alloc (by simp) _
  have ks : ((w.alloc (.cells #[.int .i64 0, .int .i64 0, .int .i64 0] 74)).alloc (.cells #[.int .i64 0, .int .i64 0, .int .i64 0] 74)).heap.size = w.heap.size + 2 := by simp
  obtain ⟨l, vl, bl, hl, hr, hi1⟩ : ∃ l vl bl, (itemsL S.data.toList).getD [] = l ∧ e = .returned (.tuple #[vl, .bool bl]) ∧ w1.ownsRow (w.heap.size + 2) 151 2 vl l.length (itemC l) := by
    rcases hR with ⟨h1, h2⟩ | ⟨l, v, h1, h2, h3⟩
    · exact ⟨[], _, _, by rw [h1]; rfl, h2, World.ownsRow_nil _ _ _ _⟩
    · exact ⟨l, _, _, by rw [h1]; rfl, h2, owns_mono h3 (by omega)⟩
  subst hr
  have b0 := (hb1.block _ (by omega)).trans k0
  have b1 := (hb1.block _ (by omega)).trans k1
  have hbw : Below w.heap.size w w1 := kb.trans (hb1.mono (by omega))
  obtain ⟨a, cap, g, rfl, ha, hc⟩ := own_shape2 hi1
  have HL : Hid ((itemsL S.data.toList).getD [] = l) := hl
  have HA : Hid (0 < l.length → a = some ⟨g, 0, none⟩ ∧ w.heap.size + 2 ≤ g ∧ g < w1.heap.size) := ha
  have HC : Hid (∀ j u, (itemC l)[j]? = some u → w1.cell? ⟨g, j, none⟩ = some u) := hc
  have HB0 : Hid (w1.heap[w.heap.size]? = some (.cells #[.int .i64 0, .int .i64 0, .int .i64 0] 74 (0, 0)) ∧ w1.heap[w.heap.size + 1]? = some (.cells #[.int .i64 0, .int .i64 0, .int .i64 0] 74 (0, 0)) ∧ Below w.heap.size w w1) := ⟨b0, b1, hbw⟩
  clear hR k0 k1 kb ks b0 b1 hb1 hbw ha hc hi1 hl
  go_wp2_with fail
  go_loopw [6] (fun i wr => ∃ k : Nat, k ≤ 3 ∧ i = .int .i64 k ∧ Hid (wr.heap[w.heap.size + 1]? = some (.cells (tC k l) 74 (0, 0)) ∧ Tch (fun b => b = w.heap.size + 1) w1 wr)) (fun i _ => 3 - (intOf i).toNat)
  case atStart => exact ⟨0, by omega, rfl, HB0.out.2.1, Tch.refl _ _⟩
  case round =>
    obtain ⟨k, hk, rfl, HW⟩ := hrel
    by_cases hin : k < 3 ∧ k < l.length
    · have hI : (k : Int) < 3 := by omega
      have hI2 : (k : Int) < (l.length : Int) := by omega
      obtain ⟨rfl, hbg, hgl⟩ := HA.out (by omega)
      have cl : wr.cell? ⟨g, k * 2 + 1, none⟩ = some (.int .i64 ((l.getD k (0, 0)).2 : Int)) := by
        refine (World.cell?_of_block (w := w1) (a := ⟨g, k * 2 + 1, none⟩) (HW.out.2.block g hgl (by omega))).trans ?_
        refine HC.out _ _ ?_
        rw [(itemC_get l k hin.2).2, List.getD, List.getElem?_eq_getElem hin.2]; rfl
      obtain ⟨old, hold⟩ : ∃ old, (tC k l)[k]? = some old := by
        rcases (by omega : k = 0 ∨ k = 1 ∨ k = 2) with rfl | rfl | rfl <;> exact ⟨_, rfl⟩
      have c1 : wr.cell? ⟨w.heap.size + 1, k, none⟩ = some old := (blk_cell HW.out.1).trans hold
      have f1 : wr.frozen? ⟨w.heap.size + 1, k, none⟩ = false := blk_free HW.out.1
      clear hold
      generalize hH : (l.getD k (0, 0)).2 = X at *
      have HH : Hid ((l.getD k (0, 0)).2 = X) := hH
      clear hH
      go_wp2_with fail
      have hb := blk_set (k := k) (x := iv (l.getD k (0, 0)).2) HW.out.1
      rw [tC_next k hin.1, HH.out] at hb
      exact ⟨⟨k + 1, by omega, by go_num, hb, HW.out.2.trans (tset _ _ _ _)⟩, by simp [intOf]; omega⟩
    · have HE : Hid (tC k l = #[iv (l.getD 0 (0, 0)).2, iv (l.getD 1 (0, 0)).2, iv (l.getD 2 (0, 0)).2]) := tC_end k l (by omega)
      have b1 := HW.out.1
      rw [HE.out] at b1
      have d0 : wr.cell? ⟨w.heap.size + 1, 0, none⟩ = some (.int .i64 ((l.getD 0 (0, 0)).2 : Int)) := blk_cell b1
      have d1 : wr.cell? ⟨w.heap.size + 1, 1, none⟩ = some (.int .i64 ((l.getD 1 (0, 0)).2 : Int)) := blk_cell b1
      have d2 : wr.cell? ⟨w.heap.size + 1, 2, none⟩ = some (.int .i64 ((l.getD 2 (0, 0)).2 : Int)) := blk_cell b1
      have hsz : w.heap.size < w1.heap.size := blk_lt HB0.out.1
      have b0 := (HW.out.2.block _ hsz (by omega)).trans HB0.out.1
      have e0 : wr.cell? ⟨w.heap.size, 0, none⟩ = some (.int .i64 0) := blk_cell b0
      have e1 : wr.cell? ⟨w.heap.size, 1, none⟩ = some (.int .i64 0) := blk_cell b0
      have e2 : wr.cell? ⟨w.heap.size, 2, none⟩ = some (.int .i64 0) := blk_cell b0
      have f0 : wr.frozen? ⟨w.heap.size, 0, none⟩ = false := blk_free b0
      have f1 : wr.frozen? ⟨w.heap.size, 1, none⟩ = false := blk_free b0
      have f2 : wr.frozen? ⟨w.heap.size, 2, none⟩ = false := blk_free b0
      have B0 : Hid (_) := b0
      clear b0 b1
      have FB : Hid (∀ X0 X1 X2 : Value, Below w.heap.size w (((wr.setCell ⟨w.heap.size, 0, none⟩ X0).setCell ⟨w.heap.size, 1, none⟩ X1).setCell ⟨w.heap.size, 2, none⟩ X2)) := fun X0 X1 X2 =>
        HB0.out.2.2.trans ((((HW.out.2.mono (T := fun b => b = w.heap.size ∨ b = w.heap.size + 1) (fun _ x => .inr x)).trans (((tset wr w.heap.size 0 X0).trans (tset _ _ 1 X1)).trans (tset _ _ 2 X2) |>.mono (fun _ x => .inl x)))).below HB0.out.2.2.size (fun b hb => by omega))
      have FV : Hid (Ending.returned (.agg #[.int .i64 ((l.getD 0 (0, 0)).2 : Int), .int .i64 ((l.getD 1 (0, 0)).2 : Int), .int .i64 ((l.getD 2 (0, 0)).2 : Int)]) = .returned (termsV S.data.toList)) := by
        show _ = _
        unfold termsV termsI
        rw [HL.out]; rfl
      clear HE
      generalize (l.getD 0 (0, 0)).2 = X0 at *
      generalize (l.getD 1 (0, 0)).2 = X1 at *
      generalize (l.getD 2 (0, 0)).2 = X2 at *
      by_cases h3 : k < 3
      · have hI : (k : Int) < 3 := by omega
        have hI2 : ¬ (k : Int) < (l.length : Int) := by omega
        clear hin
        go_wp2_with fail
        have hg := blk_set (k := 2) (x := .int .i64 (X2 : Int)) (blk_set (k := 1) (x := .int .i64 (X1 : Int)) (blk_set (k := 0) (x := .int .i64 (X0 : Int)) B0.out))
        exact ⟨rfl, _, results_cell_row (p := 2) (ty := 74) rfl _ _ w.heap.size 74 _ (0, 0) _ rfl hg Tryz.underlying74 rfl Tryz.size3, FV.out, FB.out _ _ _⟩
      · have hI : ¬ (k : Int) < 3 := by omega
        clear hin
        go_wp2_with fail
        have hg := blk_set (k := 2) (x := .int .i64 (X2 : Int)) (blk_set (k := 1) (x := .int .i64 (X1 : Int)) (blk_set (k := 0) (x := .int .i64 (X0 : Int)) B0.out))
        exact ⟨rfl, _, results_cell_row (p := 2) (ty := 74) rfl _ _ w.heap.size 74 _ (0, 0) _ rfl hg Tryz.underlying74 rfl Tryz.size3, FV.out, FB.out _ _ _⟩
end Go.Proofs.YtoeihlgidakjbaaGreatDoor
namespace Go.Proofs.YtoeihlgidakjbaaGreatDoor
open Go.RowKit Go.Lib
def numsL (l : List Int) (j : Nat) : List Int := l ++ (List.replicate j 7777 ++ List.replicate (8 - j) 0)
theorem numsL_len (l : List Int) (j : Nat) (h : j ≤ 8) : (numsL l j).length = l.length + 8 := by simp [numsL]; omega
theorem numsL_set (l : List Int) (j : Nat) (h : j < 8) : (numsL l j).set (l.length + j) 7777 = numsL l (j + 1) := by
  unfold numsL
  rw [List.set_append_right _ _ (by omega)]
  congr 1
  rw [Nat.add_sub_cancel_left, List.set_append_right _ _ (by simp), List.length_replicate, Nat.sub_self]
  rw [show 8 - j = (8 - (j + 1)) + 1 by omega, List.replicate_succ, List.set_cons_zero]
  rw [List.replicate_succ', List.append_assoc]; rfl
theorem nums_copy {w1 : World} {B g len cap : Nat} {a : Option Addr} {l : List Int} (hl0 : len = l.length) (h : w1.ownsRow B 3 1 (.slice (some ⟨g, 0, none⟩) (len + 8) (len + 8)) (len + 8) (madeCells (Value.int .i64 0).cells ((len + 8) * 1)).toList) (hm : len + 8 ≤ maxLen)
    (hs : 0 < l.length → ∃ ad, a = some ad ∧ ∀ j v, (l.map zv)[j]? = some v → w1.cell? (ad.add j) = some v) :
    ∃ W2, (∀ ty, (Builtin.copy_ #[28, 28] ty #[.slice (some ⟨g, 0, none⟩) (len + 8) (len + 8), .slice a len cap]).run Tryz.prog w1 = .ok (goInt len) W2) ∧ W2.ownsRow B 3 1 (.slice (some ⟨g, 0, none⟩) (len + 8) (len + 8)) (len + 8) ((numsL l 0).map zv) ∧ (∀ w0, Below B w0 w1 → Below B w0 W2) := by
  obtain ⟨hh1, hB⟩ := owns_heap h rfl
  have hsz : (Tryz.prog.info? 3).map (·.size) = some 1 := by kernel_rfl
  have e1 : (madeCells (Value.int .i64 0).cells ((len + 8) * 1)).toList = List.replicate (len + 8) (Value.int .i64 0) := by
    rw [Nat.mul_one]; exact toList_madeCells_one _ _
  have hlen : ((numsL l 0).map zv).length = len + 8 := by rw [List.length_map, numsL_len _ _ (by omega)]; omega
  by_cases h0 : 0 < l.length
  · obtain ⟨ad, rfl, hsrc⟩ := hs h0
    have hr := fun ty => run_copy_row (P := Tryz.prog) w1 28 28 ty 3 g 0 (len + 8) (len + 8) ad len cap _ 3 (l.map zv) Tryz.underlying28 hsz hh1 (by rw [List.length_map, ← hl0]; exact (Nat.min_eq_left (by omega)).symm) hsrc (by simp [madeCells]; omega) (by intro v hv; obtain ⟨x, _, rfl⟩ := List.mem_map.1 hv; rfl)
    rw [List.length_map, ← hl0] at hr
    refine ⟨_, hr, ?_, fun w0 hb => below_setRow hb hB _⟩
    have hl := setRow_heap w1 g _ (List.take 0 (madeCells (Value.int .i64 0).cells ((len + 8) * 1)).toList.toArray.toList ++ l.map zv ++ List.drop (0 + len) (madeCells (Value.int .i64 0).cells ((len + 8) * 1)).toList.toArray.toList).toArray 3 (0, 0) hh1
    have e : (List.take 0 (madeCells (Value.int .i64 0).cells ((len + 8) * 1)).toList.toArray.toList ++ l.map zv ++ List.drop (0 + len) (madeCells (Value.int .i64 0).cells ((len + 8) * 1)).toList.toArray.toList) = (numsL l 0).map zv := by
      simp only [e1]
      simp [numsL, zv]
    rw [e] at hl ⊢
    have := heap_owns hl hB (by rw [hlen]; exact hm)
    rw [hlen] at this
    exact this
  · have hl : l = [] := List.eq_nil_of_length_eq_zero (by omega)
    subst hl
    have hz : len = 0 := hl0
    subst hz
    refine ⟨w1, fun ty => run_copy_none (P := Tryz.prog) w1 28 28 ty 3 _ _ _ _ _ _ Tryz.underlying28 hsz (by simp), ?_, fun w0 hb => hb⟩
    rw [e1] at h
    exact h
set_option maxRecDepth 20000 in
set_option maxHeartbeats 1000000 in
theorem nums_any (v : Value) (l : List Int) (w : World) (hv : IntsAt w v l) (hn : l.length ≤ 17592186043904) :
    Calls Tryz.prog 80 #[v] w fun e w' => e = .returned (.slice (some ⟨w.heap.size, 0, none⟩) (l.length + 8) (l.length + 8)) ∧ w'.ownsRow w.heap.size 3 1 (.slice (some ⟨w.heap.size, 0, none⟩) (l.length + 8) (l.length + 8)) (l.length + 8) ((numsL l 8).map zv) ∧ Below w.heap.size w w' := by
  obtain ⟨i0, hi, hz0, hz1, hz2⟩ := info_parts Tryz.infoI
  obtain ⟨a, cap, g, off, rfl, ha, hc⟩ := hv
  obtain ⟨len, hlen⟩ : ∃ len, len = l.length := ⟨_, rfl⟩
  have hsrc0 : 0 < l.length → ∃ ad, a = some ad ∧ ad.block < w.heap.size ∧ ∀ j v, (l.map zv)[j]? = some v → w.cell? (ad.add j) = some v := by
    intro h0
    obtain ⟨rfl, hg⟩ := ha h0
    refine ⟨_, rfl, hg, fun j v hv => ?_⟩
    rw [List.getElem?_map] at hv
    obtain ⟨x, hx, rfl⟩ := Option.map_eq_some_iff.1 hv
    obtain ⟨hjl, rfl⟩ := List.getElem?_eq_some_iff.1 hx
    have hadd : (⟨g, off, none⟩ : Addr).add j = ⟨g, off + j, none⟩ := by unfold Addr.add; split <;> simp_all
    rw [hadd]; exact hc j hjl
  have HS : Hid (_) := hsrc0
  have HLEN : Hid (len = l.length) := hlen
  rw [← hlen]
  rw [← hlen] at hn
  have hml : len + 8 ≤ maxLen := by unfold maxLen; omega
  clear ha hc hsrc0 hlen
  go_enter Tryz.func80, Tryz.ntmps80
  go_upto_region 2 with (at_make; refine wpList_make_full _ rfl _ _ 28 rfl w.heap.size 3 i0 (.int .i64 0) 1 Tryz.underlying28 hi hz0 hz1 .i64 .i64 _ _ (len + 8) rfl rfl (by omega) (by omega) (by rw [hz2]; omega) hml (Nat.le_refl _) ?_; intro w1 hown1 hgrow1)
  have hb1 : Below w.heap.size w w1 := (Below.refl _ _).grown hgrow1 (Nat.le_refl _) (fun k hk => by cases hk)
  obtain ⟨W2, hcp, hown2, hb2⟩ := nums_copy (cap := cap) (a := a) HLEN.out hown1 hml (fun h0 => by
    obtain ⟨ad, e, hlt, hcl⟩ := HS.out h0
    refine ⟨ad, e, fun j v hv => ?_⟩
    have hbk : (ad.add j).block = ad.block := by unfold Addr.add; split <;> rfl
    exact (hb1.cell (p := ad.add j) (by rw [hbk]; exact hlt)).trans (hcl j v hv))
  have hb2' := hb2 _ hb1
  clear hown1 hgrow1 hb1 hb2
  go_wp2_with fail
  go_loopw [4] (fun i wr => ∃ k : Nat, len ≤ k ∧ k ≤ len + 8 ∧ i = .int .i64 (k : Int) ∧ wr.ownsRow w.heap.size 3 1 (.slice (some ⟨w.heap.size, 0, none⟩) (len + 8) (len + 8)) (len + 8) ((numsL l (k - len)).map zv) ∧ Below w.heap.size w wr) (fun i _ => len + 8 - (intOf i).toNat)
  case atStart => exact ⟨len, by omega, by omega, rfl, by rw [Nat.sub_self]; exact hown2, hb2'⟩
  case round =>
    obtain ⟨k, hk1, hk2, rfl, hown, hbr⟩ := hrel
    clear hown2 hb2' hcp
    by_cases hlt : k < len + 8
    · have zj := hown.frozenAt k
      have hlen : (numsL l (k - len)).length = len + 8 := by rw [numsL_len _ _ (by omega), HLEN.out]
      have cj : ∃ v, wr.cell? ⟨w.heap.size, k, none⟩ = some v := by
        have := hown.cellAt k (by omega)
        rw [this]
        exact ⟨_, List.getElem?_eq_getElem (by simp; omega)⟩
      obtain ⟨vj, cj⟩ := cj
      have HW : Hid (((wr.setCell ⟨w.heap.size, k, none⟩ (.int .i64 7777)).ownsRow w.heap.size 3 1 (.slice (some ⟨w.heap.size, 0, none⟩) (len + 8) (len + 8)) (len + 8) ((numsL l (k + 1 - len)).map zv)) ∧ Below w.heap.size w (wr.setCell ⟨w.heap.size, k, none⟩ (.int .i64 7777))) := by
        refine ⟨?_, hbr.setCell (by simp) _⟩
        have h1 := (hown.stored k (.int .i64 7777)).1
        have e : (.int .i64 7777 : Value) = zv 7777 := rfl
        have hs := numsL_set l (k - len) (by omega)
        rw [show l.length + (k - len) = k from by have := HLEN.out; omega, show k - len + 1 = k + 1 - len from by omega] at hs
        rw [e, ← List.map_set, hs] at h1
        exact h1
      have hI : (k : Int) < (len : Int) + 8 := by omega
      clear hlen
      go_wp2_with fail
      exact ⟨⟨k + 1, by omega, by omega, by go_num, HW.out.1, HW.out.2⟩, by simp [intOf]; omega⟩
    · have e8 : k - len = 8 := by omega
      rw [e8] at hown
      clear e8
      go_wp2_with fail
      go_ret
      exact ⟨rfl, hown, hbr⟩
set_option maxHeartbeats 1000000 in
theorem unhurt_any (v : Value) (l : List Int) (g cap : Nat) (w : World) (hv : IntsAt w v l) (hn : l.length ≤ 17592186043904) (hr : ∀ k (h : k < (numsL l 8).length), w.cell? ⟨g, k, none⟩ = some (.int .i64 ((numsL l 8)[k]))) :
    Calls Tryz.prog 82 #[.slice (some ⟨g, 0, none⟩) (l.length + 8) cap, v] w fun e w' => e = .returned (.bool true) ∧ Below w.heap.size w w' := by
  obtain ⟨a, capv, g2, off, rfl, ha, hc⟩ := hv
  have hlen : (numsL l 8).length = l.length + 8 := numsL_len _ _ (by omega)
  have c1 : ∀ k (h : k < l.length), w.cell? ⟨g, k, none⟩ = some (.int .i64 l[k]) := by
    intro k h
    rw [hr k (by omega)]
    have e : (numsL l 8)[k]'(by omega) = l[k] := by
      simp only [numsL]
      rw [List.getElem_append_left h]
    rw [e]
  have c2 : ∀ k, l.length ≤ k → k < l.length + 8 → w.cell? ⟨g, k, none⟩ = some (.int .i64 7777) := by
    intro k h1 h2
    rw [hr k (by omega)]
    have e : (numsL l 8)[k]'(by omega) = 7777 := by
      simp only [numsL]
      rw [List.getElem_append_right h1, List.getElem_append_left (by simp; omega), List.getElem_replicate]
    rw [e]
  have HC1 : Hid (∀ k (h : k < l.length), w.cell? ⟨g, k, none⟩ = some (.int .i64 l[k])) := c1
  have HC2 : Hid (∀ k, l.length ≤ k → k < l.length + 8 → w.cell? ⟨g, k, none⟩ = some (.int .i64 7777)) := c2
  have HC3 : Hid (∀ k (h : k < l.length), w.cell? ⟨g2, off + k, none⟩ = some (.int .i64 l[k])) := hc
  have HA : Hid (0 < l.length → a = some ⟨g2, off, none⟩ ∧ g2 < w.heap.size) := ha
  clear c1 c2 hlen ha hc hr
  go_enter Tryz.func82, Tryz.ntmps82
  go_wp2_with fail
  go_loopw [5] (fun i wr => ∃ k : Nat, k ≤ l.length + 8 ∧ i = .int .i64 (k : Int) ∧ ∃ n, wr = w.drewN n) (fun i _ => l.length + 8 - (intOf i).toNat)
  case atStart => exact ⟨0, by omega, rfl, 0, rfl⟩
  case round =>
    obtain ⟨k, hk, rfl, n, rfl⟩ := hrel
    by_cases hlt : k < l.length + 8
    · have hI : (k : Int) < (l.length : Int) + 8 := by omega
      by_cases hs : k < l.length
      · obtain ⟨rfl, _⟩ := HA.out (by omega)
        have ck := HC1.out k hs
        have cl := HC3.out k hs
        have hJ : (k : Int) < (l.length : Int) := by omega
        have hd : decide (l.length ≤ k) = false := by simp; omega
        generalize l[k] = x at *
        go_wp2_with fail
        go_quiet (fail)
        go_wp2_with fail
        exact ⟨⟨k + 1, by omega, by go_num, n + nq, rfl⟩, by simp [intOf]; omega⟩
      · have ck := HC2.out k (by omega) hlt
        have hJ : decide ((k : Int) < (l.length : Int)) = false := by simp; omega
        have hd : (l.length : Int) ≤ (k : Int) := by omega
        go_wp2_with fail
        go_quiet (fail)
        go_wp2_with fail
        exact ⟨⟨k + 1, by omega, by go_num, n + nq, rfl⟩, by simp [intOf]; omega⟩
    · go_wp2_with fail
      go_ret
      exact ⟨rfl, below_drewN (Below.refl _ _) _⟩
end Go.Proofs.YtoeihlgidakjbaaGreatDoor

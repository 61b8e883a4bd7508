/- The program's isGood, notGood. The program's takeMagic, heed. The program's isList and IsConfig. -/
import Derived.Test.YtoeihlgidakjbaaGreatDoorPc8
namespace Go.Proofs.YtoeihlgidakjbaaGreatDoor
open Go.RowKit Go.Lib
set_option maxRecDepth 100000 in
set_option maxHeartbeats 1000000 in
theorem isOwn_any (b mb x : Nat) (l : List Nat) (w : World) (hm : MapIs w mb l) (hc : w.cell? ⟨b, 13, none⟩ = some (.map (some mb))) (hx : x < 65536) :
    Calls Tryz.prog 173 #[.pointer (some ⟨b, 0, none⟩), .int .i64 (x : Int)] w fun r w' => r = .returned (.bool (decide (x ∈ l))) ∧ Below w.heap.size w w' := by
  have hl := hm.look x (by omega)
  generalize decide (x ∈ l) = D at *
  clear hm
  go_enter Tryz.func173, Tryz.ntmps173
  go_wp2_with fail
  go_ret
  exact ⟨rfl, (Below.refl _ _).alloc (Nat.le_refl _) _⟩
theorem PX.acc {w : World} {B Bs pb : Nat} {v : PV} {q : Nat × Nat × Nat} {m : RE} {S : List UInt8} (h : PX w B Bs pb v q m S) : w.ownsRow B 3 1 v.va0 m.a0.length (m.a0.map iv) ∧ w.ownsRow B 3 1 v.va1 m.a1.length (m.a1.map iv) ∧ w.ownsRow B 3 1 v.va2 m.a2.length (m.a2.map iv) := by
  have h0 := h.em.own ⟨3, v.va0, m.a0.map iv⟩ (by simp [RE.prow])
  have h1 := h.em.own ⟨3, v.va1, m.a1.map iv⟩ (by simp [RE.prow])
  have h2 := h.em.own ⟨3, v.va2, m.a2.map iv⟩ (by simp [RE.prow])
  simp only [List.length_map] at h0 h1 h2
  exact ⟨h0, h1, h2⟩
theorem PX.wsh {w : World} {B Bs pb : Nat} {v : PV} {q : Nat × Nat × Nat} {m : RE} {S : List UInt8} (h : PX w B Bs pb v q m S) : w.ownsRow B 3 1 v.vw0 m.w0.length (m.w0.map iv) ∧ w.ownsRow B 3 1 v.vw1 m.w1.length (m.w1.map iv) ∧ w.ownsRow B 3 1 v.vw2 m.w2.length (m.w2.map iv) := by
  have h0 := h.em.own ⟨3, v.vw0, m.w0.map iv⟩ (by simp [RE.prow])
  have h1 := h.em.own ⟨3, v.vw1, m.w1.map iv⟩ (by simp [RE.prow])
  have h2 := h.em.own ⟨3, v.vw2, m.w2.map iv⟩ (by simp [RE.prow])
  simp only [List.length_map] at h0 h1 h2
  exact ⟨h0, h1, h2⟩
theorem contains_nat {B : Nat} (v : Value) (l : List Nat) (x : Nat) (w : World) (h : w.ownsRow B 3 1 v l.length (l.map iv)) (h8 : l.length ≤ 8) :
    Calls Tryz.prog 125 #[v, .int .i64 (x : Int)] w fun r w' => r = .returned (.bool (decide (x ∈ l))) ∧ w = w' := by
  have := contains_any v (l.map fun (n : Nat) => (n : Int)) (x : Int) w (ints_own h) (by simp; omega)
  have e : decide ((x : Int) ∈ l.map fun (n : Nat) => (n : Int)) = decide (x ∈ l) := by simp only [mem_ints]
  rw [e] at this
  exact this
set_option maxRecDepth 100000 in
set_option maxHeartbeats 2000000 in
theorem isGood_1 {B Bs pb : Nat} {v : PV} {q : Nat × Nat × Nat} {m : RE} {S : List UInt8} (Y : Nat) (w : World) (h : PX w B Bs pb v q m S) (ok : m.Ok) :
    Calls Tryz.prog 158 #[.pointer (some ⟨pb, 0, none⟩), .agg #[.int .i64 1, .int .i64 (Y : Int)]] w fun r w' => r = .returned (.bool (decide (Y ∈ m.a0))) ∧ Below w.heap.size w w' := by
  have haa := (ok.aa 1).2.1
  replace haa : m.a0.length ≤ 8 := haa
  have BA : Hid (Below w.heap.size w (w.alloc (.cells #[.int .i64 1, .int .i64 (Y : Int)] 189))) := (Below.refl _ _).alloc (Nat.le_refl _) _
  have hA := h.below BA.out
  have HA : Hid (PX (w.alloc (.cells #[.int .i64 1, .int .i64 (Y : Int)] 189)) B Bs pb v q m S) := hA
  have cA : (w.alloc (.cells #[.int .i64 1, .int .i64 (Y : Int)] 189)).cell? ⟨pb, 3, none⟩ = some v.va0 := blk_cell hA.em.blk
  have ba : (w.alloc (.cells #[.int .i64 1, .int .i64 (Y : Int)] 189)).heap[w.heap.size]? = some (.cells #[.int .i64 1, .int .i64 (Y : Int)] 189 (0, 0)) := heap_alloc_new w _
  have x0 : (w.alloc (.cells #[.int .i64 1, .int .i64 (Y : Int)] 189)).cell? ⟨w.heap.size, 0, none⟩ = some (.int .i64 1) := blk_cell ba
  have x1 : (w.alloc (.cells #[.int .i64 1, .int .i64 (Y : Int)] 189)).cell? ⟨w.heap.size, 1, none⟩ = some (.int .i64 (Y : Int)) := blk_cell ba
  have hwi : IntKind.i64.wrap 0 = 0 := by decide
  clear h ok hA ba
  go_enter Tryz.func158, Tryz.ntmps158
  go_upto_region 1 with fail
  generalize w.alloc (.cells #[.int .i64 1, .int .i64 (Y : Int)] 189) = WA at *
  go_wp2_with fail
  have HCT : Hid (∀ j, Calls Tryz.prog 125 #[v.va0, .int .i64 (Y : Int)] (WA.drewN j) fun r w' => r = .returned (.bool (decide (Y ∈ m.a0))) ∧ w' = WA.drewN j) := fun j => (contains_nat v.va0 m.a0 Y (WA.drewN j) (by exact HA.out.acc.1) haa).mono (by rintro e w' ⟨rfl, rfl⟩; exact ⟨rfl, rfl⟩)
  go_quiet ((go_at_call 125; exact Calls.quiet_of_same (HCT.out _)))
  go_wp2_with fail
  go_ret
  exact ⟨rfl, below_drewN BA.out _⟩
set_option maxRecDepth 100000 in
set_option maxHeartbeats 2000000 in
theorem isGood_2 {B Bs pb : Nat} {v : PV} {q : Nat × Nat × Nat} {m : RE} {S : List UInt8} (Y : Nat) (w : World) (h : PX w B Bs pb v q m S) (ok : m.Ok) :
    Calls Tryz.prog 158 #[.pointer (some ⟨pb, 0, none⟩), .agg #[.int .i64 2, .int .i64 (Y : Int)]] w fun r w' => r = .returned (.bool (decide (Y ∈ m.a1))) ∧ Below w.heap.size w w' := by
  have haa := (ok.aa 2).2.1
  replace haa : m.a1.length ≤ 8 := haa
  have BA : Hid (Below w.heap.size w (w.alloc (.cells #[.int .i64 2, .int .i64 (Y : Int)] 189))) := (Below.refl _ _).alloc (Nat.le_refl _) _
  have hA := h.below BA.out
  have HA : Hid (PX (w.alloc (.cells #[.int .i64 2, .int .i64 (Y : Int)] 189)) B Bs pb v q m S) := hA
  have cA : (w.alloc (.cells #[.int .i64 2, .int .i64 (Y : Int)] 189)).cell? ⟨pb, 4, none⟩ = some v.va1 := blk_cell hA.em.blk
  have ba : (w.alloc (.cells #[.int .i64 2, .int .i64 (Y : Int)] 189)).heap[w.heap.size]? = some (.cells #[.int .i64 2, .int .i64 (Y : Int)] 189 (0, 0)) := heap_alloc_new w _
  have x0 : (w.alloc (.cells #[.int .i64 2, .int .i64 (Y : Int)] 189)).cell? ⟨w.heap.size, 0, none⟩ = some (.int .i64 2) := blk_cell ba
  have x1 : (w.alloc (.cells #[.int .i64 2, .int .i64 (Y : Int)] 189)).cell? ⟨w.heap.size, 1, none⟩ = some (.int .i64 (Y : Int)) := blk_cell ba
  have hwi : IntKind.i64.wrap 1 = 1 := by decide
  clear h ok hA ba
  go_enter Tryz.func158, Tryz.ntmps158
  go_upto_region 1 with fail
  generalize w.alloc (.cells #[.int .i64 2, .int .i64 (Y : Int)] 189) = WA at *
  go_wp2_with fail
  have HCT : Hid (∀ j, Calls Tryz.prog 125 #[v.va1, .int .i64 (Y : Int)] (WA.drewN j) fun r w' => r = .returned (.bool (decide (Y ∈ m.a1))) ∧ w' = WA.drewN j) := fun j => (contains_nat v.va1 m.a1 Y (WA.drewN j) (by exact HA.out.acc.2.1) haa).mono (by rintro e w' ⟨rfl, rfl⟩; exact ⟨rfl, rfl⟩)
  go_quiet ((go_at_call 125; exact Calls.quiet_of_same (HCT.out _)))
  go_wp2_with fail
  go_ret
  exact ⟨rfl, below_drewN BA.out _⟩
set_option maxRecDepth 100000 in
set_option maxHeartbeats 2000000 in
theorem isGood_3 {B Bs pb : Nat} {v : PV} {q : Nat × Nat × Nat} {m : RE} {S : List UInt8} (Y : Nat) (w : World) (h : PX w B Bs pb v q m S) (ok : m.Ok) :
    Calls Tryz.prog 158 #[.pointer (some ⟨pb, 0, none⟩), .agg #[.int .i64 3, .int .i64 (Y : Int)]] w fun r w' => r = .returned (.bool (decide (Y ∈ m.a2))) ∧ Below w.heap.size w w' := by
  have haa := (ok.aa 3).2.1
  replace haa : m.a2.length ≤ 8 := haa
  have BA : Hid (Below w.heap.size w (w.alloc (.cells #[.int .i64 3, .int .i64 (Y : Int)] 189))) := (Below.refl _ _).alloc (Nat.le_refl _) _
  have hA := h.below BA.out
  have HA : Hid (PX (w.alloc (.cells #[.int .i64 3, .int .i64 (Y : Int)] 189)) B Bs pb v q m S) := hA
  have cA : (w.alloc (.cells #[.int .i64 3, .int .i64 (Y : Int)] 189)).cell? ⟨pb, 5, none⟩ = some v.va2 := blk_cell hA.em.blk
  have ba : (w.alloc (.cells #[.int .i64 3, .int .i64 (Y : Int)] 189)).heap[w.heap.size]? = some (.cells #[.int .i64 3, .int .i64 (Y : Int)] 189 (0, 0)) := heap_alloc_new w _
  have x0 : (w.alloc (.cells #[.int .i64 3, .int .i64 (Y : Int)] 189)).cell? ⟨w.heap.size, 0, none⟩ = some (.int .i64 3) := blk_cell ba
  have x1 : (w.alloc (.cells #[.int .i64 3, .int .i64 (Y : Int)] 189)).cell? ⟨w.heap.size, 1, none⟩ = some (.int .i64 (Y : Int)) := blk_cell ba
  have hwi : IntKind.i64.wrap 2 = 2 := by decide
  clear h ok hA ba
  go_enter Tryz.func158, Tryz.ntmps158
  go_upto_region 1 with fail
  generalize w.alloc (.cells #[.int .i64 3, .int .i64 (Y : Int)] 189) = WA at *
  go_wp2_with fail
  have HCT : Hid (∀ j, Calls Tryz.prog 125 #[v.va2, .int .i64 (Y : Int)] (WA.drewN j) fun r w' => r = .returned (.bool (decide (Y ∈ m.a2))) ∧ w' = WA.drewN j) := fun j => (contains_nat v.va2 m.a2 Y (WA.drewN j) (by exact HA.out.acc.2.2) haa).mono (by rintro e w' ⟨rfl, rfl⟩; exact ⟨rfl, rfl⟩)
  go_quiet ((go_at_call 125; exact Calls.quiet_of_same (HCT.out _)))
  go_wp2_with fail
  go_ret
  exact ⟨rfl, below_drewN BA.out _⟩
set_option maxRecDepth 100000 in
set_option maxHeartbeats 2000000 in
theorem isGood_any {B Bs pb : Nat} {v : PV} {q : Nat × Nat × Nat} {m : RE} {S : List UInt8} (X Y : Nat) (w : World) (h : PX w B Bs pb v q m S) (ok : m.Ok) (h1 : 1 ≤ X) (h4 : X ≤ 4) (hY : Y < 65536) :
    Calls Tryz.prog 158 #[.pointer (some ⟨pb, 0, none⟩), .agg #[.int .i64 (X : Int), .int .i64 (Y : Int)]] w fun r w' => r = .returned (.bool (!m.isBad (X, Y))) ∧ Below w.heap.size w w' := by
  rcases (by omega : X = 1 ∨ X = 2 ∨ X = 3 ∨ X = 4) with rfl | rfl | rfl | rfl
  · have e : (!m.isBad (1, Y)) = decide (Y ∈ m.a0) := by simp [RE.isBad, RE.acc]
    rw [e]; exact isGood_1 Y w h ok
  · have e : (!m.isBad (2, Y)) = decide (Y ∈ m.a1) := by simp [RE.isBad, RE.acc]
    rw [e]; exact isGood_2 Y w h ok
  · have e : (!m.isBad (3, Y)) = decide (Y ∈ m.a2) := by simp [RE.isBad, RE.acc]
    rw [e]; exact isGood_3 Y w h ok
  · have e : (!m.isBad (4, Y)) = !decide (Y ∈ m.mg) := by simp [RE.isBad]
    rw [e]
    have BA : Hid (Below w.heap.size w (w.alloc (.cells #[.int .i64 4, .int .i64 (Y : Int)] 189))) := (Below.refl _ _).alloc (Nat.le_refl _) _
    have hA := h.below BA.out
    have HO : Hid (_) := isOwn_any pb v.mb Y m.mg _ hA.mp (blk_cell hA.em.blk) hY
    clear h ok hA e
    go_enter Tryz.func158, Tryz.ntmps158
    go_wp2_with fail
    refine Calls.mono HO.out ?_
    rintro e wz ⟨rfl, hb⟩
    have HB : Hid (Below w.heap.size w wz) := BA.out.trans (hb.mono BA.out.size)
    clear hb HO
    cases hD : decide (Y ∈ m.mg)
    · have HD : Hid (decide (Y ∈ m.mg) = false) := hD
      clear hD
      go_wp2_with fail
      go_ret
      refine ⟨?_, HB.out⟩
      rw [HD.out]; rfl
    · have HD : Hid (decide (Y ∈ m.mg) = true) := hD
      clear hD
      go_wp2_with fail
      go_ret
      refine ⟨?_, HB.out⟩
      rw [HD.out]; rfl
theorem RE.bad_take (m : RE) (l : List (Nat × Nat)) (k : Nat) (h : k < l.length) : m.bad (l.take (k + 1)) = m.bad (l.take k) ++ (if m.isBad l[k] then [l[k]] else []) := by
  rw [List.take_add_one, List.getElem?_eq_getElem h]
  exact RE.bad_snoc m _ _
set_option maxRecDepth 100000 in
set_option maxHeartbeats 4000000 in
theorem notGood_any {B Bs pb H : Nat} {v : PV} {q : Nat × Nat × Nat} {m : RE} {S : List UInt8} (vi : Value) (l : List (Nat × Nat)) (w : World) (h : PX w B Bs pb v q m S) (ok : m.Ok) (hl : ItemsOk l) (oi : w.ownsRow H 189 2 vi l.length (itemC l)) :
    Calls Tryz.prog 128 #[.pointer (some ⟨pb, 0, none⟩), vi] w fun r w' => ∃ vb, r = .returned vb ∧ w'.ownsRow w.heap.size 189 2 vb (m.bad l).length (itemC (m.bad l)) ∧ Below w.heap.size w w' := by
  obtain ⟨i0, hi, hz0, hz1, hz2⟩ := info_parts Tryz.infoTI
  obtain ⟨ad, cap0, g, rfl, ha, hc⟩ := own_shape2 oi
  have HA : Hid (0 < l.length → ad = some ⟨g, 0, none⟩ ∧ H ≤ g ∧ g < w.heap.size) := ha
  have HC : Hid (∀ j u, (itemC l)[j]? = some u → w.cell? ⟨g, j, none⟩ = some u) := hc
  have HP : Hid (PX w B Bs pb v q m S) := h
  have OK : Hid (m.Ok) := ok
  have HL : Hid (ItemsOk l) := hl
  have hll := hl.1
  clear ha hc oi h ok hl
  go_enter Tryz.func128, Tryz.ntmps128
  go_wp2_with fail
  go_loopw [5, 10] (fun vn i wr => ∃ (k n : Nat) (a : Option Addr) (cap : Nat), k ≤ l.length ∧ n ≤ k ∧ vn = .slice a n cap ∧ i = .int .i64 k ∧ Hid (n = (m.bad (l.take k)).length ∧ wr.ownsRow w.heap.size 189 2 (.slice a n cap) n (itemC (m.bad (l.take k))) ∧ Below w.heap.size w wr)) (fun _ i _ => l.length - (intOf i).toNat)
  case atStart => exact ⟨0, 0, none, 0, by omega, by omega, rfl, rfl, rfl, World.ownsRow_nil _ _ _ _, Below.refl _ _⟩
  case round =>
    obtain ⟨k, n, a, cap, hk, hnk, rfl, rfl, HW⟩ := hrel
    by_cases hlk : k < l.length
    · have hI : (k : Int) < (l.length : Int) := by omega
      obtain ⟨rfl, hg1, hg2⟩ := HA.out (by omega)
      obtain ⟨X, hX⟩ : ∃ X, X = (l[k]).1 := ⟨_, rfl⟩
      obtain ⟨Y, hY⟩ : ∃ Y, Y = (l[k]).2 := ⟨_, rfl⟩
      have hxy : l[k] = (X, Y) := by rw [hX, hY]
      have hrng := HL.out.2 _ (List.getElem_mem hlk)
      rw [hxy] at hrng
      have HT : Hid (m.bad (l.take (k + 1)) = m.bad (l.take k) ++ (if m.isBad (X, Y) then [(X, Y)] else [])) := by
        show _ = _
        rw [RE.bad_take m l k hlk, hxy]
      have q0 : wr.cell? ⟨g, k * 2, none⟩ = some (.int .i64 (X : Int)) := (HW.out.2.2.cell (p := ⟨g, k * 2, none⟩) hg2).trans (HC.out _ _ (by rw [(itemC_get l k hlk).1, hX]))
      have q1 : wr.cell? ⟨g, k * 2 + 1, none⟩ = some (.int .i64 (Y : Int)) := (HW.out.2.2.cell (p := ⟨g, k * 2 + 1, none⟩) hg2).trans (HC.out _ _ (by rw [(itemC_get l k hlk).2, hY]))
      have BA : Hid (Below wr.heap.size wr (wr.alloc (.cells #[.int .i64 (X : Int), .int .i64 (Y : Int)] 189))) := (Below.refl _ _).alloc (Nat.le_refl _) _
      have RA : Hid ((wr.alloc (.cells #[.int .i64 (X : Int), .int .i64 (Y : Int)] 189)).heap[wr.heap.size]? = some (.cells #[.int .i64 (X : Int), .int .i64 (Y : Int)] 189 (0, 0))) := heap_alloc_new wr _
      have zA : (wr.alloc (.cells #[.int .i64 (X : Int), .int .i64 (Y : Int)] 189)).heap.size = wr.heap.size + 1 := by simp
      have hzr := HW.out.2.2.size
      have HG : Hid (_) := isGood_any X Y _ ((HP.out.below HW.out.2.2).below BA.out) OK.out hrng.1 hrng.2.1 hrng.2.2
      clear hX hY hxy
      go_wp2_with fail
      refine Calls.mono HG.out ?_
      rintro e w1 ⟨rfl, hb1⟩
      have hz1' := hb1.size
      have ra := (hb1.block _ (by omega)).trans RA.out
      have x0 : w1.cell? ⟨wr.heap.size, 0, none⟩ = some (.int .i64 (X : Int)) := blk_cell ra
      have x1 : w1.cell? ⟨wr.heap.size, 1, none⟩ = some (.int .i64 (Y : Int)) := blk_cell ra
      have HB1 : Hid (Below w.heap.size w w1) := HW.out.2.2.trans ((BA.out.mono hzr).trans (hb1.mono (by omega)))
      have O1 : Hid (w1.ownsRow w.heap.size 189 2 (.slice a n cap) n (itemC (m.bad (l.take k)))) := owns_below (owns_below HW.out.2.1 BA.out) hb1
      have HN : Hid (n = (m.bad (l.take k)).length) := HW.out.1
      clear hb1 HG HW ra q0 q1
      cases hbad : m.isBad (X, Y)
      · have HT2 : Hid (m.bad (l.take (k + 1)) = m.bad (l.take k)) := by show _ = _; rw [HT.out, hbad]; simp
        clear HT
        go_wp2_with fail
        refine ⟨⟨k + 1, n, a, cap, by omega, by omega, rfl, by go_num, ?_, ?_, HB1.out⟩, by simp [intOf]; omega⟩
        · rw [HT2.out]; exact HN.out
        · rw [HT2.out]; exact O1.out
      · have HT2 : Hid (m.bad (l.take (k + 1)) = m.bad (l.take k) ++ [(X, Y)]) := by show _ = _; rw [HT.out, hbad]; simp
        clear HT
        have hzz := HB1.out.size
        go_wp2_with (at_builtin; go_must (refine wpList_append_lies _ rfl (.tmp 18) (.tmp 20) 163 rfl w.heap.size 189 i0 (.agg #[.int .i64 0, .int .i64 0]) 2 16 Tryz.underlying163 hi hz0 hz1 hz2 rfl (by decide) _ n (itemC (m.bad (l.take k))) rfl (O1.out.alloc _) ⟨w1.heap.size, 0, none⟩ 1 1 [.int .i64 (X : Int), .int .i64 (Y : Int)] rfl rfl (news2 _ _ _ _) (by intro u hu; simp at hu; rcases hu with rfl | rfl <;> rfl) (by omega) (by unfold maxLen; omega) (by omega) (by simp; omega) _ rfl ?_; intro gv capv w2 hown1 hgrow1 hat1 hlt1))
        refine ⟨⟨k + 1, n + 1, _, _, by omega, by omega, rfl, by go_num, ?_, ?_, ?_⟩, by simp [intOf]; omega⟩
        · rw [HT2.out, List.length_append, ← HN.out]; rfl
        · rw [HT2.out]
          have e : itemC (m.bad (l.take k) ++ [(X, Y)]) = itemC (m.bad (l.take k)) ++ [.int .i64 (X : Int), .int .i64 (Y : Int)] := by simp [itemC]
          rw [e]; exact hown1
        · exact below_own HB1.out HB1.out.size O1.out _ hgrow1
    · have ht : l.take k = l := List.take_of_length_le (by omega)
      have hI : ¬ (k : Int) < (l.length : Int) := by omega
      have HF : Hid (wr.ownsRow w.heap.size 189 2 (.slice a n cap) (m.bad l).length (itemC (m.bad l)) ∧ Below w.heap.size w wr) := by
        have := HW.out
        rw [ht] at this
        rw [← this.1]
        exact this.2
      clear HW ht
      go_wp2_with fail
      go_ret
      exact ⟨_, rfl, HF.out⟩
end Go.Proofs.YtoeihlgidakjbaaGreatDoor
namespace Go.Proofs.YtoeihlgidakjbaaGreatDoor
open Go.RowKit Go.Lib
set_option maxRecDepth 100000 in
set_option maxHeartbeats 1000000 in
theorem takeMagic_any (b mb x : Nat) (old : Value) (l : List Nat) (w : World) (hm : MapIs w mb l) (hne : mb ≠ b) (c12 : w.cell? ⟨b, 12, none⟩ = some old) (f12 : w.frozen? ⟨b, 12, none⟩ = false) (c13 : w.cell? ⟨b, 13, none⟩ = some (.map (some mb))) (hx : x < 65536) (hl : l.length ≤ 17000000000000) :
    Calls Tryz.prog 99 #[.pointer (some ⟨b, 0, none⟩), .int .i64 (x : Int)] w fun r w' => r = .returned (.tuple #[]) ∧ MapIs w' mb (l ++ [x]) ∧ (w.setCell ⟨b, 12, none⟩ (.int .i64 (x : Int))).grownBy w' (some mb) := by
  have hm1 : MapIs (w.setCell ⟨b, 12, none⟩ (.int .i64 (x : Int))) mb l := hm.blk ((tset w b 12 _).block mb hm.lt hne)
  obtain ⟨wz, hrun, hmz, hgz⟩ := hm1.put x (by omega) (by omega)
  have HZ : Hid (MapIs wz mb (l ++ [x]) ∧ (w.setCell ⟨b, 12, none⟩ (.int .i64 (x : Int))).grownBy wz (some mb)) := ⟨hmz, hgz⟩
  clear hm hm1 hmz hgz
  go_enter Tryz.func99, Tryz.ntmps99
  go_wp2_with fail
  go_end0
  exact ⟨rfl, HZ.out⟩
theorem mag_snoc (m : RE) (x : Nat) : ({ m with mg := m.mg ++ [x] } : RE).mag = x := by simp [RE.mag]
theorem PX.magic {w w' : World} {B Bs pb : Nat} {v : PV} {q : Nat × Nat × Nat} {m : RE} {S : List UInt8} (x : Nat) (h : PX w B Bs pb v q m S) (hm : MapIs w' v.mb (m.mg ++ [x])) (hg : (w.setCell ⟨pb, 12, none⟩ (.int .i64 (x : Int))).grownBy w' (some v.mb)) :
    PX w' B Bs pb v q { m with mg := m.mg ++ [x] } S ∧ ES w w' pb v.vals v.vals := by
  have hne : v.mb ≠ pb := fun e => h.mn (.inl e)
  have t1 := tset w pb 12 (.int .i64 (x : Int))
  have t2 : Tch (fun b => b = v.mb) (w.setCell ⟨pb, 12, none⟩ (.int .i64 (x : Int))) w' := ⟨hg.os, hg.tape, hg.output, hg.size, fun b hb hs => hg.block b hb (fun e => hs (Option.some.inj e))⟩
  have p1 := h.em.num (cs' := ({ m with mg := m.mg ++ [x] } : RE).pcl v q) ((blk_set (k := 12) (x := .int .i64 (x : Int)) h.em.blk).trans (by
    have e := mag_snoc m x
    simp only [RE.pcl, e]
    rfl)) t1
  refine ⟨⟨(p1.1.of_tch t2 (fun b hb e => ?_)), hm, h.mg, h.mn, h.t0, h.s1⟩, ⟨(t1.mono (fun b e => .inl e)).trans (t2.mono (fun b e => inV.2 (.inr e))), fun b hb => .inl hb⟩⟩
  subst e
  exact h.mn hb
theorem RE.takeAll_take (m : RE) (l : List (Nat × Nat)) (k : Nat) (h : k < l.length) : m.takeAll (l.take (k + 1)) = (m.takeAll (l.take k)).take1 l[k] := by
  rw [List.take_add_one, List.getElem?_eq_getElem h]
  exact RE.takeAll_snoc m _ _
end Go.Proofs.YtoeihlgidakjbaaGreatDoor
namespace Go.Proofs.YtoeihlgidakjbaaGreatDoor
open Go.RowKit Go.Lib
set_option maxRecDepth 100000 in
set_option maxHeartbeats 2000000 in
theorem tlist_any (v : Value) (l : List Int) (w : World) (hi : IntsAt w v l) (hr : ∃ a n c, v = .slice a n c ∧ n ≤ c) :
    Calls Tryz.prog 98 #[v] w fun r w' => r = .returned (.bool (isL l)) ∧ w = w' := by
  obtain ⟨a, cap, g, off, rfl, ha, hc⟩ := hi
  obtain ⟨_, _, _, er, hcap⟩ := hr
  cases er
  by_cases h0 : l.length = 0
  · have e : isL l = false := by unfold isL; rw [decide_eq_false]; intro h; have := h.1; omega
    rw [e, h0]
    clear ha hc
    go_enter Tryz.func98, Tryz.ntmps98
    go_wp2_with fail
    go_ret
    exact ⟨rfl, rfl⟩
  · by_cases h8 : 8 < l.length
    · have e : isL l = false := by unfold isL; rw [decide_eq_false]; intro h; have := h.2.1; omega
      rw [e]
      have h8i : (8 : Int) < (l.length : Int) := by omega
      have h1i : ¬ (l.length : Int) < 1 := by omega
      clear ha hc
      go_enter Tryz.func98, Tryz.ntmps98
      go_wp2_with fail
      go_ret
      exact ⟨rfl, rfl⟩
    · obtain ⟨rfl, hg⟩ := ha (by omega)
      have h8i : ¬ (8 : Int) < (l.length : Int) := by omega
      have h1i : ¬ (l.length : Int) < 1 := by omega
      have HC : Hid (∀ k (h : k < l.length), w.cell? ⟨g, off + k, none⟩ = some (.int .i64 l[k])) := hc
      clear ha hc
      go_enter Tryz.func98, Tryz.ntmps98
      go_wp2_with fail
      go_loop [15] (fun i => ∃ k : Nat, k ≤ l.length ∧ i = .int .i64 (k : Int) ∧ Hid ((∀ j, j < k → ∃ x, l[j]? = some x ∧ 0 ≤ x ∧ x ≤ 255) ∧ ∀ i j, i < j → j < k → l[i]? ≠ l[j]?)) (fun i => l.length - (intOf i).toNat)
      case atStart => exact ⟨0, by omega, rfl, fun j hj => by omega, fun i j _ hj => by omega⟩
      case round =>
        obtain ⟨k, hk, rfl, HW⟩ := hrel
        by_cases hlt : k < l.length
        · have hI : (k : Int) < (l.length : Int) := by omega
          have ck := HC.out k hlt
          have HX : Hid (l[k]? = some l[k]) := List.getElem?_eq_getElem hlt
          generalize l[k] = x at *
          by_cases hx0 : x < 0
          · have E : Hid (isL l = false) := by
              show _ = _
              unfold isL; rw [decide_eq_false]; intro h
              have := (h.2.2.1 x (List.mem_of_getElem? HX.out)).1; omega
            go_wp2_with fail
            go_ret
            exact ⟨by rw [E.out]; rfl, rfl⟩
          · by_cases hx1 : 255 < x
            · have E : Hid (isL l = false) := by
                show _ = _
                unfold isL; rw [decide_eq_false]; intro h
                have := (h.2.2.1 x (List.mem_of_getElem? HX.out)).2; omega
              go_wp2_with fail
              go_ret
              exact ⟨by rw [E.out]; rfl, rfl⟩
            · have hkc : k ≤ cap := by omega
              have hkc' : (k : Int) ≤ (cap : Int) := by omega
              have hlen : (l.take k).length = k := by rw [List.length_take]; omega
              have HT : Hid (IntsAt w (.slice (some ⟨g, off, none⟩) k cap) (l.take k)) := by
                refine ⟨some ⟨g, off, none⟩, cap, g, off, by rw [hlen], fun _ => ⟨rfl, hg⟩, fun j hj => ?_⟩
                rw [hlen] at hj
                rw [List.getElem_take]
                exact HC.out j (by omega)
              go_wp2_with fail
              refine (contains_any _ (l.take k) x w HT.out (by rw [hlen]; omega)).mono ?_
              rintro e w1 ⟨rfl, rfl⟩
              by_cases hm : x ∈ l.take k
              · have E : Hid (isL l = false) := by
                  show _ = _
                  unfold isL; rw [decide_eq_false]; intro h
                  obtain ⟨j, hj⟩ := List.getElem?_of_mem hm
                  have hjk : j < k := by have := (List.getElem?_eq_some_iff.1 hj).1; omega
                  rw [List.getElem?_take_of_lt hjk] at hj
                  exact h.2.2.2 j k hjk hlt (hj.trans HX.out.symm)
                rw [decide_eq_true hm]
                go_wp2_with fail
                go_ret
                exact ⟨by rw [E.out]; rfl, rfl⟩
              · rw [decide_eq_false hm]
                go_wp2_with fail
                go_round
                case rel =>
                  refine ⟨k + 1, by omega, by go_num, ?_, ?_⟩
                  · intro j hj
                    rcases (by omega : j < k ∨ j = k) with h | rfl
                    · exact HW.out.1 j h
                    · exact ⟨x, HX.out, by omega, by omega⟩
                  · intro i j hij hj
                    rcases (by omega : j < k ∨ j = k) with h | rfl
                    · exact HW.out.2 i j hij h
                    · rw [HX.out]
                      intro he
                      refine hm (List.mem_of_getElem? (i := i) ?_)
                      rw [List.getElem?_take_of_lt hij]; exact he
                case measure => simp [intOf]; omega
        · have hnI : ¬ (k : Int) < (l.length : Int) := by omega
          have hkl : k = l.length := by omega
          have E : Hid (isL l = true) := by
            show _ = _
            unfold isL; rw [decide_eq_true]
            subst hkl
            refine ⟨by omega, by omega, ?_, HW.out.2⟩
            intro x hx
            obtain ⟨j, hj⟩ := List.getElem?_of_mem hx
            obtain ⟨y, h1, h2, h3⟩ := HW.out.1 j (List.getElem?_eq_some_iff.1 hj).1
            rw [hj] at h1; cases h1; exact ⟨h2, h3⟩
          clear hkl
          go_wp2_with fail
          go_ret
          exact ⟨by rw [E.out]; rfl, rfl⟩
def CfgOk (L : Nat → List Int) (mg : Int) : Prop := (∀ i, i < 6 → IsL (L i)) ∧ 1 ≤ mg ∧ mg ≤ 65535
def CfgR (L : Nat → List Int) (mg : Int) (r : Ending) : Prop := ∃ b, r = .returned (.bool b) ∧ (b = true ↔ CfgOk L mg)
set_option maxRecDepth 100000 in
set_option maxHeartbeats 2000000 in
theorem isConfig_any (X : Nat → Value) (L : Nat → List Int) (mg : Int) (w : World) (hX : ∀ i, i < 6 → IntsAt w (X i) (L i)) (hR : ∀ i, i < 6 → ∃ a n c, X i = .slice a n c ∧ n ≤ c) :
    Calls Tryz.prog 70 #[.agg #[X 0, X 1, X 2, X 3, X 4, X 5, .int .i64 mg]] w fun r w' => CfgR L mg r ∧ Below w.heap.size w w' := by
  have HX : Hid (∀ i, i < 6 → IntsAt w (X i) (L i)) := hX
  have HR : Hid (∀ i, i < 6 → ∃ a n c, X i = .slice a n c ∧ n ≤ c) := hR
  have HB : Hid (Below w.heap.size w (w.alloc (.cells #[X 0, X 1, X 2, X 3, X 4, X 5, .int .i64 mg] 31))) := (Below.refl _ _).alloc (Nat.le_refl _) _
  have HCELL : Hid (∀ i, (w.alloc (.cells #[X 0, X 1, X 2, X 3, X 4, X 5, .int .i64 mg] 31)).cell? ⟨w.heap.size, i, none⟩ = #[X 0, X 1, X 2, X 3, X 4, X 5, Value.int .i64 mg][i]?) := fun i => World.cell?_alloc_at _ _ _ i rfl
  clear hX hR
  by_cases h1 : mg < 1
  · go_enter Tryz.func70, Tryz.ntmps70
    go_wp2_with fail
    go_ret
    exact ⟨⟨false, rfl, by simp only [Bool.false_eq_true, false_iff]; intro h; have := h.2.1; omega⟩, HB.out⟩
  by_cases h2 : 65535 < mg
  · go_enter Tryz.func70, Tryz.ntmps70
    go_wp2_with fail
    go_ret
    exact ⟨⟨false, rfl, by simp only [Bool.false_eq_true, false_iff]; intro h; have := h.2.2; omega⟩, HB.out⟩
  go_enter Tryz.func70, Tryz.ntmps70
  go_wp2_with fail
  go_loop [12] (fun i => ∃ k : Nat, k ≤ 3 ∧ i = .int .i64 (k : Int) ∧ Hid (∀ j, j < k → IsL (L j) ∧ IsL (L (3 + j)))) (fun i => 3 - (intOf i).toNat)
  case atStart => exact ⟨0, by omega, rfl, fun j hj => by omega⟩
  case round =>
    obtain ⟨k, hk, rfl, HW⟩ := hrel
    by_cases hlt : k < 3
    · have hI : (k : Int) < 3 := by omega
      have x1 : (w.alloc (.cells #[X 0, X 1, X 2, X 3, X 4, X 5, .int .i64 mg] 31)).cell? ⟨w.heap.size, k, none⟩ = some (X k) := (HCELL.out k).trans (by rcases (by omega : k = 0 ∨ k = 1 ∨ k = 2) with rfl | rfl | rfl <;> rfl)
      have x2 : (w.alloc (.cells #[X 0, X 1, X 2, X 3, X 4, X 5, .int .i64 mg] 31)).cell? ⟨w.heap.size, 3 + k, none⟩ = some (X (3 + k)) := (HCELL.out (3 + k)).trans (by rcases (by omega : k = 0 ∨ k = 1 ∨ k = 2) with rfl | rfl | rfl <;> rfl)
      have T1 : Hid (_) := tlist_any (X k) (L k) _ ((HX.out k (by omega)).below HB.out) (HR.out k (by omega))
      have T2 : Hid (_) := tlist_any (X (3 + k)) (L (3 + k)) _ ((HX.out (3 + k) (by omega)).below HB.out) (HR.out (3 + k) (by omega))
      generalize (w.alloc (.cells #[X 0, X 1, X 2, X 3, X 4, X 5, .int .i64 mg] 31)) = W at *
      go_wp2_with fail
      refine Calls.mono T1.out ?_
      rintro e w1 ⟨rfl, rfl⟩
      by_cases ha : IsL (L k)
      · have ea : isL (L k) = true := decide_eq_true ha
        rw [ea]
        go_wp2_with fail
        refine Calls.mono T2.out ?_
        rintro e w1 ⟨rfl, rfl⟩
        by_cases hb : IsL (L (3 + k))
        · have eb : isL (L (3 + k)) = true := decide_eq_true hb
          rw [eb]
          go_wp2_with fail
          go_round
          case rel =>
            refine ⟨k + 1, by omega, by go_num, fun j hj => ?_⟩
            rcases (by omega : j < k ∨ j = k) with h | rfl
            · exact HW.out j h
            · exact ⟨ha, hb⟩
          case measure => simp [intOf]; omega
        · have eb : isL (L (3 + k)) = false := decide_eq_false hb
          rw [eb]
          go_wp2_with fail
          go_ret
          exact ⟨⟨false, rfl, by simp only [Bool.false_eq_true, false_iff]; intro h; exact hb (h.1 _ (by omega))⟩, HB.out⟩
      · have ea : isL (L k) = false := decide_eq_false ha
        rw [ea]
        go_wp2_with fail
        go_ret
        exact ⟨⟨false, rfl, by simp only [Bool.false_eq_true, false_iff]; intro h; exact ha (h.1 _ (by omega))⟩, HB.out⟩
    · have hnI : ¬ (k : Int) < 3 := by omega
      go_wp2_with fail
      go_ret
      refine ⟨⟨true, rfl, ⟨fun _ => ⟨fun i hi => ?_, by omega, by omega⟩, fun _ => rfl⟩⟩, HB.out⟩
      rcases (by omega : i < 3 ∨ 3 ≤ i) with x | x
      · exact (HW.out i (by omega)).1
      · have := (HW.out (i - 3) (by omega)).2
        rwa [show 3 + (i - 3) = i by omega] at this
end Go.Proofs.YtoeihlgidakjbaaGreatDoor

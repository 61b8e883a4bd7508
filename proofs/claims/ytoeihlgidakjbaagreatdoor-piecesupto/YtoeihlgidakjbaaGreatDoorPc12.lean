/- The program's Options. The program's hints: nextHint, naming. The program's naming: the data of a Nak. -/
import Derived.Test.YtoeihlgidakjbaaGreatDoorPc7
import Derived.Test.YtoeihlgidakjbaaGreatDoorPc8
import Derived.BigRegion
namespace Go.Proofs.YtoeihlgidakjbaaGreatDoor
open Go.RowKit Go.Lib
def oC (k a b c : Nat) : Array Value := #[.int .i64 ((if 0 < k then a else 0 : Nat) : Int), .int .i64 ((if 1 < k then b else 0 : Nat) : Int), .int .i64 ((if 2 < k then c else 0 : Nat) : Int)]
set_option maxRecDepth 100000 in
set_option maxHeartbeats 4000000 in
theorem options_any {H : Nat} (vi : Value) (a b c d : Nat) (w : World) (o : w.ownsRow H 189 2 vi 4 (itemC [(1, a), (2, b), (3, c), (4, d)])) :
    Calls Tryz.prog 175 #[vi] w fun r w' => r = .returned (.agg #[iv a, iv b, iv c]) ∧ Below w.heap.size w w' := by
  obtain ⟨ad, cap, g, rfl, ha, hc⟩ := own_shape2 o
  obtain ⟨rfl, hg1, hg2⟩ := ha (by omega)
  have HC : Hid (∀ j u, (itemC [(1, a), (2, b), (3, c), (4, d)])[j]? = some u → w.cell? ⟨g, j, none⟩ = some u) := hc
  clear ha hc o
  go_enter Tryz.func175, Tryz.ntmps175
  go_wp2_with fail
  go_loopw [7] (fun i wr => ∃ k : Nat, k ≤ 4 ∧ i = .int .i64 k ∧ Hid (wr.heap[w.heap.size]? = some (.cells (oC k a b c) 74 (0, 0)) ∧ Below w.heap.size w wr)) (fun i _ => 4 - (intOf i).toNat)
  case atStart => exact ⟨0, by omega, rfl, heap_alloc_new w _, (Below.refl _ _).alloc (Nat.le_refl _) _⟩
  case round =>
    obtain ⟨k, hk, rfl, HW⟩ := hrel
    have hlt := blk_lt HW.out.1
    rcases (by omega : k = 0 ∨ k = 1 ∨ k = 2 ∨ k = 3 ∨ k = 4) with rfl | rfl | rfl | rfl | rfl
    · have q0 : wr.cell? ⟨g, 0, none⟩ = some (.int .i64 1) := (HW.out.2.cell (p := ⟨g, 0, none⟩) hg2).trans (HC.out 0 _ rfl)
      have q1 : wr.cell? ⟨g, 1, none⟩ = some (.int .i64 (a : Int)) := (HW.out.2.cell (p := ⟨g, 1, none⟩) hg2).trans (HC.out 1 _ rfl)
      have BA : Hid (Below wr.heap.size wr (wr.alloc (.cells #[.int .i64 1, .int .i64 (a : Int)] 189))) := (Below.refl _ _).alloc (Nat.le_refl _) _
      have ra : Hid ((wr.alloc (.cells #[.int .i64 1, .int .i64 (a : Int)] 189)).heap[w.heap.size]? = some (.cells (oC 0 a b c) 74 (0, 0))) := (BA.out.block _ hlt).trans HW.out.1
      have x1 : (wr.alloc (.cells #[.int .i64 1, .int .i64 (a : Int)] 189)).cell? ⟨w.heap.size, 0, none⟩ = some (.int .i64 0) := (blk_cell ra.out).trans rfl
      have f1 : (wr.alloc (.cells #[.int .i64 1, .int .i64 (a : Int)] 189)).frozen? ⟨w.heap.size, 0, none⟩ = false := blk_free ra.out
      go_wp2_with fail
      exact ⟨⟨1, by omega, by go_num, (((Below.refl _ (wr.setCell ⟨w.heap.size, 0, none⟩ (.int .i64 (a : Int)))).alloc (Nat.le_refl _) _).block _ (by simpa [World.setCell] using hlt)).trans (blk_set (k := 0) (x := .int .i64 (a : Int)) HW.out.1), (HW.out.2.trans ((tset wr w.heap.size 0 _).below HW.out.2.size (fun b hb => by omega))).trans (((Below.refl _ _).alloc (Nat.le_refl _) _).mono (by simpa [World.setCell] using HW.out.2.size))⟩, by simp [intOf]⟩
    · have q0 : wr.cell? ⟨g, 2, none⟩ = some (.int .i64 2) := (HW.out.2.cell (p := ⟨g, 2, none⟩) hg2).trans (HC.out 2 _ rfl)
      have q1 : wr.cell? ⟨g, 3, none⟩ = some (.int .i64 (b : Int)) := (HW.out.2.cell (p := ⟨g, 3, none⟩) hg2).trans (HC.out 3 _ rfl)
      have BA : Hid (Below wr.heap.size wr (wr.alloc (.cells #[.int .i64 2, .int .i64 (b : Int)] 189))) := (Below.refl _ _).alloc (Nat.le_refl _) _
      have ra : Hid ((wr.alloc (.cells #[.int .i64 2, .int .i64 (b : Int)] 189)).heap[w.heap.size]? = some (.cells (oC 1 a b c) 74 (0, 0))) := (BA.out.block _ hlt).trans HW.out.1
      have x1 : (wr.alloc (.cells #[.int .i64 2, .int .i64 (b : Int)] 189)).cell? ⟨w.heap.size, 1, none⟩ = some (.int .i64 0) := (blk_cell ra.out).trans rfl
      have f1 : (wr.alloc (.cells #[.int .i64 2, .int .i64 (b : Int)] 189)).frozen? ⟨w.heap.size, 1, none⟩ = false := blk_free ra.out
      go_wp2_with fail
      exact ⟨⟨2, by omega, by go_num, (((Below.refl _ (wr.setCell ⟨w.heap.size, 1, none⟩ (.int .i64 (b : Int)))).alloc (Nat.le_refl _) _).block _ (by simpa [World.setCell] using hlt)).trans (blk_set (k := 1) (x := .int .i64 (b : Int)) HW.out.1), (HW.out.2.trans ((tset wr w.heap.size 1 _).below HW.out.2.size (fun b hb => by omega))).trans (((Below.refl _ _).alloc (Nat.le_refl _) _).mono (by simpa [World.setCell] using HW.out.2.size))⟩, by simp [intOf]⟩
    · have q0 : wr.cell? ⟨g, 4, none⟩ = some (.int .i64 3) := (HW.out.2.cell (p := ⟨g, 4, none⟩) hg2).trans (HC.out 4 _ rfl)
      have q1 : wr.cell? ⟨g, 5, none⟩ = some (.int .i64 (c : Int)) := (HW.out.2.cell (p := ⟨g, 5, none⟩) hg2).trans (HC.out 5 _ rfl)
      have BA : Hid (Below wr.heap.size wr (wr.alloc (.cells #[.int .i64 3, .int .i64 (c : Int)] 189))) := (Below.refl _ _).alloc (Nat.le_refl _) _
      have ra : Hid ((wr.alloc (.cells #[.int .i64 3, .int .i64 (c : Int)] 189)).heap[w.heap.size]? = some (.cells (oC 2 a b c) 74 (0, 0))) := (BA.out.block _ hlt).trans HW.out.1
      have x1 : (wr.alloc (.cells #[.int .i64 3, .int .i64 (c : Int)] 189)).cell? ⟨w.heap.size, 2, none⟩ = some (.int .i64 0) := (blk_cell ra.out).trans rfl
      have f1 : (wr.alloc (.cells #[.int .i64 3, .int .i64 (c : Int)] 189)).frozen? ⟨w.heap.size, 2, none⟩ = false := blk_free ra.out
      go_wp2_with fail
      exact ⟨⟨3, by omega, by go_num, (((Below.refl _ (wr.setCell ⟨w.heap.size, 2, none⟩ (.int .i64 (c : Int)))).alloc (Nat.le_refl _) _).block _ (by simpa [World.setCell] using hlt)).trans (blk_set (k := 2) (x := .int .i64 (c : Int)) HW.out.1), (HW.out.2.trans ((tset wr w.heap.size 2 _).below HW.out.2.size (fun b hb => by omega))).trans (((Below.refl _ _).alloc (Nat.le_refl _) _).mono (by simpa [World.setCell] using HW.out.2.size))⟩, by simp [intOf]⟩
    · have q0 : wr.cell? ⟨g, 6, none⟩ = some (.int .i64 4) := (HW.out.2.cell (p := ⟨g, 6, none⟩) hg2).trans (HC.out 6 _ rfl)
      have q1 : wr.cell? ⟨g, 7, none⟩ = some (.int .i64 (d : Int)) := (HW.out.2.cell (p := ⟨g, 7, none⟩) hg2).trans (HC.out 7 _ rfl)
      have BA : Hid (Below wr.heap.size wr (wr.alloc (.cells #[.int .i64 4, .int .i64 (d : Int)] 189))) := (Below.refl _ _).alloc (Nat.le_refl _) _
      have ra : Hid ((wr.alloc (.cells #[.int .i64 4, .int .i64 (d : Int)] 189)).heap[w.heap.size]? = some (.cells (oC 3 a b c) 74 (0, 0))) := (BA.out.block _ hlt).trans HW.out.1
      go_wp2_with fail
      exact ⟨⟨4, by omega, by go_num, ra.out, HW.out.2.trans (BA.out.mono HW.out.2.size)⟩, by simp [intOf]⟩
    · have d0 : wr.cell? ⟨w.heap.size, 0, none⟩ = some (.int .i64 (a : Int)) := (blk_cell HW.out.1).trans rfl
      have d1 : wr.cell? ⟨w.heap.size, 1, none⟩ = some (.int .i64 (b : Int)) := (blk_cell HW.out.1).trans rfl
      have d2 : wr.cell? ⟨w.heap.size, 2, none⟩ = some (.int .i64 (c : Int)) := (blk_cell HW.out.1).trans rfl
      have f0 : wr.frozen? ⟨w.heap.size, 0, none⟩ = false := blk_free HW.out.1
      have f1 : wr.frozen? ⟨w.heap.size, 1, none⟩ = false := blk_free HW.out.1
      have f2 : wr.frozen? ⟨w.heap.size, 2, none⟩ = false := blk_free HW.out.1
      go_wp2_with fail
      have hg := blk_set (k := 2) (x := .int .i64 (c : Int)) (blk_set (k := 1) (x := .int .i64 (b : Int)) (blk_set (k := 0) (x := .int .i64 (a : Int)) HW.out.1))
      refine ⟨rfl, _, results_cell_row (p := 2) (ty := 74) rfl _ _ w.heap.size 74 _ (0, 0) _ rfl hg Tryz.underlying74 rfl Tryz.size3, rfl, ?_⟩
      exact HW.out.2.trans ((((tset _ w.heap.size 0 _).trans (tset _ _ 1 _)).trans (tset _ _ 2 _)).below HW.out.2.size (fun b hb => by omega))
end Go.Proofs.YtoeihlgidakjbaaGreatDoor
namespace Go.Proofs.YtoeihlgidakjbaaGreatDoor
open Go.RowKit Go.Lib
set_option maxRecDepth 100000 in
set_option maxHeartbeats 4000000 in
theorem nextHint_1 {B Bs pb : Nat} {v : PV} {q : Nat × Nat × Nat} {m : RE} {S : List UInt8} (y : Nat) (w : World) (h : PX w B Bs pb v q m S) (ok : m.Ok) :
    Calls Tryz.prog 178 #[.pointer (some ⟨pb, 0, none⟩), .int .i64 1] w fun r w' => r = .returned (.int .i64 ((m.named1 (1, y)).2.2 : Int)) ∧ PX w' B Bs pb v q (m.named1 (1, y)).1 S ∧ Tch (fun b => b = pb) w w' := by
  have ova : w.ownsRow B 3 1 v.va0 m.a0.length (m.a0.map iv) := by
    have := h.em.own ⟨3, v.va0, m.a0.map iv⟩ (by simp [RE.prow])
    simpa using this
  have haa := ok.aa 1
  have hacc : m.acc 1 = m.a0 := rfl
  rw [hacc] at haa
  have hpos : 0 < m.a0.length := List.length_pos_iff.2 haa.1
  have h8 := haa.2.1
  obtain ⟨aa, ca, ga, hva, ha, _, hca⟩ := own_shape ova
  obtain rfl := ha hpos
  obtain ⟨n, hn⟩ : ∃ n, n = m.a0.length := ⟨_, rfl⟩
  obtain ⟨p, hp⟩ : ∃ p, p = m.h0 % n := ⟨_, rfl⟩
  have hpn : p < n := by rw [hp]; exact Nat.mod_lt _ (by omega)
  obtain ⟨A, hA⟩ : ∃ A, A = m.a0.getD p 0 := ⟨_, rfl⟩
  have cA : w.cell? ⟨ga, p, none⟩ = some (.int .i64 (A : Int)) := by
    rw [hca p (by omega), List.getElem?_map, List.getElem?_eq_getElem (by omega), hA, List.getD, List.getElem?_eq_getElem (by omega)]; rfl
  have c3 : w.cell? ⟨pb, 3, none⟩ = some (.slice (some ⟨ga, 0, none⟩) n ca) := (blk_cell h.em.blk).trans (by rw [hn, ← hva]; rfl)
  have c6 : w.cell? ⟨pb, 6, none⟩ = some (.int .i64 (p : Int)) := (blk_cell h.em.blk).trans (by rw [hp, hn]; rfl)
  have f6 : w.frozen? ⟨pb, 6, none⟩ = false := blk_free h.em.blk
  have hpI : (p : Int) < (n : Int) := by omega
  have hn0 : ¬ n = 0 := by omega
  have hnz : ((n : Int) == 0) = false := by simp; omega
  have hw1 : IntKind.i64.wrap ((p : Int) + 1) = (p : Int) + 1 := wrap_in (by omega) (by omega)
  obtain ⟨r, hr⟩ : ∃ r, r = (p + 1) % n := ⟨_, rfl⟩
  have hrem := fun wx => rem_run (p + 1) n r wx hn0 hr (by omega) (by omega)
  have ecast : ((p + 1 : Nat) : Int) = (p : Int) + 1 := by omega
  rw [ecast] at hrem
  have HR : Hid (PX w B Bs pb v q m S) := h
  have HN : Hid (m.named1 (1, y) = ({ m with h0 := m.h0 + 1 }, (1, A)) ∧ r = (m.h0 + 1) % m.a0.length) := by
    refine ⟨?_, ?_⟩
    · rw [hA, hp, hn]; rfl
    · rw [hr, hp, hn, Nat.mod_add_mod]
  have ER : Hid (((p : Int) + 1) % (n : Int) = (r : Int)) := by show _ = _; rw [hr, ← ecast]; exact (Int.natCast_emod _ _).symm
  clear h ok ova haa hacc hva ha hca hn hp hA hr ecast
  go_enter Tryz.func178, Tryz.ntmps178
  go_wp2_with fail
  go_quiet (fail)
  go_wp2_with fail
  go_region
  go_wp2_with fail
  go_ret
  rw [HN.out.1, ER.out]
  have t0 : Tch (fun b => b = pb) w (w.drewN (nq + 1)) := ⟨rfl, rfl, rfl, Nat.le_refl _, fun _ _ _ => rfl⟩
  have tt := t0.trans (tset (w.drewN (nq + 1)) pb 6 (.int .i64 (r : Int)))
  refine ⟨rfl, (HR.out.num (q' := q) (m' := { m with h0 := m.h0 + 1 }) ?_ tt rfl rfl rfl).1, tt⟩
  have hb := blk_set (w := w.drewN (nq + 1)) (k := 6) (x := .int .i64 (r : Int)) HR.out.em.blk
  refine hb.trans ?_
  rw [HN.out.2]
  rfl
set_option maxRecDepth 100000 in
set_option maxHeartbeats 4000000 in
theorem nextHint_2 {B Bs pb : Nat} {v : PV} {q : Nat × Nat × Nat} {m : RE} {S : List UInt8} (y : Nat) (w : World) (h : PX w B Bs pb v q m S) (ok : m.Ok) :
    Calls Tryz.prog 178 #[.pointer (some ⟨pb, 0, none⟩), .int .i64 2] w fun r w' => r = .returned (.int .i64 ((m.named1 (2, y)).2.2 : Int)) ∧ PX w' B Bs pb v q (m.named1 (2, y)).1 S ∧ Tch (fun b => b = pb) w w' := by
  have ova : w.ownsRow B 3 1 v.va1 m.a1.length (m.a1.map iv) := by
    have := h.em.own ⟨3, v.va1, m.a1.map iv⟩ (by simp [RE.prow])
    simpa using this
  have haa := ok.aa 2
  have hacc : m.acc 2 = m.a1 := rfl
  rw [hacc] at haa
  have hpos : 0 < m.a1.length := List.length_pos_iff.2 haa.1
  have h8 := haa.2.1
  obtain ⟨aa, ca, ga, hva, ha, _, hca⟩ := own_shape ova
  obtain rfl := ha hpos
  obtain ⟨n, hn⟩ : ∃ n, n = m.a1.length := ⟨_, rfl⟩
  obtain ⟨p, hp⟩ : ∃ p, p = m.h1 % n := ⟨_, rfl⟩
  have hpn : p < n := by rw [hp]; exact Nat.mod_lt _ (by omega)
  obtain ⟨A, hA⟩ : ∃ A, A = m.a1.getD p 0 := ⟨_, rfl⟩
  have cA : w.cell? ⟨ga, p, none⟩ = some (.int .i64 (A : Int)) := by
    rw [hca p (by omega), List.getElem?_map, List.getElem?_eq_getElem (by omega), hA, List.getD, List.getElem?_eq_getElem (by omega)]; rfl
  have c3 : w.cell? ⟨pb, 4, none⟩ = some (.slice (some ⟨ga, 0, none⟩) n ca) := (blk_cell h.em.blk).trans (by rw [hn, ← hva]; rfl)
  have c6 : w.cell? ⟨pb, 7, none⟩ = some (.int .i64 (p : Int)) := (blk_cell h.em.blk).trans (by rw [hp, hn]; rfl)
  have f6 : w.frozen? ⟨pb, 7, none⟩ = false := blk_free h.em.blk
  have hpI : (p : Int) < (n : Int) := by omega
  have hn0 : ¬ n = 0 := by omega
  have hnz : ((n : Int) == 0) = false := by simp; omega
  have hw1 : IntKind.i64.wrap ((p : Int) + 1) = (p : Int) + 1 := wrap_in (by omega) (by omega)
  obtain ⟨r, hr⟩ : ∃ r, r = (p + 1) % n := ⟨_, rfl⟩
  have hrem := fun wx => rem_run (p + 1) n r wx hn0 hr (by omega) (by omega)
  have ecast : ((p + 1 : Nat) : Int) = (p : Int) + 1 := by omega
  rw [ecast] at hrem
  have HR : Hid (PX w B Bs pb v q m S) := h
  have HN : Hid (m.named1 (2, y) = ({ m with h1 := m.h1 + 1 }, (2, A)) ∧ r = (m.h1 + 1) % m.a1.length) := by
    refine ⟨?_, ?_⟩
    · rw [hA, hp, hn]; rfl
    · rw [hr, hp, hn, Nat.mod_add_mod]
  have ER : Hid (((p : Int) + 1) % (n : Int) = (r : Int)) := by show _ = _; rw [hr, ← ecast]; exact (Int.natCast_emod _ _).symm
  clear h ok ova haa hacc hva ha hca hn hp hA hr ecast
  go_enter Tryz.func178, Tryz.ntmps178
  go_wp2_with fail
  go_quiet (fail)
  go_wp2_with fail
  go_region
  go_wp2_with fail
  go_ret
  rw [HN.out.1, ER.out]
  have t0 : Tch (fun b => b = pb) w (w.drewN (nq + 1)) := ⟨rfl, rfl, rfl, Nat.le_refl _, fun _ _ _ => rfl⟩
  have tt := t0.trans (tset (w.drewN (nq + 1)) pb 7 (.int .i64 (r : Int)))
  refine ⟨rfl, (HR.out.num (q' := q) (m' := { m with h1 := m.h1 + 1 }) ?_ tt rfl rfl rfl).1, tt⟩
  have hb := blk_set (w := w.drewN (nq + 1)) (k := 7) (x := .int .i64 (r : Int)) HR.out.em.blk
  refine hb.trans ?_
  rw [HN.out.2]
  rfl
set_option maxRecDepth 100000 in
set_option maxHeartbeats 4000000 in
theorem nextHint_3 {B Bs pb : Nat} {v : PV} {q : Nat × Nat × Nat} {m : RE} {S : List UInt8} (y : Nat) (w : World) (h : PX w B Bs pb v q m S) (ok : m.Ok) :
    Calls Tryz.prog 178 #[.pointer (some ⟨pb, 0, none⟩), .int .i64 3] w fun r w' => r = .returned (.int .i64 ((m.named1 (3, y)).2.2 : Int)) ∧ PX w' B Bs pb v q (m.named1 (3, y)).1 S ∧ Tch (fun b => b = pb) w w' := by
  have ova : w.ownsRow B 3 1 v.va2 m.a2.length (m.a2.map iv) := by
    have := h.em.own ⟨3, v.va2, m.a2.map iv⟩ (by simp [RE.prow])
    simpa using this
  have haa := ok.aa 3
  have hacc : m.acc 3 = m.a2 := rfl
  rw [hacc] at haa
  have hpos : 0 < m.a2.length := List.length_pos_iff.2 haa.1
  have h8 := haa.2.1
  obtain ⟨aa, ca, ga, hva, ha, _, hca⟩ := own_shape ova
  obtain rfl := ha hpos
  obtain ⟨n, hn⟩ : ∃ n, n = m.a2.length := ⟨_, rfl⟩
  obtain ⟨p, hp⟩ : ∃ p, p = m.h2 % n := ⟨_, rfl⟩
  have hpn : p < n := by rw [hp]; exact Nat.mod_lt _ (by omega)
  obtain ⟨A, hA⟩ : ∃ A, A = m.a2.getD p 0 := ⟨_, rfl⟩
  have cA : w.cell? ⟨ga, p, none⟩ = some (.int .i64 (A : Int)) := by
    rw [hca p (by omega), List.getElem?_map, List.getElem?_eq_getElem (by omega), hA, List.getD, List.getElem?_eq_getElem (by omega)]; rfl
  have c3 : w.cell? ⟨pb, 5, none⟩ = some (.slice (some ⟨ga, 0, none⟩) n ca) := (blk_cell h.em.blk).trans (by rw [hn, ← hva]; rfl)
  have c6 : w.cell? ⟨pb, 8, none⟩ = some (.int .i64 (p : Int)) := (blk_cell h.em.blk).trans (by rw [hp, hn]; rfl)
  have f6 : w.frozen? ⟨pb, 8, none⟩ = false := blk_free h.em.blk
  have hpI : (p : Int) < (n : Int) := by omega
  have hn0 : ¬ n = 0 := by omega
  have hnz : ((n : Int) == 0) = false := by simp; omega
  have hw1 : IntKind.i64.wrap ((p : Int) + 1) = (p : Int) + 1 := wrap_in (by omega) (by omega)
  obtain ⟨r, hr⟩ : ∃ r, r = (p + 1) % n := ⟨_, rfl⟩
  have hrem := fun wx => rem_run (p + 1) n r wx hn0 hr (by omega) (by omega)
  have ecast : ((p + 1 : Nat) : Int) = (p : Int) + 1 := by omega
  rw [ecast] at hrem
  have HR : Hid (PX w B Bs pb v q m S) := h
  have HN : Hid (m.named1 (3, y) = ({ m with h2 := m.h2 + 1 }, (3, A)) ∧ r = (m.h2 + 1) % m.a2.length) := by
    refine ⟨?_, ?_⟩
    · rw [hA, hp, hn]; rfl
    · rw [hr, hp, hn, Nat.mod_add_mod]
  have ER : Hid (((p : Int) + 1) % (n : Int) = (r : Int)) := by show _ = _; rw [hr, ← ecast]; exact (Int.natCast_emod _ _).symm
  clear h ok ova haa hacc hva ha hca hn hp hA hr ecast
  go_enter Tryz.func178, Tryz.ntmps178
  go_wp2_with fail
  go_quiet (fail)
  go_wp2_with fail
  go_region
  go_wp2_with fail
  go_ret
  rw [HN.out.1, ER.out]
  have t0 : Tch (fun b => b = pb) w (w.drewN (nq + 1)) := ⟨rfl, rfl, rfl, Nat.le_refl _, fun _ _ _ => rfl⟩
  have tt := t0.trans (tset (w.drewN (nq + 1)) pb 8 (.int .i64 (r : Int)))
  refine ⟨rfl, (HR.out.num (q' := q) (m' := { m with h2 := m.h2 + 1 }) ?_ tt rfl rfl rfl).1, tt⟩
  have hb := blk_set (w := w.drewN (nq + 1)) (k := 8) (x := .int .i64 (r : Int)) HR.out.em.blk
  refine hb.trans ?_
  rw [HN.out.2]
  rfl
set_option maxRecDepth 100000 in
set_option maxHeartbeats 1000000 in
theorem nextHint_any {B Bs pb : Nat} {v : PV} {q : Nat × Nat × Nat} {m : RE} {S : List UInt8} (X Y : Nat) (w : World) (h : PX w B Bs pb v q m S) (ok : m.Ok) (h1 : 1 ≤ X) (h4 : X ≤ 4) :
    Calls Tryz.prog 178 #[.pointer (some ⟨pb, 0, none⟩), .int .i64 (X : Int)] w fun r w' => r = .returned (.int .i64 ((m.named1 (X, Y)).2.2 : Int)) ∧ PX w' B Bs pb v q (m.named1 (X, Y)).1 S ∧ Tch (fun b => b = pb) w w' := by
  rcases (by omega : X = 1 ∨ X = 2 ∨ X = 3 ∨ X = 4) with rfl | rfl | rfl | rfl
  · exact nextHint_1 Y w h ok
  · exact nextHint_2 Y w h ok
  · exact nextHint_3 Y w h ok
  · have H : Hid (_) := h
    clear h ok
    go_enter Tryz.func178, Tryz.ntmps178
    go_wp2_with fail
    go_ret
    exact ⟨rfl, H.out, Tch.refl _ _⟩
theorem nak_ok {m : RE} (ok : m.Ok) (L : List (Nat × Nat)) : (m.nakItems L).1.Ok := by
  obtain ⟨x, y, z, e, _⟩ := RE.nakItems_eq L m
  obtain ⟨st, id, odd, k0, k1, k2, pc, pi, pd, mg, ms, aa, ww⟩ := ok
  rw [e]
  exact ⟨st, id, odd, k0, k1, k2, pc, pi, pd, mg, ms, aa, ww⟩
end Go.Proofs.YtoeihlgidakjbaaGreatDoor
namespace Go.Proofs.YtoeihlgidakjbaaGreatDoor
open Go.RowKit Go.Lib
set_option maxRecDepth 100000 in
set_option maxHeartbeats 4000000 in
theorem naming_any {B Bs pb H : Nat} {v : PV} {q : Nat × Nat × Nat} {m : RE} {S : List UInt8} (vb : Value) (L : List (Nat × Nat)) (w : World) (h : PX w B Bs pb v q m S) (ok : m.Ok) (hL : ItemsOk L) (h0 : 0 < L.length) (ob : w.ownsRow H 189 2 vb L.length (itemC L)) (hn : ∀ b, vb.ownBlock = some b → ¬ inE pb v.vals b) :
    Calls Tryz.prog 177 #[.pointer (some ⟨pb, 0, none⟩), vb] w fun r w' => r = .returned (.string ⟨(dataL (m.nakItems L).2).toArray⟩) ∧ PX w' B Bs pb v q (m.nakItems L).1 S ∧ Tch (fun b => b = pb) w w' := by
  obtain ⟨i0, hi, hz0, hz1, hz2⟩ := info_parts Tryz.infoTI
  obtain ⟨ad, cap0, g, rfl, ha, hc⟩ := own_shape2 ob
  obtain ⟨rfl, hg1, hg2⟩ := ha h0
  have hgp : g ≠ pb := fun e => hn g rfl (.inl e)
  have HC : Hid (∀ j u, (itemC L)[j]? = some u → w.cell? ⟨g, j, none⟩ = some u) := hc
  have HP : Hid (PX w B Bs pb v q m S) := h
  have OK : Hid (m.Ok) := ok
  have HL : Hid (ItemsOk L) := hL
  have hlt := blk_lt h.em.blk
  have hll := hL.1
  clear ha hc ob hn h ok hL
  go_enter Tryz.func177, Tryz.ntmps177
  go_wp2_with (at_make; go_must (refine wpList_make_own _ rfl _ _ 163 rfl w.heap.size 189 i0 (.agg #[.int .i64 0, .int .i64 0]) 2 Tryz.underlying163 hi hz0 hz1 .i64 .i64 _ L.length rfl rfl (by omega) (by rw [hz2]; omega) (by unfold maxLen; omega) (Nat.le_refl _) ?_; intro w0 hown0 hgrow0))
  have hb0 : Below w.heap.size w w0 := (Below.refl _ _).grown hgrow0 (Nat.le_refl _) (fun k hk => by cases hk)
  have HB0 : Hid (Below w.heap.size w w0) := hb0
  have HO0 : Hid (_) := hown0
  clear hb0 hown0 hgrow0
  go_loopw [5, 13] (fun vn i wr => ∃ (k : Nat) (a : Option Addr) (cap : Nat), k ≤ L.length ∧ vn = .slice a k cap ∧ i = .int .i64 k ∧ Hid (wr.ownsRow w.heap.size 189 2 (.slice a k cap) k (itemC (m.nakItems (L.take k)).2) ∧ PX wr B Bs pb v q (m.nakItems (L.take k)).1 S ∧ Tch (fun b => b = pb) w wr)) (fun _ i _ => L.length - (intOf i).toNat)
  case atStart => exact ⟨0, _, _, by omega, rfl, rfl, HO0.out, HP.out.below HB0.out, Tch.of_below HB0.out⟩
  case round =>
    obtain ⟨k, a, cap, hk, rfl, rfl, HW⟩ := hrel
    by_cases hlk : k < L.length
    · have hI : (k : Int) < (L.length : Int) := by omega
      obtain ⟨X, hX⟩ : ∃ X, X = (L[k]).1 := ⟨_, rfl⟩
      obtain ⟨Y, hY⟩ : ∃ Y, Y = (L[k]).2 := ⟨_, rfl⟩
      have hxy : L[k] = (X, Y) := by rw [hX, hY]
      have hrng := HL.out.2 _ (List.getElem_mem hlk)
      rw [hxy] at hrng
      have HT : Hid (m.nakItems (L.take (k + 1)) = (((m.nakItems (L.take k)).1.named1 (X, Y)).1, (m.nakItems (L.take k)).2 ++ [((m.nakItems (L.take k)).1.named1 (X, Y)).2])) := by
        show _ = _
        rw [List.take_add_one, List.getElem?_eq_getElem hlk, hxy]
        exact RE.nakItems_snoc _ m (X, Y)
      have okk : (m.nakItems (L.take k)).1.Ok := nak_ok OK.out _
      have hgw : wr.heap[g]? = w.heap[g]? := HW.out.2.2.block g hg2 hgp
      have q0 : wr.cell? ⟨g, k * 2, none⟩ = some (.int .i64 (X : Int)) := (World.cell?_of_block (w := w) (a := ⟨g, k * 2, none⟩) hgw).trans (HC.out _ _ (by rw [(itemC_get L k hlk).1, hX]))
      have q1 : wr.cell? ⟨g, k * 2 + 1, none⟩ = some (.int .i64 (Y : Int)) := (World.cell?_of_block (w := w) (a := ⟨g, k * 2 + 1, none⟩) hgw).trans (HC.out _ _ (by rw [(itemC_get L k hlk).2, hY]))
      have HWW : Hid (wr.ownsRow w.heap.size 189 2 (.slice a k cap) k (itemC (m.nakItems (L.take k)).2) ∧ PX wr B Bs pb v q (m.nakItems (L.take k)).1 S ∧ Tch (fun b => b = pb) w wr) := HW.out
      have hn2 : (m.named1 (X, Y)).2.1 = X := by unfold RE.named1; split <;> rfl
      have hnx : ∀ mm : RE, (mm.named1 (X, Y)).2.1 = X := fun mm => by unfold RE.named1; split <;> rfl
      have hnl : (m.nakItems (L.take k)).2.length = k := by rw [RE.nakItems_len, List.length_take]; omega
      clear HW hgw hX hY hxy hn2
      generalize (m.nakItems (L.take k)).1 = mk at *
      generalize (m.nakItems (L.take k)).2 = N at *
      obtain ⟨A, hA⟩ : ∃ A, A = (mk.named1 (X, Y)).2.2 := ⟨_, rfl⟩
      have HA : Hid ((mk.named1 (X, Y)).2 = (X, A)) := by show _ = _; rw [hA]; exact Prod.ext (hnx mk) rfl
      have OKK : Hid (mk.Ok) := okk
      have hzr : w.heap.size ≤ wr.heap.size := HWW.out.2.2.size
      clear hnx okk
      go_upto_region 5 with fail
      have BA : Hid (Below wr.heap.size wr (wr.alloc (.cells #[.int .i64 (X : Int), .int .i64 (Y : Int)] 189))) := (Below.refl _ _).alloc (Nat.le_refl _) _
      have ba : (wr.alloc (.cells #[.int .i64 (X : Int), .int .i64 (Y : Int)] 189)).heap[wr.heap.size]? = some (.cells #[.int .i64 (X : Int), .int .i64 (Y : Int)] 189 (0, 0)) := heap_alloc_new wr _
      have zA : (wr.alloc (.cells #[.int .i64 (X : Int), .int .i64 (Y : Int)] 189)).heap.size = wr.heap.size + 1 := by simp
      have e0 : (wr.alloc (.cells #[.int .i64 (X : Int), .int .i64 (Y : Int)] 189)).drew.cell? ⟨wr.heap.size, 0, none⟩ = some (.int .i64 (X : Int)) := blk_cell ba
      have RA : Hid (_) := ba
      have PA1 : Hid (_) := HWW.out.2.1.below BA.out
      have OA : Hid ((wr.alloc (.cells #[.int .i64 (X : Int), .int .i64 (Y : Int)] 189)).ownsRow w.heap.size 189 2 (.slice a k cap) k (itemC N)) := owns_below HWW.out.1 BA.out
      clear q0 q1 ba
      generalize wr.alloc (.cells #[.int .i64 (X : Int), .int .i64 (Y : Int)] 189) = WA at *
      have HNH : Hid (Calls Tryz.prog 178 #[.pointer (some ⟨pb, 0, none⟩), .int .i64 (X : Int)] WA.drew fun r w' => r = .returned (.int .i64 (A : Int)) ∧ PX w' B Bs pb v q (mk.named1 (X, Y)).1 S ∧ Tch (fun b => b = pb) WA.drew w') := by
        have := nextHint_any X Y WA.drew (PA1.out.below ((Below.refl _ WA).drew)) OKK.out hrng.1 hrng.2.1
        rw [← hA] at this
        exact this
      clear hA
      go_region_law (first | (go_simp; go_at_call 178; refine Calls.mono HNH.out ?_; rintro e wq ⟨rfl, pxq, tq⟩; have tq' : Tch (fun b => b = pb) WA wq := ⟨tq.os, tq.tape, tq.output, tq.size, tq.block⟩; have e0q : wq.cell? ⟨wr.heap.size, 0, none⟩ = some (.int .i64 (X : Int)) := blk_cell ((tq'.block _ (by omega) (by omega)).trans RA.out)) | (refine step_append_lies _ (by rfl) (.tmp 17) (.tmp 25) 163 (by rfl) w.heap.size 189 i0 (.agg #[.int .i64 0, .int .i64 0]) 2 16 Tryz.underlying163 hi hz0 hz1 hz2 (by rfl) (by decide) _ k (itemC N) (by rfl) ((owns_tch OA.out tq' (fun b hb e => by have := (OA.out.lt b hb).1; omega)).alloc _) ⟨wq.heap.size, 0, none⟩ 1 1 [.int .i64 (X : Int), .int .i64 (A : Int)] (by rfl) (by rfl) (news2 wq (.int .i64 (X : Int)) (.int .i64 (A : Int)) 189) (by intro u hu; simp at hu; rcases hu with rfl | rfl <;> rfl) (by omega) (by unfold maxLen; omega) (by omega) (by have := tq'.size; simp; omega) (wq.heap.size + 1) (by simp) ?_; intro gv capv w1 hown1 hgrow1 hat1 hlt1))
      all_goals
        have OWQ : Hid (w1.ownsRow w.heap.size 189 2 (.slice (some ⟨gv, 0, none⟩) (k + 1) capv) (k + 1) (itemC (N ++ [(X, A)]))) := by
          have e : itemC (N ++ [(X, A)]) = itemC N ++ [.int .i64 (X : Int), .int .i64 (A : Int)] := by simp [itemC]
          show World.ownsRow _ _ _ _ _ _ _
          rw [e]; exact hown1
        have T1 : Hid (Tch (fun b => (Value.slice a k cap).ownBlock = some b) wq w1) := tch_grown hgrow1
        have PQ : Hid (PX w1 B Bs pb v q (mk.named1 (X, Y)).1 S ∧ Tch (fun b => b = pb) w w1) := by
          have off : ∀ b, (Value.slice a k cap).ownBlock = some b → w.heap.size ≤ b := fun b hb => (OA.out.lt b hb).1
          refine ⟨pxq.of_tch T1.out (fun b hb x => ?_), ?_⟩
          · have := off b x
            have := (HP.out.lt b hb).2
            omega
          · exact Tch.restrict (((HWW.out.2.2.mono (fun _ x => .inl x)).trans ((Tch.of_below BA.out).trans (tq'.mono (fun _ x => .inl x)))).trans (T1.out.mono (fun b x => .inr (off b x))))
        clear hown1 hgrow1 hat1 pxq tq tq' e0q
        go_wp2_with fail
        refine ⟨⟨k + 1, _, _, by omega, rfl, by go_num, ?_, ?_, PQ.out.2⟩, by simp [intOf]; omega⟩
        · rw [HT.out, HA.out]; exact OWQ.out
        · rw [HT.out]; exact PQ.out.1
    · have hk2 : k = L.length := by omega
      have ht : L.take k = L := List.take_of_length_le (by omega)
      have hI : ¬ (k : Int) < (L.length : Int) := by omega
      have HF : Hid (wr.ownsRow w.heap.size 189 2 (.slice a k cap) (m.nakItems L).2.length (itemC (m.nakItems L).2) ∧ PX wr B Bs pb v q (m.nakItems L).1 S ∧ Tch (fun b => b = pb) w wr) := by
        have := HW.out
        rw [ht] at this
        rw [RE.nakItems_len, ← hk2]
        exact this
      have hln : (m.nakItems L).2.length = L.length := RE.nakItems_len L m
      have HWR : Hid (_) := twrite_any (.slice a k cap) (m.nakItems L).2 wr (itemsIn_own HF.out.1) (RE.nakItems_rng L m (fun i => (OK.out.aa i).2.2) (fun x hx => (HL.out.2 x hx).2.1)) (by omega) (by omega)
      clear HW ht hln hk2
      go_wp2_with fail
      refine Calls.mono HWR.out ?_
      rintro e wz ⟨rfl, hbz⟩
      have HZ : Hid (Below wr.heap.size wr wz) := hbz
      clear hbz HWR
      go_wp2_with fail
      go_ret
      exact ⟨rfl, HF.out.2.1.below HZ.out, HF.out.2.2.trans (Tch.of_below HZ.out)⟩
end Go.Proofs.YtoeihlgidakjbaaGreatDoor

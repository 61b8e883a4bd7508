/- heed, as far as it goes. What the program's end does with a Nak. -/
import Derived.Test.YtoeihlgidakjbaaGreatDoorPc9
import Derived.Test.YtoeihlgidakjbaaGreatDoorPc22
namespace Go.Proofs.YtoeihlgidakjbaaGreatDoor
open Go.RowKit Go.Lib
set_option maxRecDepth 100000 in
set_option maxHeartbeats 8000000 in
theorem heed_all {B Bs pb H : Nat} {v : PV} {q : Nat × Nat × Nat} {m : RE} {S : List UInt8} (vi : Value) (l : List (Nat × Nat)) (w : World) (h : PX w B Bs pb v q m S) (ok : m.Ok) (hmg : m.mg.length + 100 ≤ 17000000000000) (hl : ItemsOk l) (oi : w.ownsRow H 189 2 vi l.length (itemC l)) (hn : ∀ b, vi.ownBlock = some b → ¬ inE pb v.vals b) :
    Calls Tryz.prog 137 #[.pointer (some ⟨pb, 0, none⟩), vi] w fun r w' => r = .returned (.tuple #[]) ∧ PX w' B Bs pb v q (m.takeAll l) S ∧ ES w w' pb v.vals v.vals := by
  obtain ⟨ad, cap0, g, rfl, ha, hc⟩ := own_shape2 oi
  have HA : Hid (0 < l.length → ad = some ⟨g, 0, none⟩ ∧ H ≤ g ∧ g < w.heap.size) := ha
  have HC : Hid (∀ j u, (itemC l)[j]? = some u → w.cell? ⟨g, j, none⟩ = some u) := hc
  have HNN : Hid (∀ b, (Value.slice ad l.length cap0).ownBlock = some b → ¬ inE pb v.vals b) := hn
  have HP : Hid (PX w B Bs pb v q m S) := h
  have OK : Hid (m.Ok) := ok
  have HL : Hid (ItemsOk l) := hl
  have hll := hl.1
  clear ha hc oi h ok hl hn
  go_enter Tryz.func137, Tryz.ntmps137
  go_wp2_with fail
  go_loopw [9] (fun i wr => ∃ k : Nat, k ≤ l.length ∧ i = .int .i64 k ∧ Hid (PX wr B Bs pb v q (m.takeAll (l.take k)) S ∧ ES w wr pb v.vals v.vals)) (fun i _ => l.length - (intOf i).toNat)
  case atStart => exact ⟨0, by omega, rfl, HP.out, ES.refl _ _ _⟩
  case round =>
    obtain ⟨k, hk, rfl, HW⟩ := hrel
    by_cases hlk : k < l.length
    · have hI : (k : Int) < (l.length : Int) := by omega
      obtain ⟨rfl, hg1, hg2⟩ := HA.out (by omega)
      obtain ⟨X, hX⟩ : ∃ X, X = (l[k]).1 := ⟨_, rfl⟩
      obtain ⟨Y, hY⟩ : ∃ Y, Y = (l[k]).2 := ⟨_, rfl⟩
      have hxy : l[k] = (X, Y) := by rw [hX, hY]
      have hrng := HL.out.2 _ (List.getElem_mem hlk)
      rw [hxy] at hrng
      have HT : Hid (m.takeAll (l.take (k + 1)) = (m.takeAll (l.take k)).take1 (X, Y)) := by show _ = _; rw [RE.takeAll_take m l k hlk, hxy]
      have hgw : wr.heap[g]? = w.heap[g]? := HW.out.2.t.block g hg2 (HNN.out g rfl)
      have q0 : wr.cell? ⟨g, k * 2, none⟩ = some (.int .i64 (X : Int)) := (World.cell?_of_block (w := w) (a := ⟨g, k * 2, none⟩) hgw).trans (HC.out _ _ (by rw [(itemC_get l k hlk).1, hX]))
      have q1 : wr.cell? ⟨g, k * 2 + 1, none⟩ = some (.int .i64 (Y : Int)) := (World.cell?_of_block (w := w) (a := ⟨g, k * 2 + 1, none⟩) hgw).trans (HC.out _ _ (by rw [(itemC_get l k hlk).2, hY]))
      have okk : (m.takeAll (l.take k)).Ok := RE.takeAll_ok _ OK.out
      have hmgk : (m.takeAll (l.take k)).mg.length ≤ 16999999999940 := Nat.le_trans (RE.takeAll_mg m _) (by rw [List.length_take]; omega)
      have HWW : Hid (PX wr B Bs pb v q (m.takeAll (l.take k)) S ∧ ES w wr pb v.vals v.vals) := HW.out
      clear HW hgw hX hY hxy
      generalize m.takeAll (l.take k) = mk at *
      have BA : Hid (Below wr.heap.size wr (wr.alloc (.cells #[.int .i64 (X : Int), .int .i64 (Y : Int)] 189))) := (Below.refl _ _).alloc (Nat.le_refl _) _
      have RA : Hid ((wr.alloc (.cells #[.int .i64 (X : Int), .int .i64 (Y : Int)] 189)).heap[wr.heap.size]? = some (.cells #[.int .i64 (X : Int), .int .i64 (Y : Int)] 189 (0, 0))) := heap_alloc_new wr _
      have PA1 : Hid (PX (wr.alloc (.cells #[.int .i64 (X : Int), .int .i64 (Y : Int)] 189)) B Bs pb v q mk S) := HWW.out.1.below BA.out
      have zA : (wr.alloc (.cells #[.int .i64 (X : Int), .int .i64 (Y : Int)] 189)).heap.size = wr.heap.size + 1 := by simp
      go_upto_region 3 with fail
      generalize wr.alloc (.cells #[.int .i64 (X : Int), .int .i64 (Y : Int)] 189) = WA at *
      have x0 : WA.cell? ⟨wr.heap.size, 0, none⟩ = some (.int .i64 (X : Int)) := blk_cell RA.out
      have x1 : WA.cell? ⟨wr.heap.size, 1, none⟩ = some (.int .i64 (Y : Int)) := blk_cell RA.out
      clear q0 q1
      have NX : Hid (∀ (wz : World), PX wz B Bs pb v q (mk.take1 (X, Y)) S → ES WA wz pb v.vals v.vals → PX wz B Bs pb v q (m.takeAll (l.take (k + 1))) S ∧ ES w wz pb v.vals v.vals) := by
        intro wz p1 p2
        rw [HT.out]
        exact ⟨p1, HWW.out.2.trans ((ES.below BA.out).trans p2)⟩
      have hpx : pb < wr.heap.size := blk_lt HWW.out.1.em.blk
      rcases (by omega : X = 1 ∨ X = 2 ∨ X = 3 ∨ X = 4) with rfl | rfl | rfl | rfl
      · have cw : WA.cell? ⟨pb, 0, none⟩ = some v.vw0 := blk_cell PA1.out.em.blk
        have ck : WA.cell? ⟨pb, 9, none⟩ = some (.int .i64 (mk.k0 : Int)) := blk_cell PA1.out.em.blk
        have fk : WA.frozen? ⟨pb, 9, none⟩ = false := blk_free PA1.out.em.blk
        have hww : mk.w0.length ≤ 8 := (okk.ww 1).2.1
        have hwi : IntKind.i64.wrap 0 = 0 := by decide
        have HCT : Hid (∀ j, Calls Tryz.prog 125 #[v.vw0, .int .i64 (Y : Int)] (WA.drewN j) fun r w' => r = .returned (.bool (decide (Y ∈ mk.w0))) ∧ w' = WA.drewN j) := fun j => (contains_nat v.vw0 mk.w0 Y (WA.drewN j) (by exact PA1.out.wsh.1) hww).mono (by rintro e w' ⟨rfl, rfl⟩; exact ⟨rfl, rfl⟩)
        go_upto_region 6 with fail
        go_quiet ((go_at_call 125; exact Calls.quiet_of_same (HCT.out _)))
        cases hD : decide (Y ∈ mk.w0)
        · have HTK : Hid (mk.take1 (1, Y) = mk) := by
            show _ = _
            unfold RE.take1
            rw [if_neg (by simp), if_neg (by show ¬ Y ∈ mk.w0; simpa using hD)]
          clear hD
          go_wp2_with fail
          have hz := NX.out (WA.drewN nq) (by rw [HTK.out]; exact PA1.out.below (below_drewN (Below.refl _ _) _)) (ES.below (below_drewN (Below.refl _ _) _))
          exact ⟨⟨k + 1, by omega, by go_num, hz⟩, by simp [intOf]; omega⟩
        · have HTK : Hid (mk.take1 (1, Y) = { mk with k0 := Y }) := by
            show _ = _
            unfold RE.take1
            rw [if_neg (by simp), if_pos (by show Y ∈ mk.w0; simpa using hD)]
            rfl
          clear hD
          go_wp2_with fail
          go_region
          go_wp2_with fail
          have t0 : Tch (fun b => b = pb) WA (WA.drewN (nq + 1)) := ⟨rfl, rfl, rfl, Nat.le_refl _, fun _ _ _ => rfl⟩
          have tt := t0.trans (tset (WA.drewN (nq + 1)) pb 9 (.int .i64 (Y : Int)))
          have hnum := PA1.out.num (q' := q) (m' := { mk with k0 := Y }) (blk_set (w := WA.drewN (nq + 1)) (k := 9) (x := .int .i64 (Y : Int)) PA1.out.em.blk) tt rfl rfl rfl
          have hz := NX.out _ (by rw [HTK.out]; exact hnum.1) hnum.2
          exact ⟨⟨k + 1, by omega, by go_num, hz⟩, by simp [intOf]; omega⟩
      · have cw : WA.cell? ⟨pb, 1, none⟩ = some v.vw1 := blk_cell PA1.out.em.blk
        have ck : WA.cell? ⟨pb, 10, none⟩ = some (.int .i64 (mk.k1 : Int)) := blk_cell PA1.out.em.blk
        have fk : WA.frozen? ⟨pb, 10, none⟩ = false := blk_free PA1.out.em.blk
        have hww : mk.w1.length ≤ 8 := (okk.ww 2).2.1
        have hwi : IntKind.i64.wrap 1 = 1 := by decide
        have HCT : Hid (∀ j, Calls Tryz.prog 125 #[v.vw1, .int .i64 (Y : Int)] (WA.drewN j) fun r w' => r = .returned (.bool (decide (Y ∈ mk.w1))) ∧ w' = WA.drewN j) := fun j => (contains_nat v.vw1 mk.w1 Y (WA.drewN j) (by exact PA1.out.wsh.2.1) hww).mono (by rintro e w' ⟨rfl, rfl⟩; exact ⟨rfl, rfl⟩)
        go_upto_region 6 with fail
        go_quiet ((go_at_call 125; exact Calls.quiet_of_same (HCT.out _)))
        cases hD : decide (Y ∈ mk.w1)
        · have HTK : Hid (mk.take1 (2, Y) = mk) := by
            show _ = _
            unfold RE.take1
            rw [if_neg (by simp), if_neg (by show ¬ Y ∈ mk.w1; simpa using hD)]
          clear hD
          go_wp2_with fail
          have hz := NX.out (WA.drewN nq) (by rw [HTK.out]; exact PA1.out.below (below_drewN (Below.refl _ _) _)) (ES.below (below_drewN (Below.refl _ _) _))
          exact ⟨⟨k + 1, by omega, by go_num, hz⟩, by simp [intOf]; omega⟩
        · have HTK : Hid (mk.take1 (2, Y) = { mk with k1 := Y }) := by
            show _ = _
            unfold RE.take1
            rw [if_neg (by simp), if_pos (by show Y ∈ mk.w1; simpa using hD)]
            rfl
          clear hD
          go_wp2_with fail
          go_region
          go_wp2_with fail
          have t0 : Tch (fun b => b = pb) WA (WA.drewN (nq + 1)) := ⟨rfl, rfl, rfl, Nat.le_refl _, fun _ _ _ => rfl⟩
          have tt := t0.trans (tset (WA.drewN (nq + 1)) pb 10 (.int .i64 (Y : Int)))
          have hnum := PA1.out.num (q' := q) (m' := { mk with k1 := Y }) (blk_set (w := WA.drewN (nq + 1)) (k := 10) (x := .int .i64 (Y : Int)) PA1.out.em.blk) tt rfl rfl rfl
          have hz := NX.out _ (by rw [HTK.out]; exact hnum.1) hnum.2
          exact ⟨⟨k + 1, by omega, by go_num, hz⟩, by simp [intOf]; omega⟩
      · have cw : WA.cell? ⟨pb, 2, none⟩ = some v.vw2 := blk_cell PA1.out.em.blk
        have ck : WA.cell? ⟨pb, 11, none⟩ = some (.int .i64 (mk.k2 : Int)) := blk_cell PA1.out.em.blk
        have fk : WA.frozen? ⟨pb, 11, none⟩ = false := blk_free PA1.out.em.blk
        have hww : mk.w2.length ≤ 8 := (okk.ww 3).2.1
        have hwi : IntKind.i64.wrap 2 = 2 := by decide
        have HCT : Hid (∀ j, Calls Tryz.prog 125 #[v.vw2, .int .i64 (Y : Int)] (WA.drewN j) fun r w' => r = .returned (.bool (decide (Y ∈ mk.w2))) ∧ w' = WA.drewN j) := fun j => (contains_nat v.vw2 mk.w2 Y (WA.drewN j) (by exact PA1.out.wsh.2.2) hww).mono (by rintro e w' ⟨rfl, rfl⟩; exact ⟨rfl, rfl⟩)
        go_upto_region 6 with fail
        go_quiet ((go_at_call 125; exact Calls.quiet_of_same (HCT.out _)))
        cases hD : decide (Y ∈ mk.w2)
        · have HTK : Hid (mk.take1 (3, Y) = mk) := by
            show _ = _
            unfold RE.take1
            rw [if_neg (by simp), if_neg (by show ¬ Y ∈ mk.w2; simpa using hD)]
          clear hD
          go_wp2_with fail
          have hz := NX.out (WA.drewN nq) (by rw [HTK.out]; exact PA1.out.below (below_drewN (Below.refl _ _) _)) (ES.below (below_drewN (Below.refl _ _) _))
          exact ⟨⟨k + 1, by omega, by go_num, hz⟩, by simp [intOf]; omega⟩
        · have HTK : Hid (mk.take1 (3, Y) = { mk with k2 := Y }) := by
            show _ = _
            unfold RE.take1
            rw [if_neg (by simp), if_pos (by show Y ∈ mk.w2; simpa using hD)]
            rfl
          clear hD
          go_wp2_with fail
          go_region
          go_wp2_with fail
          have t0 : Tch (fun b => b = pb) WA (WA.drewN (nq + 1)) := ⟨rfl, rfl, rfl, Nat.le_refl _, fun _ _ _ => rfl⟩
          have tt := t0.trans (tset (WA.drewN (nq + 1)) pb 11 (.int .i64 (Y : Int)))
          have hnum := PA1.out.num (q' := q) (m' := { mk with k2 := Y }) (blk_set (w := WA.drewN (nq + 1)) (k := 11) (x := .int .i64 (Y : Int)) PA1.out.em.blk) tt rfl rfl rfl
          have hz := NX.out _ (by rw [HTK.out]; exact hnum.1) hnum.2
          exact ⟨⟨k + 1, by omega, by go_num, hz⟩, by simp [intOf]; omega⟩
      · obtain ⟨qq, hq, hq1, hqm, hml2⟩ := okk.mag
        have c12 : WA.cell? ⟨pb, 12, none⟩ = some (.int .i64 (mk.mag : Int)) := blk_cell PA1.out.em.blk
        have f12 : WA.frozen? ⟨pb, 12, none⟩ = false := blk_free PA1.out.em.blk
        have c13 : WA.cell? ⟨pb, 13, none⟩ = some (.map (some v.mb)) := blk_cell PA1.out.em.blk
        obtain ⟨x, hx⟩ : ∃ x, x = (5 * mk.mag + 3) % 65536 := ⟨_, rfl⟩
        have hxl : x < 65536 := by omega
        have e5 : (5 * (mk.mag : Int) + 3) % 65536 = (x : Int) := by omega
        have w5 : IntKind.i64.wrap (5 * (mk.mag : Int)) = 5 * (mk.mag : Int) := wrap_in (by omega) (by omega)
        have w6 : IntKind.i64.wrap (5 * (mk.mag : Int) + 3) = 5 * (mk.mag : Int) + 3 := wrap_in (by omega) (by omega)
        have HTK : Hid (mk.take1 (4, Y) = { mk with mg := mk.mg ++ [x] }) := by show _ = _; rw [hx]; rfl
        have HTM : Hid (_) := takeMagic_any pb v.mb x _ mk.mg WA PA1.out.mp (fun e => PA1.out.mn (.inl e)) c12 f12 c13 hxl (by omega)
        clear hq hq1 hqm hx
        go_wp2_with fail
        refine Calls.mono HTM.out ?_
        rintro e wz ⟨rfl, hm1, hg1'⟩
        have hz := PA1.out.magic x hm1 hg1'
        have HZ : Hid (_) := NX.out wz (by rw [HTK.out]; exact hz.1) hz.2
        clear hm1 hg1' HTM hz
        go_wp2_with fail
        exact ⟨⟨k + 1, by omega, by go_num, HZ.out⟩, by simp [intOf]; omega⟩
    · have ht : l.take k = l := List.take_of_length_le (by omega)
      have hI : ¬ (k : Int) < (l.length : Int) := by omega
      have HF : Hid (PX wr B Bs pb v q (m.takeAll l) S ∧ ES w wr pb v.vals v.vals) := by
        have := HW.out
        rw [ht] at this
        exact this
      clear HW ht
      go_wp2_with fail
      go_end0
      exact ⟨rfl, HF.out⟩
end Go.Proofs.YtoeihlgidakjbaaGreatDoor
namespace Go.Proofs.YtoeihlgidakjbaaGreatDoor
open Go.RowKit Go.Lib
set_option maxRecDepth 100000 in
set_option maxHeartbeats 1000000 in
theorem act_heeds {B Bs pb H : Nat} {v : PV} {m : RE} {S : List UInt8} (b1 b2 : Nat) (vi : Value) (l : List (Nat × Nat)) (w : World) (h : PI w B Bs pb v m S) (ok : m.Ok) (p1 : w.heap[b1]? = some (.cells #[.pointer (some ⟨pb, 0, none⟩)] 46 (0, 0))) (p2 : w.heap[b2]? = some (.cells #[vi] 163 (0, 0)))
    (oi : w.ownsRow H 189 2 vi l.length (itemC l)) (ni : ∀ b, vi.ownBlock = some b → ¬ inE pb v.vals b) (hl : ItemsOk l) (hmg : m.mg.length + 100 ≤ 17000000000000) :
    Calls Tryz.prog 136 #[.pointer (some ⟨b1, 0, none⟩), .pointer (some ⟨b2, 0, none⟩)] w fun r w' => ActR w w' B Bs pb v (m.takeAll l) S r := by
  have c1 : w.drew.cell? ⟨b1, 0, none⟩ = some (.pointer (some ⟨pb, 0, none⟩)) := blk_cell (w := w) p1
  have c2 : w.drew.cell? ⟨b2, 0, none⟩ = some vi := blk_cell (w := w) p2
  have HH : Hid (_) := heed_all vi l w.drew (h.below ((Below.refl _ _).drew)) ok hmg hl (by exact oi) ni
  have HB : Hid (Below w.heap.size w w.drew) := (Below.refl _ _).drew
  have hq : ∀ (L : List (Nat × Nat)) (m : RE), (m.takeAll L).props = m.props := by
    intro L
    induction L with
    | nil => intro m; rfl
    | cons x L ih =>
      intro m
      refine (ih (m.take1 x)).trans ?_
      unfold RE.take1 RE.ask
      split
      · rfl
      · split
        · split
          · rfl
          · split <;> rfl
        · rfl
  have HQ : Hid ((m.takeAll l).props = m.props) := hq l m
  clear h ok p1 p2 oi hq
  go_enter Tryz.func136, Tryz.ntmps136
  go_region_law (go_simp; go_at_call 137; refine Calls.mono HH.out ?_; rintro e wz ⟨rfl, p1, p2⟩)
  all_goals
    go_wp2_with fail
    go_end0
    refine ⟨rfl, v, ?_, (ES.below HB.out).trans p2⟩
    rw [HQ.out]
    exact p1
def RE.nk (m : RE) : RE × List UInt8 := match itemsL m.pd with | some l => if l = [] ∨ (m.pi : Int) ≠ m.sid then (m, []) else (m.takeAll l).at_ 11 | none => (m, [])
theorem nk_none {m : RE} (h : items1 m.pd = none) : m.nk = (m, []) := by
  unfold items1 at h
  unfold RE.nk
  split at h
  · rename_i e; rw [e]; rfl
  · rw [h]
theorem nk_some {m : RE} {l : List (Nat × Nat)} (h : items1 m.pd = some l) (hne : l ≠ []) : itemsL m.pd = some l ∧ ((m.pi : Int) ≠ m.sid → m.nk = (m, [])) ∧ ((m.pi : Int) = m.sid → m.nk = (m.takeAll l).at_ 11) := by
  unfold items1 at h
  split at h
  · cases h
  · refine ⟨h, fun e => ?_, fun e => ?_⟩
    · unfold RE.nk; rw [h]; simp only; rw [if_pos (.inr e)]
    · unfold RE.nk; rw [h]; simp only; rw [if_neg (by rintro (x | x); exact hne x; exact x e)]
theorem take1_st (m : RE) (x : Nat × Nat) : (m.take1 x).st = m.st := by
  unfold RE.take1 RE.ask
  split
  · rfl
  · split
    · split
      · rfl
      · split <;> rfl
    · rfl
theorem takeAll_st (l : List (Nat × Nat)) (m : RE) : (m.takeAll l).st = m.st := by
  induction l generalizing m with
  | nil => rfl
  | cons x l ih => exact (ih (m.take1 x)).trans (take1_st m x)
theorem heed_run (m : RE) (l : List (Nat × Nat)) : (m.takeAll l).at_ 11 = m.prun (.heed l :: row_atRefusal.getD m.st []) := by
  rw [row_ev (R := row_atRefusal) (ev := 11) rfl (m.takeAll l), takeAll_st]
  show _ = (_, _)
  simp only [RE.pa, List.nil_append]
set_option maxRecDepth 100000 in
set_option maxHeartbeats 3000000 in
theorem patNak {B Bs pb : Nat} {v : PV} {m : RE} {S : List UInt8} (w : World) (h : PI w B Bs pb v m S) (ok : m.Ok) (fit : m.Fit 900) (hg : Gt w) :
    Calls Tryz.prog 104 #[.pointer (some ⟨pb, 0, none⟩), .agg (pkA m.pk)] w fun r w' => PatH w w' w.heap.size B Bs pb v S m.nk r := by
  have hmf : ∀ (fn : Fn) (first cap : Array Value) (w : World), (Instr.makeFunc fn first cap).run Tryz.prog w = .ok (.func fn first cap) w := fun _ _ _ _ => rfl
  obtain ⟨i0, hi, hz0, hz1, hz2⟩ := info_parts Tryz.infoFn
  have BA : Hid (Below w.heap.size w ((w.alloc (.cells #[.pointer (some ⟨pb, 0, none⟩)] 46)).alloc (.cells (pkA m.pk) 27))) := box_below _ _ _ _ _
  have RA : Hid (((w.alloc (.cells #[.pointer (some ⟨pb, 0, none⟩)] 46)).alloc (.cells (pkA m.pk) 27)).heap[w.heap.size]? = some (.cells #[.pointer (some ⟨pb, 0, none⟩)] 46 (0, 0)) ∧ ((w.alloc (.cells #[.pointer (some ⟨pb, 0, none⟩)] 46)).alloc (.cells (pkA m.pk) 27)).heap[w.heap.size + 1]? = some (.cells (pkA m.pk) 27 (0, 0))) := box_two (Tch.refl (fun _ => False) _) (fun x => x) (fun x => x)
  have zA : ((w.alloc (.cells #[.pointer (some ⟨pb, 0, none⟩)] 46)).alloc (.cells (pkA m.pk) 27)).heap.size = w.heap.size + 2 := by simp
  have HP : Hid (PI w B Bs pb v m S) := h
  have OK : Hid (m.Ok) := ok
  have FIT : Hid (m.Fit 900) := fit
  have hst := ok.st
  have hpd := ok.pd
  have hpb := blk_lt h.em.blk
  have HR : Hid (_) := tread_any ⟨m.pd.toArray⟩ ((w.alloc (.cells #[.pointer (some ⟨pb, 0, none⟩)] 46)).alloc (.cells (pkA m.pk) 27)) (hg.below BA.out) (by show m.pd.toArray.size ≤ _; rw [List.size_toArray]; omega)
  clear h ok fit hg
  go_enter Tryz.func104, Tryz.ntmps104
  go_wp2_with fail
  generalize ((w.alloc (.cells #[.pointer (some ⟨pb, 0, none⟩)] 46)).alloc (.cells (pkA m.pk) 27)) = WA at *
  refine Calls.mono HR.out ?_
  rintro e w1 ⟨hb1, ⟨h1, g, rfl⟩ | ⟨l, vi, h1, h2, rfl, ho⟩⟩
  · have Q : Hid (PatH w (w1.alloc (.cells #[.slice none 0 0] 163)) w.heap.size B Bs pb v S m.nk (.returned (.slice none 0 0))) := PatH.nil HP.out ((BA.out.trans (hb1.mono BA.out.size)).trans (((Below.refl _ _).alloc (Nat.le_refl _) _).mono (by have := hb1.size; omega))) (nk_none h1) OK.out (FIT.out.less (by omega))
    clear h1 hb1 HR
    go_wp2_with fail
    go_ret
    exact Q.out
  · obtain ⟨e1, e2, e3⟩ := nk_some h1 h2
    have hl4 := items_le4 e1
    have hlk : ItemsOk l := ⟨by omega, itemsAux_rng _ _ _ e1⟩
    obtain ⟨ai, ci, gi, rfl, _, _⟩ := own_shape2 ho
    have zz1 := hb1.size
    have B5 : Hid (Below w1.heap.size w1 (w1.alloc (.cells #[.slice ai l.length ci] 163))) := (Below.refl _ _).alloc (Nat.le_refl _) _
    have HB2 : Hid (Below w.heap.size w (w1.alloc (.cells #[.slice ai l.length ci] 163))) := (BA.out.trans (hb1.mono BA.out.size)).trans (B5.out.mono (by omega))
    have r5 : Hid ((w1.alloc (.cells #[.slice ai l.length ci] 163)).heap[w1.heap.size]? = some (.cells #[.slice ai l.length ci] 163 (0, 0))) := heap_alloc_new w1 _
    have z5 : (w1.alloc (.cells #[.slice ai l.length ci] 163)).heap.size = w1.heap.size + 1 := by simp
    have O2 : Hid ((w1.alloc (.cells #[.slice ai l.length ci] 163)).ownsRow w.heap.size 189 2 (.slice ai l.length ci) l.length (itemC l)) := owns_mono (owns_below ho B5.out) (by omega)
    have R0 : Hid ((w1.alloc (.cells #[.slice ai l.length ci] 163)).heap[w.heap.size]? = some (.cells #[.pointer (some ⟨pb, 0, none⟩)] 46 (0, 0))) := (B5.out.block _ (by omega)).trans ((hb1.block _ (by omega)).trans RA.out.1)
    have R1 : Hid ((w1.alloc (.cells #[.slice ai l.length ci] 163)).heap[w.heap.size + 1]? = some (.cells (pkA m.pk) 27 (0, 0))) := (B5.out.block _ (by omega)).trans ((hb1.block _ (by omega)).trans RA.out.2)
    have P2 : Hid (PI (w1.alloc (.cells #[.slice ai l.length ci] 163)) B Bs pb v m S) := HP.out.below HB2.out
    have hil := isForLast_any (w1.alloc (.cells #[.slice ai l.length ci] 163)) P2.out
    have x0 : (w1.alloc (.cells #[.slice ai l.length ci] 163)).cell? ⟨w.heap.size, 0, none⟩ = some (.pointer (some ⟨pb, 0, none⟩)) := blk_cell R0.out
    have y0 : (w1.alloc (.cells #[.slice ai l.length ci] 163)).cell? ⟨w.heap.size + 1, 0, none⟩ = some (.int .i64 (m.pk.1 : Int)) := blk_cell R1.out
    have y1 : (w1.alloc (.cells #[.slice ai l.length ci] 163)).cell? ⟨w.heap.size + 1, 1, none⟩ = some (.int .i64 (m.pk.2.1 : Int)) := blk_cell R1.out
    have y2 : (w1.alloc (.cells #[.slice ai l.length ci] 163)).cell? ⟨w.heap.size + 1, 2, none⟩ = some (.string ⟨m.pk.2.2.toArray⟩) := blk_cell R1.out
    have HLK : Hid (ItemsOk l) := hlk
    by_cases hfl : (m.pi : Int) = m.sid
    · rw [decide_eq_true hfl] at hil
      have HIL : Hid (_) := hil
      have HE : Hid (m.nk = m.prun (.heed l :: row_atRefusal.getD m.st [])) := (e3 hfl).trans (heed_run m l)
      clear h1 hb1 HR ho e1 e2 e3 hil hfl hlk hl4
      go_upto_region 2 with fail
      generalize w1.alloc (.cells #[.slice ai l.length ci] 163) = W2 at *
      go_wp2_with fail
      refine Calls.mono HIL.out ?_
      rintro e w3 ⟨rfl, hb3⟩
      have zz3 := hb3.size
      have q0 := (hb3.block _ (by omega)).trans R0.out
      have q1 := (hb3.block _ (by omega)).trans R1.out
      have q5 := (hb3.block _ (by omega)).trans r5.out
      have P3 : Hid (PI w3 B Bs pb v m S) := P2.out.below hb3
      have O3 : Hid (w3.ownsRow w.heap.size 189 2 (.slice ai l.length ci) l.length (itemC l)) := owns_below O2.out hb3
      have HB3 : Hid (Below w.heap.size w w3) := HB2.out.trans (hb3.mono (by omega))
      have CL : Hid (∃ F : Nat → Prop, Does w3 F pb m.pk (.heed l) (.func (.func 136) #[] #[.pointer (some ⟨w.heap.size, 0, none⟩), .pointer (some ⟨w1.heap.size, 0, none⟩)]) ∧ ∀ b, F b → w.heap.size ≤ b ∧ b < w3.heap.size) := by
        refine ⟨fun b => b = w.heap.size ∨ b = w1.heap.size ∨ (Value.slice ai l.length ci).ownBlock = some b, ⟨136, #[], _, rfl, fun _ _ => by kernel_rfl, ?_, HLK.out, ?_⟩, ?_⟩
        · rintro b (rfl | rfl | hb)
          · omega
          · omega
          · exact (O3.out.lt b hb).2
        · intro wr S0 ht hs B' Bs' v' m' S' hp hd hk ok' fit' hS hB'
          have k0 := (ht.block _ (by omega) (hs _ (.inl rfl))).trans q0
          have k5 := (ht.block _ (by omega) (hs _ (.inr (.inl rfl)))).trans q5
          have o5 := owns_tch O3.out ht (fun b hb => hs b (.inr (.inr hb)))
          have := act_heeds (m := m') (S := S') (H := w.heap.size) w.heap.size w1.heap.size (.slice ai l.length ci) l wr hp ok' k0 k5 o5 (fun b hb => hd b (.inr (.inr hb))) HLK.out (by have := fit'.mg; omega)
          have e : #[] ++ #[Value.pointer (some ⟨w.heap.size, 0, none⟩), .pointer (some ⟨w1.heap.size, 0, none⟩)] = #[Value.pointer (some ⟨w.heap.size, 0, none⟩), .pointer (some ⟨w1.heap.size, 0, none⟩)] := by simp
          rw [e]
          show Calls _ _ _ _ (fun r w' => ActR wr w' B' Bs' pb v' (m'.takeAll l) (S' ++ []) r)
          rw [List.append_nil]
          exact this
        · rintro b (rfl | rfl | hb)
          · omega
          · omega
          · exact O3.out.lt b hb
      have WD0 : Hid ((w3.alloc (.cells #[.func (.func 136) #[] #[.pointer (some ⟨w.heap.size, 0, none⟩), .pointer (some ⟨w1.heap.size, 0, none⟩)]] 113)).ownsRow w.heap.size 113 1 (.slice (some ⟨w3.heap.size, 0, none⟩) 1 1) 1 [.func (.func 136) #[] #[.pointer (some ⟨w.heap.size, 0, none⟩), .pointer (some ⟨w1.heap.size, 0, none⟩)]]) := own_built (by omega) #[.func (.func 136) #[] #[.pointer (some ⟨w.heap.size, 0, none⟩), .pointer (some ⟨w1.heap.size, 0, none⟩)]] (by show 1 ≤ 100; omega)
      have BD : Hid (Below w3.heap.size w3 (w3.alloc (.cells #[.func (.func 136) #[] #[.pointer (some ⟨w.heap.size, 0, none⟩), .pointer (some ⟨w1.heap.size, 0, none⟩)]] 113))) := (Below.refl _ _).alloc (Nat.le_refl _) _
      have zD : (w3.alloc (.cells #[.func (.func 136) #[] #[.pointer (some ⟨w.heap.size, 0, none⟩), .pointer (some ⟨w1.heap.size, 0, none⟩)]] 113)).heap.size = w3.heap.size + 1 := by simp
      have s0 := (BD.out.block _ (by omega)).trans q0
      have s1 := (BD.out.block _ (by omega)).trans q1
      have PD : Hid (PI (w3.alloc (.cells #[.func (.func 136) #[] #[.pointer (some ⟨w.heap.size, 0, none⟩), .pointer (some ⟨w1.heap.size, 0, none⟩)]] 113)) B Bs pb v m S) := P3.out.below BD.out
      have d0 : (w3.alloc (.cells #[.func (.func 136) #[] #[.pointer (some ⟨w.heap.size, 0, none⟩), .pointer (some ⟨w1.heap.size, 0, none⟩)]] 113)).cell? ⟨w.heap.size, 0, none⟩ = some (.pointer (some ⟨pb, 0, none⟩)) := blk_cell s0
      have d1 : (w3.alloc (.cells #[.func (.func 136) #[] #[.pointer (some ⟨w.heap.size, 0, none⟩), .pointer (some ⟨w1.heap.size, 0, none⟩)]] 113)).cell? ⟨w.heap.size + 1, 0, none⟩ = some (.int .i64 (m.pk.1 : Int)) := blk_cell s1
      have d2 : (w3.alloc (.cells #[.func (.func 136) #[] #[.pointer (some ⟨w.heap.size, 0, none⟩), .pointer (some ⟨w1.heap.size, 0, none⟩)]] 113)).cell? ⟨w.heap.size + 1, 1, none⟩ = some (.int .i64 (m.pk.2.1 : Int)) := blk_cell s1
      have d3 : (w3.alloc (.cells #[.func (.func 136) #[] #[.pointer (some ⟨w.heap.size, 0, none⟩), .pointer (some ⟨w1.heap.size, 0, none⟩)]] 113)).cell? ⟨w.heap.size + 1, 2, none⟩ = some (.string ⟨m.pk.2.2.toArray⟩) := blk_cell s1
      have HRF : Hid (_) := patRefusal pb m.st (w3.alloc (.cells #[.func (.func 136) #[] #[.pointer (some ⟨w.heap.size, 0, none⟩), .pointer (some ⟨w1.heap.size, 0, none⟩)]] 113)).heap.size m.pk (w3.alloc (.cells #[.func (.func 136) #[] #[.pointer (some ⟨w.heap.size, 0, none⟩), .pointer (some ⟨w1.heap.size, 0, none⟩)]] 113)) hst (blk_lt PD.out.em.blk) (Nat.le_refl _) (blk_cell PD.out.em.blk)
      clear hb3 q0 q1 q5 s0 s1 HIL x0 y0 y1 y2
      go_wp2_with fail
      generalize w3.alloc (.cells #[.func (.func 136) #[] #[.pointer (some ⟨w.heap.size, 0, none⟩), .pointer (some ⟨w1.heap.size, 0, none⟩)]] 113) = WD at *
      refine Calls.mono HRF.out ?_
      rintro e w4 ⟨va, rfl, ⟨hnil, hva⟩, hb4⟩
      have zz4 := hb4.size
      have B4 : Hid (Below WD.heap.size WD w4) := hb4
      have W4 : Hid (w4.ownsRow w.heap.size 113 1 (.slice (some ⟨w3.heap.size, 0, none⟩) 1 1) 1 [.func (.func 136) #[] #[.pointer (some ⟨w.heap.size, 0, none⟩), .pointer (some ⟨w1.heap.size, 0, none⟩)]]) := owns_below WD0.out hb4
      have hB4 : Hid (Below w3.heap.size w3 w4) := BD.out.trans (hb4.mono (by omega))
      by_cases hemp : row_atRefusal.getD m.st [] = []
      · obtain rfl := hnil hemp
        have HEM : Hid (row_atRefusal.getD m.st [] = []) := hemp
        clear hnil hva hb4 HRF hemp
        go_wp2_with fail
        go_ret
        refine ⟨_, [.heed l], m, rfl, acts_cons W4.out rfl ?_ (fun j c u hc => by simp at hc), P3.out.below hB4.out, ES.below (HB3.out.trans (hB4.out.mono (by omega))), ?_, OK.out, FIT.out.less (by omega), by simp⟩
        · obtain ⟨F, dd, hF⟩ := CL.out
          exact ⟨F, dd.below hB4.out, fun b hb => (hF b hb).1⟩
        · rw [HE.out, HEM.out]
      · have hlen : 0 < (row_atRefusal.getD m.st []).length := List.length_pos_iff.2 hemp
        have hle : (row_atRefusal.getD m.st []).length ≤ 6 := row_six (by decide) _
        have hle2 : (row_atRefusal.getD m.st []).length ≤ 4 := by
          simp only [List.getD]
          have h : (row_atRefusal.all fun l => Nat.ble l.length 4) = true := by decide
          cases hx : row_atRefusal[m.st]? with
          | none => simp
          | some l => exact Nat.le_of_ble_eq_true (List.all_eq_true.1 h l (List.mem_of_getElem? hx))
        obtain ⟨ad, cap, g, us, rfl, had, hul, hus, hact⟩ := hva
        obtain ⟨rfl, hgH, hgl⟩ := had hlen
        have HUS : Hid (us.length = (row_atRefusal.getD m.st []).length ∧ (∀ (j : Nat) (u : Value), us[j]? = some u → w4.cell? ((⟨g, 0, none⟩ : Addr).add j) = some u) ∧ (∀ u ∈ us, u.oneCell' = true) ∧ ∀ (j : Nat) (c : PA) (u : Value), (row_atRefusal.getD m.st [])[j]? = some c → us[j]? = some u → ∃ F : Nat → Prop, Does w4 F pb m.pk c u ∧ ∀ b, F b → WD.heap.size ≤ b) := by
          refine ⟨hul, fun j u hu => ?_, fun u hu => ?_, hact⟩
          · have hadd : (⟨g, 0, none⟩ : Addr).add j = ⟨g, j, none⟩ := by unfold Addr.add; split <;> simp_all
            rw [hadd]; exact hus j u hu
          · obtain ⟨j, hj⟩ := List.getElem?_of_mem hu
            obtain ⟨hjl, _⟩ := List.getElem?_eq_some_iff.1 hj
            obtain ⟨F, ⟨f, x, y, rfl, _⟩, _⟩ := hact j _ u (List.getElem?_eq_getElem (by omega)) hj
            rfl
        clear hus hact had hb4 HRF hul hnil hemp
        generalize hLS : row_atRefusal.getD m.st [] = LS at *
        go_wp2_with (at_builtin; go_must (refine wpList_append_lies _ rfl (.tmp 24) (.tmp 27) 85 rfl w.heap.size 113 i0 .nilFunc 1 8 Tryz.underlying85 hi hz0 hz1 hz2 rfl (by decide) _ 1 [.func (.func 136) #[] #[.pointer (some ⟨w.heap.size, 0, none⟩), .pointer (some ⟨w1.heap.size, 0, none⟩)]] rfl W4.out ⟨g, 0, none⟩ LS.length cap us rfl (by have := HUS.out.1; omega) HUS.out.2.1 HUS.out.2.2.1 hlen (by unfold maxLen; omega) (by omega) (by omega) _ rfl ?_; intro gv capv w5 hown1 hgrow1 hat1 hlt1))
        go_ret
        have off : ∀ b, (Value.slice (some ⟨w3.heap.size, 0, none⟩) 1 1).ownBlock = some b → b = w3.heap.size := fun b e => (Option.some.inj e).symm
        have tq : Tch (fun b => (Value.slice (some ⟨w3.heap.size, 0, none⟩) 1 1).ownBlock = some b) w4 w5 := ⟨hgrow1.os, hgrow1.tape, hgrow1.output, hgrow1.size, fun b hb' hs => hgrow1.block b hb' (fun e => hs e.symm)⟩
        have hb5 : Below w3.heap.size w3 w5 := hB4.out.trans (tq.below (by omega) (fun b hb => by rw [off b hb]; omega))
        refine ⟨_, .heed l :: LS, m, rfl, acts_cons hown1 HUS.out.1 ?_ (fun j c u hc hu => ?_), P3.out.below hb5, ES.below (HB3.out.trans (hb5.mono (by omega))), HE.out, OK.out, FIT.out.less (by omega), by simp; omega⟩
        · obtain ⟨F, dd, hF⟩ := CL.out
          exact ⟨F, dd.below hb5, fun b hb => (hF b hb).1⟩
        · obtain ⟨F, dd, hF⟩ := HUS.out.2.2.2 j c u hc hu
          exact ⟨F, dd.tch tq (fun b hb x => by have := hF b hb; rw [off b x] at this; omega), fun b hb => by have := hF b hb; omega⟩
    · rw [decide_eq_false hfl] at hil
      have HIL : Hid (_) := hil
      have HE : Hid (m.nk = (m, [])) := e2 hfl
      clear h1 hb1 HR ho e1 e2 e3 hil hfl hlk hl4
      go_upto_region 2 with fail
      generalize w1.alloc (.cells #[.slice ai l.length ci] 163) = W2 at *
      go_wp2_with fail
      refine Calls.mono HIL.out ?_
      rintro e w3 ⟨rfl, hb3⟩
      have Q : Hid (PatH w w3 w.heap.size B Bs pb v S m.nk (.returned (.slice none 0 0))) := PatH.nil HP.out (HB2.out.trans (hb3.mono (by have := HB2.out.size; omega))) HE.out OK.out (FIT.out.less (by omega))
      clear hb3 HIL
      go_wp2_with fail
      go_ret
      exact Q.out
end Go.Proofs.YtoeihlgidakjbaaGreatDoor

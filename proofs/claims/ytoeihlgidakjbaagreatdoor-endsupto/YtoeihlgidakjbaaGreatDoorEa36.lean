/- The reference's nak. -/
import Derived.Test.YtoeihlgidakjbaaGreatDoorEa35
namespace Go.Proofs.YtoeihlgidakjbaaGreatDoor
open Go.RowKit Go.Lib
theorem RE.hint_cell (m : RE) (v : RV) (j : Nat) (h : j < 3) : (m.cell v)[25 + j]? = some (iv (m.hint (j + 1))) := by
  rcases (by omega : j = 0 ∨ j = 1 ∨ j = 2) with rfl | rfl | rfl <;> rfl
theorem RE.hint_set (m : RE) (v : RV) (j : Nat) (h : j < 3) : (m.cell v).setIfInBounds (25 + j) (iv (m.hint (j + 1) + 1)) = (m.hinted (j + 1)).cell v := by
  rcases (by omega : j = 0 ∨ j = 1 ∨ j = 2) with rfl | rfl | rfl <;> rfl
theorem RE.hinted_cfg (m : RE) (v : RV) (i : Nat) : (m.hinted i).cfg v = m.cfg v ∧ (m.hinted i).told = m.told ∧ (m.hinted i).mg = m.mg := by
  unfold RE.hinted; split
  · exact ⟨rfl, rfl, rfl⟩
  · split <;> exact ⟨rfl, rfl, rfl⟩
set_option maxRecDepth 100000 in
set_option maxHeartbeats 4000000 in
theorem nak_any {B rb : Nat} {v : RV} {m : RE} (w : World) (h : RI w B rb v m) (ok : m.Ok) (fit : m.Fit 100) :
    Calls Tryz.prog 152 #[.pointer (some ⟨rb, 0, none⟩)] w fun r w' => r = .returned (.string ⟨m.nak.2.toArray⟩) ∧ RI w' B rb v m.nak.1 ∧ Tch (fun b => b = rb) w w' := by
  have H : Hid (RI w B rb v m) := h
  have OK : Hid (m.Ok) := ok
  have FIT : Hid (m.Fit 100) := fit
  have hpd := ok.pd
  have hpi := ok.pi
  have hnk := fit.nk
  have c19 : w.cell? ⟨rb, 19, none⟩ = some (.string ⟨m.pd.toArray⟩) := blk_cell h.blk
  clear h ok fit
  go_enter Tryz.func152, Tryz.ntmps152
  go_upto_region 1 with fail
  go_wp2_with fail
  refine (items_any ⟨m.pd.toArray⟩ w (by rw [bsz]; simp; omega)).mono ?_
  rintro e w1 ⟨hb1, hR⟩
  obtain ⟨l, vl, bl, hl, rfl, hi1, hrng⟩ : ∃ l vl bl, (itemsL m.pd).getD [] = l ∧ e = .returned (.tuple #[vl, .bool bl]) ∧ w1.ownsRow w.heap.size 151 2 vl l.length (itemC l) ∧ ∀ x ∈ l, 1 ≤ x.1 ∧ x.1 ≤ 4 ∧ x.2 < 65536 := by
    rcases hR with ⟨h1, h2⟩ | ⟨l, v, h1, h2, h3⟩
    · exact ⟨[], _, _, by rw [show itemsL m.pd = none from h1]; rfl, h2, World.ownsRow_nil _ _ _ _, by simp⟩
    · exact ⟨l, _, _, by rw [show itemsL m.pd = some l from h1]; rfl, h2, h3, itemsAux_rng _ _ _ h1⟩
  have hll : l.length ≤ 40 := by
    cases hm : itemsL m.pd with
    | none => rw [hm] at hl; subst hl; simp
    | some l' => rw [hm] at hl; subst hl; exact Nat.le_trans (itemsAux_len _ _ _ hm) hpd
  obtain ⟨al, cl, gl, rfl, _, _⟩ := own_shape2 hi1
  have HI : Hid (w1.ownsRow w.heap.size 151 2 (.slice al l.length cl) l.length (itemC l) ∧ (∀ x ∈ l, 1 ≤ x.1 ∧ x.1 ≤ 4 ∧ x.2 < 65536) ∧ Below w.heap.size w w1 ∧ (itemsL m.pd).getD [] = l) := ⟨hi1, hrng, hb1, hl⟩
  clear hi1 hrng hR hb1 hl c19
  go_wp2_with fail
  refine (bad_any w1 (H.out.below HI.out.2.2.1) _ l (itemsIn_own HI.out.1) HI.out.2.1 (by omega) (by have := FIT.out.mg; omega) (fun i => (OK.out.aa i).2.1)).mono ?_
  rintro e w2 ⟨vo, rfl, ho, hb2⟩
  obtain ⟨L, hL⟩ : ∃ L, L = m.bad l := ⟨_, rfl⟩
  rw [← hL] at ho
  have hLl : L.length ≤ 40 := by rw [hL]; exact Nat.le_trans (List.length_filter_le _ _) hll
  obtain ⟨ao, co, go, rfl, hao, hco⟩ := own_shape2 ho
  have s01 := HI.out.2.2.1.size
  have H2 : Hid (w2.ownsRow w1.heap.size 151 2 (.slice ao L.length co) L.length (itemC L) ∧ RI w2 B rb v m ∧ Tch (fun b => b = rb) w w2 ∧ L = m.bad ((itemsL m.pd).getD []) ∧ (∀ x ∈ L, 1 ≤ x.1 ∧ x.1 ≤ 4)) := ⟨ho, (H.out.below HI.out.2.2.1).below hb2, (Tch.of_below HI.out.2.2.1).trans (Tch.of_below hb2), by rw [HI.out.2.2.2]; exact hL, fun x hx => by rw [hL] at hx; have := HI.out.2.1 x (List.mem_filter.1 hx).1; omega⟩
  have HAO : Hid (0 < L.length → ao = some ⟨go, 0, none⟩ ∧ w1.heap.size ≤ go ∧ go < w2.heap.size) := hao
  clear ho hb2 hL hao hco HI
  go_wp2_with fail
  go_loopw [7] (fun i wr => ∃ k : Nat, k ≤ L.length ∧ i = .int .i64 k ∧ Hid (wr.ownsRow w1.heap.size 151 2 (.slice ao L.length co) L.length (itemC ((m.nakItems (L.take k)).2 ++ L.drop k)) ∧ RI wr B rb v (m.nakItems (L.take k)).1 ∧ Tch (fun b => b = rb) w wr)) (fun i _ => L.length - (intOf i).toNat)
  case atStart => exact ⟨0, by omega, rfl, H2.out.1, H2.out.2.1, H2.out.2.2.1⟩
  case round =>
    obtain ⟨k, hk, rfl, HW⟩ := hrel
    by_cases hlt : k < L.length
    · obtain ⟨rfl, hg1, hg2⟩ := HAO.out (by omega)
      have hI : (k : Int) < (L.length : Int) := by omega
      have hnl : (m.nakItems (L.take k)).2.length = k := by rw [RE.nakItems_len, List.length_take]; omega
      have hd : L.drop k = L[k] :: L.drop (k + 1) := List.drop_eq_getElem_cons hlt
      have hrng := H2.out.2.2.2.2 _ (List.getElem_mem hlt)
      have hrow := HW.out.1
      rw [hd] at hrow
      obtain ⟨X, hX⟩ : ∃ X, X = (L[k]).1 := ⟨_, rfl⟩
      obtain ⟨Y, hY⟩ : ∃ Y, Y = (L[k]).2 := ⟨_, rfl⟩
      have hxy : L[k] = (X, Y) := by rw [hX, hY]
      have HT : Hid (m.nakItems (L.take (k + 1)) = (((m.nakItems (L.take k)).1.named1 (X, Y)).1, (m.nakItems (L.take k)).2 ++ [((m.nakItems (L.take k)).1.named1 (X, Y)).2])) := by
        show _ = _
        rw [List.take_add_one, List.getElem?_eq_getElem hlt, hxy]
        exact RE.nakItems_snoc _ m (X, Y)
      rw [hxy] at hrow hrng
      have hmk : (m.nakItems (L.take k)).1.acc = m.acc := RE.nak_same _ _
      have hhk : ∀ i, (m.nakItems (L.take k)).1.hint i ≤ 1000000000000000 := fun i => Nat.le_trans (RE.hint_le (L.take k) m i 999999999999900 (by have := FIT.out.h0; omega) (by have := FIT.out.h1; omega) (by have := FIT.out.h2; omega)) (by rw [List.length_take]; omega)
      have hri := HW.out.2.1
      have HTch : Hid (Tch (fun b => b = rb) w wr) := HW.out.2.2
      clear HW hd hX hY hxy
      generalize (m.nakItems (L.take k)).1 = mk at *
      generalize (m.nakItems (L.take k)).2 = N at *
      have hcs := hrow.cells (g := go) rfl
      have hadd : ∀ j, (⟨go, 0, none⟩ : Addr).add j = ⟨go, j, none⟩ := fun j => by unfold Addr.add; split <;> simp_all
      have q0 : wr.cell? ⟨go, k * 2, none⟩ = some (.int .i64 (X : Int)) := by
        rw [← hadd]; refine hcs _ _ ?_
        have := (itemC_get (N ++ (X, Y) :: L.drop (k + 1)) k (by simp; omega)).1
        rw [this, List.getElem_append_right (by omega)]
        simp [hnl]
      have q1 : wr.cell? ⟨go, k * 2 + 1, none⟩ = some (.int .i64 (Y : Int)) := by
        rw [← hadd]; refine hcs _ _ ?_
        have := (itemC_get (N ++ (X, Y) :: L.drop (k + 1)) k (by simp; omega)).2
        rw [this, List.getElem_append_right (by omega)]
        simp [hnl]
      have fz : ∀ j, wr.frozen? ⟨go, j, none⟩ = false := by
        rcases hrow.2 with ⟨e, _⟩ | ⟨g', cap', cur, e, _, hg, _⟩
        · cases e
        · intro j
          have : go = g' := by injection e with a; injection a with a; injection a
          subst this
          exact blk_free hg
      have f1 := fz (k * 2 + 1)
      have hgr : go ≠ rb := by have := blk_lt H.out.blk; omega
      have hvg : ∀ b, v.all rb b → ¬ b = go := fun b hb e => by have := (H.out.lt b hb).2; omega
      have r6 := owns_set2 hrow (k * 2 + 1) (.int .i64 0)
      have e6 := itemC_set N (L.drop (k + 1)) (X, Y) 0
      rw [hnl] at e6
      rw [show (.int .i64 0 : Value) = .int .i64 ((0 : Nat) : Int) from rfl, e6] at r6
      have t6 : Tch (fun b => b = go) wr (wr.setCell ⟨go, k * 2 + 1, none⟩ (.int .i64 0)) := tset _ _ _ _
      have ri6 : RI (wr.setCell ⟨go, k * 2 + 1, none⟩ (.int .i64 0)) B rb v mk := hri.of_tch t6 hvg
      have z0 : (wr.setCell ⟨go, k * 2 + 1, none⟩ (.int .i64 0)).cell? ⟨go, k * 2, none⟩ = some (.int .i64 (X : Int)) := (World.cell?_setCell_other _ _ _ _ (by simp)).trans q0
      have z1 : (wr.setCell ⟨go, k * 2 + 1, none⟩ (.int .i64 0)).cell? ⟨go, k * 2 + 1, none⟩ = some (.int .i64 0) := World.cell?_setCell_same' wr _ _ (by rw [q1]; rfl)
      have zf : (wr.setCell ⟨go, k * 2 + 1, none⟩ (.int .i64 0)).frozen? ⟨go, k * 2 + 1, none⟩ = false := by simpa using f1
      have R6 : Hid ((wr.setCell ⟨go, k * 2 + 1, none⟩ (.int .i64 0)).ownsRow w1.heap.size 151 2 (.slice (some ⟨go, 0, none⟩) L.length co) L.length (itemC (N ++ (X, 0) :: L.drop (k + 1))) ∧ RI (wr.setCell ⟨go, k * 2 + 1, none⟩ (.int .i64 0)) B rb v mk ∧ Tch (fun b => b = rb ∨ b = go) w (wr.setCell ⟨go, k * 2 + 1, none⟩ (.int .i64 0))) := ⟨r6, ri6, (HTch.out.mono (fun _ x => .inl x)).trans (t6.mono (fun _ x => .inr x))⟩
      have HVG : Hid (_) := hvg
      clear hcs hadd r6 e6 t6 ri6 fz hri hrow
      go_upto_region 7 with fail
      clear q0 q1 f1 HTch
      generalize wr.setCell ⟨go, k * 2 + 1, none⟩ (.int .i64 0) = W6 at *
      have hgw : w.heap.size ≤ go := by omega
      by_cases h4 : X = 4
      · have h4i : ¬ (X : Int) < 4 := by omega
        have HN : Hid (mk.named1 (X, Y) = (mk, (X, 0))) := by show _ = _; unfold RE.named1; rw [if_neg (by simp only; omega)]
        clear h4
        go_wp2_with fail
        refine ⟨⟨k + 1, by omega, by go_num, ?_, ?_, Tch.restrict (R6.out.2.2.mono (fun b x => x.imp id (fun e => by omega)))⟩, by simp [intOf]; omega⟩
        · rw [HT.out, HN.out, List.append_assoc]; exact R6.out.1
        · rw [HT.out, HN.out]; exact R6.out.2.1
      · obtain ⟨j, rfl⟩ : ∃ j, X = j + 1 := ⟨X - 1, by omega⟩
        have ej : ((j + 1 : Nat) : Int) = (j : Int) + 1 := by omega
        rw [ej] at z0
        have h4j : (j : Int) + 1 < 4 := by omega
        have hj3 : (j : Int) < 3 := by omega
        obtain ⟨va, c3, ova⟩ := R6.out.2.1.acc (j + 1) (by omega) (by omega)
        rw [Nat.add_sub_cancel] at c3
        rw [hmk] at ova
        obtain ⟨aa, ca, ga, hva, haa, _, hca⟩ := own_shape ova
        have hpos : 0 < (m.acc (j + 1)).length := accNe OK.out (j + 1)
        obtain rfl := haa hpos
        have h8 := (OK.out.aa (j + 1)).2.1
        have hgal := (ova.lt ga (by rw [hva]; rfl)).2
        have hgo : ga ≠ go := by
          refine HVG.out ga ?_
          have hm : va = v.va0 ∨ va = v.va1 ∨ va = v.va2 := by
            have hc := blk_cell (k := 3 + j) R6.out.2.1.blk
            rw [c3] at hc
            rcases (by omega : j = 0 ∨ j = 1 ∨ j = 2) with rfl | rfl | rfl
            · exact .inl (Option.some.inj hc)
            · exact .inr (.inl (Option.some.inj hc))
            · exact .inr (.inr (Option.some.inj hc))
          have hob : va.ownBlock = some ga := by rw [hva]; rfl
          rcases hm with e | e | e
          · rw [e] at hob; exact .inr (.inr (.inr (.inr (.inl hob))))
          · rw [e] at hob; exact .inr (.inr (.inr (.inr (.inr (.inl hob)))))
          · rw [e] at hob; exact .inr (.inr (.inr (.inr (.inr (.inr hob)))))
        obtain ⟨n, hn⟩ : ∃ n, n = (m.acc (j + 1)).length := ⟨_, rfl⟩
        obtain ⟨hh, hhh⟩ : ∃ hh, hh = mk.hint (j + 1) := ⟨_, rfl⟩
        have hhl := hhk (j + 1)
        rw [← hhh] at hhl
        obtain ⟨p, hp⟩ : ∃ p, p = hh % n := ⟨_, rfl⟩
        have hpn : p < n := by rw [hp]; exact Nat.mod_lt _ (by omega)
        obtain ⟨A, hA⟩ : ∃ A, A = (m.acc (j + 1)).getD p 0 := ⟨_, rfl⟩
        have cA : W6.cell? ⟨ga, p, none⟩ = some (.int .i64 (A : Int)) := by
          rw [hca p (by omega), List.getElem?_map, List.getElem?_eq_getElem (by omega), hA, List.getD, List.getElem?_eq_getElem (by omega)]; rfl
        rw [hva, ← hn] at c3
        have c25 : W6.cell? ⟨rb, 25 + j, none⟩ = some (.int .i64 (hh : Int)) := by
          rw [hhh]; exact (blk_cell R6.out.2.1.blk).trans (mk.hint_cell v j (by omega))
        have hnz : ((n : Int) == 0) = false := by simp; omega
        have hrem1 : (hh : Int).tmod (n : Int) = (p : Int) := by rw [hp, Int.tmod_eq_emod_of_nonneg (by omega)]; exact (Int.natCast_emod hh n).symm
        have hrem2 : (hh : Int) % (n : Int) = (p : Int) := by rw [hp]; exact (Int.natCast_emod hh n).symm
        have hwp : IntKind.i64.wrap (p : Int) = (p : Int) := wrap_in (by omega) (by omega)
        have hwj : IntKind.i64.wrap (j : Int) = (j : Int) := wrap_in (by omega) (by omega)
        have hpI : (p : Int) < (n : Int) := by omega
        have hn0 : ¬ n = 0 := by omega
        have hrun := fun wx => rem_run hh n p wx hn0 hp (by omega) (by omega)
        have neR : rb ≠ go := fun e => hgr e.symm
        have HN : Hid (mk.named1 (j + 1, Y) = (mk.hinted (j + 1), (j + 1, A)) ∧ hh = mk.hint (j + 1)) := by
          refine ⟨?_, hhh⟩
          unfold RE.named1; rw [if_pos (by simp only; omega)]
          simp only
          rw [hA, hp, hn, hhh, hmk]
        clear hca haa hva ova hn hhh hp hA hmk hhk h4 ej
        go_upto_region 9 with fail
        go_cut [] (fun wx => wx.ownsRow w1.heap.size 151 2 (.slice (some ⟨go, 0, none⟩) L.length co) L.length (itemC (N ++ (j + 1, A) :: L.drop (k + 1))) ∧ RI wx B rb v mk ∧ Tch (fun b => b = rb ∨ b = go) w wx)
        case first =>
          go_region_held3 (fun w' => w'.cell? ⟨rb, 3 + j, none⟩ = some (.slice (some ⟨ga, 0, none⟩) n ca) ∧ w'.cell? ⟨rb, 25 + j, none⟩ = some (.int .i64 (hh : Int)) ∧ w'.cell? ⟨ga, p, none⟩ = some (.int .i64 (A : Int))) (first | exact ⟨c3, c25, cA⟩ | assumption | exact ⟨(set_ne2 neR).trans c3, (set_ne2 neR).trans c25, (set_ne2 hgo).trans cA⟩ | exact ⟨(set_ne neR).trans c3, (set_ne neR).trans c25, (set_ne hgo).trans cA⟩) (fail)
          go_wp2_with fail
          go_meet
          have r9 := owns_set2 R6.out.1 (k * 2 + 1) (.int .i64 (A : Int))
          have e9 := itemC_set N (L.drop (k + 1)) (j + 1, 0) A
          rw [hnl] at e9
          rw [e9] at r9
          have t9 : Tch (fun b => b = go) W6 (W6.setCell ⟨go, k * 2 + 1, none⟩ (.int .i64 (A : Int))).drew := (tset _ _ _ _).drew
          exact ⟨r9.drew, R6.out.2.1.of_tch t9 HVG.out, R6.out.2.2.trans (t9.mono (fun _ x => .inr x))⟩
        case rest =>
          have R9 : Hid (_) := hcut
          have d25 : wc.cell? ⟨rb, 25 + j, none⟩ = some (.int .i64 (hh : Int)) := by
            rw [HN.out.2]; exact (blk_cell hcut.2.1.blk).trans (mk.hint_cell v j (by omega))
          have g25 : wc.frozen? ⟨rb, 25 + j, none⟩ = false := blk_free hcut.2.1.blk
          clear c3 c25 cA hnz hrem1 hrem2 hwp hpI hrun z0 z1 zf R6 hcut
          have hw1 : IntKind.i64.wrap ((hh : Int) + 1) = (hh : Int) + 1 := wrap_in (by omega) (by omega)
          go_wp2_with fail
          go_region
          all_goals
            go_wp2_with fail
            have tF : Tch (fun b => b = rb) wc (wc.setCell ⟨rb, 25 + j, none⟩ (.int .i64 ((hh : Int) + 1))).drew := (tset _ _ _ _).drew
            have bF : (wc.setCell ⟨rb, 25 + j, none⟩ (.int .i64 ((hh : Int) + 1))).drew.heap[rb]? = some (.cells ((mk.hinted (j + 1)).cell v) 129 (0, 0)) := by
              have := blk_set (k := 25 + j) (x := .int .i64 ((hh : Int) + 1)) R9.out.2.1.blk
              rw [show (.int .i64 ((hh : Int) + 1) : Value) = iv (mk.hint (j + 1) + 1) from by rw [← HN.out.2]; rfl, mk.hint_set v j (by omega)] at this
              rw [show (.int .i64 ((hh : Int) + 1) : Value) = iv (mk.hint (j + 1) + 1) from by rw [← HN.out.2]; rfl]
              exact this
            obtain ⟨g1, g2, g3⟩ := mk.hinted_cfg v (j + 1)
            refine ⟨⟨k + 1, by omega, by go_num, ?_, ?_, Tch.restrict ((R9.out.2.2.trans (tF.mono (fun _ x => .inl x))).mono (fun b x => x.imp (fun e => e) (fun e => by omega)))⟩, by simp [intOf]; omega⟩
            · rw [HT.out, HN.out.1, List.append_assoc]
              exact owns_tch R9.out.1 tF (fun b hb e => by simp only [Value.ownBlock, Option.some.injEq] at hb; omega)
            · rw [HT.out, HN.out.1]
              exact R9.out.2.1.num bF tF g2 g3 g1
    · have hkL : k = L.length := by omega
      have htk : L.take k = L := List.take_of_length_le (by omega)
      have hdk : L.drop k = [] := List.drop_eq_nil_of_le (by omega)
      have hw := HW.out
      rw [htk, hdk, List.append_nil] at hw
      obtain ⟨h0', h1', h2', emk, _⟩ := RE.nakItems_eq L m
      have hnl : (m.nakItems L).2.length = L.length := RE.nakItems_len L m
      have hrg := RE.nakItems_rng L m (fun i => (OK.out.aa i).2.2) (fun x hx => (H2.out.2.2.2.2 x hx).2)
      have hnk2 : (m.nakItems L).1.naks = m.naks := by rw [emk]
      have hpi2 : (m.nakItems L).1.pi = m.pi := by rw [emk]
      have HNK : Hid (m.nak = ({ (m.nakItems L).1 with naks := (m.nakItems L).1.naks + 1 }, lineL 3 m.pi (dataL (m.nakItems L).2))) := by
        show _ = _
        unfold RE.nak
        rw [← H2.out.2.2.2.1]
      have d20 : wr.cell? ⟨rb, 20, none⟩ = some (.int .i64 ((m.nakItems L).1.naks : Int)) := blk_cell hw.2.1.blk
      have g20 : wr.frozen? ⟨rb, 20, none⟩ = false := blk_free hw.2.1.blk
      rw [hnk2] at d20
      have HW2 : Hid (_) := hw
      have hnI : ¬ (k : Int) < (L.length : Int) := by omega
      have HRG : Hid (_) := hrg
      have HNL : Hid (_) := hnl
      have HP2 : Hid (_) := And.intro hnk2 hpi2
      clear hw emk htk hdk hrg hnl hnk2 hpi2 HW
      go_upto_region 12 with fail
      have t11 := tset wr rb 20 (.int .i64 ((m.naks : Int) + 1))
      have b11 := blk_set (k := 20) (x := .int .i64 ((m.naks : Int) + 1)) HW2.out.2.1.blk
      have ri11 : RI (wr.setCell ⟨rb, 20, none⟩ (.int .i64 ((m.naks : Int) + 1))) B rb v { (m.nakItems L).1 with naks := (m.nakItems L).1.naks + 1 } := HW2.out.2.1.num (by rw [b11, ← HP2.out.1]; rfl) t11 rfl rfl rfl
      have ow11 : (wr.setCell ⟨rb, 20, none⟩ (.int .i64 ((m.naks : Int) + 1))).ownsRow w1.heap.size 151 2 (.slice ao L.length co) (m.nakItems L).2.length (itemC (m.nakItems L).2) := by
        rw [HNL.out]
        exact owns_tch HW2.out.1 t11 (fun b hb e => by have := (HW2.out.1.lt b hb).1; have := blk_lt H.out.blk; omega)
      have d18 : (wr.setCell ⟨rb, 20, none⟩ (.int .i64 ((m.naks : Int) + 1))).cell? ⟨rb, 18, none⟩ = some (.int .i64 (m.pi : Int)) := (blk_cell ri11.blk).trans (by rw [← HP2.out.2]; rfl)
      have R11 : Hid (_) := And.intro ri11 (And.intro ow11 (HW2.out.2.2.trans t11))
      have hr11 : rb < (wr.setCell ⟨rb, 20, none⟩ (.int .i64 ((m.naks : Int) + 1))).heap.size := blk_lt ri11.blk
      clear t11 b11 ri11 ow11 d20 g20
      generalize wr.setCell ⟨rb, 20, none⟩ (.int .i64 ((m.naks : Int) + 1)) = W11 at *
      have hdl : (⟨(dataL (m.nakItems L).2).toArray⟩ : ByteArray).size ≤ 1000 := by rw [bsz, List.size_toArray, dataL_len, HNL.out]; omega
      have ITM : Hid (ItemsIn W11 (.slice ao L.length co) (m.nakItems L).2) := itemsIn_own R11.out.2.1
      go_region_held3 (fun w' => w'.cell? ⟨rb, 18, none⟩ = some (.int .i64 (m.pi : Int)) ∧ Below W11.heap.size W11 w') (first | exact ⟨d18, (Below.refl _ _).drew⟩ | exact ⟨(HBq.cell (p := ⟨rb, 18, none⟩) hr11).trans d18, HBq⟩ | assumption) (first | (go_at_call 172; refine (data_any _ (m.nakItems L).2 _ ITM.out.drew HRG.out (by rw [HNL.out]; omega)).mono ?_; rintro e wq ⟨rfl, hbq⟩; have HBq : Below W11.heap.size W11 wq := (by first | exact ((Below.refl W11.heap.size W11).drew).trans (hbq.mono (Nat.le_refl _)) | exact HBq.trans (hbq.mono HBq.size))) | (go_at_call 33; refine (ref_line 3 (m.pi : Int) ⟨(dataL (m.nakItems L).2).toArray⟩ _ (by omega) (by omega) (by omega) (by omega) hdl).mono ?_; rintro e wq ⟨rfl, hbq⟩; have HBq : Below W11.heap.size W11 wq := (by first | exact ((Below.refl W11.heap.size W11).drew).trans (hbq.mono (Nat.le_refl _)) | exact HBq.trans (hbq.mono HBq.size))))
      all_goals
        go_wp2_with fail
        go_ret
        refine ⟨?_, ?_, R11.out.2.2.trans (Tch.of_below HBq)⟩
        · rw [HNK.out]; rfl
        · rw [HNK.out]; exact R11.out.1.below HBq
end Go.Proofs.YtoeihlgidakjbaaGreatDoor

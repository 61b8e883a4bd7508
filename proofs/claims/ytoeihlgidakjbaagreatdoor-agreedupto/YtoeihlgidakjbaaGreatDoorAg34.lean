/- Agreed's walk. -/
import Derived.Test.YtoeihlgidakjbaaGreatDoorAg31
import Derived.Test.YtoeihlgidakjbaaGreatDoorAg32
namespace Go.Proofs.YtoeihlgidakjbaaGreatDoor
open Go.RowKit Go.Lib
theorem cfgIn_of {w w' : World} {v v' : LV} {XA XB : Nat → Value} {LA LB : Nat → List Int} {ma mb : Int} (ha : CfgAt w XA LA) (hb : CfgAt w XB LB) (la : ∀ i, i < 6 → IsL (LA i)) (lb : ∀ i, i < 6 → IsL (LB i)) (hc : v.c = lnC XA XB ma mb) (hc' : v'.c = v.c) (hw : Below w.heap.size w w') : CfgIn w' v' LA LB := by
  intro i hi
  rw [hc', hc]
  have e1 : lnC XA XB ma mb i = XA i := by unfold lnC; rw [if_pos hi]
  have e2 : lnC XA XB ma mb (7 + i) = XB i := by
    unfold lnC
    rw [if_neg (by omega), if_neg (by omega), if_pos (by omega), show 7 + i - 7 = i by omega]
  rw [e1, e2]
  exact ⟨(ha i hi).1.below hw, (hb i hi).1.below hw, la i hi, lb i hi⟩
set_option maxRecDepth 100000 in
set_option maxHeartbeats 16000000 in
theorem agreed_law (vr va : Value) (raw : List Int) (n : Nat) (K : Nat → Int) (F : Nat → Bool) (w : World) (gz : Gz w) (hr : IntsAt w vr raw) (hraw : Raw raw) (ha : ActsAt w va n K F) (hn : n ≤ 1048576) :
    Calls Tryz.prog 6 #[vr, va] w fun e w' => e = .returned (.bool true) ∧ Below w.heap.size w w' := by
  have HP : Hid (_) := pair_any vr raw w hr hraw
  have HG : Hid (Gz w) := gz
  obtain ⟨ar, capr, gr, offr, hvr, _, _⟩ := hr
  subst hvr
  obtain ⟨aa, capa, ga, offa, hva, haa, hac⟩ := ha
  subst hva
  have HA : Hid (0 < n → aa = some ⟨ga, offa, none⟩ ∧ ga < w.heap.size) := haa
  have HC : Hid (_) := hac
  clear gz hraw haa hac
  go_enter Tryz.func6, Tryz.ntmps6
  go_wp2_with fail
  refine Calls.mono HP.out ?_
  rintro e w1 ⟨XA, XB, rfl, hb1, hcf⟩
  have hA : CfgAt w1 XA (cfgA raw) := fun i hi => (hcf i hi).1
  have hB : CfgAt w1 XB (cfgB raw) := fun i hi => (hcf i hi).2
  obtain ⟨a0, n0, c0, a1, n1, c1, a2, n2, c2, a3, n3, c3, a4, n4, c4, a5, n5, c5, EA⟩ := hA.shapes (magA raw)
  obtain ⟨p0, m0, d0, p1, m1, d1, p2, m2, d2, p3, m3, d3, p4, m4, d4, p5, m5, d5, EB⟩ := hB.shapes (magB raw)
  have BA : Hid (Below w1.heap.size w1 ((w1.alloc (.cells (cfC XA (magA raw)) 31)).alloc (.cells (cfC XB (magB raw)) 31))) := ((Below.refl _ _).alloc (Nat.le_refl _) _).alloc (by simp) _
  have HJ : Hid (∀ W, Below w1.heap.size w1 W → Calls Tryz.prog 16 #[.agg (cfC XA (magA raw)), .agg (cfC XB (magB raw))] W fun e w' => ∃ v : LV, e = .returned (.pointer (some ⟨v.ln, 0, none⟩)) ∧ LI w' W.heap.size v (newL (cfgA raw) (cfgB raw) (magA raw) (magB raw)) ∧ Below W.heap.size W w' ∧ v.c = lnC XA XB (magA raw) (magB raw)) := fun W hW => joined_any XA XB (cfgA raw) (cfgB raw) (magA raw) (magB raw) W (hA.below hW) (hB.below hW) (fun i _ => cfgA_isL _ i) (fun i _ => cfgB_isL _ i) (magA_in _).1 (magA_in _).2 (magB_in _).1 (magB_in _).2
  have BB : Hid (((w1.alloc (.cells (cfC XA (magA raw)) 31)).alloc (.cells (cfC XB (magB raw)) 31)).heap[w1.heap.size]? = some (.cells (cfC XA (magA raw)) 31 (0, 0)) ∧ ((w1.alloc (.cells (cfC XA (magA raw)) 31)).alloc (.cells (cfC XB (magB raw)) 31)).heap[w1.heap.size + 1]? = some (.cells (cfC XB (magB raw)) 31 (0, 0))) := ⟨(Below.heap_alloc _ _ _ (by simp)).trans (alloc_at w1 _ _ rfl), alloc_at _ _ _ (by simp)⟩
  have HCF : Hid (CfgAt w1 XA (cfgA raw) ∧ CfgAt w1 XB (cfgB raw)) := ⟨hA, hB⟩
  have HB1 : Hid (Below w.heap.size w w1) := hb1
  rw [EA, EB] at BA BB HJ
  rw [EA, EB]
  clear EA EB hA hB hcf hb1 HP
  go_upto_region 2 with fail
  generalize ((w1.alloc (.cells #[.slice a0 n0 c0, .slice a1 n1 c1, .slice a2 n2 c2, .slice a3 n3 c3, .slice a4 n4 c4, .slice a5 n5 c5, .int .i64 (magA raw : Int)] 31)).alloc (.cells #[.slice p0 m0 d0, .slice p1 m1 d1, .slice p2 m2 d2, .slice p3 m3 d3, .slice p4 m4 d4, .slice p5 m5 d5, .int .i64 (magB raw : Int)] 31)) = W2 at *
  have g0 : ∀ j, W2.cell? ⟨w1.heap.size, j, none⟩ = _ := fun j => blk_cell BB.out.1
  have g1 : ∀ j, W2.cell? ⟨w1.heap.size + 1, j, none⟩ = _ := fun j => blk_cell BB.out.2
  have HBW : Hid (Below w.heap.size w W2) := HB1.out.trans (BA.out.mono HB1.out.size)
  have HCW : Hid (CfgAt W2 XA (cfgA raw) ∧ CfgAt W2 XB (cfgB raw)) := ⟨HCF.out.1.below BA.out, HCF.out.2.below BA.out⟩
  have SU : Hid (Suit (cfgA raw) (cfgB raw) (magA raw) (magB raw)) := suit_pair raw
  have ok0 : (newL (cfgA raw) (cfgB raw) (magA raw) (magB raw)).Ok 0 := newL_ok SU.out.la SU.out.lb SU.out.a1 SU.out.a2 SU.out.b1 SU.out.b2
  have OK0 : Hid ((newL (cfgA raw) (cfgB raw) (magA raw) (magB raw)).Ok 0) := ok0
  have CG0 : Hid (CgL (cfgA raw) (cfgB raw) (newL (cfgA raw) (cfgB raw) (magA raw) (magB raw))) := cgl_new _ _ _ _
  clear HCF ok0
  go_wp2_with fail
  refine Calls.mono (HJ.out W2 BA.out) ?_
  rintro e w2 ⟨v, rfl, hL, hb2, hvc⟩
  have HL0 : Hid (LI w2 W2.heap.size v (newL (cfgA raw) (cfgB raw) (magA raw) (magB raw)) ∧ Below W2.heap.size W2 w2 ∧ v.c = lnC XA XB (magA raw) (magB raw)) := ⟨hL, hb2, hvc⟩
  have HLOW : Hid (∀ (W : World) (v' : LV), LS w2 W v v' → Below W2.heap.size W2 W) := fun W v' hs => LS.low hL hs hb2 (Nat.le_refl _)
  clear hb2 hvc g0 g1
  clear hL
  have T1 : Hid (_) := tell_any true 3 w2 HL0.out.1 OK0.out (by omega)
  go_wp2_with fail
  refine Calls.mono T1.out ?_
  rintro e y1 ⟨rfl, v1, hl1, hs1⟩
  have hs1' := hs1
  have e1 : v1.ln = v.ln := hs1'.ln
  have T2 : Hid (_) := tell_any false 3 y1 hl1 (OK0.out.tell true 3) (by omega)
  rw [e1] at T2
  have H1 : Hid (LS w2 y1 v v1) := hs1'
  clear hl1 hs1 hs1' e1 T1
  go_wp2_with fail
  refine Calls.mono T2.out ?_
  rintro e y2 ⟨rfl, v2, hl2, hs2⟩
  have hs2' := H1.out.trans hs2
  have e2 : v2.ln = v.ln := hs2'.ln
  have T3 : Hid (_) := tell_any true 1 y2 hl2 ((OK0.out.tell true 3).tell false 3) (by omega)
  rw [e2] at T3
  have H2 : Hid (LS w2 y2 v v2) := hs2'
  clear hl2 hs2 hs2' e2 T2 H1
  go_wp2_with fail
  refine Calls.mono T3.out ?_
  rintro e y3 ⟨rfl, v3, hl3, hs3⟩
  have hs3' := H2.out.trans hs3
  have e3 : v3.ln = v.ln := hs3'.ln
  have T4 : Hid (_) := tell_any false 1 y3 hl3 (((OK0.out.tell true 3).tell false 3).tell true 1) (by omega)
  rw [e3] at T4
  have H3 : Hid (LS w2 y3 v v3) := hs3'
  clear hl3 hs3 hs3' e3 T3 H2
  go_wp2_with fail
  refine Calls.mono T4.out ?_
  rintro e y4 ⟨rfl, v4, hl4, hs4⟩
  have hs4' := H3.out.trans hs4
  have e4 : v4.ln = v.ln := hs4'.ln
  have T5 : Hid (_) := settle_any 200 w y4 HG.out (HBW.out.trans ((HLOW.out y4 v4 hs4').mono HBW.out.size)) HBW.out.size hl4 ((((OK0.out.tell true 3).tell false 3).tell true 1).tell false 1) (by omega) (by omega)
  rw [e4] at T5
  have H4 : Hid (LS w2 y4 v v4) := hs4'
  clear hl4 hs4 hs4' e4 T4 H3
  go_wp2_with fail
  refine Calls.mono T5.out ?_
  rintro e y5 ⟨rfl, v5, hl5, hs5⟩
  have hs5' := H4.out.trans hs5
  have e5 : v5.ln = v.ln := hs5'.ln
  have K1 : (((((newL (cfgA raw) (cfgB raw) (magA raw) (magB raw)).tell true 3).tell false 3).tell true 1).tell false 1).settle 200 = (newL (cfgA raw) (cfgB raw) (magA raw) (magB raw)).begin.settle 200 := rfl
  rw [K1] at hl5 ⊢
  obtain ⟨o1, o2, o3⟩ := SU.out.opens 200 (by omega)
  have OKS : Hid (((newL (cfgA raw) (cfgB raw) (magA raw) (magB raw)).begin.settle 200).1.Ok (81000 + 400 * 0)) := (Ln.Ok.settle 200 ((((OK0.out.tell true 3).tell false 3).tell true 1).tell false 1)).mono (by omega)
  have CGS : Hid (CgL (cfgA raw) (cfgB raw) ((newL (cfgA raw) (cfgB raw) (magA raw) (magB raw)).begin.settle 200).1) := CgL.settle 200 ((((CG0.out.tell true 3).tell false 3).tell true 1).tell false 1)
  rw [o1]
  have FX : Hid (Fix ((newL (cfgA raw) (cfgB raw) (magA raw) (magB raw)).begin.settle 200).1 ∧ ((newL (cfgA raw) (cfgB raw) (magA raw) (magB raw)).begin.settle 200).1.opened = true) := ⟨o2, o3⟩
  generalize ((newL (cfgA raw) (cfgB raw) (magA raw) (magB raw)).begin.settle 200).1 = S at *
  have T6 : Hid (_) := opened_any y5 hl5
  rw [e5, o3] at T6
  have H5 : Hid (LS w2 y5 v v5 ∧ LI y5 W2.heap.size v5 S ∧ v5.ln = v.ln) := ⟨hs5', hl5, e5⟩
  clear hl5 hs5 hs5' e5 T5 H4 K1 o1 o2 o3
  go_wp2_with fail
  refine Calls.mono T6.out ?_
  rintro e y6 ⟨rfl, hb6⟩
  have hl6 := H5.out.2.1.below hb6
  have hs6 := H5.out.1.trans (LS.new hb6)
  have T7 : Hid (_) := agree_any (cfgA raw) (cfgB raw) y6 hl6 (cfgIn_of HCW.out.1 HCW.out.2 SU.out.la SU.out.lb HL0.out.2.2 hs6.c (HLOW.out y6 v5 hs6)) CGS.out
  rw [H5.out.2.2] at T7
  have H6 : Hid (LS w2 y6 v v5 ∧ LI y6 W2.heap.size v5 S) := ⟨hs6, hl6⟩
  clear hb6 hl6 hs6 T6
  go_wp2_with fail
  refine Calls.mono T7.out ?_
  rintro e y7 ⟨b, rfl, hbt, hb7⟩
  obtain rfl := hbt FX.out.1.agree
  have HS : Hid (∃ v' l', LI y7 W2.heap.size v' l' ∧ LS w2 y7 v v' ∧ l'.Ok (81000 + 400 * 0) ∧ Fix l' ∧ CgL (cfgA raw) (cfgB raw) l') := ⟨v5, S, H6.out.2.below hb7, H6.out.1.trans (LS.new hb7), OKS.out, FX.out.1, CGS.out⟩
  clear hb7 hbt T7 H5 H6 OKS CGS FX
  go_wp2_with fail
  go_loopw [11] (fun v11 wr => ∃ (k : Nat), k ≤ n ∧ v11 = .int .i64 (k : Int) ∧ Hid (∃ v' l', LI wr W2.heap.size v' l' ∧ LS w2 wr v v' ∧ l'.Ok (81000 + 400 * k) ∧ Fix l' ∧ CgL (cfgA raw) (cfgB raw) l')) (fun v11 _ => n - (intOf v11).toNat)
  case atStart => exact ⟨0, Nat.zero_le _, rfl, HS⟩
  case round =>
    obtain ⟨k, hk, rfl, HW⟩ := hrel
    clear HS
    by_cases hlt : k < n
    · have hI : (k : Int) < (n : Int) := by omega
      obtain ⟨rfl, hga⟩ := HA.out (by omega)
      obtain ⟨v1, l1, hL1, hS1, hO1, hE1, hC1⟩ := HW.out
      have e1 : v1.ln = v.ln := hS1.ln
      have hbw : Below w.heap.size w wr := HBW.out.trans ((HLOW.out wr v1 hS1).mono HBW.out.size)
      obtain ⟨k1, k2, k3, k4⟩ := HC.out k hlt
      have d1 : wr.cell? ⟨ga, offa + k * 2, none⟩ = some (.int .i64 (K k)) := (hbw.cell (p := ⟨ga, offa + k * 2, none⟩) hga).trans k1
      have d2 : wr.cell? ⟨ga, offa + k * 2 + 1, none⟩ = some (.bool (F k)) := (hbw.cell (p := ⟨ga, offa + k * 2 + 1, none⟩) hga).trans k2
      have D1 : Hid (_) := happens_any (K k) (F k) w wr HG.out hbw HBW.out.size hL1 hO1 (by omega) k3 k4
      rw [e1] at D1
      have H1 : Hid (LS w2 wr v v1 ∧ (l1.happens (pickN (K k) 10) (F k)).Ok (81000 + 400 * (k + 1)) ∧ Fix (l1.happens (pickN (K k) 10) (F k)) ∧ CgL (cfgA raw) (cfgB raw) (l1.happens (pickN (K k) 10) (F k))) := ⟨hS1, (hO1.happens _ _).mono (by omega), hE1.happens hO1 _ _, hC1.happens _ _⟩
      clear hL1 hS1 hO1 hE1 hC1 HW e1 hbw k1 k2 k3 k4
      generalize K k = kind at *
      generalize F k = fst at *
      go_wp2_with fail
      refine Calls.mono D1.out ?_
      rintro e w3 ⟨rfl, v3, hL3, hS3⟩
      generalize l1.happens (pickN kind 10) fst = l2 at *
      have hS3' := H1.out.1.trans hS3
      have e3 : v3.ln = v.ln := hS3'.ln
      have S1 : Hid (_) := opened_any w3 hL3
      rw [e3] at S1
      have H3 : Hid (LI w3 W2.heap.size v3 l2 ∧ LS w2 w3 v v3 ∧ v3.ln = v.ln) := ⟨hL3, hS3', e3⟩
      clear hL3 hS3 hS3' e3 D1 d1 d2
      go_wp2_with fail
      refine Calls.mono S1.out ?_
      rintro e w4 ⟨rfl, hb4⟩
      have hl4 := H3.out.1.below hb4
      have hs4 := H3.out.2.1.trans (LS.new hb4)
      have S2 : Hid (_) := agree_any (cfgA raw) (cfgB raw) w4 hl4 (cfgIn_of HCW.out.1 HCW.out.2 SU.out.la SU.out.lb HL0.out.2.2 hs4.c (HLOW.out w4 v3 hs4)) H1.out.2.2.2
      rw [H3.out.2.2] at S2
      have H4 : Hid (LI w4 W2.heap.size v3 l2 ∧ LS w2 w4 v v3) := ⟨hl4, hs4⟩
      clear hb4 hl4 hs4 S1
      go_wp2_with fail
      refine Calls.mono S2.out ?_
      rintro e w5 ⟨b, rfl, hbt, hb5⟩
      obtain rfl := hbt H1.out.2.2.1.agree
      have H5 : Hid (LI w5 W2.heap.size v3 l2 ∧ LS w2 w5 v v3) := ⟨H4.out.1.below hb5, H4.out.2.trans (LS.new hb5)⟩
      clear hb5 hbt S2
      generalize l2.opened = ob at *
      cases ob
      all_goals
        go_wp2_with fail
        exact ⟨⟨k + 1, by omega, by go_num, v3, l2, H5.out.1, H5.out.2, H1.out.2.1, H1.out.2.2.1, H1.out.2.2.2⟩, by simp [intOf]; omega⟩
    · have hI : ¬ (k : Int) < (n : Int) := by omega
      obtain ⟨wR, hren⟩ : ∃ wR : World, wR = wr := ⟨_, rfl⟩
      subst hren
      obtain ⟨vf, lf, _, hSf, _, _, _⟩ := HW.out
      have HBR : Hid (Below W2.heap.size W2 wR) := HLOW.out wR vf hSf
      have g0 : ∀ j, wR.cell? ⟨w1.heap.size, j, none⟩ = _ := fun j => blk_cell ((HBR.out.block _ (blk_lt BB.out.1)).trans BB.out.1)
      have g1 : ∀ j, wR.cell? ⟨w1.heap.size + 1, j, none⟩ = _ := fun j => blk_cell ((HBR.out.block _ (blk_lt BB.out.2)).trans BB.out.2)
      have HJJ : Hid (_) := HJ.out wR (BA.out.trans (HBR.out.mono BA.out.size))
      clear hSf HW
      go_wp2_with fail
      refine Calls.mono HJJ.out ?_
      rintro e z2 ⟨u, rfl, hLu, hbu, huc⟩
      have HU0 : Hid (LI z2 wR.heap.size u (newL (cfgA raw) (cfgB raw) (magA raw) (magB raw)) ∧ Below wR.heap.size wR z2 ∧ u.c = lnC XA XB (magA raw) (magB raw)) := ⟨hLu, hbu, huc⟩
      have HLO2 : Hid (∀ (W : World) (u' : LV), LS z2 W u u' → Below wR.heap.size wR W) := fun W u' hs => LS.low hLu hs hbu (Nat.le_refl _)
      have HBX : Hid (Below w.heap.size w wR) := HBW.out.trans (HBR.out.mono HBW.out.size)
      clear hLu hbu huc g0 g1 HJJ
      have T1 : Hid (_) := tell_any true 3 z2 HU0.out.1 OK0.out (by omega)
      go_wp2_with fail
      refine Calls.mono T1.out ?_
      rintro e x1 ⟨rfl, u1, hl1, hs1⟩
      have hs1' := hs1
      have e1 : u1.ln = u.ln := hs1'.ln
      have T2 : Hid (_) := tell_any false 3 x1 hl1 (OK0.out.tell true 3) (by omega)
      rw [e1] at T2
      have H1 : Hid (LS z2 x1 u u1) := hs1'
      clear hl1 hs1 hs1' e1 T1
      go_wp2_with fail
      refine Calls.mono T2.out ?_
      rintro e x2 ⟨rfl, u2, hl2, hs2⟩
      have hs2' := H1.out.trans hs2
      have e2 : u2.ln = u.ln := hs2'.ln
      have T3 : Hid (_) := tell_any true 1 x2 hl2 ((OK0.out.tell true 3).tell false 3) (by omega)
      rw [e2] at T3
      have H2 : Hid (LS z2 x2 u u2) := hs2'
      clear hl2 hs2 hs2' e2 T2 H1
      go_wp2_with fail
      refine Calls.mono T3.out ?_
      rintro e x3 ⟨rfl, u3, hl3, hs3⟩
      have hs3' := H2.out.trans hs3
      have e3 : u3.ln = u.ln := hs3'.ln
      have T4 : Hid (_) := tell_any false 1 x3 hl3 (((OK0.out.tell true 3).tell false 3).tell true 1) (by omega)
      rw [e3] at T4
      have H3 : Hid (LS z2 x3 u u3) := hs3'
      clear hl3 hs3 hs3' e3 T3 H2
      go_wp2_with fail
      refine Calls.mono T4.out ?_
      rintro e x4 ⟨rfl, u4, hl4, hs4⟩
      have hs4' := H3.out.trans hs4
      have e4 : u4.ln = u.ln := hs4'.ln
      have HS2 : Hid (∃ v' l', LI x4 wR.heap.size v' l' ∧ LS z2 x4 u v' ∧ l'.Ok (800 + 400 * 0) ∧ IdL l' (4 + 2 * 0) ∧ CgL (cfgA raw) (cfgB raw) l') := ⟨u4, _, hl4, hs4', ((((OK0.out.tell true 3).tell false 3).tell true 1).tell false 1).mono (by omega), SU.out.idl, (((CG0.out.tell true 3).tell false 3).tell true 1).tell false 1⟩
      clear hl4 hs4 hs4' e4 T4 H3
      go_wp2_with fail
      go_loopw [12] (fun v12 wr => ∃ (k : Nat), k ≤ n ∧ k ≤ 60 ∧ v12 = .int .i64 (k : Int) ∧ Hid (∃ v' l', LI wr wR.heap.size v' l' ∧ LS z2 wr u v' ∧ l'.Ok (800 + 400 * k) ∧ IdL l' (4 + 2 * k) ∧ CgL (cfgA raw) (cfgB raw) l')) (fun v12 _ => n - (intOf v12).toNat)
      case atStart => exact ⟨0, Nat.zero_le _, by omega, rfl, HS2⟩
      case round =>
        obtain ⟨k, hk, hk60, rfl, HW⟩ := hrel
        clear HS2
        by_cases hlt : k < n ∧ k < 60
        · have hI : (k : Int) < (n : Int) := by omega
          have hJ : (k : Int) < 60 := by omega
          obtain ⟨rfl, hga⟩ := HA.out (by omega)
          obtain ⟨v1, l1, hL1, hS1, hO1, hE1, hC1⟩ := HW.out
          have e1 : v1.ln = u.ln := hS1.ln
          have hbw : Below w.heap.size w wr := HBX.out.trans ((HLO2.out wr v1 hS1).mono HBX.out.size)
          obtain ⟨k1, k2, k3, k4⟩ := HC.out k hlt.1
          have d1 : wr.cell? ⟨ga, offa + k * 2, none⟩ = some (.int .i64 (K k)) := (hbw.cell (p := ⟨ga, offa + k * 2, none⟩) hga).trans k1
          have d2 : wr.cell? ⟨ga, offa + k * 2 + 1, none⟩ = some (.bool (F k)) := (hbw.cell (p := ⟨ga, offa + k * 2 + 1, none⟩) hga).trans k2
          have D1 : Hid (_) := happens_any (K k) (F k) w wr HG.out hbw HBX.out.size hL1 hO1 (by omega) k3 k4
          rw [e1] at D1
          have H1 : Hid (LS z2 wr u v1 ∧ (l1.happens (pickN (K k) 10) (F k)).Ok (800 + 400 * (k + 1)) ∧ IdL (l1.happens (pickN (K k) 10) (F k)) (4 + 2 * (k + 1)) ∧ CgL (cfgA raw) (cfgB raw) (l1.happens (pickN (K k) 10) (F k))) := ⟨hS1, (hO1.happens _ _).mono (by omega), (hE1.happens (by omega) hO1 _ _), hC1.happens _ _⟩
          clear hL1 hS1 hO1 hE1 hC1 HW e1 hbw k1 k2 k3 k4
          generalize K k = kind at *
          generalize F k = fst at *
          go_wp2_with fail
          refine Calls.mono D1.out ?_
          rintro e w3 ⟨rfl, v3, hL3, hS3⟩
          generalize l1.happens (pickN kind 10) fst = l2 at *
          have hS3' := H1.out.1.trans hS3
          have e3 : v3.ln = u.ln := hS3'.ln
          have S1 : Hid (_) := opened_any w3 hL3
          rw [e3] at S1
          have H3 : Hid (LI w3 wR.heap.size v3 l2 ∧ LS z2 w3 u v3 ∧ v3.ln = u.ln) := ⟨hL3, hS3', e3⟩
          clear hL3 hS3 hS3' e3 D1 d1 d2
          go_wp2_with fail
          refine Calls.mono S1.out ?_
          rintro e w4 ⟨rfl, hb4⟩
          have hl4 := H3.out.1.below hb4
          have hs4 := H3.out.2.1.trans (LS.new hb4)
          have S2 : Hid (_) := agree_any (cfgA raw) (cfgB raw) w4 hl4 (cfgIn_of HCW.out.1 HCW.out.2 SU.out.la SU.out.lb HU0.out.2.2 hs4.c (HBR.out.trans ((HLO2.out w4 v3 hs4).mono HBR.out.size))) H1.out.2.2.2
          rw [H3.out.2.2] at S2
          have H4 : Hid (LI w4 wR.heap.size v3 l2 ∧ LS z2 w4 u v3) := ⟨hl4, hs4⟩
          clear hb4 hl4 hs4 S1
          go_wp2_with fail
          refine Calls.mono S2.out ?_
          rintro e w5 ⟨b, rfl, hbt, hb5⟩
          have HBT : Hid (l2.opened = true → b = true) := fun q => hbt (H1.out.2.2.1.agree q)
          have H5 : Hid (LI w5 wR.heap.size v3 l2 ∧ LS z2 w5 u v3) := ⟨H4.out.1.below hb5, H4.out.2.trans (LS.new hb5)⟩
          clear hb5 hbt S2
          generalize l2.opened = ob at *
          cases ob
          · go_wp2_with fail
            exact ⟨⟨k + 1, by omega, by omega, by go_num, v3, l2, H5.out.1, H5.out.2, H1.out.2.1, H1.out.2.2.1, H1.out.2.2.2⟩, by simp [intOf]; omega⟩
          · obtain rfl := HBT.out rfl
            go_wp2_with fail
            exact ⟨⟨k + 1, by omega, by omega, by go_num, v3, l2, H5.out.1, H5.out.2, H1.out.2.1, H1.out.2.2.1, H1.out.2.2.2⟩, by simp [intOf]; omega⟩
        · have hfin : Hid (Below w.heap.size w wr) := by
            obtain ⟨vf, lf, _, hSf, _, _, _⟩ := HW.out
            exact HBX.out.trans ((HLO2.out wr vf hSf).mono HBX.out.size)
          by_cases hkn : k < n
          · have hI : (k : Int) < (n : Int) := by omega
            have hJ : ¬ (k : Int) < 60 := by omega
            go_wp2_with fail
            go_ret
            exact ⟨rfl, hfin.out⟩
          · have hI : ¬ (k : Int) < (n : Int) := by omega
            go_wp2_with fail
            go_ret
            exact ⟨rfl, hfin.out⟩
end Go.Proofs.YtoeihlgidakjbaaGreatDoor

/- Agreed's walk. Comes: the walk. -/
import Derived.Test.YtoeihlgidakjbaaGreatDoorCm32
import Derived.Test.YtoeihlgidakjbaaGreatDoorCm33
namespace Go.Proofs.YtoeihlgidakjbaaGreatDoor
open Go.RowKit Go.Lib
theorem cfgIn_of {w w' : World} {v v' : LV} {XA XB : Nat → Value} {LA LB : Nat → List Int} {ma mb : Int} (ha : CfgAt w XA LA) (hb : CfgAt w XB LB) (la : ∀ i, i < 6 → IsL (LA i)) (lb : ∀ i, i < 6 → IsL (LB i)) (hc : v.c = lnC XA XB ma mb) (hc' : v'.c = v.c) (hw : Below w.heap.size w w') : CfgIn w' v' LA LB := by
  intro i hi
  rw [hc', hc]
  have e1 : lnC XA XB ma mb i = XA i := by unfold lnC; rw [if_pos hi]
  have e2 : lnC XA XB ma mb (7 + i) = XB i := by
    unfold lnC
    rw [if_neg (by omega), if_neg (by omega), if_pos (by omega), show 7 + i - 7 = i by omega]
  rw [e1, e2]
  exact ⟨(ha i hi).1.below hw, (hb i hi).1.below hw, la i hi, lb i hi⟩
end Go.Proofs.YtoeihlgidakjbaaGreatDoor
namespace Go.Proofs.YtoeihlgidakjbaaGreatDoor
open Go.RowKit Go.Lib
set_option maxRecDepth 100000 in
set_option maxHeartbeats 16000000 in
theorem comes_law (vr va : Value) (raw : List Int) (n : Nat) (K : Nat → Int) (F : Nat → Bool) (w : World) (gz : Gz w) (hr : IntsAt w vr raw) (hraw : Raw raw) (ha : ActsAt w va n K F) (hn : n ≤ 1048576) :
    Calls Tryz.prog 7 #[vr, va] w fun e w' => e = .returned (.bool true) ∧ Below w.heap.size w w' := by
  have HP : Hid (_) := pair_any vr raw w hr hraw
  have HG : Hid (Gz w) := gz
  obtain ⟨ar, capr, gr, offr, hvr, _, _⟩ := hr
  subst hvr
  obtain ⟨aa, capa, ga, offa, hva, haa, hac⟩ := ha
  subst hva
  have HA : Hid (0 < n → aa = some ⟨ga, offa, none⟩ ∧ ga < w.heap.size) := haa
  have HC : Hid (_) := hac
  clear gz hraw haa hac
  go_enter Tryz.func7, Tryz.ntmps7
  go_wp2_with fail
  refine Calls.mono HP.out ?_
  rintro e w1 ⟨XA, XB, rfl, hb1, hcf⟩
  have hA : CfgAt w1 XA (cfgA raw) := fun i hi => (hcf i hi).1
  have hB : CfgAt w1 XB (cfgB raw) := fun i hi => (hcf i hi).2
  obtain ⟨a0, n0, c0, a1, n1, c1, a2, n2, c2, a3, n3, c3, a4, n4, c4, a5, n5, c5, EA⟩ := hA.shapes (magA raw)
  obtain ⟨p0, m0, d0, p1, m1, d1, p2, m2, d2, p3, m3, d3, p4, m4, d4, p5, m5, d5, EB⟩ := hB.shapes (magB raw)
  have BA : Hid (Below w1.heap.size w1 ((w1.alloc (.cells (cfC XA (magA raw)) 31)).alloc (.cells (cfC XB (magB raw)) 31))) := ((Below.refl _ _).alloc (Nat.le_refl _) _).alloc (by simp) _
  have HJ : Hid (∀ W, Below w1.heap.size w1 W → Calls Tryz.prog 16 #[.agg (cfC XA (magA raw)), .agg (cfC XB (magB raw))] W fun e w' => ∃ v : LV, e = .returned (.pointer (some ⟨v.ln, 0, none⟩)) ∧ LI w' W.heap.size v (newL (cfgA raw) (cfgB raw) (magA raw) (magB raw)) ∧ Below W.heap.size W w' ∧ v.c = lnC XA XB (magA raw) (magB raw)) := fun W hW => joined_any XA XB (cfgA raw) (cfgB raw) (magA raw) (magB raw) W (hA.below hW) (hB.below hW) (fun i _ => cfgA_isL _ i) (fun i _ => cfgB_isL _ i) (magA_in _).1 (magA_in _).2 (magB_in _).1 (magB_in _).2
  have BB : Hid (((w1.alloc (.cells (cfC XA (magA raw)) 31)).alloc (.cells (cfC XB (magB raw)) 31)).heap[w1.heap.size]? = some (.cells (cfC XA (magA raw)) 31 (0, 0)) ∧ ((w1.alloc (.cells (cfC XA (magA raw)) 31)).alloc (.cells (cfC XB (magB raw)) 31)).heap[w1.heap.size + 1]? = some (.cells (cfC XB (magB raw)) 31 (0, 0))) := ⟨(Below.heap_alloc _ _ _ (by simp)).trans (alloc_at w1 _ _ rfl), alloc_at _ _ _ (by simp)⟩
  have HCF : Hid (CfgAt w1 XA (cfgA raw) ∧ CfgAt w1 XB (cfgB raw)) := ⟨hA, hB⟩
  have HB1 : Hid (Below w.heap.size w w1) := hb1
  rw [EA, EB] at BA BB HJ
  rw [EA, EB]
  clear EA EB hA hB hcf hb1 HP
  go_upto_region 2 with fail
  generalize ((w1.alloc (.cells #[.slice a0 n0 c0, .slice a1 n1 c1, .slice a2 n2 c2, .slice a3 n3 c3, .slice a4 n4 c4, .slice a5 n5 c5, .int .i64 (magA raw : Int)] 31)).alloc (.cells #[.slice p0 m0 d0, .slice p1 m1 d1, .slice p2 m2 d2, .slice p3 m3 d3, .slice p4 m4 d4, .slice p5 m5 d5, .int .i64 (magB raw : Int)] 31)) = W2 at *
  have g0 : ∀ j, W2.cell? ⟨w1.heap.size, j, none⟩ = _ := fun j => blk_cell BB.out.1
  have g1 : ∀ j, W2.cell? ⟨w1.heap.size + 1, j, none⟩ = _ := fun j => blk_cell BB.out.2
  have HBW : Hid (Below w.heap.size w W2) := HB1.out.trans (BA.out.mono HB1.out.size)
  have HCW : Hid (CfgAt W2 XA (cfgA raw) ∧ CfgAt W2 XB (cfgB raw)) := ⟨HCF.out.1.below BA.out, HCF.out.2.below BA.out⟩
  have SU : Hid (Suit (cfgA raw) (cfgB raw) (magA raw) (magB raw)) := suit_pair raw
  have ok0 : (newL (cfgA raw) (cfgB raw) (magA raw) (magB raw)).Ok 0 := newL_ok SU.out.la SU.out.lb SU.out.a1 SU.out.a2 SU.out.b1 SU.out.b2
  have OK0 : Hid ((newL (cfgA raw) (cfgB raw) (magA raw) (magB raw)).Ok 0) := ok0
  have CG0 : Hid (CgL (cfgA raw) (cfgB raw) (newL (cfgA raw) (cfgB raw) (magA raw) (magB raw))) := cgl_new _ _ _ _
  clear HCF ok0
  go_wp2_with fail
  refine Calls.mono (HJ.out W2 BA.out) ?_
  rintro e w2 ⟨v, rfl, hL, hb2, hvc⟩
  have HL0 : Hid (LI w2 W2.heap.size v (newL (cfgA raw) (cfgB raw) (magA raw) (magB raw)) ∧ Below W2.heap.size W2 w2 ∧ v.c = lnC XA XB (magA raw) (magB raw)) := ⟨hL, hb2, hvc⟩
  have HLOW : Hid (∀ (W : World) (v' : LV), LS w2 W v v' → Below W2.heap.size W2 W) := fun W v' hs => LS.low hL hs hb2 (Nat.le_refl _)
  clear hb2 hvc g0 g1
  clear hL
  have HK : Hid (_) := known_any w w2 HG.out (HBW.out.trans (HL0.out.2.1.mono HBW.out.size))
  go_wp2_with fail
  refine Calls.mono HK.out ?_
  rintro e y1 ⟨rfl, hby⟩
  have HS : Hid (∃ v' l', LI y1 W2.heap.size v' l' ∧ LS w2 y1 v v' ∧ l'.Ok (400 * 0) ∧ MgL l' (magA raw : Int).toNat (magB raw : Int).toNat ∧ CgL (cfgA raw) (cfgB raw) l') := ⟨v, _, HL0.out.1.below hby, LS.new hby, OK0.out, mgl_new SU.out, CG0.out⟩
  clear hby HK
  go_wp2_with fail
  go_loopw [9] (fun v9 wr => ∃ (k : Nat), k ≤ n ∧ v9 = .int .i64 (k : Int) ∧ Hid (∃ v' l', LI wr W2.heap.size v' l' ∧ LS w2 wr v v' ∧ l'.Ok (400 * k) ∧ MgL l' (magA raw : Int).toNat (magB raw : Int).toNat ∧ CgL (cfgA raw) (cfgB raw) l')) (fun v9 _ => n - (intOf v9).toNat)
  case atStart => exact ⟨0, Nat.zero_le _, rfl, HS⟩
  case round =>
    obtain ⟨k, hk, rfl, HW⟩ := hrel
    clear HS
    by_cases hlt : k < n
    · have hI : (k : Int) < (n : Int) := by omega
      obtain ⟨rfl, hga⟩ := HA.out (by omega)
      obtain ⟨v1, l1, hL1, hS1, hO1, hE1, hC1⟩ := HW.out
      have e1 : v1.ln = v.ln := hS1.ln
      have hbw : Below w.heap.size w wr := HBW.out.trans ((HLOW.out wr v1 hS1).mono HBW.out.size)
      obtain ⟨k1, k2, k3, k4⟩ := HC.out k hlt
      have d1 : wr.cell? ⟨ga, offa + k * 2, none⟩ = some (.int .i64 (K k)) := (hbw.cell (p := ⟨ga, offa + k * 2, none⟩) hga).trans k1
      have d2 : wr.cell? ⟨ga, offa + k * 2 + 1, none⟩ = some (.bool (F k)) := (hbw.cell (p := ⟨ga, offa + k * 2 + 1, none⟩) hga).trans k2
      have D1 : Hid (_) := happens_any (K k) (F k) w wr HG.out hbw HBW.out.size hL1 hO1 (by omega) k3 k4
      rw [e1] at D1
      have H1 : Hid (LS w2 wr v v1 ∧ (l1.happens (pickN (K k) 10) (F k)).Ok (400 * (k + 1)) ∧ MgL (l1.happens (pickN (K k) 10) (F k)) (magA raw : Int).toNat (magB raw : Int).toNat ∧ CgL (cfgA raw) (cfgB raw) (l1.happens (pickN (K k) 10) (F k))) := ⟨hS1, (hO1.happens _ _).mono (by omega), hE1.happens hO1 _ _, hC1.happens _ _⟩
      clear hL1 hS1 hO1 hE1 hC1 HW e1 hbw k1 k2 k3 k4
      generalize K k = kind at *
      generalize F k = fst at *
      go_wp2_with fail
      refine Calls.mono D1.out ?_
      rintro e w3 ⟨rfl, v3, hL3, hS3⟩
      generalize l1.happens (pickN kind 10) fst = l2 at *
      have H3 : Hid (LI w3 W2.heap.size v3 l2 ∧ LS w2 w3 v v3) := ⟨hL3, H1.out.1.trans hS3⟩
      clear hL3 hS3 D1 d1 d2
      go_wp2_with fail
      exact ⟨⟨k + 1, by omega, by go_num, v3, l2, H3.out.1, H3.out.2, H1.out.2.1, H1.out.2.2.1, H1.out.2.2.2⟩, by simp [intOf]; omega⟩
    · have hI : ¬ (k : Int) < (n : Int) := by omega
      obtain ⟨wR, hren⟩ : ∃ wR : World, wR = wr := ⟨_, rfl⟩
      subst hren
      obtain ⟨v0, L, hl0, hs0, hO, hM, hC⟩ := HW.out
      have HL : Hid (MgL L (magA raw : Int).toNat (magB raw : Int).toNat ∧ CgL (cfgA raw) (cfgB raw) L ∧ L.Ok (400 * k)) := ⟨hM, hC, hO⟩
      have hk2 : 400 * k ≤ 419430400 := by omega
      have e0 : v0.ln = v.ln := hs0.ln
      clear hO hM hC HW
      have T1 : Hid (_) := tell_any true 4 _ hl0 HL.out.2.2 (by omega)
      rw [e0] at T1
      have H1 : Hid (LS w2 _ v v0) := hs0
      clear hl0 hs0 e0
      go_wp2_with fail
      refine Calls.mono T1.out ?_
      rintro e x1 ⟨rfl, v1, hl1, hq1⟩
      have hs1 := H1.out.trans hq1
      clear hq1
      have e1 : v1.ln = v.ln := hs1.ln
      have T2 : Hid (_) := tell_any false 4 _ hl1 (HL.out.2.2.tell true 4) (by omega)
      rw [e1] at T2
      have H2 : Hid (LS w2 _ v v1) := hs1
      clear hl1 hs1 e1 T1 H1
      go_wp2_with fail
      refine Calls.mono T2.out ?_
      rintro e x2 ⟨rfl, v2, hl2, hq2⟩
      have hs2 := H2.out.trans hq2
      clear hq2
      have e2 : v2.ln = v.ln := hs2.ln
      clear T2 H2
      obtain ⟨v3, hl3, hq3⟩ := hl2.gone0
      rw [e2] at hl3 hq3
      have hs3 := hs2.trans hq3
      have e3 : v3.ln = v.ln := hs3.ln
      have bw : x2.heap[v.ln]? = some (.cells v2.cells 49 (0, 0)) := by rw [← e2]; exact hl2.blk
      have x17 : x2.cell? ⟨v.ln, 17, none⟩ = some v2.vA := blk_cell bw
      have x16 : x2.cell? ⟨v.ln, 16, none⟩ = some v2.vB := blk_cell bw
      have y17 : x2.frozen? ⟨v.ln, 17, none⟩ = false := blk_free bw
      have y16 : x2.frozen? ⟨v.ln, 16, none⟩ = false := blk_free bw
      have HX : Hid (LI ((x2.setCell ⟨v.ln, 17, none⟩ (.slice none 0 0)).setCell ⟨v.ln, 16, none⟩ (.slice none 0 0)) W2.heap.size v3 L.over ∧ LS w2 ((x2.setCell ⟨v.ln, 17, none⟩ (.slice none 0 0)).setCell ⟨v.ln, 16, none⟩ (.slice none 0 0)) v v3) := ⟨hl3, hs3⟩
      clear hl2 hs2 e2 hl3 hs3 hq3 bw
      go_upto_region 14 with fail
      generalize (x2.setCell ⟨v.ln, 17, none⟩ (.slice none 0 0)).setCell ⟨v.ln, 16, none⟩ (.slice none 0 0) = x3 at *
      clear x16 x17 y16 y17
      obtain ⟨hl3, hs3⟩ := HX.out
      clear HX
      have T4 : Hid (_) := tell_any true 2 x3 hl3 HL.out.2.2.over (by omega)
      rw [e3] at T4
      have H4 : Hid (LS w2 x3 v v3) := hs3
      clear hl3 hs3 e3
      go_wp2_with fail
      refine Calls.mono T4.out ?_
      rintro e x4 ⟨rfl, v4, hl4, hq4⟩
      have hs4 := H4.out.trans hq4
      clear hq4
      have e4 : v4.ln = v.ln := hs4.ln
      have T5 : Hid (_) := tell_any false 2 x4 hl4 (HL.out.2.2.over.tell true 2) (by omega)
      rw [e4] at T5
      have H5 : Hid (LS w2 x4 v v4) := hs4
      clear hl4 hs4 e4 T4 H4
      go_wp2_with fail
      refine Calls.mono T5.out ?_
      rintro e x5 ⟨rfl, v5, hl5, hq5⟩
      have hs5 := H5.out.trans hq5
      clear hq5
      have e5 : v5.ln = v.ln := hs5.ln
      have T6 : Hid (_) := tell_any true 3 x5 hl5 ((HL.out.2.2.over.tell true 2).tell false 2) (by omega)
      rw [e5] at T6
      have H6 : Hid (LS w2 x5 v v5) := hs5
      clear hl5 hs5 e5 T5 H5
      go_wp2_with fail
      refine Calls.mono T6.out ?_
      rintro e x6 ⟨rfl, v6, hl6, hq6⟩
      have hs6 := H6.out.trans hq6
      clear hq6
      have e6 : v6.ln = v.ln := hs6.ln
      have T7 : Hid (_) := tell_any false 3 x6 hl6 (((HL.out.2.2.over.tell true 2).tell false 2).tell true 3) (by omega)
      rw [e6] at T7
      have H7 : Hid (LS w2 x6 v v6) := hs6
      clear hl6 hs6 e6 T6 H6
      go_wp2_with fail
      refine Calls.mono T7.out ?_
      rintro e x7 ⟨rfl, v7, hl7, hq7⟩
      have hs7 := H7.out.trans hq7
      clear hq7
      have e7 : v7.ln = v.ln := hs7.ln
      have T8 : Hid (_) := tell_any true 1 x7 hl7 ((((HL.out.2.2.over.tell true 2).tell false 2).tell true 3).tell false 3) (by omega)
      rw [e7] at T8
      have H8 : Hid (LS w2 x7 v v7) := hs7
      clear hl7 hs7 e7 T7 H7
      go_wp2_with fail
      refine Calls.mono T8.out ?_
      rintro e x8 ⟨rfl, v8, hl8, hq8⟩
      have hs8 := H8.out.trans hq8
      clear hq8
      have e8 : v8.ln = v.ln := hs8.ln
      have T9 : Hid (_) := tell_any false 1 x8 hl8 (((((HL.out.2.2.over.tell true 2).tell false 2).tell true 3).tell false 3).tell true 1) (by omega)
      rw [e8] at T9
      have H9 : Hid (LS w2 x8 v v8) := hs8
      clear hl8 hs8 e8 T8 H8
      go_wp2_with fail
      refine Calls.mono T9.out ?_
      rintro e x9 ⟨rfl, v9, hl9, hq9⟩
      have hs9 := H9.out.trans hq9
      clear hq9
      have e9 : v9.ln = v.ln := hs9.ln
      have hl9' : LI x9 W2.heap.size v9 L.anew := hl9
      have T10 : Hid (_) := settle_any 300 w x9 HG.out (HBW.out.trans ((HLOW.out x9 v9 hs9).mono HBW.out.size)) HBW.out.size hl9' HL.out.2.2.anew (by omega) (by omega)
      rw [e9] at T10
      obtain ⟨r1, r2⟩ := comes_rest SU.out HL.out.1 HL.out.2.1 HL.out.2.2
      have RS : Hid (Rest (L.anew.settle 300).1 ∧ CgL (cfgA raw) (cfgB raw) (L.anew.settle 300).1 ∧ (L.anew.settle 300).1.Ok (420000000 + 400 * 300)) := ⟨r2, CgL.settle 300 HL.out.2.1.anew, (Ln.Ok.settle 300 HL.out.2.2.anew).mono (by omega)⟩
      rw [r1] at T10
      generalize (L.anew.settle 300).1 = S at *
      have H10 : Hid (LS w2 x9 v v9) := hs9
      clear hl9 hl9' hs9 e9 T9 H9 r1 r2 HL hk2
      go_wp2_with fail
      refine Calls.mono T10.out ?_
      rintro e x10 ⟨rfl, v10, hl10, hq10⟩
      have hs10 := H10.out.trans hq10
      have e10 : v10.ln = v.ln := hs10.ln
      have HX : Hid (LI x10 W2.heap.size v10 S ∧ LS w2 x10 v v10 ∧ v10.ln = v.ln) := ⟨hl10, hs10, e10⟩
      have c0 : x10.cell? ⟨v.ln, 0, none⟩ = some (.pointer (some ⟨v10.la.pb, 0, none⟩)) := by rw [← e10]; exact blk_cell hl10.blk
      have HGA : Hid (_) := gave_any x10 hl10.pa (by have := RS.out.2.2.a.1.told; omega)
      clear hl10 hs10 hq10 e10 T10 H10
      go_upto_region 23 with fail
      go_cut [11] (fun xv wx => ∃ xb : Bool, xv = .bool xb ∧ Hid (Below x10.heap.size x10 wx ∧ (xb = false → ¬ (5 ∈ S.a.told ∨ 5 ∈ S.b.told))))
      case first =>
        go_wp2_with fail
        refine Calls.mono HGA.out ?_
        rintro e z1 ⟨rfl, hbz1⟩
        have hlz := HX.out.1.below hbz1
        have c1 : z1.cell? ⟨v.ln, 1, none⟩ = some (.pointer (some ⟨v10.lb.pb, 0, none⟩)) := by rw [← HX.out.2.2]; exact blk_cell hlz.blk
        have HGB : Hid (_) := gave_any z1 hlz.pb (by have := RS.out.2.2.b.1.told; omega)
        have HZ1 : Hid (Below x10.heap.size x10 z1) := hbz1
        have HDA : Hid (decide (gaveL S.a.told) = false → ¬ 5 ∈ S.a.told) := fun q r => of_decide_eq_false q (.inl r)
        have HDB : Hid (decide (gaveL S.b.told) = false → ¬ 5 ∈ S.b.told) := fun q r => of_decide_eq_false q (.inl r)
        clear hbz1 hlz c0 HGA
        generalize decide (gaveL S.a.told) = ga1 at *
        generalize decide (gaveL S.b.told) = gb1 at *
        cases ga1
        · have HDC : Hid (¬ 5 ∈ S.a.told) := HDA.out rfl
          clear HDA
          go_wp2_with fail
          refine Calls.mono HGB.out ?_
          rintro e z2 ⟨rfl, hbz2⟩
          have HZ2 : Hid (Below x10.heap.size x10 z2) := HZ1.out.trans (hbz2.mono HZ1.out.size)
          clear hbz2
          go_wp2_with fail
          go_meet
          exact ⟨gb1, rfl, HZ2.out, fun q r => r.elim HDC.out (HDB.out q)⟩
        · go_wp2_with fail
          go_meet
          exact ⟨true, rfl, HZ1.out, fun q => (nomatch q)⟩
      case rest =>
        obtain ⟨xb, rfl, HCUT⟩ := hcut
        have hlc := HX.out.1.below HCUT.out.1
        have hsc := HX.out.2.1.trans (LS.new HCUT.out.1)
        have T11 : Hid (_) := opened_any wc hlc
        rw [HX.out.2.2] at T11
        have H11 : Hid (LI wc W2.heap.size v10 S ∧ LS w2 wc v v10) := ⟨hlc, hsc⟩
        clear hlc hsc c0 HGA
        go_wp2_with fail
        refine Calls.mono T11.out ?_
        rintro e x11 ⟨rfl, hb11⟩
        have hl11 := H11.out.1.below hb11
        have hs11 := H11.out.2.trans (LS.new hb11)
        have T12 : Hid (_) := agree_any (cfgA raw) (cfgB raw) x11 hl11 (cfgIn_of HCW.out.1 HCW.out.2 SU.out.la SU.out.lb HL0.out.2.2 hs11.c (HLOW.out x11 v10 hs11)) RS.out.2.1
        rw [HX.out.2.2] at T12
        have H12 : Hid (LI x11 W2.heap.size v10 S ∧ LS w2 x11 v v10) := ⟨hl11, hs11⟩
        clear hb11 hl11 hs11 T11 H11
        go_wp2_with fail
        refine Calls.mono T12.out ?_
        rintro e x12 ⟨b, rfl, hbt, hb12⟩
        have HOB : Hid (xb = false → S.opened = true ∧ b = true) := fun q => by
          obtain ⟨q1, q2⟩ := RS.out.1.agree (HCUT.out.2 q)
          exact ⟨q2, hbt q1⟩
        have hl12 := H12.out.1.below hb12
        have hs12 := H12.out.2.trans (LS.new hb12)
        have T13 : Hid (_) := tell_any true 4 x12 hl12 RS.out.2.2 (by omega)
        rw [HX.out.2.2] at T13
        obtain ⟨r3, r4⟩ := RS.out.1.close RS.out.2.2
        have RT : Hid (((S.tell true 4).settle 100).2 = true ∧ Tk 0 ((S.tell true 4).settle 100).1 ∧ (S.tell true 4).Ok 430000000) := ⟨r3, r4, (RS.out.2.2.tell true 4).mono (by omega)⟩
        have H13 : Hid (LS w2 x12 v v10) := hs12
        clear hb12 hbt hl12 hs12 T12 H12 r3 r4 HX HCUT
        generalize S.opened = ob at *
        generalize S.tell true 4 = S2 at *
        clear RS
        go_upto_region 26 with fail
        go_cut [96] (fun xv wx => xv = .bool false ∧ wx = x12)
        case first =>
          cases xb
          · obtain ⟨rfl, rfl⟩ := HOB.out rfl
            go_wp2_with fail
            go_meet
            exact ⟨rfl, rfl⟩
          · go_wp2_with fail
            go_meet
            exact ⟨rfl, rfl⟩
        case rest =>
          obtain ⟨rfl, hcw⟩ := hcut
          subst hcw
          go_wp2_with fail
          refine Calls.mono T13.out ?_
          rintro e x13 ⟨rfl, v13, hl13, hq13⟩
          have hs13 := H13.out.trans hq13
          have e13 : v13.ln = v.ln := hs13.ln
          have T14 : Hid (_) := settle_any 100 w x13 HG.out (HBW.out.trans ((HLOW.out x13 v13 hs13).mono HBW.out.size)) HBW.out.size hl13 RT.out.2.2 (by omega) (by omega)
          rw [e13, RT.out.1] at T14
          have H14 : Hid (LS w2 x13 v v13) := hs13
          clear hl13 hs13 hq13 e13 T13 H13
          go_wp2_with fail
          refine Calls.mono T14.out ?_
          rintro e x14 ⟨rfl, v14, hl14, hq14⟩
          have HS2 : Hid (∃ v' l', LI x14 W2.heap.size v' l' ∧ LS w2 x14 v v' ∧ l'.Ok (431000000 + 41000 * 0) ∧ Tk 0 l') := ⟨v14, _, hl14, H14.out.trans hq14, (Ln.Ok.settle 100 RT.out.2.2).mono (by omega), RT.out.2.1⟩
          clear hl14 hq14 T14 H14 RT
          go_wp2_with fail
          go_loopw [10, 14] (fun s10 v14 wr => ∃ (k : Nat), k ≤ 40 ∧ s10 = .bool true ∧ v14 = .int .i64 (k : Int) ∧ Hid (∃ v' l', LI wr W2.heap.size v' l' ∧ LS w2 wr v v' ∧ l'.Ok (431000000 + 41000 * k) ∧ Tk k l')) (fun _ v14 _ => 40 - (intOf v14).toNat)
          case atStart => exact ⟨0, Nat.zero_le _, rfl, rfl, HS2⟩
          case round =>
            obtain ⟨k, hk, rfl, rfl, HW⟩ := hrel
            clear HS2
            by_cases hlt : k < 40
            · have hI : (k : Int) < 40 := by omega
              obtain ⟨v1, l1, hL1, hS1, hO1, hT1⟩ := HW.out
              have e1 : v1.ln = v.ln := hS1.ln
              have D1 : Hid (_) := tell_any true 5 wr hL1 hO1 (by omega)
              rw [e1] at D1
              have H1 : Hid (LS w2 wr v v1 ∧ l1.Ok (431000000 + 41000 * k) ∧ Tk k l1) := ⟨hS1, hO1, hT1⟩
              clear hL1 hS1 hO1 hT1 HW e1
              go_wp2_with fail
              refine Calls.mono D1.out ?_
              rintro e w3 ⟨rfl, v3, hL3, hq3⟩
              have hS3 := H1.out.1.trans hq3
              have e3 : v3.ln = v.ln := hS3.ln
              have D2 : Hid (_) := tell_any false 5 w3 hL3 (H1.out.2.1.tell true 5) (by omega)
              rw [e3] at D2
              have H3 : Hid (LS w2 w3 v v3) := hS3
              clear hL3 hS3 hq3 e3 D1
              go_wp2_with fail
              refine Calls.mono D2.out ?_
              rintro e w4 ⟨rfl, v4, hL4, hq4⟩
              have hS4 := H3.out.trans hq4
              have e4 : v4.ln = v.ln := hS4.ln
              have D3 : Hid (_) := settle_any 100 w w4 HG.out (HBW.out.trans ((HLOW.out w4 v4 hS4).mono HBW.out.size)) HBW.out.size hL4 ((H1.out.2.1.tell true 5).tell false 5) (by omega) (by omega)
              obtain ⟨q1, q2⟩ := H1.out.2.2.round
              rw [e4, q1] at D3
              have H4 : Hid (LS w2 w4 v v4 ∧ Tk (k + 1) (((l1.tell true 5).tell false 5).settle 100).1 ∧ (((l1.tell true 5).tell false 5).settle 100).1.Ok (431000000 + 41000 * (k + 1))) := ⟨hS4, q2, (Ln.Ok.settle 100 ((H1.out.2.1.tell true 5).tell false 5)).mono (by omega)⟩
              clear hL4 hS4 hq4 e4 D2 H3 q1 q2
              generalize (((l1.tell true 5).tell false 5).settle 100).1 = l5 at *
              go_wp2_with fail
              refine Calls.mono D3.out ?_
              rintro e w5 ⟨rfl, v5, hL5, hq5⟩
              have H5 : Hid (LI w5 W2.heap.size v5 l5 ∧ LS w2 w5 v v5) := ⟨hL5, H4.out.1.trans hq5⟩
              clear hL5 hq5 D3
              go_wp2_with fail
              exact ⟨⟨k + 1, by omega, rfl, by go_num, v5, l5, H5.out.1, H5.out.2, H4.out.2.2, H4.out.2.1⟩, by simp [intOf]; omega⟩
            · have hk40 : k = 40 := by omega
              subst hk40
              obtain ⟨wE, hren⟩ : ∃ wE : World, wE = wr := ⟨_, rfl⟩
              subst hren
              obtain ⟨v1, l1, hL1, hS1, hO1, hT1⟩ := HW.out
              have e1 : v1.ln = v.ln := hS1.ln
              obtain ⟨t1, t2⟩ := hT1.end_
              have D1 : Hid (_) := pstate hL1.pa
              rw [t1] at D1
              have c0 : wE.cell? ⟨v.ln, 0, none⟩ = some (.pointer (some ⟨v1.la.pb, 0, none⟩)) := by rw [← e1]; exact blk_cell hL1.blk
              have H1 : Hid (LI wE W2.heap.size v1 l1 ∧ LS w2 wE v v1 ∧ v1.ln = v.ln ∧ l1.Ok (431000000 + 41000 * 40) ∧ l1.a.eventP 5 = []) := ⟨hL1, hS1, e1, hO1, (tick_2 t1).2⟩
              clear hL1 hS1 hO1 hT1 HW e1 t1 t2
              go_wp2_with fail
              refine Calls.mono D1.out ?_
              rintro e w3 ⟨rfl, hb3⟩
              have hL3 := H1.out.1.below hb3
              have hS3 := H1.out.2.1.trans (LS.new hb3)
              have c3 : w3.cell? ⟨v.ln, 0, none⟩ = some (.pointer (some ⟨v1.la.pb, 0, none⟩)) := by rw [← H1.out.2.2.1]; exact blk_cell hL3.blk
              have D2 : Hid (_) := pevent_at w3 W2.heap.size v1.la l1.a 5 v1.la.pb rfl hL3.pa H1.out.2.2.2.1.a (by omega)
              rw [H1.out.2.2.2.2] at D2
              have H3 : Hid (Below W2.heap.size W2 w3 ∧ LI w3 W2.heap.size v1 l1) := ⟨HLOW.out w3 v1 hS3, hL3⟩
              clear hb3 hL3 hS3 D1 c0
              go_wp2_with fail
              refine Calls.mono D2.out ?_
              rintro e w4 ⟨vz, lz, rfl, ho, _, _, ht4, _, _⟩
              obtain ⟨az, cz, gz4, rfl, _⟩ := own_shape ho
              have HF : Hid (Below w.heap.size w w4) := HBW.out.trans ((H3.out.1.trans (ht4.below H3.out.1.size (fun b hb => (H3.out.2.pa.lt b hb).1))).mono HBW.out.size)
              clear ho ht4 c3 D2
              go_wp2_with fail
              go_ret
              exact ⟨rfl, HF.out⟩
end Go.Proofs.YtoeihlgidakjbaaGreatDoor

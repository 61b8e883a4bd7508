/- Pieces: the walk. -/
import Derived.Test.YtoeihlgidakjbaaGreatDoorPc34
import Derived.Deep.CutBlock
namespace Go.Proofs.YtoeihlgidakjbaaGreatDoor
open Go.RowKit Go.Lib
set_option maxRecDepth 100000 in
set_option maxHeartbeats 16000000 in
theorem pieces_law {aS aC aF aL aO aH : Addr} (vr vn vc : Value) (raw : List Int) (ns : List ByteArray) (cuts : List Int) (w : World) (gl : Gl w aS aC aF aL aO aH) (gt : Gt w) (hr : IntsAt w vr raw) (hraw : Raw raw) (hn : StrsAt w vn ns) (hnl : ns.length ≤ 1048576) (hnb : ∀ s ∈ ns, s.size ≤ 1048576) (hk : IntsAt w vc cuts) (hcr : Raw cuts) (hcl : cuts.length ≤ 1048576) :
    Calls Tryz.prog 10 #[vr, vn, vc] w fun e w' => e = .returned (.bool true) ∧ Below w.heap.size w w' := by
  have gz : Gz w := ⟨aS, aC, aF, aL, aO, aH, gl.toGr, gt⟩
  have HK : Hid (_) := known_any w w gz (Below.refl _ _)
  have HG : Hid (Gz w ∧ IntsAt w vr raw ∧ Raw raw ∧ Raw cuts ∧ Gl w aS aC aF aL aO aH ∧ ∀ s ∈ ns, s.size ≤ 1048576) := ⟨gz, hr, hraw, hcr, gl, hnb⟩
  obtain ⟨ar, capr, gr, offr, hvr, _, _⟩ := hr
  subst hvr
  obtain ⟨aa, capa, ga, offa, hva, haa, hac⟩ := hk
  subst hva
  obtain ⟨an, capn, gn, offn, hvn, han, hnc⟩ := hn
  subst hvn
  have HA : Hid (0 < cuts.length → aa = some ⟨ga, offa, none⟩ ∧ ga < w.heap.size) := haa
  have HC : Hid (∀ k (h : k < cuts.length), w.cell? ⟨ga, offa + k, none⟩ = some (.int .i64 cuts[k])) := hac
  have HA2 : Hid (0 < ns.length → an = some ⟨gn, offn, none⟩ ∧ gn < w.heap.size) := han
  have HC2 : Hid (∀ k (h : k < ns.length), w.cell? ⟨gn, offn + k, none⟩ = some (.string ns[k])) := hnc
  clear gz gl gt hraw haa hac han hnc hnb hcr
  go_enter Tryz.func10, Tryz.ntmps10
  go_wp2_with fail
  refine Calls.mono HK.out ?_
  rintro e w0 ⟨rfl, hb0⟩
  have HP : Hid (_) := pair_any (.slice ar raw.length capr) raw w0 (HG.out.2.1.below hb0) HG.out.2.2.1
  have HB0 : Hid (Below w.heap.size w w0) := hb0
  clear hb0 HK
  go_wp2_with fail
  refine Calls.mono HP.out ?_
  rintro e w1 ⟨XA, XB, rfl, hb1, hcf⟩
  have hA : CfgAt w1 XA (cfgA raw) := fun i hi => (hcf i hi).1
  have hB : CfgAt w1 XB (cfgB raw) := fun i hi => (hcf i hi).2
  obtain ⟨a0, n0, c0, a1, n1, c1, a2, n2, c2, a3, n3, c3, a4, n4, c4, a5, n5, c5, EA⟩ := hA.shapes (magA raw)
  obtain ⟨p0, m0, d0, p1, m1, d1, p2, m2, d2, p3, m3, d3, p4, m4, d4, p5, m5, d5, EB⟩ := hB.shapes (magB raw)
  have BA : Hid (Below w1.heap.size w1 ((w1.alloc (.cells (cfC XA (magA raw)) 31)).alloc (.cells (cfC XB (magB raw)) 31))) := ((Below.refl _ _).alloc (Nat.le_refl _) _).alloc (by simp) _
  have HE : Hid (∀ W, Below w1.heap.size w1 W → Calls Tryz.prog 27 #[.agg (cfC XA (magA raw))] W fun e w' => ∃ l : PLay, e = .returned (.pointer (some ⟨l.pb, 0, none⟩)) ∧ PE w' W.heap.size l (newM (cfgA raw) (magA raw)) ∧ Below W.heap.size W w') := fun W hW => end_any XA (cfgA raw) (magA raw) W (hA.below hW) (fun i _ => cfgA_isL _ i) (magA_in _).1 (magA_in _).2
  have HF : Hid (∀ W, Below w1.heap.size w1 W → Calls Tryz.prog 27 #[.agg (cfC XB (magB raw))] W fun e w' => ∃ l : PLay, e = .returned (.pointer (some ⟨l.pb, 0, none⟩)) ∧ PE w' W.heap.size l (newM (cfgB raw) (magB raw)) ∧ Below W.heap.size W w') := fun W hW => end_any XB (cfgB raw) (magB raw) W (hB.below hW) (fun i _ => cfgB_isL _ i) (magB_in _).1 (magB_in _).2
  have HB1 : Hid (Below w.heap.size w w1) := HB0.out.trans (hb1.mono HB0.out.size)
  have BB : Hid (((w1.alloc (.cells (cfC XA (magA raw)) 31)).alloc (.cells (cfC XB (magB raw)) 31)).heap[w1.heap.size]? = some (.cells (cfC XA (magA raw)) 31 (0, 0)) ∧ ((w1.alloc (.cells (cfC XA (magA raw)) 31)).alloc (.cells (cfC XB (magB raw)) 31)).heap[w1.heap.size + 1]? = some (.cells (cfC XB (magB raw)) 31 (0, 0))) := ⟨(Below.heap_alloc _ _ _ (by simp)).trans (alloc_at w1 _ _ rfl), alloc_at _ _ _ (by simp)⟩
  rw [EA, EB] at BA BB
  rw [EA] at HE
  rw [EB] at HF
  rw [EA, EB]
  clear EA EB hA hB hcf hb1 HP HB0
  go_upto_region 3 with fail
  generalize ((w1.alloc (.cells #[.slice a0 n0 c0, .slice a1 n1 c1, .slice a2 n2 c2, .slice a3 n3 c3, .slice a4 n4 c4, .slice a5 n5 c5, .int .i64 (magA raw : Int)] 31)).alloc (.cells #[.slice p0 m0 d0, .slice p1 m1 d1, .slice p2 m2 d2, .slice p3 m3 d3, .slice p4 m4 d4, .slice p5 m5 d5, .int .i64 (magB raw : Int)] 31)) = W2 at *
  have HBW : Hid (Below w.heap.size w W2) := HB1.out.trans (BA.out.mono HB1.out.size)
  have g0 : ∀ j, W2.cell? ⟨w1.heap.size, j, none⟩ = _ := fun j => blk_cell BB.out.1
  go_wp2_with fail
  refine Calls.mono (HE.out W2 BA.out) ?_
  rintro e w3 ⟨lx, rfl, hpx, hb3⟩
  have HX3 : Hid (PE w3 W2.heap.size lx (newM (cfgA raw) (magA raw)) ∧ Below W2.heap.size W2 w3) := ⟨hpx, hb3⟩
  have g3 : ∀ j, w3.cell? ⟨w1.heap.size, j, none⟩ = _ := fun j => blk_cell ((hb3.block _ (blk_lt BB.out.1)).trans BB.out.1)
  clear hpx hb3 g0
  go_wp2_with fail
  refine Calls.mono (HE.out w3 (BA.out.trans (HX3.out.2.mono BA.out.size))) ?_
  rintro e w4 ⟨ly, rfl, hpy, hb4⟩
  have HX4 : Hid (PE w4 w3.heap.size ly (newM (cfgA raw) (magA raw)) ∧ Below w3.heap.size w3 w4 ∧ Below W2.heap.size W2 w4) := ⟨hpy, hb4, HX3.out.2.trans (hb4.mono HX3.out.2.size)⟩
  have g4 : ∀ j, w4.cell? ⟨w1.heap.size + 1, j, none⟩ = _ := fun j => blk_cell ((HX4.out.2.2.block _ (blk_lt BB.out.2)).trans BB.out.2)
  clear hpy hb4 g3
  go_wp2_with fail
  refine Calls.mono (HF.out w4 (BA.out.trans (HX4.out.2.2.mono BA.out.size))) ?_
  rintro e w5 ⟨lz, rfl, hpz, hb5⟩
  have T5 : Hid (TS w5 W2.heap.size lx.pb ly.pb lz.pb (newM (cfgA raw) (magA raw)) (newM (cfgA raw) (magA raw)) (newM (cfgB raw) (magB raw)) [] ∧ Below W2.heap.size W2 w5) := ⟨ts_new rfl HX3.out.1 HX4.out.1 hpz HX3.out.2 HX4.out.2.1 hb5, HX4.out.2.2.trans (hb5.mono HX4.out.2.2.size)⟩
  have SU : Hid (Suit (cfgA raw) (cfgB raw) (magA raw) (magB raw)) := suit_pair raw
  have HNA : Hid ((newM (cfgA raw) (magA raw)).Both 0 ∧ (newM (cfgB raw) (magB raw)).Both 0) := ⟨new_both (fun i _ => cfgA_isL _ i) (magA_in _).1 (magA_in _).2, new_both (fun i _ => cfgB_isL _ i) (magB_in _).1 (magB_in _).2⟩
  have HEV : Hid ((newL (cfgA raw) (cfgB raw) (magA raw) (magB raw)).begin = ⟨(((newM (cfgA raw) (magA raw)).event 3).1.event 1).1, (((newM (cfgB raw) (magB raw)).event 3).1.event 1).1, ((newM (cfgA raw) (magA raw)).event 3).1.eventP 1, ((newM (cfgB raw) (magB raw)).event 3).1.eventP 1⟩ ∧ (newL (cfgA raw) (cfgB raw) (magA raw) (magB raw)).begin.Ok 800) := by
    constructor
    · rw [begin_eq, (ev_new (cfgA raw) (magA raw)).2.1, (ev_new (cfgB raw) (magB raw)).2.1]
    · exact (((((newL_ok SU.out.la SU.out.lb SU.out.a1 SU.out.a2 SU.out.b1 SU.out.b2).tell true 3).tell false 3).tell true 1).tell false 1).mono (by omega)
  have HBT : Hid (Bt (newL (cfgA raw) (cfgB raw) (magA raw) (magB raw)).begin 12) := SU.out.bt
  rw [HEV.out.1] at HBT
  have HEO := HEV.out.2
  rw [HEV.out.1] at HEO
  have HOK : Hid (_) := HEO
  clear hpz hb5 g4 HX3 HX4 HEV HEO HE HF
  generalize newM (cfgA raw) (magA raw) = NA at *
  generalize newM (cfgB raw) (magB raw) = NB at *
  generalize lx.pb = ex at *
  generalize ly.pb = ey at *
  generalize lz.pb = ez at *
  have E1 : Hid (_) := T5.out.1.eventX 3 HNA.out.1 (by omega) T5.out.2.size
  go_wp2_with fail
  refine Calls.mono E1.out ?_
  rintro e w6 ⟨v6, rfl, ht6, hb6⟩
  have T6 : Hid (TS w6 W2.heap.size ex ey ez (NA.event 3).1 NA NB [] ∧ Below W2.heap.size W2 w6) := ⟨ht6.sub (fun _ q => (nomatch q)), T5.out.2.trans hb6⟩
  clear ht6 hb6 E1 T5
  have E2 : Hid (_) := T6.out.1.eventY 3 HNA.out.1 (by omega) T6.out.2.size
  go_wp2_with fail
  refine Calls.mono E2.out ?_
  rintro e w7 ⟨v7, rfl, ht7, hb7⟩
  have T7 : Hid (TS w7 W2.heap.size ex ey ez (NA.event 3).1 (NA.event 3).1 NB [] ∧ Below W2.heap.size W2 w7) := ⟨ht7.sub (fun _ q => (nomatch q)), T6.out.2.trans hb7⟩
  clear ht7 hb7 E2 T6
  have E3 : Hid (_) := T7.out.1.eventZ 3 HNA.out.2 (by omega) T7.out.2.size
  go_wp2_with fail
  refine Calls.mono E3.out ?_
  rintro e w8 ⟨v8, rfl, ht8, hb8⟩
  have T8 : Hid (TS w8 W2.heap.size ex ey ez (NA.event 3).1 (NA.event 3).1 (NB.event 3).1 [] ∧ Below W2.heap.size W2 w8) := ⟨ht8.sub (fun _ q => (nomatch q)), T7.out.2.trans hb8⟩
  have HNB : Hid ((NA.event 3).1.Both 200 ∧ (NB.event 3).1.Both 200) := ⟨(RE.event_both HNA.out.1 3).mono (by omega), (RE.event_both HNA.out.2 3).mono (by omega)⟩
  clear ht8 hb8 E3 T7 HNA
  generalize (NA.event 3).1 = MA at *
  generalize (NB.event 3).1 = MB at *
  have E4 : Hid (_) := T8.out.1.eventX 1 HNB.out.1 (by omega) T8.out.2.size
  go_wp2_with fail
  refine Calls.mono E4.out ?_
  rintro e w9 ⟨vp, rfl, ht9, hb9⟩
  have T9 : Hid (TS w9 W2.heap.size ex ey ez (MA.event 1).1 MA MB [(vp, (MA.eventP 1).flatMap Pq.line)] ∧ Below W2.heap.size W2 w9) := ⟨ht9, T8.out.2.trans hb9⟩
  clear ht9 hb9 E4 T8
  have E5 : Hid (_) := T9.out.1.eventY 1 HNB.out.1 (by omega) T9.out.2.size
  go_wp2_with fail
  refine Calls.mono E5.out ?_
  rintro e w10 ⟨vq, rfl, ht10, hb10⟩
  have T10 : Hid (TS w10 W2.heap.size ex ey ez (MA.event 1).1 (MA.event 1).1 MB [(vq, (MA.eventP 1).flatMap Pq.line), (vp, (MA.eventP 1).flatMap Pq.line)] ∧ Below W2.heap.size W2 w10) := ⟨ht10, T9.out.2.trans hb10⟩
  clear ht10 hb10 E5 T9
  have E6 : Hid (_) := T10.out.1.eventZ 1 HNB.out.2 (by omega) T10.out.2.size
  go_wp2_with fail
  refine Calls.mono E6.out ?_
  rintro e w11 ⟨vr, rfl, ht11, hb11⟩
  have T11 : Hid (TS w11 W2.heap.size ex ey ez (MA.event 1).1 (MA.event 1).1 (MB.event 1).1 [(vr, (MB.eventP 1).flatMap Pq.line), (vq, (MA.eventP 1).flatMap Pq.line), (vp, (MA.eventP 1).flatMap Pq.line)] ∧ Below W2.heap.size W2 w11) := ⟨ht11, T10.out.2.trans hb11⟩
  clear ht11 hb11 E6 T10 HNB
  have cp := T11.out.1.conv (q := (vp, (MA.eventP 1).flatMap Pq.line)) (by simp)
  have cq := T11.out.1.conv (q := (vq, (MA.eventP 1).flatMap Pq.line)) (by simp)
  simp only at cp cq
  have HS : Hid (PcI w11 W2.heap.size ex ey ez vp vr (MA.eventP 1) 0 ∧ Below W2.heap.size W2 w11) := ⟨⟨⟨(MA.event 1).1, (MB.event 1).1, MA.eventP 1, MB.eventP 1⟩, T11.out.1.sub (by intro q hq; simp only [List.mem_cons, List.not_mem_nil, or_false] at hq ⊢; rcases hq with h | h <;> simp [h]), ⟨HOK.out, HBT.out⟩, rfl⟩, T11.out.2⟩
  clear T11 HBT HOK
  generalize MA.eventP 1 = pp at *
  go_wp2_with fail
  go_loopw [15, 16] (fun v15 v16 wr => ∃ (k : Nat), k ≤ 12 ∧ v16 = .int .i64 (k : Int) ∧ Hid (PcI wr W2.heap.size ex ey ez vp v15 pp k ∧ Below W2.heap.size W2 wr)) (fun _ v16 _ => 12 - (intOf v16).toNat)
  case atStart => exact ⟨0, by omega, rfl, HS⟩
  case round =>
    obtain ⟨k, hk, rfl, HW⟩ := hrel
    obtain ⟨r5, hr5⟩ : ∃ r5 : Value, r5 = u15 := ⟨_, rfl⟩
    subst hr5
    obtain ⟨wO, hren⟩ : ∃ wO : World, wO = wr := ⟨_, rfl⟩
    subst hren
    clear HS cp cq
    by_cases hlt : k < 12
    · have hI : (k : Int) < 12 := by omega
      have HBR : Hid (Below w.heap.size w wO) := HBW.out.trans (HW.out.2.mono HBW.out.size)
      go_upto_if 77 with fail
      go_cut [17] (fun sv wx => ∃ O : ByteArray, sv = .string O ∧ Hid (Noise O.data.toList ∧ O.size ≤ 2097160 ∧ Below wO.heap.size wO wx))
      case first =>
        by_cases hkn : k < ns.length
        · have hkI : (k : Int) < (ns.length : Int) := by omega
          obtain ⟨rfl, hgn⟩ := HA2.out (by omega)
          have cn : wO.cell? ⟨gn, offn + k, none⟩ = some (.string ns[k]) := (HBR.out.cell (p := ⟨gn, offn + k, none⟩) hgn).trans (HC2.out k hkn)
          have hsz := HG.out.2.2.2.2.2 _ (List.getElem_mem hkn)
          have SP : Hid (_) := spoilt_any ns[k] w wO HG.out.2.2.2.2.1 HBR.out hsz
          generalize ns[k] = nk at *
          go_wp2_with fail
          refine Calls.mono SP.out ?_
          rintro e wq ⟨O, rfl, hO1, hO2, hO3⟩
          have HO : Hid (Noise O.data.toList ∧ O.size ≤ 2097160 ∧ Below wO.heap.size wO wq) := ⟨hO1, by omega, hO3⟩
          clear hO1 hO2 hO3 SP cn hsz
          go_wp2_with fail
          go_meet
          exact ⟨O, rfl, HO⟩
        · have hkI : ¬ (k : Int) < (ns.length : Int) := by omega
          go_wp2_with fail
          go_meet
          exact ⟨⟨#[]⟩, rfl, Noise.nil, by show (0 : Nat) ≤ _; omega, Below.refl _ _⟩
      case rest =>
        obtain ⟨O, rfl, HO⟩ := hcut
        generalize wc = W3 at *
        obtain ⟨L, hT, hPr, hLB⟩ := HW.out.1
        have hT3 := hT.below HO.out.2.2
        have hB3 : Below W2.heap.size W2 W3 := HW.out.2.trans (HO.out.2.2.mono HW.out.2.size)
        have hl2 := hPr.bt.len
        have hlen : (L.toA.flatMap Pq.line).length ≤ 180 := flat_len L.toA hPr.ok.pA hl2.1
        have B1 : Hid (_) := hT3.bytesX w HG.out.1 (HBW.out.trans (hB3.mono HBW.out.size)) HBW.out.size (q := (r5, L.toA.flatMap Pq.line)) (by simp) L.toA rfl hPr.ok.pA hPr.ok.a hPr.ok.ga (by omega) (by show (L.toA.flatMap Pq.line).length ≤ _; omega) hB3.size
        have H3 : Hid (Pr k L ∧ L.toB = (if k = 0 then pp else []) ∧ Below W2.heap.size W2 W3 ∧ (L.toA.flatMap Pq.line).length ≤ 180) := ⟨hPr, hLB, hB3, hlen⟩
        clear hT hT3 hPr hLB hB3 hl2 hlen HW
        go_wp2_with fail
        refine Calls.mono B1.out ?_
        rintro e W4 ⟨vo, rfl, ht4, hb4⟩
        have cr := ht4.conv (q := (r5, L.toA.flatMap Pq.line)) (by simp)
        simp only at cr
        have hcat := fun wx => run_string_add_sum (P := Tryz.prog) wx O ⟨(L.toA.flatMap Pq.line).toArray⟩ (by have := H3.out.2.2.2; have := HO.out.2.1; show O.size + (L.toA.flatMap Pq.line).toArray.size ≤ _; rw [List.size_toArray]; omega)
        have HAZ : Hid ((O ++ (⟨(L.toA.flatMap Pq.line).toArray⟩ : ByteArray)).data.toList = O.data.toList ++ L.toA.flatMap Pq.line ∧ (O ++ (⟨(L.toA.flatMap Pq.line).toArray⟩ : ByteArray)).size ≤ 2097400) := by
          refine ⟨by rw [app_toList], ?_⟩
          rw [ByteArray.size_append]
          show O.size + (L.toA.flatMap Pq.line).toArray.size ≤ _
          rw [List.size_toArray]
          have := H3.out.2.2.2; have := HO.out.2.1; omega
        have H4 : Hid (TS W4 W2.heap.size ex ey ez (L.a.hears L.toA).1 (L.a.bytes ((O ++ (⟨(L.toA.flatMap Pq.line).toArray⟩ : ByteArray)).data.toList.take 0)).1 L.b [(vo, (L.a.hears L.toA).2.flatMap Pq.line), (r5, L.toA.flatMap Pq.line), (vp, pp.flatMap Pq.line)] ∧ (⟨#[]⟩ : ByteArray).data.toList = (L.a.bytes ((O ++ (⟨(L.toA.flatMap Pq.line).toArray⟩ : ByteArray)).data.toList.take 0)).2 ∧ Below W2.heap.size W2 W4) := ⟨ht4, rfl, H3.out.2.2.1.trans hb4⟩
        clear ht4 hb4 B1
        go_upto_block 2 with fail
        clear cr hcat
        generalize (O ++ (⟨(L.toA.flatMap Pq.line).toArray⟩ : ByteArray)) = A at *
        go_cut [19, 21, 22, 23, 24] (fun two fr _ _ _ wx => ∃ (f : Nat) (T : ByteArray), f ≤ A.size ∧ two = .string T ∧ fr = .int .i64 (f : Int) ∧ Hid (TS wx W2.heap.size ex ey ez (L.a.hears L.toA).1 (L.a.bytes (A.data.toList.take f)).1 L.b [(vo, (L.a.hears L.toA).2.flatMap Pq.line), (r5, L.toA.flatMap Pq.line), (vp, pp.flatMap Pq.line)] ∧ T.data.toList = (L.a.bytes (A.data.toList.take f)).2 ∧ Below W2.heap.size W2 wx))
        case first =>
          go_wp2_with fail
          go_loopw [19, 21, 22] (fun two fr i wi => ∃ (j f : Nat) (T : ByteArray), j ≤ cuts.length ∧ f ≤ A.size ∧ i = .int .i64 (j : Int) ∧ fr = .int .i64 (f : Int) ∧ two = .string T ∧ Hid (TS wi W2.heap.size ex ey ez (L.a.hears L.toA).1 (L.a.bytes (A.data.toList.take f)).1 L.b [(vo, (L.a.hears L.toA).2.flatMap Pq.line), (r5, L.toA.flatMap Pq.line), (vp, pp.flatMap Pq.line)] ∧ T.data.toList = (L.a.bytes (A.data.toList.take f)).2 ∧ Below W2.heap.size W2 wi)) (fun _ _ i _ => cuts.length - (intOf i).toNat)
          case atStart => exact ⟨0, 0, ⟨#[]⟩, Nat.zero_le _, Nat.zero_le _, rfl, rfl, rfl, H4⟩
          case round =>
            obtain ⟨j, f, T, hj, hf, rfl, rfl, rfl, HV⟩ := hrel
            clear H4
            have hbw : Below w.heap.size w wr := HBW.out.trans (HV.out.2.2.mono HBW.out.size)
            have HM : Hid ((L.a.bytes (A.data.toList.take f)).1.Both 500000000 ∧ (L.a.bytes (A.data.toList.take f)).2.length ≤ 10000000000) := mid_both H3.out.1.ok.a (by omega) A f hf HAZ.out.2
            by_cases hin : j < cuts.length ∧ f < A.size
            · have hI1 : (j : Int) < (cuts.length : Int) := by omega
              have hI2 : (f : Int) < (A.size : Int) := by omega
              obtain ⟨rfl, hga⟩ := HA.out (by omega)
              have cb : wr.cell? ⟨ga, offa + j, none⟩ = some (.int .i64 cuts[j]) := (hbw.cell (p := ⟨ga, offa + j, none⟩) hga).trans (HC.out j hin.1)
              have hbb := HG.out.2.2.2.1 cuts[j] (List.getElem_mem hin.1)
              have HPK : Hid (_) := kpick_any cuts[j] (A.size - f + 1) wr (by omega) (by have := HAZ.out.2; omega) hbb.1 hbb.2
              have hpk := pickN_less cuts[j] (A.size - f + 1) (by omega)
              rw [show (((A.size - f + 1 : Nat)) : Int) = (A.size : Int) - (f : Int) + 1 by omega] at HPK
              generalize pickN cuts[j] (A.size - f + 1) = x at *
              generalize cuts[j] = cj at *
              have hx1 : (f : Int) + (x : Int) ≤ (A.size : Int) := by omega
              have hAz := HAZ.out.2
              have hcs := conv_str wr (A.extract f (f + x))
              have PY : Hid (_) := HV.out.1.pieceY w HG.out.1 hbw HBW.out.size (A.extract f (f + x)) HM.out.1 HM.out.1.1.gt (by omega) (by rw [ByteArray.size_extract]; omega) HV.out.2.2.size
              have PE2 : Hid (_) := piece_eq L.a A f (f + x) (by omega) (by omega)
              have HJ : Hid (j + 1 ≤ cuts.length ∧ f + x ≤ A.size) := ⟨by omega, by omega⟩
              clear hbw hbb hin hpk hf hj
              go_wp2_with fail
              refine Calls.mono HPK.out ?_
              rintro e w' ⟨rfl, rfl⟩
              clear HPK cb
              rw [ByteArray.size_extract] at PY
              go_wp2_with fail
              refine Calls.mono PY.out ?_
              rintro e w6 ⟨v6, rfl, ht6, hb6⟩
              have c6 := ht6.conv (q := (v6, ((L.a.bytes (A.data.toList.take f)).1.bytes (A.extract f (f + x)).data.toList).2)) (by simp)
              simp only at c6
              have HL6 : Hid (T.size + ((L.a.bytes (A.data.toList.take f)).1.bytes (A.extract f (f + x)).data.toList).2.length ≤ 20000000000) := by
                have h1 := (mid_both H3.out.1.ok.a (by omega) A (f + x) HJ.out.2 HAZ.out.2).2
                rw [PE2.out, List.length_append] at h1
                have h2 : T.size = (L.a.bytes (A.data.toList.take f)).2.length := by rw [← HV.out.2.1]; simp
                show T.size + _ ≤ 20000000000
                omega
              have hcat := fun wx => run_string_add_sum (P := Tryz.prog) wx T ⟨(((L.a.bytes (A.data.toList.take f)).1.bytes (A.extract f (f + x)).data.toList).2).toArray⟩ (by have := HL6.out; show T.size + (((L.a.bytes (A.data.toList.take f)).1.bytes (A.extract f (f + x)).data.toList).2).toArray.size ≤ _; rw [List.size_toArray]; omega)
              have HF6 : Hid (TS w6 W2.heap.size ex ey ez (L.a.hears L.toA).1 (L.a.bytes (A.data.toList.take (f + x))).1 L.b [(vo, (L.a.hears L.toA).2.flatMap Pq.line), (r5, L.toA.flatMap Pq.line), (vp, pp.flatMap Pq.line)] ∧ (T ++ (⟨(((L.a.bytes (A.data.toList.take f)).1.bytes (A.extract f (f + x)).data.toList).2).toArray⟩ : ByteArray)).data.toList = (L.a.bytes (A.data.toList.take (f + x))).2 ∧ Below W2.heap.size W2 w6) := by
                refine ⟨?_, ?_, HV.out.2.2.trans hb6⟩
                · rw [PE2.out]
                  exact ht6.sub (fun q hq => List.mem_cons_of_mem _ hq)
                · rw [app_toList, PE2.out, HV.out.2.1]
              clear ht6 hb6 PY hcs
              generalize (((L.a.bytes (A.data.toList.take f)).1.bytes (A.extract f (f + x)).data.toList).2) = out6 at *
              go_wp2_with fail
              exact ⟨⟨j + 1, f + x, T ++ ⟨out6.toArray⟩, HJ.out.1, HJ.out.2, by go_num, by go_num, rfl, HF6⟩, by have := HJ.out.1; simp [intOf]; omega⟩
            · rcases (by omega : (j < cuts.length ∧ ¬ f < A.size) ∨ ¬ j < cuts.length) with ⟨q1, q2⟩ | q1
              · have hI1 : (j : Int) < (cuts.length : Int) := by omega
                have hI2 : ¬ (f : Int) < (A.size : Int) := by omega
                clear q1 q2 hin hbw HM
                go_wp2_with fail
                go_meet
                exact ⟨f, T, hf, rfl, rfl, HV⟩
              · have hI1 : ¬ (j : Int) < (cuts.length : Int) := by omega
                clear q1 hin hbw HM
                go_wp2_with fail
                go_meet
                exact ⟨f, T, hf, rfl, rfl, HV⟩
        case rest =>
          obtain ⟨f, T, hf, rfl, rfl, HV⟩ := hcut
          generalize wc = W5 at *
          clear H4
          have hbw : Below w.heap.size w W5 := HBW.out.trans (HV.out.2.2.mono HBW.out.size)
          have HM : Hid ((L.a.bytes (A.data.toList.take f)).1.Both 500000000 ∧ (L.a.bytes (A.data.toList.take f)).2.length ≤ 10000000000) := mid_both H3.out.1.ok.a (by omega) A f hf HAZ.out.2
          have hcs := conv_str W5 (A.extract f A.size)
          have PY : Hid (_) := HV.out.1.pieceY w HG.out.1 hbw HBW.out.size (A.extract f A.size) HM.out.1 HM.out.1.1.gt (by omega) (by have := HAZ.out.2; rw [ByteArray.size_extract]; omega) HV.out.2.2.size
          have PE2 : Hid (_) := piece_eq L.a A f A.size hf (Nat.le_refl _)
          rw [ByteArray.size_extract, Nat.min_self] at PY
          have hfI : (f : Int) ≤ (A.size : Int) := by omega
          have hAz := HAZ.out.2
          clear hbw
          go_wp2_with fail
          refine Calls.mono PY.out ?_
          rintro e w6 ⟨v6, rfl, ht6, hb6⟩
          have HE0 : L.a.bytes (A.data.toList.take A.size) = ((L.a.hears L.toA).1, (L.a.hears L.toA).2.flatMap Pq.line) := by
            rw [List.take_of_length_le (by simp), HAZ.out.1]
            exact RE.bytes_noise O.data.toList L.toA L.a HO.out.1 H3.out.1.ok.pA H3.out.1.ok.ga
          have PE3 := PE2.out
          rw [HE0] at PE3
          have PEa := (Prod.mk.inj PE3).1
          have PEb := (Prod.mk.inj PE3).2
          have c6 := ht6.conv (q := (v6, ((L.a.bytes (A.data.toList.take f)).1.bytes (A.extract f A.size).data.toList).2)) (by simp)
          have co := ht6.conv (q := (vo, (L.a.hears L.toA).2.flatMap Pq.line)) (by simp)
          simp only at c6 co
          have HTT : T ++ (⟨(((L.a.bytes (A.data.toList.take f)).1.bytes (A.extract f A.size).data.toList).2).toArray⟩ : ByteArray) = ⟨((L.a.hears L.toA).2.flatMap Pq.line).toArray⟩ := str_eq (by rw [app_toList, HV.out.2.1]; exact PEb.symm)
          have HSZ : Hid (T.size ≤ 10000000000 ∧ (((L.a.bytes (A.data.toList.take f)).1.bytes (A.extract f A.size).data.toList).2).length ≤ 10000000000) := by
            have h1 := (mid_both H3.out.1.ok.a (by omega) A A.size (Nat.le_refl _) HAZ.out.2).2
            rw [PE2.out, List.length_append] at h1
            have h2 : T.size = (L.a.bytes (A.data.toList.take f)).2.length := by rw [← HV.out.2.1]; simp
            exact ⟨by omega, by omega⟩
          have hcat := fun wx => run_string_add_sum (P := Tryz.prog) wx T ⟨(((L.a.bytes (A.data.toList.take f)).1.bytes (A.extract f A.size).data.toList).2).toArray⟩ (by have := HSZ.out; show T.size + (((L.a.bytes (A.data.toList.take f)).1.bytes (A.extract f A.size).data.toList).2).toArray.size ≤ _; rw [List.size_toArray]; omega)
          rw [HTT] at hcat
          rw [← PEa] at ht6
          have T6 : Hid (TS w6 W2.heap.size ex ey ez (L.a.hears L.toA).1 (L.a.hears L.toA).1 L.b [(vo, (L.a.hears L.toA).2.flatMap Pq.line), (r5, L.toA.flatMap Pq.line), (vp, pp.flatMap Pq.line)] ∧ Below W2.heap.size W2 w6) := ⟨ht6.sub (fun q hq => List.mem_cons_of_mem _ hq), HV.out.2.2.trans hb6⟩
          clear ht6 hb6 PY hcs PE3 PEa PEb HE0 HTT HSZ PE2 HM HV
          generalize (((L.a.bytes (A.data.toList.take f)).1.bytes (A.extract f A.size).data.toList).2) = out6 at *
          go_wp2_with fail
          refine Calls.mono T6.out.1.stateX ?_
          rintro e w7 ⟨rfl, hb7⟩
          have T7 : Hid (TS w7 W2.heap.size ex ey ez (L.a.hears L.toA).1 (L.a.hears L.toA).1 L.b [(vo, (L.a.hears L.toA).2.flatMap Pq.line), (r5, L.toA.flatMap Pq.line), (vp, pp.flatMap Pq.line)] ∧ Below W2.heap.size W2 w7) := ⟨T6.out.1.below hb7, T6.out.2.trans (hb7.mono T6.out.2.size)⟩
          clear hb7 T6
          go_wp2_with fail
          refine Calls.mono T7.out.1.stateY ?_
          rintro e w8 ⟨rfl, hb8⟩
          have T8 : Hid (TS w8 W2.heap.size ex ey ez (L.a.hears L.toA).1 (L.a.hears L.toA).1 L.b [(vo, (L.a.hears L.toA).2.flatMap Pq.line), (r5, L.toA.flatMap Pq.line), (vp, pp.flatMap Pq.line)] ∧ Below W2.heap.size W2 w8) := ⟨T7.out.1.below hb8, T7.out.2.trans (hb8.mono T7.out.2.size)⟩
          clear hb8 T7 c6 co hcat
          go_upto_if 148 with fail
          go_cut [26] (fun uv wx => ∃ up, up = uv ∧ Hid (BRow wx w8.heap.size up (if k = 0 then pp.flatMap Pq.line else []) ∧ Below w8.heap.size w8 wx))
          case first =>
            by_cases hk0 : k = 0
            · subst hk0
              have hsrc := T8.out.1.src (q := (vp, pp.flatMap Pq.line)) (by simp)
              have hle : (pp.flatMap Pq.line).length ≤ 180 := by
                have := up_len H3.out.2.1 H3.out.1
                rw [if_pos rfl] at this
                omega
              go_wp2_with (at_builtin; go_must (refine wpList_append_b _ rfl (.tmp 149) (.tmp 150) rfl w8.heap.size (.slice none 0 0) vp [] (pp.flatMap Pq.line) rfl rfl (BRow.nil _ _) hsrc (Nat.le_refl _) (by simp only [List.length_nil]; omega) ?_; intro v9 w9 hq9 ht9 ho9))
              go_meet
              exact ⟨_, rfl, by first | exact hq9 | simpa using hq9, ht9.below (Nat.le_refl _) (fun b hb => by cases hb)⟩
            · have hI0 : ((k : Int) == 0) = false := by simp; omega
              go_wp2_with fail
              go_meet
              exact ⟨_, rfl, by rw [if_neg hk0]; exact BRow.nil _ _, Below.refl _ _⟩
          case rest =>
            obtain ⟨up, rfl, HU⟩ := hcut
            generalize wc = W9 at *
            have hsrc := (T8.out.1.below HU.out.2).src (q := (vo, (L.a.hears L.toA).2.flatMap Pq.line)) (by simp)
            have hz9 := HU.out.2.size
            have hlen9 : (if k = 0 then pp.flatMap Pq.line else []).length + ((L.a.hears L.toA).2.flatMap Pq.line).length ≤ 100000000 := Nat.le_trans (up_len H3.out.2.1 H3.out.1) (by omega)
            go_wp2_with (at_builtin; go_must (refine wpList_append_b _ rfl (.tmp 152) (.tmp 153) rfl w8.heap.size up vo (if k = 0 then pp.flatMap Pq.line else []) ((L.a.hears L.toA).2.flatMap Pq.line) rfl rfl HU.out.1 hsrc hz9 hlen9 ?_; intro v10 w10 hq10 ht10 ho10))
            refine Calls.mono (pc_step T8.out.1 (vp := vp) (by simp) H3.out.1 hlt H3.out.2.1 (brow_below HU.out.2 HU.out.1 ht10) hq10 w HG.out.1 (HBW.out.trans (T8.out.2.mono HBW.out.size)) HBW.out.size T8.out.2.size) ?_
            rintro e w11 ⟨v11, rfl, hI11, hb11⟩
            have HN : Hid (PcI w11 W2.heap.size ex ey ez vp v11 pp (k + 1) ∧ Below W2.heap.size W2 w11) := ⟨hI11, T8.out.2.trans hb11⟩
            clear hI11 hb11 hq10 ht10 ho10 hsrc HU T8
            go_wp2_with fail
            go_roundw
            case rel => exact ⟨k + 1, by omega, by go_num, HN⟩
            case measure => simp [intOf]; omega
    · obtain rfl : k = 12 := by omega
      obtain ⟨L, hT, hPr, _⟩ := HW.out.1
      have hd := Bt.done (show Bt L 0 from hPr.bt)
      have HX : Hid (_) := hT.stateX
      have HZ : Hid (∀ w', Below wO.heap.size wO w' → _) := fun w' hb => (hT.below hb).stateZ
      rw [hd.1] at HX
      rw [hd.2] at HZ
      have HB9 : Hid (Below w.heap.size w wO) := HBW.out.trans (HW.out.2.mono HBW.out.size)
      clear hT hPr hd HW
      go_wp2_with fail
      refine Calls.mono HX.out ?_
      rintro e w6 ⟨rfl, hb6⟩
      go_wp2_with fail
      refine Calls.mono (HZ.out w6 hb6) ?_
      rintro e w7 ⟨rfl, hb7⟩
      go_wp2_with fail
      go_ret
      exact ⟨rfl, HB9.out.trans ((hb6.trans (hb7.mono hb6.size)).mono HB9.out.size)⟩
end Go.Proofs.YtoeihlgidakjbaaGreatDoor

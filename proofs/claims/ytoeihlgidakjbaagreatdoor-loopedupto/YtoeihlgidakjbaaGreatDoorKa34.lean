/- gave; Looped's memory. Looped's walk. -/
import Derived.Test.YtoeihlgidakjbaaGreatDoorKa31
import Derived.Test.YtoeihlgidakjbaaGreatDoorKa4
namespace Go.Proofs.YtoeihlgidakjbaaGreatDoor
open Go.RowKit Go.Lib
set_option maxHeartbeats 400000 in
theorem kpick_any (c : Int) (n : Nat) (w : World) (h0 : 0 < n) (hn : n ≤ 1000000000000000) (hc1 : -9223372036854775808 ≤ c) (hc2 : c < 9223372036854775808) :
    Calls Tryz.prog 26 #[.int .i64 c, .int .i64 n] w fun e w' => e = .returned (.int .i64 (pickN c n : Int)) ∧ w = w' := by
  have hz : ((n : Int) == 0) = false := by simp; omega
  by_cases hneg : c < 0
  · have hp : ((pickN c n : Nat) : Int) = (-(c + 1)) % (n : Int) := by
      unfold pickN; rw [if_pos hneg, Int.natCast_emod, Int.toNat_of_nonneg (by omega)]
    rw [hp]; clear hp
    go_enter Tryz.func26, Tryz.ntmps26
    go_wp2
    go_ret
    exact ⟨ret_int (neg_tm c n hneg), rfl⟩
  · have hp : ((pickN c n : Nat) : Int) = c % (n : Int) := by
      unfold pickN; rw [if_neg hneg, Int.natCast_emod, Int.toNat_of_nonneg (by omega)]
    rw [hp]; clear hp
    go_enter Tryz.func26, Tryz.ntmps26
    go_wp2
    go_ret
    exact ⟨rfl, rfl⟩
def gaveL (l : List Nat) : Prop := 5 ∈ l ∨ 6 ∈ l
instance (l : List Nat) : Decidable (gaveL l) := inferInstanceAs (Decidable (5 ∈ l ∨ 6 ∈ l))
theorem gaveL_take (l : List Nat) (k : Nat) (hk : k < l.length) (h : ¬ gaveL (l.take k)) : gaveL (l.take (k + 1)) ↔ (l[k] = 5 ∨ l[k] = 6) := by
  unfold gaveL at h ⊢
  rw [List.take_succ_eq_append_getElem hk, List.mem_append, List.mem_append, List.mem_singleton, List.mem_singleton]
  constructor
  · rintro ((q | q) | (q | q))
    · exact absurd (.inl q) h
    · exact .inl q.symm
    · exact absurd (.inr q) h
    · exact .inr q.symm
  · rintro (q | q)
    · exact .inl (.inr q.symm)
    · exact .inr (.inr q.symm)
theorem gaveL_mono {l : List Nat} {k : Nat} (h : gaveL (l.take k)) : gaveL l := h.imp List.mem_of_mem_take List.mem_of_mem_take
set_option maxRecDepth 100000 in
set_option maxHeartbeats 4000000 in
theorem gave_any {B : Nat} {l : PLay} {m : RE} (w : World) (h : PE w B l m) (hn : m.told.length ≤ 1000000000000) :
    Calls Tryz.prog 23 #[.pointer (some ⟨l.pb, 0, none⟩)] w fun e w' => e = .returned (.bool (decide (gaveL m.told))) ∧ Below w.heap.size w w' := by
  have HT : Hid (_) := ptold h (by omega)
  clear h
  go_enter Tryz.func23, Tryz.ntmps23
  go_wp2_with fail
  refine Calls.mono HT.out ?_
  rintro e w1 ⟨vt, rfl, ho, hb⟩
  obtain ⟨a, cap, g, hv, ha, _, hc⟩ := own_shape ho
  subst hv
  have HC : Hid (∀ j (hj : j < m.told.length), w1.cell? ⟨g, j, none⟩ = some (.int .i64 (m.told[j] : Int))) := fun j hj => by
    rw [hc j hj, List.getElem?_map, List.getElem?_eq_getElem hj]; rfl
  have HA : Hid (0 < m.told.length → a = some ⟨g, 0, none⟩) := ha
  have HB : Hid (Below w.heap.size w w1) := hb
  clear ho ha hc hb HT
  go_wp2_with fail
  go_loopw [4] (fun v4 wr => ∃ (k : Nat), k ≤ m.told.length ∧ v4 = .int .i64 (k : Int) ∧ Hid (¬ gaveL (m.told.take k)) ∧ wr = w1) (fun v4 _ => m.told.length - (intOf v4).toNat)
  case atStart => exact ⟨0, Nat.zero_le _, rfl, fun q => by unfold gaveL at q; simp at q, rfl⟩
  case round =>
    obtain ⟨k, hk, rfl, HK, rfl⟩ := hrel
    by_cases hlt : k < m.told.length
    · have hI : (k : Int) < (m.told.length : Int) := by omega
      obtain rfl := HA.out (by omega)
      have ck := HC.out k hlt
      have HX : Hid (_) := gaveL_take m.told k hlt HK.out
      have HM : Hid (gaveL (m.told.take (k + 1)) → gaveL m.told) := gaveL_mono
      generalize m.told[k] = x at *
      by_cases h5 : x = 5
      · subst h5
        have HE : Hid (decide (gaveL m.told) = true) := decide_eq_true (HM.out (HX.out.2 (.inl rfl)))
        clear HX HM
        go_wp2_with fail
        go_ret
        rw [HE.out]
        exact ⟨rfl, HB.out⟩
      · have h5' : ((x : Int) == 5) = false := by simp; omega
        by_cases h6 : x = 6
        · subst h6
          have HE : Hid (decide (gaveL m.told) = true) := decide_eq_true (HM.out (HX.out.2 (.inr rfl)))
          clear HX HM
          go_wp2_with fail
          go_ret
          rw [HE.out]
          exact ⟨rfl, HB.out⟩
        · have h6' : ((x : Int) == 6) = false := by simp; omega
          have HE : Hid (¬ gaveL (m.told.take (k + 1))) := fun q => (HX.out.1 q).elim h5 h6
          clear HX HM
          go_wp2_with fail
          exact ⟨⟨k + 1, by omega, by go_num, HE, trivial⟩, by simp [intOf]; omega⟩
    · have hI : ¬ (k : Int) < (m.told.length : Int) := by omega
      have HE : Hid (decide (gaveL m.told) = false) := by
        have h1 := HK.out
        rw [List.take_of_length_le (by omega)] at h1
        exact decide_eq_false h1
      go_wp2_with fail
      go_ret
      rw [HE.out]
      exact ⟨rfl, HB.out⟩
theorem qrow_of_owns {w : World} {B : Nat} {v : Value} {ps : List Pq} (h : w.ownsRow B 9 1 v ps.length (ps.map sv)) : QRow w B v ps := by
  have h0 := h
  rcases h.2 with ⟨rfl, hn⟩ | ⟨g, cap, cur, rfl, hb, hg, hnc, hcm, hcs, htake⟩
  · exact .inl ⟨List.eq_nil_of_length_eq_zero (by omega), rfl⟩
  · refine .inr ⟨g, 0, cap, rfl, hb, lt_of_block hg, hnc, hcm, fun j hj => ?_, fun j u hu => ?_⟩
    · have hg' : w.heap[g]? = some (.cells cur 9 (0, 0)) := hg
      rw [Nat.zero_add, blk_cell hg', blk_free hg']
      refine ⟨?_, rfl⟩
      rw [Array.getElem?_eq_getElem (by rw [hcs]; omega)]; rfl
    · have := h0.cells (g := g) rfl j u hu
      rwa [Addr.add_mid] at this
structure LoI (w : World) (B : Nat) (l : PLay) (m : RE) (v : Value) (ps : List Pq) (n : Nat) : Prop where
  pe : PE w B l m
  q : QRow w B v ps
  d : ∀ b, v.ownBlock = some b → ¬ l.has b
  lo : m.Lo
  both : m.Both n
  got : m.got = []
  mine : ∀ p ∈ ps, RE.Mine m.mg p
  good : ∀ p ∈ ps, p.Good
  pos : 0 < ps.length
  len : ps.length ≤ n
theorem LoI.next {w w1 w2 w3 : World} {B n : Nat} {l l' : PLay} {m m' : RE} {v v3 : Value} {ps qs : List Pq} (h : LoI w B l m v ps n) (hp : PE w1 B l' m') (hi : ∀ b, l'.has b → l.has b ∨ w.heap.size ≤ b)
    (hlo : RE.LoS m m' qs) (hb : m'.Both (n + 200)) (hg : m'.got = []) (hf : RE.Few qs) (hb2 : Below w1.heap.size w1 w2) (hq3 : QRow w3 B v3 (ps ++ qs)) (ht3 : Tch (fun b => v.ownBlock = some b) w2 w3) (ho3 : ∀ b, v3.ownBlock = some b → v.ownBlock = some b ∨ w2.heap.size ≤ b) :
    LoI w3 B l' m' v3 (ps ++ qs) (n + 200) := by
  have hp2 := hp.tch (Tch.of_below (S := fun _ => False) hb2) (fun _ _ x => x)
  have vn : ∀ b, v.ownBlock = some b → ¬ l'.has b := fun b hb' hx => by
    rcases hi b hx with q | q
    · exact h.d b hb' q
    · have := (h.q.lt b hb').2; omega
  refine ⟨hp2.tch ht3 (fun b hb' e => vn b e hb'), hq3, fun b hb' hx => ?_, hlo.1, hb, hg, ?_, ?_, ?_, ?_⟩
  · rcases ho3 b hb' with q | q
    · exact vn b q hx
    · have := (hp2.lt b hx).2; omega
  · exact mem_app (fun p hp' => (h.mine p hp').mono hlo.2.1) hlo.2.2
  · exact mem_app h.good hf.1
  · have := h.pos; simp only [List.length_append]; omega
  · have := h.len; have := hf.2; simp only [List.length_append]; omega
theorem pevent_at (w : World) (B : Nat) (l : PLay) (m : RE) (k : Int) (pb : Nat) (e : l.pb = pb) {n : Nat} (h : PE w B l m) (hb : m.Both n) (hn : n ≤ 900000000000) :
    Calls Tryz.prog 25 #[.pointer (some ⟨pb, 0, none⟩), .int .i64 k] w fun r w' => ∃ (v : Value) (l' : PLay), r = .returned v ∧ w'.ownsRow w.heap.size 5 1 v ((m.eventP k).flatMap Pq.line).length (((m.eventP k).flatMap Pq.line).map bv) ∧ PE w' B l' (m.event k).1 ∧ l'.pb = pb ∧ Tch l.has w w' ∧ (∀ b, l'.has b → l.has b ∨ w.heap.size ≤ b) ∧ ∀ b, v.ownBlock = some b → ¬ l'.has b := by
  subst e
  rw [← RE.event_out]
  exact pevent_all w B l m k h hb.2.2.2.1 ((hb.1.lim hb.2).mono (by omega))
theorem phear_at (w0 W : World) (B : Nat) (l : PLay) (m : RE) (p : Pq) (pb : Nat) (e : l.pb = pb) {n : Nat} (gz : Gz w0) (hb0 : Below w0.heap.size w0 W) (hB0 : w0.heap.size ≤ B) (h : PE W B l m) (hb : m.Both n) (hn : n ≤ 900000000000) (hg : m.got = []) (hp : p.Good) :
    Calls Tryz.prog 29 #[.pointer (some ⟨pb, 0, none⟩), .slice (some ⟨W.heap.size, 0, none⟩) p.line.length (grownCap W p.line.length 0 5)] (bytesWorld W 5 ⟨p.line.toArray⟩) fun r w' => ∃ (v : Value) (l' : PLay), r = .returned v ∧ w'.ownsRow W.heap.size 5 1 v ((m.hearP p).flatMap Pq.line).length (((m.hearP p).flatMap Pq.line).map bv) ∧ PE w' B l' (m.hear p) ∧ l'.pb = pb ∧ Tch l.has W w' ∧ (∀ b, l'.has b → l.has b ∨ W.heap.size ≤ b) ∧ ∀ b, v.ownBlock = some b → ¬ l'.has b := by
  subst e
  obtain ⟨aS, aC, aF, aL, aO, aH, gr, gt⟩ := gz
  have bw := below_bytesWorld W ⟨p.line.toArray⟩
  refine (prgB.bytes w0 (bytesWorld W 5 ⟨p.line.toArray⟩) B l m _ p.line gr gt (hb0.trans (bw.mono hb0.size)) hB0 (h.tch (Tch.of_below (S := fun _ => False) bw) (fun _ _ x => x)) ⟨hb.2, by rw [hg]; simp⟩ ((hb.1.lim hb.2).mono (by omega)) (by have := p.line_len hp; omega) (bytesAt_world W p _ (fun b hb => (h.lt b hb).2))).mono ?_
  rintro r w' ⟨vb, l', rfl, ho, hp', hpb, ht, hi, hown⟩
  rw [RE.bytes_line m p hp hg] at ho hp'
  exact ⟨vb, l', rfl, owns_mono ho bw.size, hp', hpb, (Tch.of_below bw).trans ht, fun b hx => (hi b hx).imp id (fun q => Nat.le_trans bw.size q), hown⟩
theorem pbytes_at (w0 w : World) (B : Nat) (l : PLay) (m : RE) (va : Value) (s : List UInt8) (m' : RE) (qs : List Pq) (hs : m.bytes s = (m', qs.flatMap Pq.line)) (pb : Nat) (e : l.pb = pb) {n : Nat} (gz : Gz w0) (hb0 : Below w0.heap.size w0 w) (hB0 : w0.heap.size ≤ B) (h : PE w B l m) (hb : m.Both n) (hn : n ≤ 900000000000) (hg : m.got = []) (hl : s.length ≤ 1000000) (hva : BytesAt w l.has va s) :
    Calls Tryz.prog 29 #[.pointer (some ⟨pb, 0, none⟩), va] w fun r w' => ∃ (v : Value) (l' : PLay), r = .returned v ∧ w'.ownsRow w.heap.size 5 1 v (qs.flatMap Pq.line).length ((qs.flatMap Pq.line).map bv) ∧ PE w' B l' m' ∧ l'.pb = pb ∧ Tch l.has w w' ∧ (∀ b, l'.has b → l.has b ∨ w.heap.size ≤ b) ∧ ∀ b, v.ownBlock = some b → ¬ l'.has b := by
  subst e
  obtain ⟨aS, aC, aF, aL, aO, aH, gr, gt⟩ := gz
  refine (prgB.bytes w0 w B l m va s gr gt hb0 hB0 h ⟨hb.2, by rw [hg]; simp⟩ ((hb.1.lim hb.2).mono (by omega)) (by omega) hva).mono ?_
  rintro r w' ⟨vb, l', rfl, ho, hp', hpb, ht, hi, hown⟩
  rw [hs] at ho hp'
  exact ⟨vb, l', rfl, ho, hp', hpb, ht, hi, hown⟩
end Go.Proofs.YtoeihlgidakjbaaGreatDoor
namespace Go.Proofs.YtoeihlgidakjbaaGreatDoor
open Go.RowKit Go.Lib
theorem QRow.at {w : World} {B : Nat} {v : Value} {ps : List Pq} (h : QRow w B v ps) (hp : 0 < ps.length) : ∃ g off cap, v = .slice (some ⟨g, off, none⟩) ps.length cap ∧ ∀ j (hj : j < ps.length), w.cell? ⟨g, off + j, none⟩ = some (.string ⟨ps[j].line.toArray⟩) := by
  rcases h with ⟨rfl, _⟩ | ⟨g, off, cap, rfl, h1, h2, h3, h4, h5, h6⟩
  · simp at hp
  · exact ⟨g, off, cap, rfl, fun j hj => h6 j _ (by rw [List.getElem?_map, List.getElem?_eq_getElem hj]; rfl)⟩
theorem few_one {p : Pq} (h : p.Good) : RE.Few [p] := ⟨fun q hq => by obtain rfl := List.mem_singleton.1 hq; exact h, by simp⟩
theorem ph_few {m : RE} {ps : List Pq} {i : Nat} (h : m.Ph ps i) : RE.Few ps := by
  rcases Nat.lt_or_ge i 9 with q | q
  · obtain ⟨p, rfl, hg, _⟩ := h.next q
    exact few_one hg
  · have : i = 9 := by have := h.le; omega
    rw [(h.f this).2.2]; exact RE.few_nil
set_option maxRecDepth 100000 in
set_option maxHeartbeats 16000000 in
theorem looped_law (vr vb0 : Value) (raw back : List Int) (w : World) (gz : Gz w) (hr : IntsAt w vr raw) (hraw : Raw raw) (hk : IntsAt w vb0 back) (hbk : Raw back) (hn : back.length ≤ 1048576) :
    Calls Tryz.prog 9 #[vr, vb0] w fun e w' => e = .returned (.bool true) ∧ Below w.heap.size w w' := by
  have HK : Hid (_) := known_any w w gz (Below.refl _ _)
  have HG : Hid (Gz w ∧ IntsAt w vr raw ∧ Raw raw ∧ Raw back) := ⟨gz, hr, hraw, hbk⟩
  obtain ⟨ar, capr, gr, offr, hvr, _, _⟩ := hr
  subst hvr
  obtain ⟨aa, capa, ga, offa, hva, haa, hac⟩ := hk
  subst hva
  have HA : Hid (0 < back.length → aa = some ⟨ga, offa, none⟩ ∧ ga < w.heap.size) := haa
  have HC : Hid (∀ k (h : k < back.length), w.cell? ⟨ga, offa + k, none⟩ = some (.int .i64 back[k])) := hac
  clear gz hraw haa hac hbk
  go_enter Tryz.func9, Tryz.ntmps9
  go_wp2_with fail
  refine Calls.mono HK.out ?_
  rintro e w0 ⟨rfl, hb0⟩
  have HP : Hid (_) := pair_any (.slice ar raw.length capr) raw w0 (HG.out.2.1.below hb0) HG.out.2.2.1
  have HB0 : Hid (Below w.heap.size w w0) := hb0
  clear hb0 HK
  go_wp2_with fail
  refine Calls.mono HP.out ?_
  rintro e w1 ⟨XA, XB, rfl, hb1, hcf⟩
  have hA : CfgAt w1 XA (cfgA raw) := fun i hi => (hcf i hi).1
  have hB : CfgAt w1 XB (cfgB raw) := fun i hi => (hcf i hi).2
  obtain ⟨a0, n0, c0, a1, n1, c1, a2, n2, c2, a3, n3, c3, a4, n4, c4, a5, n5, c5, EA⟩ := hA.shapes (magA raw)
  obtain ⟨p0, m0, d0, p1, m1, d1, p2, m2, d2, p3, m3, d3, p4, m4, d4, p5, m5, d5, EB⟩ := hB.shapes (magB raw)
  have BA : Hid (Below w1.heap.size w1 ((w1.alloc (.cells (cfC XA (magA raw)) 31)).alloc (.cells (cfC XB (magB raw)) 31))) := ((Below.refl _ _).alloc (Nat.le_refl _) _).alloc (by simp) _
  have HE : Hid (∀ W, Below w1.heap.size w1 W → Calls Tryz.prog 27 #[.agg (cfC XA (magA raw))] W fun e w' => ∃ l : PLay, e = .returned (.pointer (some ⟨l.pb, 0, none⟩)) ∧ PE w' W.heap.size l (newM (cfgA raw) (magA raw)) ∧ Below W.heap.size W w') := fun W hW => end_any XA (cfgA raw) (magA raw) W (hA.below hW) (fun i _ => cfgA_isL _ i) (magA_in _).1 (magA_in _).2
  have HB1 : Hid (Below w.heap.size w w1) := HB0.out.trans (hb1.mono HB0.out.size)
  have BB : Hid (((w1.alloc (.cells (cfC XA (magA raw)) 31)).alloc (.cells (cfC XB (magB raw)) 31)).heap[w1.heap.size]? = some (.cells (cfC XA (magA raw)) 31 (0, 0))) := (Below.heap_alloc _ _ _ (by simp)).trans (alloc_at w1 _ _ rfl)
  rw [EA, EB] at BA BB
  rw [EA] at HE
  rw [EA, EB]
  clear EA EB hA hB hcf hb1 HP HB0
  go_upto_region 3 with fail
  generalize ((w1.alloc (.cells #[.slice a0 n0 c0, .slice a1 n1 c1, .slice a2 n2 c2, .slice a3 n3 c3, .slice a4 n4 c4, .slice a5 n5 c5, .int .i64 (magA raw : Int)] 31)).alloc (.cells #[.slice p0 m0 d0, .slice p1 m1 d1, .slice p2 m2 d2, .slice p3 m3 d3, .slice p4 m4 d4, .slice p5 m5 d5, .int .i64 (magB raw : Int)] 31)) = W2 at *
  have g0 : ∀ j, W2.cell? ⟨w1.heap.size, j, none⟩ = _ := fun j => blk_cell BB.out
  have hBW : Below w.heap.size w W2 := HB1.out.trans (BA.out.mono HB1.out.size)
  have HBW : Hid (Below w.heap.size w W2) := hBW
  clear hBW
  go_wp2_with fail
  refine Calls.mono (HE.out W2 BA.out) ?_
  rintro e w3 ⟨l0, rfl, hp0, hb3⟩
  have HN0 : Hid ((newM (cfgA raw) (magA raw)).Both 0 ∧ (newM (cfgA raw) (magA raw)).Lo ∧ ((newM (cfgA raw) (magA raw)).eventP 3 = [] ∧ (((newM (cfgA raw) (magA raw)).event 3).1.event 1).1.Ph (((newM (cfgA raw) (magA raw)).event 3).1.eventP 1) 0)) := ⟨new_both (fun i _ => cfgA_isL _ i) (magA_in _).1 (magA_in _).2, ⟨(lim_new (fun i _ => cfgA_isL _ i) (magA_in _).1 (magA_in _).2).ok, by show (0 : Nat) ≠ 8; omega, by show (0 : Nat) ≠ 9; omega⟩, RE.Ph.begin _ _ (fun i _ => cfgA_isL _ i) (magA_in _).1 (magA_in _).2⟩
  have HG0 : Hid ((newM (cfgA raw) (magA raw)).got = []) := rfl
  generalize newM (cfgA raw) (magA raw) = N0 at *
  have E1 : Hid (_) := pevent_at w3 W2.heap.size l0 N0 3 l0.pb rfl hp0 HN0.out.1 (by omega)
  have HB3 : Hid (Below W2.heap.size W2 w3) := hb3
  clear hb3 g0
  go_wp2_with fail
  refine Calls.mono E1.out ?_
  rintro e w4 ⟨vx, l4, rfl, _, hp4, hpb4, ht4, hi4, _⟩
  have hb1' := RE.event_both HN0.out.1 3
  have E2 : Hid (_) := pevent_at w4 W2.heap.size l4 (N0.event 3).1 1 l0.pb hpb4 hp4 hb1' (by omega)
  have HB4 : Hid (Below W2.heap.size W2 w4 ∧ l4.pb = l0.pb) := ⟨HB3.out.trans (ht4.below HB3.out.size (fun b hb => (hp0.lt b hb).1)), hpb4⟩
  have HP4 : Hid (PE w4 W2.heap.size l4 (N0.event 3).1) := hp4
  clear hp0 hp4 hpb4 ht4 hi4 hb1' E1
  go_wp2_with fail
  refine Calls.mono E2.out ?_
  rintro e w5 ⟨vb, l5, rfl, ho, hp5, hpb5, ht5, hi5, _⟩
  obtain ⟨S1a, S1b, S1c⟩ := HN0.out.2.1.event 3
  obtain ⟨S2a, S2b, S2c⟩ := S1a.event 1
  obtain ⟨q0, hq1, hq2⟩ : ∃ p, (N0.event 3).1.eventP 1 = [p] ∧ p.Good := by
    obtain ⟨p, e, hg, _⟩ := HN0.out.2.2.2.next (by omega)
    exact ⟨p, e, hg⟩
  rw [hq1] at ho
  have HBA : Hid (_ ∧ _) := owns_bytesAt (fun _ => False) ho (fun _ _ x => x)
  have HFR : Hid (_) := frames_pk vb [q0] w5 (fun _ => False) HBA.out.1 (few_one hq2) HBA.out.2
  rw [hq1] at S2c
  have H5 : Hid (PE w5 W2.heap.size l5 ((N0.event 3).1.event 1).1 ∧ l5.pb = l0.pb ∧ Below W2.heap.size W2 w5 ∧ ((N0.event 3).1.event 1).1.Lo ∧ (∀ p ∈ [q0], RE.Mine ((N0.event 3).1.event 1).1.mg p) ∧ q0.Good ∧ ((N0.event 3).1.event 1).1.Both 400 ∧ ((N0.event 3).1.event 1).1.got = []) := ⟨hp5, hpb5, HB4.out.1.trans (ht5.below HB4.out.1.size (fun b hb => (HP4.out.lt b hb).1)), S2a, S2c, hq2, (RE.event_both (RE.event_both HN0.out.1 3) 1).mono (by omega), by rw [RE.event_got, RE.event_got]; exact HG0.out⟩
  clear ho hp5 hpb5 ht5 hi5 S1a S1b S1c S2a S2b S2c hq2 HBA E2 HB4 HP4 HB3
  go_wp2_with fail
  refine Calls.mono HFR.out ?_
  rintro e w6 ⟨vs, rfl, hoq, hbq⟩
  have LI0 : Hid (LoI w6 W2.heap.size l5 ((N0.event 3).1.event 1).1 vs [q0] (1000 + 200 * 0) ∧ l5.pb = l0.pb ∧ Below W2.heap.size W2 w6) := by
    obtain ⟨x1, x2, x3, x4, x5, x6, x7, x8⟩ := H5.out
    have qq := qrow_of_owns hoq
    exact ⟨⟨x1.tch (Tch.of_below (S := fun _ => False) hbq) (fun _ _ x => x), qq.mono x3.size, fun b hb hx => by have := (qq.lt b hb).1; have := (x1.lt b hx).2; omega, x4, x7.mono (by omega), x8, x5, fun p hp => by obtain rfl := List.mem_singleton.1 hp; exact x6, by simp, by simp⟩, x2, x3.trans (hbq.mono x3.size)⟩
  obtain ⟨avs, cvs, hvs, _⟩ := (qrow_of_owns hoq).shape
  have hvs' : vs = .slice avs 1 cvs := hvs
  subst hvs'
  have LI1 : Hid (∃ l m ps, LoI w6 W2.heap.size l m (.slice avs 1 cvs) ps (1000 + 200 * 0) ∧ l.pb = l0.pb ∧ Below W2.heap.size W2 w6) := ⟨l5, _, [q0], LI0.out.1, LI0.out.2.1, LI0.out.2.2⟩
  clear hoq hbq HFR H5 hvs LI0 hq1
  go_wp2_with fail
  go_loopw [10, 11] (fun v10 v11 wr => ∃ (k : Nat), k ≤ back.length ∧ v11 = .int .i64 (k : Int) ∧ Hid (∃ l m ps, LoI wr W2.heap.size l m v10 ps (1000 + 200 * k) ∧ l.pb = l0.pb ∧ Below W2.heap.size W2 wr)) (fun _ v11 _ => back.length - (intOf v11).toNat)
  case atStart => exact ⟨0, Nat.zero_le _, rfl, LI1⟩
  case round =>
    obtain ⟨k, hk, rfl, HW⟩ := hrel
    clear LI1
    by_cases hlt : k < back.length
    · have hI : (k : Int) < (back.length : Int) := by omega
      obtain ⟨rfl, hga⟩ := HA.out (by omega)
      obtain ⟨lr, mr, ps, hI0, hpbr, hBr⟩ := HW.out
      have hbw : Below w.heap.size w wr := HBW.out.trans (hBr.mono HBW.out.size)
      have cb : wr.cell? ⟨ga, offa + k, none⟩ = some (.int .i64 back[k]) := (hbw.cell (p := ⟨ga, offa + k, none⟩) hga).trans (HC.out k hlt)
      have hbb := HG.out.2.2.2 back[k] (List.getElem_mem hlt)
      obtain ⟨g, off, cap, hv10, hcel⟩ := hI0.q.at hI0.pos
      subst hv10
      have hpl := hI0.pos
      have hpn := hI0.len
      have HPK : Hid (_) := kpick_any back[k] (4 * ps.length + 8) wr (by omega) (by omega) hbb.1 hbb.2
      have hpk := pickN_less back[k] (4 * ps.length + 8) (by omega)
      rw [show (((4 * ps.length + 8 : Nat)) : Int) = 4 * (ps.length : Int) + 8 by omega] at HPK
      generalize pickN back[k] (4 * ps.length + 8) = x at *
      generalize back[k] = bk at *
      have HI : Hid (LoI wr W2.heap.size lr mr (.slice (some ⟨g, off, none⟩) ps.length cap) ps (1000 + 200 * k)) := hI0
      have HPB : Hid (lr.pb = l0.pb) := hpbr
      have HB : Hid (Below W2.heap.size W2 wr) := hBr
      have HCL : Hid (∀ j (hj : j < ps.length), wr.cell? ⟨g, off + j, none⟩ = some (.string ⟨ps[j].line.toArray⟩)) := hcel
      clear hI0 hpbr hBr hcel hbb HW hbw
      go_wp2_with fail
      refine Calls.mono HPK.out ?_
      rintro e wr' ⟨rfl, rfl⟩
      clear HPK cb
      by_cases hx8 : x < 8
      · have hx8' : (x : Int) < 8 := by omega
        have HEV : Hid (∀ kk : Int, Calls Tryz.prog 25 #[.pointer (some ⟨l0.pb, 0, none⟩), .int .i64 kk] wr fun r w' => ∃ (v : Value) (l' : PLay), r = .returned v ∧ w'.ownsRow wr.heap.size 5 1 v ((mr.eventP kk).flatMap Pq.line).length (((mr.eventP kk).flatMap Pq.line).map bv) ∧ PE w' W2.heap.size l' (mr.event kk).1 ∧ l'.pb = l0.pb ∧ Tch lr.has wr w' ∧ (∀ b, l'.has b → lr.has b ∨ wr.heap.size ≤ b) ∧ ∀ b, v.ownBlock = some b → ¬ l'.has b) := fun kk => pevent_at wr W2.heap.size lr mr kk l0.pb HPB.out HI.out.pe HI.out.both (by omega)
        go_wp2_with fail
        refine Calls.mono (HEV.out _) ?_
        rintro e w5 ⟨vb, l1, rfl, ho, hp, hpb, ht, hi, _⟩
        have HX : Hid (RE.LoS mr (mr.event (1 + (x : Int) % 5)).1 (mr.eventP (1 + (x : Int) % 5)) ∧ (mr.event (1 + (x : Int) % 5)).1.Both (1000 + 200 * k + 200) ∧ (mr.event (1 + (x : Int) % 5)).1.got = [] ∧ RE.Few (mr.eventP (1 + (x : Int) % 5))) := ⟨HI.out.lo.event _, (RE.event_both HI.out.both _).mono (by omega), (RE.event_got _ _).trans HI.out.got, RE.eventP_few HI.out.lo.ok _⟩
        generalize (mr.event (1 + (x : Int) % 5)).1 = M' at *
        generalize mr.eventP (1 + (x : Int) % 5) = qs at *
        have HBA : Hid (_ ∧ _) := owns_bytesAt (fun _ => False) ho (fun _ _ x => x)
        have HP1 : Hid (PE w5 W2.heap.size l1 M' ∧ l1.pb = l0.pb ∧ (∀ b, l1.has b → lr.has b ∨ wr.heap.size ≤ b) ∧ Tch lr.has wr w5) := ⟨hp, hpb, hi, ht⟩
        have HFR : Hid (_) := frames_pk vb qs w5 (fun _ => False) HBA.out.1 HX.out.2.2.2 HBA.out.2
        have HQ5 : Hid (QRow w5 W2.heap.size (.slice (some ⟨g, off, none⟩) ps.length cap) ps) := HI.out.q.of_tch ht (fun b hb e => HI.out.d b hb e)
        clear ho hp hpb hi ht HEV
        go_wp2_with fail
        refine Calls.mono HFR.out ?_
        rintro e w6 ⟨vq, rfl, hoq, hbq⟩
        have HQ6 : Hid (QRow w6 W2.heap.size (.slice (some ⟨g, off, none⟩) ps.length cap) ps ∧ w6.ownsRow w5.heap.size 9 1 vq qs.length (qs.map sv) ∧ Below w5.heap.size w5 w6) := ⟨HQ5.out.of_tch (Tch.of_below (S := fun _ => False) hbq) (fun _ _ x => x), hoq, hbq⟩
        have hz6 : W2.heap.size ≤ w6.heap.size := Nat.le_trans HB.out.size (Nat.le_trans HP1.out.2.2.2.size hbq.size)
        have hlen6 : ps.length + qs.length ≤ 1000000000000 := by have := HX.out.2.2.2.2; omega
        clear hoq hbq HFR HQ5
        go_wp2_with (at_builtin; go_must (refine wpList_append_q _ rfl (.tmp 72) (.tmp 74) rfl W2.heap.size (.slice (some ⟨g, off, none⟩) ps.length cap) vq ps qs rfl rfl HQ6.out.1 (src_owns HQ6.out.2.1) hz6 hlen6 ?_; intro v3 w7 hq3 ht3 ho3))
        have HN : Hid (LoI w7 W2.heap.size l1 M' v3 (ps ++ qs) (1000 + 200 * (k + 1))) := by
          have := HI.out.next HP1.out.1 HP1.out.2.2.1 HX.out.1 HX.out.2.1 HX.out.2.2.1 HX.out.2.2.2 HQ6.out.2.2 hq3 ht3 ho3
          rwa [show 1000 + 200 * k + 200 = 1000 + 200 * (k + 1) by omega] at this
        have HB7 : Hid (Below W2.heap.size W2 w7) := by
          have h5 : Below W2.heap.size W2 w5 := HB.out.trans (HP1.out.2.2.2.below HB.out.size (fun b hb => (HI.out.pe.lt b hb).1))
          have h6 : Below W2.heap.size W2 w6 := h5.trans (HQ6.out.2.2.mono h5.size)
          exact h6.trans (ht3.below h6.size (fun b hb => (HI.out.q.lt b hb).1))
        have HST : Hid (_) := pstate HN.out.pe
        have E5 : Hid (l1.pb = l0.pb) := HP1.out.2.1
        rw [E5.out] at HST
        have hst : ((M'.st : Int) == 9) = false := by have := HN.out.lo.s9; simp; omega
        clear hq3 ht3 ho3 HQ6 HP1 HBA
        go_wp2_with fail
        refine Calls.mono HST.out ?_
        rintro e w8 ⟨rfl, hb8⟩
        have HF : Hid (LoI w8 W2.heap.size l1 M' v3 (ps ++ qs) (1000 + 200 * (k + 1)) ∧ Below W2.heap.size W2 w8) := by
          have hn := HN.out
          exact ⟨⟨hn.pe.tch (Tch.of_below (S := fun _ => False) hb8) (fun _ _ x => x), hn.q.of_tch (Tch.of_below (S := fun _ => False) hb8) (fun _ _ x => x), hn.d, hn.lo, hn.both, hn.got, hn.mine, hn.good, hn.pos, hn.len⟩, HB7.out.trans (hb8.mono HB7.out.size)⟩
        clear hb8 HST
        go_wp2_with fail
        exact ⟨⟨k + 1, by omega, by go_num, l1, _, _, HF.out.1, E5.out, HF.out.2⟩, by simp [intOf]; omega⟩
      · have hx8' : ¬ (x : Int) < 8 := by omega
        obtain ⟨idx, hidx⟩ : ∃ idx, idx = (x - 8) % ps.length := ⟨_, rfl⟩
        have hil : idx < ps.length := by rw [hidx]; exact Nat.mod_lt _ hpl
        have hidx' : ((x : Int) - 8) % (ps.length : Int) = (idx : Int) := by
          rw [hidx, Int.natCast_emod, Int.natCast_sub (by omega)]
          rfl
        have hI2 : (idx : Int) < (ps.length : Int) := by omega
        have hnz : ((ps.length : Int) == 0) = false := by simp; intro q; rw [q] at hpl; simp at hpl
        have cf := HCL.out idx hil
        have HPG : Hid (ps[idx].Good ∧ RE.Mine mr.mg ps[idx]) := ⟨HI.out.good _ (List.getElem_mem hil), HI.out.mine _ (List.getElem_mem hil)⟩
        generalize ps[idx] = p at *
        have HEV : Hid (_) := phear_at w wr W2.heap.size lr mr p l0.pb HPB.out HG.out.1 (HBW.out.trans (HB.out.mono HBW.out.size)) HBW.out.size HI.out.pe HI.out.both (by omega) HI.out.got HPG.out.1
        have hcv := conv_frame wr p
        clear hidx
        go_wp2_with fail
        refine Calls.mono HEV.out ?_
        rintro e w5 ⟨vb, l1, rfl, ho, hp, hpb, ht, hi, _⟩
        have HX : Hid (RE.LoS mr (mr.hear p) (mr.hearP p) ∧ (mr.hear p).Both (1000 + 200 * k + 200) ∧ (mr.hear p).got = [] ∧ RE.Few (mr.hearP p)) := ⟨HI.out.lo.hear p HPG.out.1 HPG.out.2, RE.hear_both HI.out.both HPG.out.1, (RE.hear_got _ _).trans HI.out.got, RE.hearP_few HI.out.lo.ok HPG.out.1⟩
        generalize mr.hear p = M' at *
        generalize mr.hearP p = qs at *
        have HBA : Hid (_ ∧ _) := owns_bytesAt (fun _ => False) ho (fun _ _ x => x)
        have HP1 : Hid (PE w5 W2.heap.size l1 M' ∧ l1.pb = l0.pb ∧ (∀ b, l1.has b → lr.has b ∨ wr.heap.size ≤ b) ∧ Tch lr.has wr w5) := ⟨hp, hpb, hi, ht⟩
        have HFR : Hid (_) := frames_pk vb qs w5 (fun _ => False) HBA.out.1 HX.out.2.2.2 HBA.out.2
        have HQ5 : Hid (QRow w5 W2.heap.size (.slice (some ⟨g, off, none⟩) ps.length cap) ps) := HI.out.q.of_tch ht (fun b hb e => HI.out.d b hb e)
        clear ho hp hpb hi ht HEV
        go_wp2_with fail
        refine Calls.mono HFR.out ?_
        rintro e w6 ⟨vq, rfl, hoq, hbq⟩
        have HQ6 : Hid (QRow w6 W2.heap.size (.slice (some ⟨g, off, none⟩) ps.length cap) ps ∧ w6.ownsRow w5.heap.size 9 1 vq qs.length (qs.map sv) ∧ Below w5.heap.size w5 w6) := ⟨HQ5.out.of_tch (Tch.of_below (S := fun _ => False) hbq) (fun _ _ x => x), hoq, hbq⟩
        have hz6 : W2.heap.size ≤ w6.heap.size := Nat.le_trans HB.out.size (Nat.le_trans HP1.out.2.2.2.size hbq.size)
        have hlen6 : ps.length + qs.length ≤ 1000000000000 := by have := HX.out.2.2.2.2; omega
        clear hoq hbq HFR HQ5
        go_wp2_with (at_builtin; go_must (refine wpList_append_q _ rfl (.tmp 72) (.tmp 74) rfl W2.heap.size (.slice (some ⟨g, off, none⟩) ps.length cap) vq ps qs rfl rfl HQ6.out.1 (src_owns HQ6.out.2.1) hz6 hlen6 ?_; intro v3 w7 hq3 ht3 ho3))
        have HN : Hid (LoI w7 W2.heap.size l1 M' v3 (ps ++ qs) (1000 + 200 * (k + 1))) := by
          have := HI.out.next HP1.out.1 HP1.out.2.2.1 HX.out.1 HX.out.2.1 HX.out.2.2.1 HX.out.2.2.2 HQ6.out.2.2 hq3 ht3 ho3
          rwa [show 1000 + 200 * k + 200 = 1000 + 200 * (k + 1) by omega] at this
        have HB7 : Hid (Below W2.heap.size W2 w7) := by
          have h5 : Below W2.heap.size W2 w5 := HB.out.trans (HP1.out.2.2.2.below HB.out.size (fun b hb => (HI.out.pe.lt b hb).1))
          have h6 : Below W2.heap.size W2 w6 := h5.trans (HQ6.out.2.2.mono h5.size)
          exact h6.trans (ht3.below h6.size (fun b hb => (HI.out.q.lt b hb).1))
        have HST : Hid (_) := pstate HN.out.pe
        have E5 : Hid (l1.pb = l0.pb) := HP1.out.2.1
        rw [E5.out] at HST
        have hst : ((M'.st : Int) == 9) = false := by have := HN.out.lo.s9; simp; omega
        clear hq3 ht3 ho3 HQ6 HP1 HBA
        go_wp2_with fail
        refine Calls.mono HST.out ?_
        rintro e w8 ⟨rfl, hb8⟩
        have HF : Hid (LoI w8 W2.heap.size l1 M' v3 (ps ++ qs) (1000 + 200 * (k + 1)) ∧ Below W2.heap.size W2 w8) := by
          have hn := HN.out
          exact ⟨⟨hn.pe.tch (Tch.of_below (S := fun _ => False) hb8) (fun _ _ x => x), hn.q.of_tch (Tch.of_below (S := fun _ => False) hb8) (fun _ _ x => x), hn.d, hn.lo, hn.both, hn.got, hn.mine, hn.good, hn.pos, hn.len⟩, HB7.out.trans (hb8.mono HB7.out.size)⟩
        clear hb8 HST
        go_wp2_with fail
        exact ⟨⟨k + 1, by omega, by go_num, l1, _, _, HF.out.1, E5.out, HF.out.2⟩, by simp [intOf]; omega⟩
    · have hI : ¬ (k : Int) < (back.length : Int) := by omega
      obtain ⟨wR, hren⟩ : ∃ wR : World, wR = wr := ⟨_, rfl⟩
      subst hren
      obtain ⟨_, _, _, _, _, hBr⟩ := HW.out
      have HBr : Hid (Below W2.heap.size W2 wR) := hBr
      have hz1 : w1.heap.size < W2.heap.size := blk_lt BB.out
      have g1 : ∀ j, wR.cell? ⟨w1.heap.size, j, none⟩ = _ := fun j => blk_cell ((hBr.block _ hz1).trans BB.out)
      have HEE : Hid (_) := HE.out wR (BA.out.trans (hBr.mono BA.out.size))
      clear hBr HW
      go_wp2_with fail
      refine Calls.mono HEE.out ?_
      rintro e wd ⟨ld, rfl, hpd, hbd⟩
      have D1 : Hid (_) := pevent_at wd wR.heap.size ld N0 3 ld.pb rfl hpd HN0.out.1 (by omega)
      have HBD : Hid (Below wR.heap.size wR wd) := hbd
      clear hbd HEE g1
      go_wp2_with fail
      refine Calls.mono D1.out ?_
      rintro e we ⟨vx, le, rfl, _, hpe, hpbe, hte, _, _⟩
      have HBE : Hid (Below wR.heap.size wR we) := HBD.out.trans (hte.below HBD.out.size (fun b hb => (hpd.lt b hb).1))
      have D2 : Hid (_) := pevent_at we wR.heap.size le (N0.event 3).1 1 ld.pb hpbe hpe (RE.event_both HN0.out.1 3) (by omega)
      have HPE : Hid (PE we wR.heap.size le (N0.event 3).1) := hpe
      clear hpe hpbe hte hpd D1 HBD
      go_wp2_with fail
      refine Calls.mono D2.out ?_
      rintro e wf ⟨vb, lf, rfl, hof, hpf, hpbf, htf, hif, hwf⟩
      have HBF : Hid (Below wR.heap.size wR wf) := HBE.out.trans (htf.below HBE.out.size (fun b hb => (HPE.out.lt b hb).1))
      have L2 : Hid (∃ l m ps, PE wf wR.heap.size l m ∧ l.pb = ld.pb ∧ m.Ph ps (min 0 9) ∧ m.Both (400 + 200 * 0) ∧ m.got = [] ∧ BytesAt wf l.has vb (ps.flatMap Pq.line) ∧ Below wR.heap.size wR wf) := ⟨lf, _, _, hpf, hpbf, HN0.out.2.2.2, (RE.event_both (RE.event_both HN0.out.1 3) 1).mono (by omega), by rw [RE.event_got, RE.event_got]; exact HG0.out, (owns_bytesAt lf.has hof hwf).1, HBF.out⟩
      clear hof hpf hpbf htf hif hwf D2 HBE HPE HBF
      go_wp2_with fail
      go_loopw [9, 14] (fun v9 v14 wr => ∃ (j : Nat), j ≤ 40 ∧ v14 = .int .i64 (j : Int) ∧ Hid (∃ l m ps, PE wr wR.heap.size l m ∧ l.pb = ld.pb ∧ m.Ph ps (min j 9) ∧ m.Both (400 + 200 * j) ∧ m.got = [] ∧ BytesAt wr l.has v9 (ps.flatMap Pq.line) ∧ Below wR.heap.size wR wr)) (fun _ v14 _ => 40 - (intOf v14).toNat)
      case atStart => exact ⟨0, by omega, rfl, L2⟩
      case round =>
        obtain ⟨j, hj, rfl, HW2⟩ := hrel
        clear L2
        by_cases hjl : j < 40
        · have hJ : (j : Int) < 40 := by omega
          obtain ⟨lx, mx, ps, hpx, hpbx, hph, hbx, hgx, hbax, hBx⟩ := HW2.out
          obtain ⟨M', qs, hstep, hph', hb', hg'⟩ : ∃ M' qs, mx.bytes (ps.flatMap Pq.line) = (M', qs.flatMap Pq.line) ∧ M'.Ph qs (min (j + 1) 9) ∧ M'.Both (400 + 200 * (j + 1)) ∧ M'.got = [] := by
            by_cases h9 : min j 9 < 9
            · obtain ⟨p, rfl, hg, hn'⟩ := hph.next h9
              refine ⟨mx.hear p, mx.hearP p, ?_, ?_, (RE.hear_both hbx hg).mono (by omega), (RE.hear_got _ _).trans hgx⟩
              · have : [p].flatMap Pq.line = p.line := by simp
                rw [this]; exact RE.bytes_line mx p hg hgx
              · rw [show min (j + 1) 9 = min j 9 + 1 by omega]; exact hn'
            · have e9 : min j 9 = 9 := by omega
              rw [e9] at hph
              have hps := (hph.f rfl).2.2
              subst hps
              refine ⟨mx, [], rfl, ?_, hbx.mono (by omega), hgx⟩
              rw [show min (j + 1) 9 = 9 by omega]; exact hph
          have hlenp : (ps.flatMap Pq.line).length ≤ 1000000 := by
            have hf := ph_few hph
            have hq : ∀ (l : List Pq), (∀ p ∈ l, p.Good) → (l.flatMap Pq.line).length ≤ 90 * l.length := by
              intro l
              induction l with
              | nil => intro _; simp
              | cons p l ih =>
                intro h
                have h1 := ih (fun q hq => h q (by simp [hq]))
                have h2 := p.line_len (h p (by simp))
                simp only [List.flatMap_cons, List.length_append, List.length_cons]; omega
            have h1 := hq ps hf.1
            have h2 := hf.2
            omega
          have HBW2 : Hid (Below w.heap.size w wr) := by
            have h1 := HBW.out.trans (HBr.out.mono HBW.out.size)
            exact h1.trans (hBx.mono h1.size)
          have HEV : Hid (_) := pbytes_at w wr wR.heap.size lx mx u9 (ps.flatMap Pq.line) M' qs hstep ld.pb hpbx HG.out.1 HBW2.out (Nat.le_trans HBW.out.size HBr.out.size) hpx hbx (by omega) hgx hlenp hbax
          have HQ : Hid (M'.Ph qs (min (j + 1) 9) ∧ M'.Both (400 + 200 * (j + 1)) ∧ M'.got = [] ∧ PE wr wR.heap.size lx mx ∧ Below wR.heap.size wR wr) := ⟨hph', hb', hg', hpx, hBx⟩
          have hst : ((M'.st : Int) == 9) = false := by have := hph'.not9; simp; omega
          clear hpx hpbx hph hbx hgx hbax hBx hstep hph' hb' hg' hlenp HW2
          go_wp2_with fail
          refine Calls.mono HEV.out ?_
          rintro e wy ⟨vy, ly, rfl, hoy, hpy, hpby, hty, _, hwy⟩
          have HST : Hid (_) := pstate hpy
          rw [hpby] at HST
          have HY : Hid (PE wy wR.heap.size ly M' ∧ ly.pb = ld.pb ∧ BytesAt wy ly.has vy (qs.flatMap Pq.line) ∧ Below wR.heap.size wR wy) := ⟨hpy, hpby, (owns_bytesAt ly.has hoy hwy).1, HQ.out.2.2.2.2.trans (hty.below HQ.out.2.2.2.2.size (fun b hb => (HQ.out.2.2.2.1.lt b hb).1))⟩
          clear hoy hpy hpby hty hwy HEV
          go_wp2_with fail
          refine Calls.mono HST.out ?_
          rintro e wz ⟨rfl, hbz⟩
          have HZ : Hid (PE wz wR.heap.size ly M' ∧ BytesAt wz ly.has vy (qs.flatMap Pq.line) ∧ Below wR.heap.size wR wz) := by
            obtain ⟨y1, y2, y3, y4⟩ := HY.out
            refine ⟨y1.tch (Tch.of_below (S := fun _ => False) hbz) (fun _ _ x => x), ?_, y4.trans (hbz.mono y4.size)⟩
            obtain ⟨a, cap, g, off, e, h1, h2⟩ := y3
            exact ⟨a, cap, g, off, e, fun q => ⟨(h1 q).1, Nat.lt_of_lt_of_le (h1 q).2.1 hbz.size, (h1 q).2.2⟩, fun q => rd_below (h2 q) hbz (h1 q).2.1⟩
          clear hbz HST
          go_wp2_with fail
          exact ⟨⟨j + 1, by omega, by go_num, ly, M', qs, HZ.out.1, HY.out.2.1, HQ.out.1, HQ.out.2.1, HQ.out.2.2.1, HZ.out.2.1, HZ.out.2.2⟩, by simp [intOf]; omega⟩
        · have hJ : ¬ (j : Int) < 40 := by omega
          obtain ⟨lx, mx, ps, hpx, hpbx, hph, hbx, hgx, hbax, hBx⟩ := HW2.out
          rw [show min j 9 = 9 by omega] at hph
          obtain ⟨_, h6, hps⟩ := hph.f rfl
          subst hps
          obtain ⟨av, cv, gv, ofv, hv9, _, _⟩ := hbax
          have hv9' : u9 = .slice av 0 cv := hv9
          subst hv9'
          have GV : Hid (_) := gave_any wr hpx (by have := hbx.1.told; omega)
          rw [hpbx, decide_eq_true (show gaveL mx.told from .inr h6)] at GV
          have HBX : Hid (Below wR.heap.size wR wr) := hBx
          clear hpx hpbx hph hbx hgx hBx h6 HW2 hv9
          go_wp2_with fail
          refine Calls.mono GV.out ?_
          rintro e wz ⟨rfl, hbz⟩
          have HFIN : Hid (Below w.heap.size w wz) := by
            have h1 := HBW.out.trans (HBr.out.mono HBW.out.size)
            have h2 := h1.trans (HBX.out.mono h1.size)
            exact h2.trans (hbz.mono h2.size)
          clear hbz GV
          go_wp2_with fail
          go_ret
          exact ⟨rfl, HFIN.out⟩
end Go.Proofs.YtoeihlgidakjbaaGreatDoor

/- happens, known. -/
import Derived.Test.YtoeihlgidakjbaaGreatDoorKa29
namespace Go.Proofs.YtoeihlgidakjbaaGreatDoor
open Go.RowKit Go.Lib
theorem LI.gone0 {w : World} {B : Nat} {v : LV} {l : Ln} (h : LI w B v l) : ∃ v', LI ((w.setCell ⟨v.ln, 17, none⟩ (.slice none 0 0)).setCell ⟨v.ln, 16, none⟩ (.slice none 0 0)) B v' { l with toB := [], toA := [] } ∧ LS w ((w.setCell ⟨v.ln, 17, none⟩ (.slice none 0 0)).setCell ⟨v.ln, 16, none⟩ (.slice none 0 0)) v v' := by
  obtain ⟨h1, s1⟩ := h.setA (.slice none 0 0) [] w (Tch.refl _ _) (.inl ⟨rfl, rfl⟩) (fun b hb => by cases hb)
  obtain ⟨h2, s2⟩ := h1.setB (.slice none 0 0) [] _ (Tch.refl _ _) (.inl ⟨rfl, rfl⟩) (fun b hb => by cases hb)
  exact ⟨_, h2, s1.trans s2⟩
set_option maxRecDepth 100000 in
set_option maxHeartbeats 8000000 in
theorem happens_any {B n : Nat} {v : LV} {l : Ln} (kind : Int) (first : Bool) (w0 w : World) (gz : Gz w0) (hb0 : Below w0.heap.size w0 w) (hB0 : w0.heap.size ≤ B) (h : LI w B v l) (ok : l.Ok n) (hn : n + 400 ≤ 900000000000) (hk1 : -9223372036854775808 ≤ kind) (hk2 : kind < 9223372036854775808) :
    Calls Tryz.prog 21 #[.pointer (some ⟨v.ln, 0, none⟩), .agg #[.int .i64 kind, .bool first]] w fun e w' => e = .returned (.tuple #[]) ∧ ∃ v', LI w' B v' (l.happens (pickN kind 10) first) ∧ LS w w' v v' := by
  have BA : Hid (Below w.heap.size w (w.alloc (.cells #[.int .i64 kind, .bool first] 44))) := (Below.refl _ _).alloc (Nat.le_refl _) _
  have hLW := h.below BA.out
  have HP : Hid (_) := pick_any kind 10 (w.alloc (.cells #[.int .i64 kind, .bool first] 44)) (by omega) (by omega) hk1 hk2
  have HT : Hid (∀ k : Int, Calls Tryz.prog 17 #[.pointer (some ⟨v.ln, 0, none⟩), .bool first, .int .i64 k] (w.alloc (.cells #[.int .i64 kind, .bool first] 44)) fun r w' => r = .returned (.tuple #[]) ∧ ∃ v', LI w' B v' (l.tell first k) ∧ LS (w.alloc (.cells #[.int .i64 kind, .bool first] 44)) w' v v') := fun k => tell_any first k _ hLW ok (by omega)
  have HD : Hid (∀ lost : Bool, Calls Tryz.prog 38 #[.pointer (some ⟨v.ln, 0, none⟩), .bool first, .bool lost] (w.alloc (.cells #[.int .i64 kind, .bool first] 44)) fun e w' => e = .returned (.bool (l.deliver first lost).2) ∧ ∃ v', LI w' B v' (l.deliver first lost).1 ∧ LS (w.alloc (.cells #[.int .i64 kind, .bool first] 44)) w' v v') := fun lost => deliver_any first lost w0 _ gz (hb0.trans (BA.out.mono hb0.size)) hB0 hLW ok (by omega)
  have HLW : Hid (LI (w.alloc (.cells #[.int .i64 kind, .bool first] 44)) B v l ∧ l.Ok n) := ⟨hLW, ok⟩
  have bw : (w.alloc (.cells #[.int .i64 kind, .bool first] 44)).heap[v.ln]? = some (.cells v.cells 49 (0, 0)) := hLW.blk
  have x17 : (w.alloc (.cells #[.int .i64 kind, .bool first] 44)).cell? ⟨v.ln, 17, none⟩ = some v.vA := blk_cell bw
  have x16 : (w.alloc (.cells #[.int .i64 kind, .bool first] 44)).cell? ⟨v.ln, 16, none⟩ = some v.vB := blk_cell bw
  have y17 : (w.alloc (.cells #[.int .i64 kind, .bool first] 44)).frozen? ⟨v.ln, 17, none⟩ = false := blk_free bw
  have y16 : (w.alloc (.cells #[.int .i64 kind, .bool first] 44)).frozen? ⟨v.ln, 16, none⟩ = false := blk_free bw
  have z0 : (w.alloc (.cells #[.int .i64 kind, .bool first] 44)).cell? ⟨w.heap.size, 0, none⟩ = some (.int .i64 kind) := by simp
  have z1 : (w.alloc (.cells #[.int .i64 kind, .bool first] 44)).cell? ⟨w.heap.size, 1, none⟩ = some (.bool first) := by simp
  have hk := pickN_less kind 10 (by decide)
  obtain ⟨k, hke⟩ : ∃ k, k = pickN kind 10 := ⟨_, rfl⟩
  rw [← hke] at HP hk ⊢
  clear h hLW gz hb0 hB0 ok bw hke
  go_enter Tryz.func21, Tryz.ntmps21
  go_wp2_with fail
  generalize w.alloc (.cells #[.int .i64 kind, .bool first] 44) = W at *
  refine Calls.mono HP.out ?_
  rintro e W1 ⟨rfl, rfl⟩
  clear HP
  rcases (by omega : k = 0 ∨ k = 1 ∨ k = 2 ∨ k = 3 ∨ k = 4 ∨ k = 5 ∨ 6 ≤ k) with rfl | rfl | rfl | rfl | rfl | rfl | hk6
  · go_wp2_with fail
    refine Calls.mono (HT.out 1) ?_
    rintro e w2 ⟨rfl, v', hl, hs⟩
    have HF : Hid (LI w2 B v' (l.happens 0 first) ∧ LS w w2 v v') := ⟨hl, LS.pre BA.out hs⟩
    clear hl hs
    go_wp2_with fail
    try go_end0
    exact ⟨rfl, v', HF.out.1, HF.out.2⟩
  · go_wp2_with fail
    refine Calls.mono (HT.out 3) ?_
    rintro e w2 ⟨rfl, v', hl, hs⟩
    have HF : Hid (LI w2 B v' (l.happens 1 first) ∧ LS w w2 v v') := ⟨hl, LS.pre BA.out hs⟩
    clear hl hs
    go_wp2_with fail
    try go_end0
    exact ⟨rfl, v', HF.out.1, HF.out.2⟩
  · go_wp2_with fail
    refine Calls.mono (HT.out 4) ?_
    rintro e w2 ⟨rfl, v', hl, hs⟩
    have HF : Hid (LI w2 B v' (l.happens 2 first) ∧ LS w w2 v v') := ⟨hl, LS.pre BA.out hs⟩
    clear hl hs
    go_wp2_with fail
    try go_end0
    exact ⟨rfl, v', HF.out.1, HF.out.2⟩
  · obtain ⟨v1, hl1, hs1⟩ := HLW.out.1.gone0
    have e1 : v1.ln = v.ln := hs1.ln
    have T1 : Hid (_) := tell_any true 2 _ hl1 HLW.out.2.clear (by omega)
    rw [e1] at T1
    have H1 : Hid (LS W _ v v1) := hs1
    clear hl1 hs1
    go_upto_region 12 with fail
    generalize (W.setCell ⟨v.ln, 17, none⟩ (.slice none 0 0)).setCell ⟨v.ln, 16, none⟩ (.slice none 0 0) = W2 at *
    go_wp2_with fail
    refine Calls.mono T1.out ?_
    rintro e w2 ⟨rfl, v2, hl2, hs2⟩
    have e2 : v2.ln = v.ln := hs2.ln.trans e1
    have T2 : Hid (_) := tell_any false 2 w2 hl2 (HLW.out.2.clear.tell true 2) (by omega)
    rw [e2] at T2
    have H2 : Hid (LS W w2 v v2) := H1.out.trans hs2
    clear hl2 hs2 T1
    go_wp2_with fail
    refine Calls.mono T2.out ?_
    rintro e w3 ⟨rfl, v3, hl3, hs3⟩
    have HF : Hid (LI w3 B v3 (l.happens 3 first) ∧ LS w w3 v v3) := ⟨hl3, LS.pre BA.out (H2.out.trans hs3)⟩
    clear hl3 hs3
    go_wp2_with fail
    try go_end0
    exact ⟨rfl, v3, HF.out.1, HF.out.2⟩
  · go_wp2_with fail
    refine Calls.mono (HT.out 5) ?_
    rintro e w2 ⟨rfl, v', hl, hs⟩
    have HF : Hid (LI w2 B v' (l.happens 4 first) ∧ LS w w2 v v') := ⟨hl, LS.pre BA.out hs⟩
    clear hl hs
    go_wp2_with fail
    try go_end0
    exact ⟨rfl, v', HF.out.1, HF.out.2⟩
  · go_wp2_with fail
    refine Calls.mono (HD.out true) ?_
    rintro e w2 ⟨rfl, v', hl, hs⟩
    have HF : Hid (LI w2 B v' (l.happens 5 first) ∧ LS w w2 v v') := ⟨hl, LS.pre BA.out hs⟩
    clear hl hs
    go_wp2_with fail
    try go_end0
    exact ⟨rfl, v', HF.out.1, HF.out.2⟩
  · have h0 : ((k : Int) == 0) = false := by simp; omega
    have h1 : ((k : Int) == 1) = false := by simp; omega
    have h2 : ((k : Int) == 2) = false := by simp; omega
    have h3 : ((k : Int) == 3) = false := by simp; omega
    have h4 : ((k : Int) == 4) = false := by simp; omega
    have h5 : ((k : Int) == 5) = false := by simp; omega
    have HE : Hid (l.happens k first = (l.deliver first false).1) := by
      show _ = _
      unfold Ln.happens
      rw [if_neg (by omega), if_neg (by omega), if_neg (by omega), if_neg (by omega), if_neg (by omega), if_neg (by omega)]
    go_wp2_with fail
    refine Calls.mono (HD.out false) ?_
    rintro e w2 ⟨rfl, v', hl, hs⟩
    have HF : Hid (LI w2 B v' (l.happens k first) ∧ LS w w2 v v') := ⟨by rw [HE.out]; exact hl, LS.pre BA.out hs⟩
    clear hl hs
    go_wp2_with fail
    try go_end0
    exact ⟨rfl, v', HF.out.1, HF.out.2⟩
def knownL : Ln := ((((newL (cfgA []) (cfgB []) (magA []) (magB [])).tell true 3).tell false 3).tell true 1).tell false 1
theorem known_pure : (knownL.settle 100).2 = true ∧ (knownL.settle 100).1.opened = true := by decide +kernel
theorem CfgAt.shapes {w : World} {X : Nat → Value} {L : Nat → List Int} (h : CfgAt w X L) (mg : Int) : ∃ a0 n0 c0 a1 n1 c1 a2 n2 c2 a3 n3 c3 a4 n4 c4 a5 n5 c5, cfC X mg = #[.slice a0 n0 c0, .slice a1 n1 c1, .slice a2 n2 c2, .slice a3 n3 c3, .slice a4 n4 c4, .slice a5 n5 c5, .int .i64 mg] := by
  obtain ⟨a0, n0, c0, e0, _⟩ := (h 0 (by omega)).2
  obtain ⟨a1, n1, c1, e1, _⟩ := (h 1 (by omega)).2
  obtain ⟨a2, n2, c2, e2, _⟩ := (h 2 (by omega)).2
  obtain ⟨a3, n3, c3, e3, _⟩ := (h 3 (by omega)).2
  obtain ⟨a4, n4, c4, e4, _⟩ := (h 4 (by omega)).2
  obtain ⟨a5, n5, c5, e5, _⟩ := (h 5 (by omega)).2
  refine ⟨a0, n0, c0, a1, n1, c1, a2, n2, c2, a3, n3, c3, a4, n4, c4, a5, n5, c5, ?_⟩
  unfold cfC
  rw [e0, e1, e2, e3, e4, e5]
theorem ints_nil (w : World) : IntsAt w (.slice none 0 0) [] := ⟨none, 0, 0, 0, rfl, fun h => by simp at h, fun k hk => by simp at hk⟩
set_option maxRecDepth 100000 in
set_option maxHeartbeats 8000000 in
theorem known_any (w0 w : World) (gz : Gz w0) (hb0 : Below w0.heap.size w0 w) :
    Calls Tryz.prog 22 #[] w fun e w' => e = .returned (.bool true) ∧ Below w.heap.size w w' := by
  have HP : Hid (_) := pair_any (.slice none 0 0) [] w (ints_nil w) (fun _ h => (nomatch h))
  have HG : Hid (Gz w0 ∧ Below w0.heap.size w0 w) := ⟨gz, hb0⟩
  clear gz hb0
  go_enter Tryz.func22, Tryz.ntmps22
  go_wp2_with fail
  refine Calls.mono HP.out ?_
  rintro e w1 ⟨XA, XB, rfl, hb1, hcf⟩
  have hA : CfgAt w1 XA (cfgA []) := fun i hi => (hcf i hi).1
  have hB : CfgAt w1 XB (cfgB []) := fun i hi => (hcf i hi).2
  obtain ⟨a0, n0, c0, a1, n1, c1, a2, n2, c2, a3, n3, c3, a4, n4, c4, a5, n5, c5, EA⟩ := hA.shapes (magA [])
  obtain ⟨p0, m0, d0, p1, m1, d1, p2, m2, d2, p3, m3, d3, p4, m4, d4, p5, m5, d5, EB⟩ := hB.shapes (magB [])
  have BA : Hid (Below w1.heap.size w1 ((w1.alloc (.cells (cfC XA (magA [])) 31)).alloc (.cells (cfC XB (magB [])) 31))) := ((Below.refl _ _).alloc (Nat.le_refl _) _).alloc (by simp) _
  have HJ : Hid (_) := joined_any XA XB (cfgA []) (cfgB []) (magA []) (magB []) ((w1.alloc (.cells (cfC XA (magA [])) 31)).alloc (.cells (cfC XB (magB [])) 31)) (hA.below BA.out) (hB.below BA.out) (fun i _ => cfgA_isL _ i) (fun i _ => cfgB_isL _ i) (magA_in _).1 (magA_in _).2 (magB_in _).1 (magB_in _).2
  have HB1 : Hid (Below w.heap.size w w1) := hb1
  rw [EA, EB] at HJ BA
  rw [EA, EB]
  clear EA EB hA hB hcf hb1 HP
  go_wp2_with fail
  refine Calls.mono HJ.out ?_
  rintro e w2 ⟨v, rfl, hL, hb2, _⟩
  have hbw : Below w.heap.size w w2 := (HB1.out.trans (BA.out.mono HB1.out.size)).trans (hb2.mono (HB1.out.trans (BA.out.mono HB1.out.size)).size)
  have hL0 : LI w2 w.heap.size v (newL (cfgA []) (cfgB []) (magA []) (magB [])) := by
    have hz := (HB1.out.trans (BA.out.mono HB1.out.size)).size
    exact ⟨hL.blk, Nat.le_trans hz hL.ge, hL.pa.mono hz, hL.pb.mono hz, hL.qB.mono hz, hL.qA.mono hz, hL.d1, hL.d2, hL.d3, hL.eB, hL.eA⟩
  have ok0 : (newL (cfgA []) (cfgB []) (magA []) (magB [])).Ok 0 := newL_ok (fun i _ => cfgA_isL _ i) (fun i _ => cfgB_isL _ i) (magA_in _).1 (magA_in _).2 (magB_in _).1 (magB_in _).2
  have HL0 : Hid (LI w2 w.heap.size v (newL (cfgA []) (cfgB []) (magA []) (magB [])) ∧ Below w.heap.size w w2 ∧ (newL (cfgA []) (cfgB []) (magA []) (magB [])).Ok 0) := ⟨hL0, hbw, ok0⟩
  have T1 : Hid (_) := tell_any true 3 w2 hL0 ok0 (by omega)
  clear hL hb2 hL0 hbw ok0 HJ BA HB1
  go_wp2_with fail
  refine Calls.mono T1.out ?_
  rintro e w3 ⟨rfl, v1, hl1, hs1⟩
  have e1 : v1.ln = v.ln := hs1.ln
  have T2 : Hid (_) := tell_any false 3 w3 hl1 (HL0.out.2.2.tell true 3) (by omega)
  rw [e1] at T2
  have H1 : Hid (LS w2 w3 v v1) := hs1
  clear hl1 hs1 e1 T1
  go_wp2_with fail
  refine Calls.mono T2.out ?_
  rintro e w4 ⟨rfl, v2, hl2, hs2⟩
  have hs2' := H1.out.trans hs2
  have e2 : v2.ln = v.ln := hs2'.ln
  have T3 : Hid (_) := tell_any true 1 w4 hl2 ((HL0.out.2.2.tell true 3).tell false 3) (by omega)
  rw [e2] at T3
  have H2 : Hid (LS w2 w4 v v2) := hs2'
  clear hl2 hs2 hs2' e2 T2 H1
  go_wp2_with fail
  refine Calls.mono T3.out ?_
  rintro e w5 ⟨rfl, v3, hl3, hs3⟩
  have hs3' := H2.out.trans hs3
  have e3 : v3.ln = v.ln := hs3'.ln
  have T4 : Hid (_) := tell_any false 1 w5 hl3 (((HL0.out.2.2.tell true 3).tell false 3).tell true 1) (by omega)
  rw [e3] at T4
  have H3 : Hid (LS w2 w5 v v3) := hs3'
  clear hl3 hs3 hs3' e3 T3 H2
  go_wp2_with fail
  refine Calls.mono T4.out ?_
  rintro e w6 ⟨rfl, v4, hl4, hs4⟩
  have hs4' := H3.out.trans hs4
  have e4 : v4.ln = v.ln := hs4'.ln
  have hbz : Below w0.heap.size w0 w2 := HG.out.2.trans (HL0.out.2.1.mono HG.out.2.size)
  have T5 : Hid (_) := settle_any 100 w0 w6 HG.out.1 (LS.low HL0.out.1 hs4' hbz HG.out.2.size) HG.out.2.size hl4 ((((HL0.out.2.2.tell true 3).tell false 3).tell true 1).tell false 1) (by omega) (by omega)
  rw [e4] at T5
  have H4 : Hid (LS w2 w6 v v4) := hs4'
  clear hl4 hs4 hs4' e4 T4 H3 hbz
  go_wp2_with fail
  refine Calls.mono T5.out ?_
  rintro e w7 ⟨rfl, v5, hl5, hs5⟩
  have hs5' := H4.out.trans hs5
  have e5 : v5.ln = v.ln := hs5'.ln
  have T6 : Hid (_) := opened_any w7 hl5
  rw [e5] at T6
  have H5 : Hid (LS w2 w7 v v5) := hs5'
  have EK : Hid ((knownL.settle 100).2 = true ∧ (knownL.settle 100).1.opened = true) := known_pure
  have K1 : (((((newL (cfgA []) (cfgB []) (magA []) (magB [])).tell true 3).tell false 3).tell true 1).tell false 1).settle 100 = knownL.settle 100 := rfl
  rw [K1] at T6 ⊢
  rw [EK.out.1]
  rw [EK.out.2] at T6
  clear hl5 hs5 hs5' e5 T5 H4 K1
  go_wp2_with fail
  refine Calls.mono T6.out ?_
  rintro e w8 ⟨rfl, hb8⟩
  have HF : Hid (Below w.heap.size w w8) := by
    have h1 : Below w.heap.size w w7 := HL0.out.2.1.trans (H5.out.t.below HL0.out.2.1.size (fun k hk => (HL0.out.1.lt k hk).1))
    exact h1.trans (hb8.mono h1.size)
  clear hb8 T6
  go_wp2_with fail
  go_ret
  exact ⟨rfl, HF.out⟩
end Go.Proofs.YtoeihlgidakjbaaGreatDoor

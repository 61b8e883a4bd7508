/- deliver. -/
import Derived.Test.YtoeihlgidakjbaaGreatDoorPc27
namespace Go.Proofs.YtoeihlgidakjbaaGreatDoor
open Go.RowKit Go.Lib
def Gz (w0 : World) : Prop := ∃ aS aC aF aL aO aH, Gr w0 aS aC aF aL aO aH ∧ Gt w0
theorem conv_frame (W : World) (p : Pq) : (convert 9 52 (.string ⟨p.line.toArray⟩)).run Tryz.prog W = .ok (.slice (some ⟨W.heap.size, 0, none⟩) p.line.length (grownCap W p.line.length 0 5)) (bytesWorld W 5 ⟨p.line.toArray⟩) :=
  Go.Lib.run_convert_string_bytes W 9 52 5 ⟨p.line.toArray⟩ Tryz.underlying9 Tryz.underlying52 Tryz.underlying5
theorem below_bytesWorld (W : World) (s : ByteArray) : Below W.heap.size W (bytesWorld W 5 s) :=
  ⟨rfl, rfl, rfl, by rw [bytesWorld_size]; omega, fun k hk => bytesWorld_at_old W 5 s k hk⟩
theorem bytesAt_world (W : World) (p : Pq) (S : Nat → Prop) (hS : ∀ b, S b → b < W.heap.size) : BytesAt (bytesWorld W 5 ⟨p.line.toArray⟩) S (.slice (some ⟨W.heap.size, 0, none⟩) p.line.length (grownCap W p.line.length 0 5)) p.line := by
  refine ⟨_, _, W.heap.size, 0, rfl, fun _ => ⟨rfl, by rw [bytesWorld_size]; omega, fun e => by have := hS _ e; omega⟩, fun _ k hk => ?_⟩
  rw [Nat.zero_add]
  have := bytesWorld_cell W 5 ⟨p.line.toArray⟩ k (by show k < p.line.toArray.size; simpa using hk)
  rw [this]
  simp [List.getD, List.getElem?_eq_getElem hk]
set_option maxRecDepth 100000 in
set_option maxHeartbeats 4000000 in
theorem deliver_a0 {B : Nat} {v : LV} {l : Ln} (lost : Bool) (w : World) (h : LI w B v l) (hA : l.toA = []) :
    Calls Tryz.prog 38 #[.pointer (some ⟨v.ln, 0, none⟩), .bool true, .bool lost] w fun r w' => r = .returned (.bool false) ∧ w' = w := by
  obtain ⟨a, cap, hv, _⟩ := h.qA.shape
  have c17 : w.cell? ⟨v.ln, 17, none⟩ = some (.slice a 0 cap) := by
    have : w.cell? ⟨v.ln, 17, none⟩ = some v.vA := blk_cell h.blk
    rw [this, hv, hA]; rfl
  clear h hv hA
  go_enter Tryz.func38, Tryz.ntmps38
  go_wp2_with fail
  go_ret
  exact ⟨rfl, rfl⟩
set_option maxRecDepth 100000 in
set_option maxHeartbeats 4000000 in
theorem deliver_b0 {B : Nat} {v : LV} {l : Ln} (lost : Bool) (w : World) (h : LI w B v l) (hA : l.toB = []) :
    Calls Tryz.prog 38 #[.pointer (some ⟨v.ln, 0, none⟩), .bool false, .bool lost] w fun r w' => r = .returned (.bool false) ∧ w' = w := by
  obtain ⟨a, cap, hv, _⟩ := h.qB.shape
  have c16 : w.cell? ⟨v.ln, 16, none⟩ = some (.slice a 0 cap) := by
    have : w.cell? ⟨v.ln, 16, none⟩ = some v.vB := blk_cell h.blk
    rw [this, hv, hA]; rfl
  clear h hv hA
  go_enter Tryz.func38, Tryz.ntmps38
  go_wp2_with fail
  go_ret
  exact ⟨rfl, rfl⟩
theorem LI.popA {w : World} {B : Nat} {v : LV} {l : Ln} {p : Pq} {r : List Pq} (h : LI w B v l) (hA : l.toA = p :: r) :
    ∃ g off cap m, m = r.length + 1 ∧ v.vA = .slice (some ⟨g, off, none⟩) m cap ∧ w.cell? ⟨g, off, none⟩ = some (.string ⟨p.line.toArray⟩) ∧ m ≤ cap ∧
      LI (w.setCell ⟨v.ln, 17, none⟩ (sliced (some ⟨g, off, none⟩) 1 m cap 1)) B { v with vA := sliced (some ⟨g, off, none⟩) 1 m cap 1 } { l with toA := r } ∧ LS w (w.setCell ⟨v.ln, 17, none⟩ (sliced (some ⟨g, off, none⟩) 1 m cap 1)) v { v with vA := sliced (some ⟨g, off, none⟩) 1 m cap 1 } := by
  have hq := h.qA
  rw [hA] at hq
  obtain ⟨g, off, cap, hv, hc, hg, hBg, hcap, hq', ho'⟩ := hq.head
  refine ⟨g, off, cap, r.length + 1, rfl, hv, hc, hcap, ?_⟩
  exact h.setA (sliced (some ⟨g, off, none⟩) 1 (r.length + 1) cap 1) r w (Tch.refl _ _) hq' (fun b hb => by
    rw [ho'] at hb
    left; rw [hv]; exact hb)
theorem LI.popB {w : World} {B : Nat} {v : LV} {l : Ln} {p : Pq} {r : List Pq} (h : LI w B v l) (hA : l.toB = p :: r) :
    ∃ g off cap m, m = r.length + 1 ∧ v.vB = .slice (some ⟨g, off, none⟩) m cap ∧ w.cell? ⟨g, off, none⟩ = some (.string ⟨p.line.toArray⟩) ∧ m ≤ cap ∧
      LI (w.setCell ⟨v.ln, 16, none⟩ (sliced (some ⟨g, off, none⟩) 1 m cap 1)) B { v with vB := sliced (some ⟨g, off, none⟩) 1 m cap 1 } { l with toB := r } ∧ LS w (w.setCell ⟨v.ln, 16, none⟩ (sliced (some ⟨g, off, none⟩) 1 m cap 1)) v { v with vB := sliced (some ⟨g, off, none⟩) 1 m cap 1 } := by
  have hq := h.qB
  rw [hA] at hq
  obtain ⟨g, off, cap, hv, hc, hg, hBg, hcap, hq', ho'⟩ := hq.head
  refine ⟨g, off, cap, r.length + 1, rfl, hv, hc, hcap, ?_⟩
  exact h.setB (sliced (some ⟨g, off, none⟩) 1 (r.length + 1) cap 1) r w (Tch.refl _ _) hq' (fun b hb => by
    rw [ho'] at hb
    left; rw [hv]; exact hb)
theorem sliced_one (g off : Nat) : sliced (some ⟨g, off, none⟩) 1 1 1 1 = .slice (some ⟨g, off, none⟩) 0 0 := rfl
theorem sliced_more (g off m cap : Nat) (h : ¬ cap = 1) : sliced (some ⟨g, off, none⟩) 1 m cap 1 = .slice (some ⟨g, off + 1, none⟩) (m - 1) (cap - 1) := by
  unfold sliced
  rw [if_neg h]
  show Value.slice (some ((⟨g, off, none⟩ : Addr).add 1)) _ _ = _
  rw [Addr.add_mid]
set_option maxRecDepth 100000 in
set_option maxHeartbeats 4000000 in
theorem deliver_a1 {B : Nat} {v : LV} {l : Ln} {p : Pq} {r : List Pq} (w : World) (h : LI w B v l) (hA : l.toA = p :: r) :
    Calls Tryz.prog 38 #[.pointer (some ⟨v.ln, 0, none⟩), .bool true, .bool true] w fun e w' => e = .returned (.bool true) ∧ ∃ v', LI w' B v' { l with toA := r } ∧ LS w w' v v' := by
  obtain ⟨g, off, cap, m, hm, hv, hc, hcap, hL, hS⟩ := h.popA hA
  have c17 : w.cell? ⟨v.ln, 17, none⟩ = some (.slice (some ⟨g, off, none⟩) m cap) := by rw [← hv]; exact blk_cell h.blk
  have f17 : w.frozen? ⟨v.ln, 17, none⟩ = false := blk_free h.blk
  have HL : Hid (_ ∧ _) := And.intro hL hS
  have hm0 : ((m : Int) == 0) = false := by simp; omega
  have hm1 : (0 : Int) < (m : Int) := by omega
  have hm2 : (1 : Int) ≤ (m : Int) := by omega
  clear h hA hm hL hS hv
  by_cases hc1 : cap = 1
  · subst hc1
    obtain rfl : m = 1 := by omega
    rw [sliced_one] at HL
    clear hm0 hm1 hm2
    go_enter Tryz.func38, Tryz.ntmps38
    go_wp2_with fail
    go_ret
    exact ⟨rfl, _, HL.out.1, HL.out.2⟩
  · rw [sliced_more g off m cap hc1] at HL
    go_enter Tryz.func38, Tryz.ntmps38
    go_wp2_with fail
    go_ret
    exact ⟨rfl, _, HL.out.1, HL.out.2⟩
set_option maxRecDepth 100000 in
set_option maxHeartbeats 4000000 in
theorem deliver_b1 {B : Nat} {v : LV} {l : Ln} {p : Pq} {r : List Pq} (w : World) (h : LI w B v l) (hA : l.toB = p :: r) :
    Calls Tryz.prog 38 #[.pointer (some ⟨v.ln, 0, none⟩), .bool false, .bool true] w fun e w' => e = .returned (.bool true) ∧ ∃ v', LI w' B v' { l with toB := r } ∧ LS w w' v v' := by
  obtain ⟨g, off, cap, m, hm, hv, hc, hcap, hL, hS⟩ := h.popB hA
  have c16 : w.cell? ⟨v.ln, 16, none⟩ = some (.slice (some ⟨g, off, none⟩) m cap) := by rw [← hv]; exact blk_cell h.blk
  have f16 : w.frozen? ⟨v.ln, 16, none⟩ = false := blk_free h.blk
  have HL : Hid (_ ∧ _) := And.intro hL hS
  have hm0 : ((m : Int) == 0) = false := by simp; omega
  have hm1 : (0 : Int) < (m : Int) := by omega
  have hm2 : (1 : Int) ≤ (m : Int) := by omega
  clear h hA hm hL hS hv
  by_cases hc1 : cap = 1
  · subst hc1
    obtain rfl : m = 1 := by omega
    rw [sliced_one] at HL
    clear hm0 hm1 hm2
    go_enter Tryz.func38, Tryz.ntmps38
    go_wp2_with fail
    go_ret
    exact ⟨rfl, _, HL.out.1, HL.out.2⟩
  · rw [sliced_more g off m cap hc1] at HL
    go_enter Tryz.func38, Tryz.ntmps38
    go_wp2_with fail
    go_ret
    exact ⟨rfl, _, HL.out.1, HL.out.2⟩
set_option maxRecDepth 100000 in
set_option maxHeartbeats 8000000 in
theorem deliver_a2 {B n : Nat} {v : LV} {l : Ln} {p : Pq} {r : List Pq} (w0 w : World) (gz : Gz w0) (hb0 : Below w0.heap.size w0 w) (hB0 : w0.heap.size ≤ B) (h : LI w B v l) (ok : l.Ok n) (hn : n ≤ 900000000000) (hA : l.toA = p :: r) :
    Calls Tryz.prog 38 #[.pointer (some ⟨v.ln, 0, none⟩), .bool true, .bool false] w fun e w' => e = .returned (.bool true) ∧ ∃ v', LI w' B v' { l with a := l.a.hear p, toA := r, toB := l.toB ++ l.a.hearP p } ∧ LS w w' v v' := by
  have hpg : p.Good := ok.pA p (by rw [hA]; simp)
  obtain ⟨g, off, cap, m, hm, hv, hc, hcap, hL, hS⟩ := h.popA hA
  have c17 : w.cell? ⟨v.ln, 17, none⟩ = some (.slice (some ⟨g, off, none⟩) m cap) := by rw [← hv]; exact blk_cell h.blk
  have f17 : w.frozen? ⟨v.ln, 17, none⟩ = false := blk_free h.blk
  have HL : Hid (_ ∧ _) := And.intro hL hS
  have hm0 : ((m : Int) == 0) = false := by simp; omega
  have hm1 : (0 : Int) < (m : Int) := by omega
  have hm2 : (1 : Int) ≤ (m : Int) := by omega
  have hB : B ≤ w.heap.size := Nat.le_trans h.ge (Nat.le_of_lt (blk_lt h.blk))
  have HS0 : Hid (∀ (W : World) (v' : LV), LS w W v v' → Below w0.heap.size w0 W) := fun W v' hs => hb0.trans (hs.t.below hb0.size (fun k hk => Nat.le_trans hB0 (h.lt k hk).1))
  have HG : Hid (Gz w0 ∧ w0.heap.size ≤ B) := ⟨gz, hB0⟩
  have HF : Hid (RE.Few (l.a.hearP p)) := RE.hearP_few ok.a.1.ok hpg
  have HBO : Hid (l.a.Both n ∧ l.a.got = [] ∧ p.Good) := ⟨ok.a, ok.ga, hpg⟩
  have hfl := HF.out.2
  have hlo := ok.lB
  clear h hA hm hL hS hv ok gz hb0 hpg
  have FIN : Hid (∀ (W1 : World) (v1 : LV), v1.ln = v.ln → LI W1 B v1 { l with toA := r } ∧ LS w W1 v v1 →
      W1.cell? ⟨v.ln, 0, none⟩ = some (.pointer (some ⟨v1.la.pb, 0, none⟩)) ∧
      Calls Tryz.prog 29 #[.pointer (some ⟨v1.la.pb, 0, none⟩), .slice (some ⟨W1.heap.size, 0, none⟩) p.line.length (grownCap W1 p.line.length 0 5)] (bytesWorld W1 5 ⟨p.line.toArray⟩) fun e w' => ∃ vb v2, e = .returned vb ∧ BytesAt w' (fun _ => False) vb ((l.a.hearP p).flatMap Pq.line) ∧ (∀ a k c, vb = .slice a k c → k ≤ c) ∧ v2.ln = v.ln ∧ LI w' B v2 { l with a := l.a.hear p, toA := r } ∧ LS w w' v v2) := by
    intro W1 v1 hln hh
    obtain ⟨aS, aC, aF, aL, aO, aH, gr, gt⟩ := HG.out.1
    have bw := below_bytesWorld W1 ⟨p.line.toArray⟩
    have hL2 := hh.1.below bw
    refine ⟨by rw [← hln]; exact blk_cell hh.1.blk, ?_⟩
    have hgd : J l.a.sc ∧ l.a.got.length ≤ 89 := ⟨HBO.out.1.2, by rw [HBO.out.2.1]; simp⟩
    refine (prgB.bytes w0 (bytesWorld W1 5 ⟨p.line.toArray⟩) B v1.la l.a _ p.line gr gt ((HS0.out W1 v1 hh.2).trans (bw.mono (HS0.out W1 v1 hh.2).size)) HG.out.2 hL2.pa hgd ((HBO.out.1.1.lim HBO.out.1.2).mono (by omega)) (by have := p.line_len HBO.out.2.2; omega) (bytesAt_world W1 p _ (fun b hb => (hh.1.pa.lt b hb).2))).mono ?_
    rintro e w' ⟨vb, l', rfl, ho, hp, hpb, ht, hi, hown⟩
    rw [RE.bytes_line l.a p HBO.out.2.2 HBO.out.2.1] at ho hp
    obtain ⟨b1, b2⟩ := owns_bytesAt (fun _ => False) ho (fun _ _ x => x)
    obtain ⟨q1, q2⟩ := hL2.endA l' _ hp hpb ht hi
    exact ⟨vb, { v1 with la := l' }, rfl, b1, b2, hln, q1, hh.2.trans (LS.pre bw q2)⟩
  by_cases hc1 : cap = 1
  · subst hc1
    obtain rfl : m = 1 := by omega
    rw [sliced_one] at HL
    clear hm0 hm1 hm2
    go_enter Tryz.func38, Tryz.ntmps38
    go_upto_region 6 with fail
    generalize w.setCell ⟨v.ln, 17, none⟩ (.slice (some ⟨g, off, none⟩) 0 0) = W1 at *
    obtain ⟨c0, HC⟩ := FIN.out W1 _ (by rfl) HL.out
    have HCC : Hid (_) := HC
    have hcv := conv_frame W1 p
    clear HC FIN
    go_wp2_with fail
    refine Calls.mono HCC.out ?_
    rintro e W ⟨vb, v2, rfl, hba, hbc, hln2, hL2, hS2⟩
    clear HCC HL hcv c0
    have HBA : Hid (_ ∧ _) := And.intro hba hbc
    have HLI : Hid (_ ∧ _) := And.intro hL2 hS2
    have hz2 : v2.ln < W.heap.size := blk_lt hL2.blk
    have hB2 : B ≤ W.heap.size := Nat.le_trans hL2.ge (Nat.le_of_lt hz2)
    have cq : W.cell? ⟨v.ln, 16, none⟩ = some v2.vB := by rw [← hln2]; exact blk_cell hL2.blk
    have cqd : W.drew.cell? ⟨v.ln, 16, none⟩ = some v2.vB := cq
    have HLN : Hid (v2.ln = v.ln) := hln2
    have hz : v.ln < W.heap.size := by rw [← hln2]; exact hz2
    clear hba hbc hL2 hS2 hln2 hz2
    go_upto_region 8 with fail
    go_region_law (first | (go_simp; go_at_call 28; refine (frames_pk vb (l.a.hearP p) _ (fun _ => False) HBA.out.1.kdrew HF.out HBA.out.2).mono ?_; rintro e wq ⟨vq, rfl, hoq, hbq⟩; have hbq' : Below W.heap.size W wq := ⟨hbq.os, hbq.tape, hbq.output, hbq.size, hbq.block⟩; have qq := (hbq'.cell (p := ⟨v.ln, 16, none⟩) hz).trans cq) | (refine step_append_q _ (by rfl) (.tmp 45) (.tmp 47) (by rfl) B v2.vB vq l.toB (l.a.hearP p) (by rfl) (by rfl) (HLI.out.1.below hbq').qB (src_owns hoq) (by have := hbq'.size; omega) (by omega) ?_; intro v3 w3 hq3 ht3 ho3; obtain ⟨p3, n3, c3, rfl⟩ := hq3.shp; have bb : w3.heap[v.ln]? = some (.cells v2.cells 49 (0, 0)) := (by rw [← HLN.out]; exact (ht3.block v2.ln (blk_lt (HLI.out.1.below hbq').blk) (fun e => (HLI.out.1.eB _ e).1 rfl)).trans (HLI.out.1.below hbq').blk); have ee : w3.cell? ⟨v.ln, 16, none⟩ = some v2.vB := blk_cell bb; have ff : w3.frozen? ⟨v.ln, 16, none⟩ = false := blk_free bb))
    all_goals
      obtain ⟨h1, h2⟩ := HLI.out.1.sendB hbq' hq3 ht3 ho3
      rw [HLN.out] at h1 h2
      have HFN : Hid (_ ∧ _) := And.intro h1 (HLI.out.2.trans h2)
      clear h1 h2 HLI
      go_wp2_with fail
      go_ret
      exact ⟨rfl, _, HFN.out.1, HFN.out.2⟩
  · rw [sliced_more g off m cap hc1] at HL
    go_enter Tryz.func38, Tryz.ntmps38
    go_upto_region 6 with fail
    generalize w.setCell ⟨v.ln, 17, none⟩ (.slice (some ⟨g, off + 1, none⟩) (m - 1) (cap - 1)) = W1 at *
    obtain ⟨c0, HC⟩ := FIN.out W1 _ (by rfl) HL.out
    have HCC : Hid (_) := HC
    have hcv := conv_frame W1 p
    clear HC FIN
    go_wp2_with fail
    refine Calls.mono HCC.out ?_
    rintro e W ⟨vb, v2, rfl, hba, hbc, hln2, hL2, hS2⟩
    clear HCC HL hcv c0
    have HBA : Hid (_ ∧ _) := And.intro hba hbc
    have HLI : Hid (_ ∧ _) := And.intro hL2 hS2
    have hz2 : v2.ln < W.heap.size := blk_lt hL2.blk
    have hB2 : B ≤ W.heap.size := Nat.le_trans hL2.ge (Nat.le_of_lt hz2)
    have cq : W.cell? ⟨v.ln, 16, none⟩ = some v2.vB := by rw [← hln2]; exact blk_cell hL2.blk
    have cqd : W.drew.cell? ⟨v.ln, 16, none⟩ = some v2.vB := cq
    have HLN : Hid (v2.ln = v.ln) := hln2
    have hz : v.ln < W.heap.size := by rw [← hln2]; exact hz2
    clear hba hbc hL2 hS2 hln2 hz2
    go_upto_region 8 with fail
    go_region_law (first | (go_simp; go_at_call 28; refine (frames_pk vb (l.a.hearP p) _ (fun _ => False) HBA.out.1.kdrew HF.out HBA.out.2).mono ?_; rintro e wq ⟨vq, rfl, hoq, hbq⟩; have hbq' : Below W.heap.size W wq := ⟨hbq.os, hbq.tape, hbq.output, hbq.size, hbq.block⟩; have qq := (hbq'.cell (p := ⟨v.ln, 16, none⟩) hz).trans cq) | (refine step_append_q _ (by rfl) (.tmp 45) (.tmp 47) (by rfl) B v2.vB vq l.toB (l.a.hearP p) (by rfl) (by rfl) (HLI.out.1.below hbq').qB (src_owns hoq) (by have := hbq'.size; omega) (by omega) ?_; intro v3 w3 hq3 ht3 ho3; obtain ⟨p3, n3, c3, rfl⟩ := hq3.shp; have bb : w3.heap[v.ln]? = some (.cells v2.cells 49 (0, 0)) := (by rw [← HLN.out]; exact (ht3.block v2.ln (blk_lt (HLI.out.1.below hbq').blk) (fun e => (HLI.out.1.eB _ e).1 rfl)).trans (HLI.out.1.below hbq').blk); have ee : w3.cell? ⟨v.ln, 16, none⟩ = some v2.vB := blk_cell bb; have ff : w3.frozen? ⟨v.ln, 16, none⟩ = false := blk_free bb))
    all_goals
      obtain ⟨h1, h2⟩ := HLI.out.1.sendB hbq' hq3 ht3 ho3
      rw [HLN.out] at h1 h2
      have HFN : Hid (_ ∧ _) := And.intro h1 (HLI.out.2.trans h2)
      clear h1 h2 HLI
      go_wp2_with fail
      go_ret
      exact ⟨rfl, _, HFN.out.1, HFN.out.2⟩
set_option maxRecDepth 100000 in
set_option maxHeartbeats 8000000 in
theorem deliver_b2 {B n : Nat} {v : LV} {l : Ln} {p : Pq} {r : List Pq} (w0 w : World) (gz : Gz w0) (hb0 : Below w0.heap.size w0 w) (hB0 : w0.heap.size ≤ B) (h : LI w B v l) (ok : l.Ok n) (hn : n ≤ 900000000000) (hA : l.toB = p :: r) :
    Calls Tryz.prog 38 #[.pointer (some ⟨v.ln, 0, none⟩), .bool false, .bool false] w fun e w' => e = .returned (.bool true) ∧ ∃ v', LI w' B v' { l with b := l.b.hear p, toB := r, toA := l.toA ++ l.b.hearP p } ∧ LS w w' v v' := by
  have hpg : p.Good := ok.pB p (by rw [hA]; simp)
  obtain ⟨g, off, cap, m, hm, hv, hc, hcap, hL, hS⟩ := h.popB hA
  have c16 : w.cell? ⟨v.ln, 16, none⟩ = some (.slice (some ⟨g, off, none⟩) m cap) := by rw [← hv]; exact blk_cell h.blk
  have f16 : w.frozen? ⟨v.ln, 16, none⟩ = false := blk_free h.blk
  have HL : Hid (_ ∧ _) := And.intro hL hS
  have hm0 : ((m : Int) == 0) = false := by simp; omega
  have hm1 : (0 : Int) < (m : Int) := by omega
  have hm2 : (1 : Int) ≤ (m : Int) := by omega
  have hB : B ≤ w.heap.size := Nat.le_trans h.ge (Nat.le_of_lt (blk_lt h.blk))
  have HS0 : Hid (∀ (W : World) (v' : LV), LS w W v v' → Below w0.heap.size w0 W) := fun W v' hs => hb0.trans (hs.t.below hb0.size (fun k hk => Nat.le_trans hB0 (h.lt k hk).1))
  have HG : Hid (Gz w0 ∧ w0.heap.size ≤ B) := ⟨gz, hB0⟩
  have HF : Hid (RE.Few (l.b.hearP p)) := RE.hearP_few ok.b.1.ok hpg
  have HBO : Hid (l.b.Both n ∧ l.b.got = [] ∧ p.Good) := ⟨ok.b, ok.gb, hpg⟩
  have hfl := HF.out.2
  have hlo := ok.lA
  clear h hA hm hL hS hv ok gz hb0 hpg
  have FIN : Hid (∀ (W1 : World) (v1 : LV), v1.ln = v.ln → LI W1 B v1 { l with toB := r } ∧ LS w W1 v v1 →
      W1.cell? ⟨v.ln, 1, none⟩ = some (.pointer (some ⟨v1.lb.pb, 0, none⟩)) ∧
      Calls Tryz.prog 29 #[.pointer (some ⟨v1.lb.pb, 0, none⟩), .slice (some ⟨W1.heap.size, 0, none⟩) p.line.length (grownCap W1 p.line.length 0 5)] (bytesWorld W1 5 ⟨p.line.toArray⟩) fun e w' => ∃ vb v2, e = .returned vb ∧ BytesAt w' (fun _ => False) vb ((l.b.hearP p).flatMap Pq.line) ∧ (∀ a k c, vb = .slice a k c → k ≤ c) ∧ v2.ln = v.ln ∧ LI w' B v2 { l with b := l.b.hear p, toB := r } ∧ LS w w' v v2) := by
    intro W1 v1 hln hh
    obtain ⟨aS, aC, aF, aL, aO, aH, gr, gt⟩ := HG.out.1
    have bw := below_bytesWorld W1 ⟨p.line.toArray⟩
    have hL2 := hh.1.below bw
    refine ⟨by rw [← hln]; exact blk_cell hh.1.blk, ?_⟩
    have hgd : J l.b.sc ∧ l.b.got.length ≤ 89 := ⟨HBO.out.1.2, by rw [HBO.out.2.1]; simp⟩
    refine (prgB.bytes w0 (bytesWorld W1 5 ⟨p.line.toArray⟩) B v1.lb l.b _ p.line gr gt ((HS0.out W1 v1 hh.2).trans (bw.mono (HS0.out W1 v1 hh.2).size)) HG.out.2 hL2.pb hgd ((HBO.out.1.1.lim HBO.out.1.2).mono (by omega)) (by have := p.line_len HBO.out.2.2; omega) (bytesAt_world W1 p _ (fun b hb => (hh.1.pb.lt b hb).2))).mono ?_
    rintro e w' ⟨vb, l', rfl, ho, hp, hpb, ht, hi, hown⟩
    rw [RE.bytes_line l.b p HBO.out.2.2 HBO.out.2.1] at ho hp
    obtain ⟨b1, b2⟩ := owns_bytesAt (fun _ => False) ho (fun _ _ x => x)
    obtain ⟨q1, q2⟩ := hL2.endB l' _ hp hpb ht hi
    exact ⟨vb, { v1 with lb := l' }, rfl, b1, b2, hln, q1, hh.2.trans (LS.pre bw q2)⟩
  by_cases hc1 : cap = 1
  · subst hc1
    obtain rfl : m = 1 := by omega
    rw [sliced_one] at HL
    clear hm0 hm1 hm2
    go_enter Tryz.func38, Tryz.ntmps38
    go_upto_region 14 with fail
    generalize w.setCell ⟨v.ln, 16, none⟩ (.slice (some ⟨g, off, none⟩) 0 0) = W1 at *
    obtain ⟨c0, HC⟩ := FIN.out W1 _ (by rfl) HL.out
    have HCC : Hid (_) := HC
    have hcv := conv_frame W1 p
    clear HC FIN
    go_wp2_with fail
    refine Calls.mono HCC.out ?_
    rintro e W ⟨vb, v2, rfl, hba, hbc, hln2, hL2, hS2⟩
    clear HCC HL hcv c0
    have HBA : Hid (_ ∧ _) := And.intro hba hbc
    have HLI : Hid (_ ∧ _) := And.intro hL2 hS2
    have hz2 : v2.ln < W.heap.size := blk_lt hL2.blk
    have hB2 : B ≤ W.heap.size := Nat.le_trans hL2.ge (Nat.le_of_lt hz2)
    have cq : W.cell? ⟨v.ln, 17, none⟩ = some v2.vA := by rw [← hln2]; exact blk_cell hL2.blk
    have cqd : W.drew.cell? ⟨v.ln, 17, none⟩ = some v2.vA := cq
    have HLN : Hid (v2.ln = v.ln) := hln2
    have hz : v.ln < W.heap.size := by rw [← hln2]; exact hz2
    clear hba hbc hL2 hS2 hln2 hz2
    go_upto_region 16 with fail
    go_region_law (first | (go_simp; go_at_call 28; refine (frames_pk vb (l.b.hearP p) _ (fun _ => False) HBA.out.1.kdrew HF.out HBA.out.2).mono ?_; rintro e wq ⟨vq, rfl, hoq, hbq⟩; have hbq' : Below W.heap.size W wq := ⟨hbq.os, hbq.tape, hbq.output, hbq.size, hbq.block⟩; have qq := (hbq'.cell (p := ⟨v.ln, 17, none⟩) hz).trans cq) | (refine step_append_q _ (by rfl) (.tmp 84) (.tmp 86) (by rfl) B v2.vA vq l.toA (l.b.hearP p) (by rfl) (by rfl) (HLI.out.1.below hbq').qA (src_owns hoq) (by have := hbq'.size; omega) (by omega) ?_; intro v3 w3 hq3 ht3 ho3; obtain ⟨p3, n3, c3, rfl⟩ := hq3.shp; have bb : w3.heap[v.ln]? = some (.cells v2.cells 49 (0, 0)) := (by rw [← HLN.out]; exact (ht3.block v2.ln (blk_lt (HLI.out.1.below hbq').blk) (fun e => (HLI.out.1.eA _ e).1 rfl)).trans (HLI.out.1.below hbq').blk); have ee : w3.cell? ⟨v.ln, 17, none⟩ = some v2.vA := blk_cell bb; have ff : w3.frozen? ⟨v.ln, 17, none⟩ = false := blk_free bb))
    all_goals
      obtain ⟨h1, h2⟩ := HLI.out.1.sendA hbq' hq3 ht3 ho3
      rw [HLN.out] at h1 h2
      have HFN : Hid (_ ∧ _) := And.intro h1 (HLI.out.2.trans h2)
      clear h1 h2 HLI
      go_wp2_with fail
      go_ret
      exact ⟨rfl, _, HFN.out.1, HFN.out.2⟩
  · rw [sliced_more g off m cap hc1] at HL
    go_enter Tryz.func38, Tryz.ntmps38
    go_upto_region 14 with fail
    generalize w.setCell ⟨v.ln, 16, none⟩ (.slice (some ⟨g, off + 1, none⟩) (m - 1) (cap - 1)) = W1 at *
    obtain ⟨c0, HC⟩ := FIN.out W1 _ (by rfl) HL.out
    have HCC : Hid (_) := HC
    have hcv := conv_frame W1 p
    clear HC FIN
    go_wp2_with fail
    refine Calls.mono HCC.out ?_
    rintro e W ⟨vb, v2, rfl, hba, hbc, hln2, hL2, hS2⟩
    clear HCC HL hcv c0
    have HBA : Hid (_ ∧ _) := And.intro hba hbc
    have HLI : Hid (_ ∧ _) := And.intro hL2 hS2
    have hz2 : v2.ln < W.heap.size := blk_lt hL2.blk
    have hB2 : B ≤ W.heap.size := Nat.le_trans hL2.ge (Nat.le_of_lt hz2)
    have cq : W.cell? ⟨v.ln, 17, none⟩ = some v2.vA := by rw [← hln2]; exact blk_cell hL2.blk
    have cqd : W.drew.cell? ⟨v.ln, 17, none⟩ = some v2.vA := cq
    have HLN : Hid (v2.ln = v.ln) := hln2
    have hz : v.ln < W.heap.size := by rw [← hln2]; exact hz2
    clear hba hbc hL2 hS2 hln2 hz2
    go_upto_region 16 with fail
    go_region_law (first | (go_simp; go_at_call 28; refine (frames_pk vb (l.b.hearP p) _ (fun _ => False) HBA.out.1.kdrew HF.out HBA.out.2).mono ?_; rintro e wq ⟨vq, rfl, hoq, hbq⟩; have hbq' : Below W.heap.size W wq := ⟨hbq.os, hbq.tape, hbq.output, hbq.size, hbq.block⟩; have qq := (hbq'.cell (p := ⟨v.ln, 17, none⟩) hz).trans cq) | (refine step_append_q _ (by rfl) (.tmp 84) (.tmp 86) (by rfl) B v2.vA vq l.toA (l.b.hearP p) (by rfl) (by rfl) (HLI.out.1.below hbq').qA (src_owns hoq) (by have := hbq'.size; omega) (by omega) ?_; intro v3 w3 hq3 ht3 ho3; obtain ⟨p3, n3, c3, rfl⟩ := hq3.shp; have bb : w3.heap[v.ln]? = some (.cells v2.cells 49 (0, 0)) := (by rw [← HLN.out]; exact (ht3.block v2.ln (blk_lt (HLI.out.1.below hbq').blk) (fun e => (HLI.out.1.eA _ e).1 rfl)).trans (HLI.out.1.below hbq').blk); have ee : w3.cell? ⟨v.ln, 17, none⟩ = some v2.vA := blk_cell bb; have ff : w3.frozen? ⟨v.ln, 17, none⟩ = false := blk_free bb))
    all_goals
      obtain ⟨h1, h2⟩ := HLI.out.1.sendA hbq' hq3 ht3 ho3
      rw [HLN.out] at h1 h2
      have HFN : Hid (_ ∧ _) := And.intro h1 (HLI.out.2.trans h2)
      clear h1 h2 HLI
      go_wp2_with fail
      go_ret
      exact ⟨rfl, _, HFN.out.1, HFN.out.2⟩
theorem deliver_any {B n : Nat} {v : LV} {l : Ln} (first lost : Bool) (w0 w : World) (gz : Gz w0) (hb0 : Below w0.heap.size w0 w) (hB0 : w0.heap.size ≤ B) (h : LI w B v l) (ok : l.Ok n) (hn : n ≤ 900000000000) :
    Calls Tryz.prog 38 #[.pointer (some ⟨v.ln, 0, none⟩), .bool first, .bool lost] w fun e w' => e = .returned (.bool (l.deliver first lost).2) ∧ ∃ v', LI w' B v' (l.deliver first lost).1 ∧ LS w w' v v' := by
  cases first
  · cases hB : l.toB with
    | nil =>
      refine (deliver_b0 lost w h hB).mono ?_
      rintro e w' ⟨rfl, rfl⟩
      unfold Ln.deliver
      rw [if_neg (by decide), hB]
      exact ⟨rfl, v, h, LS.refl _ _⟩
    | cons p r =>
      have e1 : l.deliver false lost = (if lost = true then ⟨l.a, l.b, r, l.toA⟩ else ⟨l.a, l.b.hear p, r, l.toA ++ l.b.hearP p⟩, true) := by
        unfold Ln.deliver
        rw [if_neg (by decide), hB]
      rw [e1]
      cases lost
      · exact deliver_b2 w0 w gz hb0 hB0 h ok hn hB
      · exact deliver_b1 w h hB
  · cases hA : l.toA with
    | nil =>
      refine (deliver_a0 lost w h hA).mono ?_
      rintro e w' ⟨rfl, rfl⟩
      unfold Ln.deliver
      rw [if_pos rfl, hA]
      exact ⟨rfl, v, h, LS.refl _ _⟩
    | cons p r =>
      have e1 : l.deliver true lost = (if lost = true then ⟨l.a, l.b, l.toB, r⟩ else ⟨l.a.hear p, l.b, l.toB ++ l.a.hearP p, r⟩, true) := by
        unfold Ln.deliver
        rw [if_pos rfl, hA]
      rw [e1]
      cases lost
      · exact deliver_a2 w0 w gz hb0 hB0 h ok hn hA
      · exact deliver_a1 w h hA
end Go.Proofs.YtoeihlgidakjbaaGreatDoor

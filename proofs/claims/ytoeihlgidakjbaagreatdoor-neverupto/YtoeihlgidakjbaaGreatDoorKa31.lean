/- spoken, Spoken. -/
import Derived.Test.YtoeihlgidakjbaaGreatDoorKa30
import Derived.Test.YtoeihlgidakjbaaGreatDoorKa4
namespace Go.Proofs.YtoeihlgidakjbaaGreatDoor
open Go.RowKit Go.Lib
theorem spk_none (l : List Nat) : l.foldl spkStep none = none := by
  induction l with
  | nil => rfl
  | cons x l ih => exact ih
theorem spk_take {l : List Nat} {b : Bool} (h : spkL l = some b) (k : Nat) : ∃ c, spkL (l.take k) = some c := by
  cases hc : spkL (l.take k) with
  | some c => exact ⟨c, rfl⟩
  | none =>
    have : spkL l = (l.drop k).foldl spkStep (spkL (l.take k)) := by
      unfold spkL
      rw [← List.foldl_append, List.take_append_drop]
    rw [hc, spk_none] at this
    rw [this] at h
    cases h
theorem spk_next {l : List Nat} {b : Bool} (h : spkL l = some b) (k : Nat) (hk : k < l.length) {c : Bool} (hc : spkL (l.take k) = some c) :
    (l[k] = 1 ∧ c = false ∧ spkL (l.take (k + 1)) = some true) ∨ (l[k] = 2 ∧ c = true ∧ spkL (l.take (k + 1)) = some false) ∨ (3 ≤ l[k] ∧ l[k] ≤ 6 ∧ spkL (l.take (k + 1)) = some c) := by
  obtain ⟨d, hd⟩ := spk_take h (k + 1)
  have e : spkL (l.take (k + 1)) = spkStep (some c) l[k] := by
    rw [List.take_succ_eq_append_getElem hk, spkL_snoc, hc]
  rw [e] at hd ⊢
  unfold spkStep at hd ⊢
  simp only at hd ⊢
  by_cases h1 : l[k] = 1
  · rw [if_pos h1] at hd ⊢
    cases c
    · exact .inl ⟨h1, rfl, rfl⟩
    · cases hd
  · rw [if_neg h1] at hd ⊢
    by_cases h2 : l[k] = 2
    · rw [if_pos h2] at hd ⊢
      cases c
      · cases hd
      · exact .inr (.inl ⟨h2, rfl, rfl⟩)
    · rw [if_neg h2] at hd ⊢
      by_cases h3 : 3 ≤ l[k] ∧ l[k] ≤ 6
      · rw [if_pos h3]; exact .inr (.inr ⟨h3.1, h3.2, rfl⟩)
      · rw [if_neg h3] at hd; cases hd
set_option maxRecDepth 100000 in
set_option maxHeartbeats 4000000 in
theorem spoken_any {B : Nat} {l : PLay} {m : RE} (w : World) (h : PE w B l m) (hn : m.told.length ≤ 1000000000000) (hs : m.Sp) :
    Calls Tryz.prog 31 #[.pointer (some ⟨l.pb, 0, none⟩)] w fun e w' => e = .returned (.bool true) ∧ Below w.heap.size w w' := by
  have HT : Hid (_) := ptold h (by omega)
  have HP : Hid (PE w B l m) := h
  have HS : Hid (spkL m.told = some (decide (m.st = 9))) := hs
  clear h hs
  go_enter Tryz.func31, Tryz.ntmps31
  go_wp2_with fail
  refine Calls.mono HT.out ?_
  rintro e w1 ⟨vt, rfl, ho, hb⟩
  obtain ⟨a, cap, g, hv, ha, _, hc⟩ := own_shape ho
  subst hv
  have HC : Hid (∀ j (hj : j < m.told.length), w1.cell? ⟨g, j, none⟩ = some (.int .i64 (m.told[j] : Int))) := fun j hj => by
    rw [hc j hj, List.getElem?_map, List.getElem?_eq_getElem hj]; rfl
  have HA : Hid (0 < m.told.length → a = some ⟨g, 0, none⟩) := ha
  have HB : Hid (Below w.heap.size w w1) := hb
  have HST : Hid (_) := pstate (HP.out.tch (Tch.of_below (S := fun _ => False) hb) (fun _ _ x => x))
  clear ho ha hc hb HT
  go_wp2_with fail
  go_loopw [4, 5] (fun v4 v5 wr => ∃ (k : Nat) (b : Bool), k ≤ m.told.length ∧ v5 = .int .i64 (k : Int) ∧ v4 = .bool b ∧ Hid (spkL (m.told.take k) = some b) ∧ wr = w1) (fun _ v5 _ => m.told.length - (intOf v5).toNat)
  case atStart => exact ⟨0, false, Nat.zero_le _, rfl, rfl, rfl, rfl⟩
  case round =>
    obtain ⟨k, b, hk, rfl, rfl, HK, rfl⟩ := hrel
    by_cases hlt : k < m.told.length
    · have hI : (k : Int) < (m.told.length : Int) := by omega
      obtain rfl := HA.out (by omega)
      have ck := HC.out k hlt
      have HX : Hid (_) := spk_next HS.out k hlt HK.out
      generalize m.told[k] = x at *
      rcases HX.out with ⟨hx, hb, he⟩ | ⟨hx, hb, he⟩ | ⟨hx1, hx2, he⟩
      · subst hx hb
        have HE : Hid (spkL (m.told.take (k + 1)) = some true) := he
        clear he HX
        go_wp2_with fail
        exact ⟨⟨k + 1, true, by omega, by go_num, rfl, HE, trivial⟩, by simp [intOf]; omega⟩
      · subst hx hb
        have HE : Hid (spkL (m.told.take (k + 1)) = some false) := he
        clear he HX
        go_wp2_with fail
        exact ⟨⟨k + 1, false, by omega, by go_num, rfl, HE, trivial⟩, by simp [intOf]; omega⟩
      · have HE : Hid (spkL (m.told.take (k + 1)) = some b) := he
        clear he HX
        rcases (by omega : x = 3 ∨ x = 4 ∨ x = 5 ∨ x = 6) with rfl | rfl | rfl | rfl
        all_goals
          go_wp2_with fail
          exact ⟨⟨k + 1, b, by omega, by go_num, rfl, HE, trivial⟩, by simp [intOf]; omega⟩
    · have hI : ¬ (k : Int) < (m.told.length : Int) := by omega
      have HE : Hid (b = decide (m.st = 9)) := by
        have h1 := HK.out
        rw [List.take_of_length_le (by omega), HS.out] at h1
        exact (Option.some.inj h1).symm
      go_wp2_with fail
      refine Calls.mono HST.out ?_
      rintro e w2 ⟨rfl, hb2⟩
      have HF : Hid (Below w.heap.size w w2) := HB.out.trans (hb2.mono HB.out.size)
      have hE := HE.out
      clear hb2 HE HK
      by_cases h9 : m.st = 9
      · have h9' : ((m.st : Int) == 9) = true := by simp [h9]
        rw [decide_eq_true h9] at hE
        subst hE
        clear h9
        go_wp2_with fail
        go_ret
        exact ⟨rfl, HF.out⟩
      · have h9' : ((m.st : Int) == 9) = false := by simp; omega
        rw [decide_eq_false h9] at hE
        subst hE
        clear h9
        go_wp2_with fail
        go_ret
        exact ⟨rfl, HF.out⟩
def ActsAt (w : World) (v : Value) (n : Nat) (K : Nat → Int) (F : Nat → Bool) : Prop := ∃ a cap g off, v = .slice a n cap ∧ (0 < n → a = some ⟨g, off, none⟩ ∧ g < w.heap.size) ∧ ∀ i, i < n → w.cell? ⟨g, off + i * 2, none⟩ = some (.int .i64 (K i)) ∧ w.cell? ⟨g, off + i * 2 + 1, none⟩ = some (.bool (F i)) ∧ -9223372036854775808 ≤ K i ∧ K i < 9223372036854775808
theorem LI.lower {w : World} {B B' : Nat} {v : LV} {l : Ln} (hL : LI w B v l) (hz : B' ≤ B) : LI w B' v l :=
  ⟨hL.blk, Nat.le_trans hz hL.ge, hL.pa.mono hz, hL.pb.mono hz, hL.qB.mono hz, hL.qA.mono hz, hL.d1, hL.d2, hL.d3, hL.eB, hL.eA⟩
set_option maxRecDepth 100000 in
set_option maxHeartbeats 8000000 in
theorem spoken_law (vr va : Value) (raw : List Int) (n : Nat) (K : Nat → Int) (F : Nat → Bool) (w : World) (gz : Gz w) (hr : IntsAt w vr raw) (hraw : Raw raw) (ha : ActsAt w va n K F) (hn : n ≤ 1048576) :
    Calls Tryz.prog 11 #[vr, va] w fun e w' => e = .returned (.bool true) ∧ Below w.heap.size w w' := by
  have HK : Hid (_) := known_any w w gz (Below.refl _ _)
  have HG : Hid (Gz w ∧ IntsAt w vr raw ∧ Raw raw) := ⟨gz, hr, hraw⟩
  obtain ⟨ar, capr, gr, offr, hvr, _, _⟩ := hr
  subst hvr
  obtain ⟨aa, capa, ga, offa, hva, haa, hac⟩ := ha
  subst hva
  have HA : Hid (0 < n → aa = some ⟨ga, offa, none⟩ ∧ ga < w.heap.size) := haa
  have HC : Hid (_) := hac
  clear gz hraw haa hac
  go_enter Tryz.func11, Tryz.ntmps11
  go_wp2_with fail
  refine Calls.mono HK.out ?_
  rintro e w0 ⟨rfl, hb0⟩
  have HP : Hid (_) := pair_any (.slice ar raw.length capr) raw w0 (HG.out.2.1.below hb0) HG.out.2.2
  have HB0 : Hid (Below w.heap.size w w0) := hb0
  clear hb0 HK
  go_wp2_with fail
  refine Calls.mono HP.out ?_
  rintro e w1 ⟨XA, XB, rfl, hb1, hcf⟩
  have hA : CfgAt w1 XA (cfgA raw) := fun i hi => (hcf i hi).1
  have hB : CfgAt w1 XB (cfgB raw) := fun i hi => (hcf i hi).2
  obtain ⟨a0, n0, c0, a1, n1, c1, a2, n2, c2, a3, n3, c3, a4, n4, c4, a5, n5, c5, EA⟩ := hA.shapes (magA raw)
  obtain ⟨p0, m0, d0, p1, m1, d1, p2, m2, d2, p3, m3, d3, p4, m4, d4, p5, m5, d5, EB⟩ := hB.shapes (magB raw)
  have BA : Hid (Below w1.heap.size w1 ((w1.alloc (.cells (cfC XA (magA raw)) 31)).alloc (.cells (cfC XB (magB raw)) 31))) := ((Below.refl _ _).alloc (Nat.le_refl _) _).alloc (by simp) _
  have HJ : Hid (_) := joined_any XA XB (cfgA raw) (cfgB raw) (magA raw) (magB raw) ((w1.alloc (.cells (cfC XA (magA raw)) 31)).alloc (.cells (cfC XB (magB raw)) 31)) (hA.below BA.out) (hB.below BA.out) (fun i _ => cfgA_isL _ i) (fun i _ => cfgB_isL _ i) (magA_in _).1 (magA_in _).2 (magB_in _).1 (magB_in _).2
  have HB1 : Hid (Below w.heap.size w w1) := HB0.out.trans (hb1.mono HB0.out.size)
  rw [EA, EB] at HJ BA
  rw [EA, EB]
  clear EA EB hA hB hcf hb1 HP HB0
  go_wp2_with fail
  refine Calls.mono HJ.out ?_
  rintro e w2 ⟨v, rfl, hL, hb2, _⟩
  have hz := (HB1.out.trans (BA.out.mono HB1.out.size)).size
  have ok0 : (newL (cfgA raw) (cfgB raw) (magA raw) (magB raw)).Ok 0 := newL_ok (fun i _ => cfgA_isL _ i) (fun i _ => cfgB_isL _ i) (magA_in _).1 (magA_in _).2 (magB_in _).1 (magB_in _).2
  have HL0 : Hid (LI w2 w.heap.size v (newL (cfgA raw) (cfgB raw) (magA raw) (magB raw)) ∧ Below w.heap.size w w2 ∧ (newL (cfgA raw) (cfgB raw) (magA raw) (magB raw)).Ok 0) := ⟨hL.lower hz, (HB1.out.trans (BA.out.mono HB1.out.size)).trans (hb2.mono hz), ok0⟩
  clear hL hb2 hz ok0 HJ BA HB1
  have HS : Hid (∃ v' l', LI w2 w.heap.size v' l' ∧ LS w2 w2 v v' ∧ l'.Ok (400 * 0) ∧ l'.Each RE.Spk) := ⟨v, _, HL0.out.1, LS.refl _ _, HL0.out.2.2, new_spk _ _, new_spk _ _⟩
  go_wp2_with fail
  go_loopw [9] (fun v9 wr => ∃ (k : Nat), k ≤ n ∧ v9 = .int .i64 (k : Int) ∧ Hid (∃ v' l', LI wr w.heap.size v' l' ∧ LS w2 wr v v' ∧ l'.Ok (400 * k) ∧ l'.Each RE.Spk)) (fun v9 _ => n - (intOf v9).toNat)
  case atStart => exact ⟨0, Nat.zero_le _, rfl, HS⟩
  case round =>
    obtain ⟨k, hk, rfl, HW⟩ := hrel
    clear HS
    by_cases hlt : k < n
    · have hI : (k : Int) < (n : Int) := by omega
      obtain ⟨rfl, hga⟩ := HA.out (by omega)
      obtain ⟨v1, l1, hL1, hS1, hO1, hE1⟩ := HW.out
      have e1 : v1.ln = v.ln := hS1.ln
      have hbw : Below w.heap.size w wr := LS.low HL0.out.1 hS1 HL0.out.2.1 (Nat.le_refl _)
      obtain ⟨k1, k2, k3, k4⟩ := HC.out k hlt
      have d1 : wr.cell? ⟨ga, offa + k * 2, none⟩ = some (.int .i64 (K k)) := (hbw.cell (p := ⟨ga, offa + k * 2, none⟩) hga).trans k1
      have d2 : wr.cell? ⟨ga, offa + k * 2 + 1, none⟩ = some (.bool (F k)) := (hbw.cell (p := ⟨ga, offa + k * 2 + 1, none⟩) hga).trans k2
      have D1 : Hid (_) := happens_any (K k) (F k) w wr HG.out.1 hbw (Nat.le_refl _) hL1 hO1 (by omega) k3 k4
      rw [e1] at D1
      have H1 : Hid (LS w2 wr v v1 ∧ (l1.happens (pickN (K k) 10) (F k)).Ok (400 * (k + 1)) ∧ (l1.happens (pickN (K k) 10) (F k)).Each RE.Spk) := ⟨hS1, (hO1.happens _ _).mono (by omega), Ln.Each.happens RE.event_spk RE.hear_spk hE1 _ _⟩
      clear hL1 hS1 hO1 hE1 HW e1 hbw k1 k2 k3 k4
      generalize K k = kind at *
      generalize F k = fst at *
      go_wp2_with fail
      refine Calls.mono D1.out ?_
      rintro e w3 ⟨rfl, v3, hL3, hS3⟩
      have hS3' := H1.out.1.trans hS3
      have e3 : v3.ln = v.ln := hS3'.ln
      have c0 : w3.cell? ⟨v.ln, 0, none⟩ = some (.pointer (some ⟨v3.la.pb, 0, none⟩)) := by rw [← e3]; exact blk_cell hL3.blk
      have S1 : Hid (_) := spoken_any w3 hL3.pa (by have := H1.out.2.1.a.1.told; omega) H1.out.2.2.1.1
      have H3 : Hid (LI w3 w.heap.size v3 (l1.happens (pickN kind 10) fst) ∧ LS w2 w3 v v3) := ⟨hL3, hS3'⟩
      have E3 : Hid (v3.ln = v.ln) := e3
      clear hL3 hS3 hS3' e3 D1 d1 d2
      go_wp2_with fail
      refine Calls.mono S1.out ?_
      rintro e w4 ⟨rfl, hb4⟩
      have hL4 := H3.out.1.below hb4
      have c1 : w4.cell? ⟨v.ln, 1, none⟩ = some (.pointer (some ⟨v3.lb.pb, 0, none⟩)) := by rw [← E3.out]; exact blk_cell hL4.blk
      have S2 : Hid (_) := spoken_any w4 hL4.pb (by have := H1.out.2.1.b.1.told; omega) H1.out.2.2.2.1
      have H4 : Hid (LI w4 w.heap.size v3 (l1.happens (pickN kind 10) fst) ∧ LS w2 w4 v v3) := ⟨hL4, H3.out.2.trans (LS.new hb4)⟩
      clear hL4 hb4 S1 c0
      go_wp2_with fail
      refine Calls.mono S2.out ?_
      rintro e w5 ⟨rfl, hb5⟩
      have H5 : Hid (LI w5 w.heap.size v3 (l1.happens (pickN kind 10) fst) ∧ LS w2 w5 v v3) := ⟨H4.out.1.below hb5, H4.out.2.trans (LS.new hb5)⟩
      clear hb5 S2 c1
      go_wp2_with fail
      exact ⟨⟨k + 1, by omega, by go_num, v3, _, H5.out.1, H5.out.2, H1.out.2.1, H1.out.2.2⟩, by simp [intOf]; omega⟩
    · have hI : ¬ (k : Int) < (n : Int) := by omega
      go_wp2_with fail
      go_ret
      obtain ⟨v1, l1, _, hS1, _, _⟩ := HW.out
      exact ⟨rfl, LS.low HL0.out.1 hS1 HL0.out.2.1 (Nat.le_refl _)⟩
end Go.Proofs.YtoeihlgidakjbaaGreatDoor

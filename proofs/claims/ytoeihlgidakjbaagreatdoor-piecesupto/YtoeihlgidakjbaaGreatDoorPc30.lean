/- settle, opened, end, joined, happens. The configurations that pair makes; joined, happens, known. -/
import Derived.Test.YtoeihlgidakjbaaGreatDoorPc28
import Derived.Test.YtoeihlgidakjbaaGreatDoorPc29
namespace Go.Proofs.YtoeihlgidakjbaaGreatDoor
open Go.RowKit Go.Lib
theorem LS.low {w0 w w' : World} {B : Nat} {v v' : LV} {l : Ln} (h : LI w B v l) (hs : LS w w' v v') (hb0 : Below w0.heap.size w0 w) (hB0 : w0.heap.size ≤ B) : Below w0.heap.size w0 w' :=
  hb0.trans (hs.t.below hb0.size (fun k hk => Nat.le_trans hB0 (h.lt k hk).1))
set_option maxRecDepth 100000 in
set_option maxHeartbeats 4000000 in
theorem settle_any {B n : Nat} {v : LV} {l : Ln} (most : Nat) (w0 w : World) (gz : Gz w0) (hb0 : Below w0.heap.size w0 w) (hB0 : w0.heap.size ≤ B) (h : LI w B v l) (ok : l.Ok n) (hn : n + 400 * most ≤ 900000000000) (hm : most ≤ 1000) :
    Calls Tryz.prog 18 #[.pointer (some ⟨v.ln, 0, none⟩), .int .i64 (most : Int)] w fun e w' => e = .returned (.bool (l.settle most).2) ∧ ∃ v', LI w' B v' (l.settle most).1 ∧ LS w w' v v' := by
  have HG : Hid (Gz w0 ∧ w0.heap.size ≤ B ∧ Below w0.heap.size w0 w ∧ LI w B v l) := ⟨gz, hB0, hb0, h⟩
  have HS : Hid (∃ v' l', LI w B v' l' ∧ LS w w v v' ∧ l'.Ok (n + 400 * 0) ∧ l.settle most = l'.settle (most - 0)) := ⟨v, l, h, LS.refl _ _, ok, rfl⟩
  clear gz hb0 hB0 h ok
  go_enter Tryz.func18, Tryz.ntmps18
  go_wp2_with fail
  go_loopw [5] (fun v5 wr => ∃ (k : Nat), k ≤ most ∧ v5 = .int .i64 (k : Int) ∧ Hid (∃ v' l', LI wr B v' l' ∧ LS w wr v v' ∧ l'.Ok (n + 400 * k) ∧ l.settle most = l'.settle (most - k))) (fun v5 _ => most - (intOf v5).toNat)
  case atStart => exact ⟨0, Nat.zero_le _, rfl, HS⟩
  case round =>
    obtain ⟨k, hk, rfl, HW⟩ := hrel
    by_cases hlt : k < most
    · have hI : (k : Int) < (most : Int) := by omega
      obtain ⟨v1, l1, hL1, hS1, hO1, hE1⟩ := HW.out
      have e1 : v1.ln = v.ln := hS1.ln
      have D1 : Hid (_) := deliver_any true false w0 wr HG.out.1 (LS.low HG.out.2.2.2 hS1 HG.out.2.2.1 HG.out.2.1) HG.out.2.1 hL1 hO1 (by omega)
      rw [e1] at D1
      have H1 : Hid (LI wr B v1 l1 ∧ LS w wr v v1 ∧ l1.Ok (n + 400 * k) ∧ l.settle most = l1.settle (most - k)) := ⟨hL1, hS1, hO1, hE1⟩
      clear hL1 hS1 hO1 hE1 HW e1 HS
      go_wp2_with fail
      refine Calls.mono D1.out ?_
      rintro e w2 ⟨rfl, v2, hL2, hS2⟩
      have hS2' := H1.out.2.1.trans hS2
      have e2 : v2.ln = v.ln := hS2'.ln
      have D2 : Hid (_) := deliver_any false false w0 w2 HG.out.1 (LS.low HG.out.2.2.2 hS2' HG.out.2.2.1 HG.out.2.1) HG.out.2.1 hL2 (H1.out.2.2.1.deliver true false) (by omega)
      rw [e2] at D2
      have H2 : Hid (LS w w2 v v2) := hS2'
      clear hL2 hS2 hS2' e2 D1
      go_wp2_with fail
      refine Calls.mono D2.out ?_
      rintro e w3 ⟨rfl, v3, hL3, hS3⟩
      have H3 : Hid (LI w3 B v3 l1.both.1 ∧ LS w w3 v v3 ∧ l1.both.1.Ok (n + 400 * (k + 1))) := ⟨hL3, H2.out.trans hS3, H1.out.2.2.1.both⟩
      have EB : Hid (l1.both.2 = ((l1.deliver true false).2 || ((l1.deliver true false).1.deliver false false).2)) := rfl
      have ES : Hid (l.settle most = if l1.both.2 = true then l1.both.1.settle (most - (k + 1)) else (l1.both.1, true)) := by
        show _ = _
        rw [H1.out.2.2.2, show most - k = (most - (k + 1)) + 1 by omega]
        rfl
      clear hL3 hS3 D2 H1 H2
      generalize (l1.deliver true false).2 = b1 at *
      generalize ((l1.deliver true false).1.deliver false false).2 = b2 at *
      cases b1 <;> cases b2
      · go_wp2_with fail
        go_ret
        have : l.settle most = (l1.both.1, true) := by rw [ES.out, EB.out]; rfl
        rw [this]
        exact ⟨rfl, v3, H3.out.1, H3.out.2.1⟩
      all_goals
        go_wp2_with fail
        refine ⟨⟨k + 1, by omega, by go_num, v3, l1.both.1, H3.out.1, H3.out.2.1, H3.out.2.2, ?_⟩, by simp [intOf]; omega⟩
        rw [ES.out, EB.out]; rfl
    · have hkm : k = most := by omega
      subst hkm
      have hI : ¬ (k : Int) < (k : Int) := by omega
      go_wp2_with fail
      go_ret
      obtain ⟨v1, l1, hL1, hS1, _, hE1⟩ := HW.out
      have : l.settle k = (l1, false) := by rw [hE1, Nat.sub_self]; rfl
      rw [this]
      exact ⟨rfl, v1, hL1, hS1⟩
set_option maxRecDepth 100000 in
set_option maxHeartbeats 4000000 in
theorem opened_any {B : Nat} {v : LV} {l : Ln} (w : World) (h : LI w B v l) :
    Calls Tryz.prog 19 #[.pointer (some ⟨v.ln, 0, none⟩)] w fun e w' => e = .returned (.bool l.opened) ∧ Below w.heap.size w w' := by
  have HA : Hid (_) := pstate h.pa
  have HL : Hid (LI w B v l) := h
  have c0 : w.cell? ⟨v.ln, 0, none⟩ = some (.pointer (some ⟨v.la.pb, 0, none⟩)) := blk_cell h.blk
  clear h
  go_enter Tryz.func19, Tryz.ntmps19
  go_wp2_with fail
  refine Calls.mono HA.out ?_
  rintro e w1 ⟨rfl, hb1⟩
  have hL1 := HL.out.below hb1
  have c1 : w1.cell? ⟨v.ln, 1, none⟩ = some (.pointer (some ⟨v.lb.pb, 0, none⟩)) := blk_cell hL1.blk
  have HB : Hid (_) := pstate hL1.pb
  have HB1 : Hid (Below w.heap.size w w1) := hb1
  have HO : Hid (l.opened = (decide (l.a.st = 9) && decide (l.b.st = 9))) := rfl
  clear hL1 hb1 HA c0
  by_cases ha : l.a.st = 9
  · have ha' : ((l.a.st : Int) == 9) = true := by simp [ha]
    rw [decide_eq_true ha, Bool.true_and] at HO
    clear ha
    go_wp2_with fail
    refine Calls.mono HB.out ?_
    rintro e w2 ⟨rfl, hb2⟩
    have HB2 : Hid (Below w.heap.size w w2) := HB1.out.trans (hb2.mono HB1.out.size)
    by_cases hbb : l.b.st = 9
    · have hb' : ((l.b.st : Int) == 9) = true := by simp [hbb]
      rw [decide_eq_true hbb] at HO
      clear hbb
      go_wp2_with fail
      go_ret
      rw [HO.out]
      exact ⟨rfl, HB2.out⟩
    · have hb' : ((l.b.st : Int) == 9) = false := by simp; omega
      rw [decide_eq_false hbb] at HO
      clear hbb
      go_wp2_with fail
      go_ret
      rw [HO.out]
      exact ⟨rfl, HB2.out⟩
  · have ha' : ((l.a.st : Int) == 9) = false := by simp; omega
    rw [decide_eq_false ha, Bool.false_and] at HO
    clear ha
    go_wp2_with fail
    go_ret
    rw [HO.out]
    exact ⟨rfl, HB1.out⟩
def CfgAt (w : World) (X : Nat → Value) (L : Nat → List Int) : Prop := ∀ i, i < 6 → IntsAt w (X i) (L i) ∧ ∃ a n c, X i = .slice a n c ∧ n ≤ c
theorem CfgAt.below {w w' : World} {X : Nat → Value} {L : Nat → List Int} (h : CfgAt w X L) (hb : Below w.heap.size w w') : CfgAt w' X L := fun i hi => ⟨(h i hi).1.below hb, (h i hi).2⟩
set_option maxRecDepth 100000 in
set_option maxHeartbeats 4000000 in
theorem end_any (X : Nat → Value) (L : Nat → List Int) (mg : Int) (w : World) (hc : CfgAt w X L) (hL : ∀ i, i < 6 → IsL (L i)) (h1 : 1 ≤ mg) (h2 : mg ≤ 65535) :
    Calls Tryz.prog 27 #[.agg (cfC X mg)] w fun e w' => ∃ l : PLay, e = .returned (.pointer (some ⟨l.pb, 0, none⟩)) ∧ PE w' w.heap.size l (newM L mg) ∧ Below w.heap.size w w' := by
  have BA : Hid (Below w.heap.size w (w.alloc (.cells #[X 0, X 1, X 2, X 3, X 4, X 5, .int .i64 mg] 31))) := (Below.refl _ _).alloc (Nat.le_refl _) _
  have HN : Hid (_) := pnew X L mg (w.alloc (.cells #[X 0, X 1, X 2, X 3, X 4, X 5, .int .i64 mg] 31)) (fun i hi => ((hc.below BA.out) i hi).1) (fun i hi => (hc i hi).2)
  have HC : Hid ((∀ i, i < 6 → IsL (L i)) ∧ 1 ≤ mg ∧ mg ≤ 65535) := ⟨hL, h1, h2⟩
  obtain ⟨a0, n0, c0, e0, _⟩ := (hc 0 (by omega)).2
  obtain ⟨a1, n1, c1, e1, _⟩ := (hc 1 (by omega)).2
  obtain ⟨a2, n2, c2, e2, _⟩ := (hc 2 (by omega)).2
  obtain ⟨a3, n3, c3, e3, _⟩ := (hc 3 (by omega)).2
  obtain ⟨a4, n4, c4, e4, _⟩ := (hc 4 (by omega)).2
  obtain ⟨a5, n5, c5, e5, _⟩ := (hc 5 (by omega)).2
  have EQ : Hid (cfC X mg = #[X 0, X 1, X 2, X 3, X 4, X 5, .int .i64 mg]) := rfl
  rw [EQ.out]
  rw [e0, e1, e2, e3, e4, e5] at HN BA ⊢
  clear hc hL h1 h2 e0 e1 e2 e3 e4 e5 EQ
  go_enter Tryz.func27, Tryz.ntmps27
  go_wp2_with fail
  refine Calls.mono HN.out ?_
  rintro e w1 ⟨hb, ⟨_, _, _, l, rfl, hp⟩ | ⟨hno, _⟩⟩
  · have HF : Hid (PE w1 w.heap.size l (newM L mg) ∧ Below w.heap.size w w1) := ⟨hp.mono BA.out.size, BA.out.trans (hb.mono BA.out.size)⟩
    clear hb hp HN
    go_wp2_with fail
    go_ret
    exact ⟨l, rfl, HF.out.1, HF.out.2⟩
  · exact absurd HC.out hno
end Go.Proofs.YtoeihlgidakjbaaGreatDoor
namespace Go.Proofs.YtoeihlgidakjbaaGreatDoor
open Go.RowKit Go.Lib
theorem pickN_less (c : Int) (n : Nat) (h : 0 < n) : pickN c n < n := by unfold pickN; exact Nat.mod_lt _ h
theorem listF_ok (raw : List Int) (frm first : Nat) (hf : first < 12) (k : Nat) : (listF raw frm first k).Nodup ∧ ∀ x ∈ listF raw frm first k, 0 ≤ x ∧ x < 12 := by
  induction k with
  | zero =>
    unfold listF
    split
    · exact ⟨by simp, fun x hx => by have : x = (first : Int) := by simpa using hx
                                     omega⟩
    · exact ⟨by simp, fun x hx => by simp at hx⟩
  | succ k ih =>
    obtain ⟨h1, h2⟩ := ih
    have hp := pickN_less (atL raw (frm + (k + 1))) 12 (by decide)
    show (listAdd first (listF raw frm first k) _).Nodup ∧ ∀ x ∈ listAdd first (listF raw frm first k) _, _
    unfold listAdd
    split
    · exact ⟨h1, h2⟩
    · rename_i hn
      refine ⟨?_, fun x hx => ?_⟩
      · rw [List.nodup_append]
        refine ⟨h1, by simp, fun a ha b hb => ?_⟩
        obtain rfl := List.mem_singleton.1 hb
        exact fun e => hn (.inr (e ▸ ha))
      · rcases List.mem_append.1 hx with q | q
        · exact h2 x q
        · have : x = ((pickN (atL raw (frm + (k + 1))) 12 : Nat) : Int) := by simpa using q
          omega
theorem listL_ok (raw : List Int) (frm first : Nat) (hf : first < 12) : (listL raw frm first).Nodup ∧ (∀ x ∈ listL raw frm first, 0 ≤ x ∧ x < 12) ∧ (first : Int) ∈ listL raw frm first ∧ (listL raw frm first).length ≤ 6 := by
  obtain ⟨h1, h2⟩ := listF_ok raw frm first hf (1 + pickN (atL raw frm) 4)
  have h3 := listF_len raw frm first (1 + pickN (atL raw frm) 4)
  have h4 := pickN_less (atL raw frm) 4 (by decide)
  unfold listL
  dsimp only
  split
  · rename_i hm
    exact ⟨h1, h2, hm, by omega⟩
  · rename_i hn
    refine ⟨?_, fun x hx => ?_, by simp, by simp; omega⟩
    · rw [List.nodup_append]
      refine ⟨h1, by simp, fun a ha b hb => ?_⟩
      obtain rfl := List.mem_singleton.1 hb
      exact fun e => hn (e ▸ ha)
    · rcases List.mem_append.1 hx with q | q
      · exact h2 x q
      · have : x = (first : Int) := by simpa using q
        omega
theorem listL_isL (raw : List Int) (frm first : Nat) (hf : first < 12) : IsL (listL raw frm first) := by
  obtain ⟨h1, h2, h3, h4⟩ := listL_ok raw frm first hf
  exact ⟨List.length_pos_of_mem h3, by omega, fun x hx => by have := h2 x hx; omega, fun i j hij hj e => by
    rw [List.getElem?_eq_getElem (by omega), List.getElem?_eq_getElem hj] at e
    exact (List.pairwise_iff_getElem.1 h1) i j (by omega) hj hij (Option.some.inj e)⟩
theorem xN_lt (raw : List Int) (i : Nat) : xN raw i < 12 := pickN_less _ _ (by decide)
theorem yN_lt (raw : List Int) (i : Nat) : yN raw i < 12 := pickN_less _ _ (by decide)
theorem cfgA_isL (raw : List Int) (i : Nat) : IsL (cfgA raw i) := by
  unfold cfgA
  split
  · exact listL_isL _ _ _ (xN_lt _ _)
  · exact listL_isL _ _ _ (yN_lt _ _)
theorem cfgB_isL (raw : List Int) (i : Nat) : IsL (cfgB raw i) := by
  unfold cfgB
  split
  · exact listL_isL _ _ _ (yN_lt _ _)
  · exact listL_isL _ _ _ (xN_lt _ _)
theorem magA_in (raw : List Int) : 1 ≤ (magA raw : Int) ∧ (magA raw : Int) ≤ 65535 := by
  have := pickN_less (atL raw 0) 1000 (by decide)
  unfold magA; omega
theorem magB_in (raw : List Int) : 1 ≤ (magB raw : Int) ∧ (magB raw : Int) ≤ 65535 := by
  have := pickN_less (atL raw 0) 1000 (by decide)
  have := pickN_less (atL raw 1) 1000 (by decide)
  unfold magB; omega
def newL (LA LB : Nat → List Int) (ma mb : Int) : Ln := ⟨newM LA ma, newM LB mb, [], []⟩
theorem new_both {L : Nat → List Int} {mg : Int} (h : ∀ i, i < 6 → IsL (L i)) (h1 : 1 ≤ mg) (h2 : mg ≤ 65535) : (newM L mg).Both 0 :=
  ⟨(lim_new h h1 h2).gro (by show 0 ≤ 89; omega), by show (0 : Int) ≤ 0; omega, by show (0 : Int) ≤ 5; omega, by show (0 : Int) ≤ 0; omega, by show (0 : Int) ≤ 3; omega, fun e => by
    have e' : (0 : Nat) = 7 ∨ (0 : Nat) = 9 := e
    omega⟩
theorem newL_ok {LA LB : Nat → List Int} {ma mb : Int} (hA : ∀ i, i < 6 → IsL (LA i)) (hB : ∀ i, i < 6 → IsL (LB i)) (a1 : 1 ≤ ma) (a2 : ma ≤ 65535) (b1 : 1 ≤ mb) (b2 : mb ≤ 65535) : (newL LA LB ma mb).Ok 0 :=
  ⟨new_both hA a1 a2, new_both hB b1 b2, rfl, rfl, fun _ q => (nomatch q), fun _ q => (nomatch q), Nat.le_refl _, Nat.le_refl _⟩
def lnC (XA XB : Nat → Value) (ma mb : Int) (i : Nat) : Value := if i < 6 then XA i else if i = 6 then .int .i64 ma else if i < 13 then XB (i - 7) else .int .i64 mb
theorem LI.make {w w3 w4 : World} {la lb : PLay} {a b : RE} {B : Nat} (h3 : w.heap.size ≤ B) (pa : PE w3 B la a) (pb : PE w4 w3.heap.size lb b) (hb : Below w3.heap.size w3 w4) (hB : B ≤ w3.heap.size) (c : Nat → Value) :
    LI (w4.alloc (.cells (LV.cells ⟨w4.heap.size, la, lb, c, .slice none 0 0, .slice none 0 0⟩) 49)) w.heap.size ⟨w4.heap.size, la, lb, c, .slice none 0 0, .slice none 0 0⟩ ⟨a, b, [], []⟩ := by
  have ba : Below w4.heap.size w4 (w4.alloc (.cells (LV.cells ⟨w4.heap.size, la, lb, c, .slice none 0 0, .slice none 0 0⟩) 49)) := (Below.refl _ _).alloc (Nat.le_refl _) _
  have h34 := hb.size
  have tb : Tch (fun _ => False) w3 w4 := Tch.of_below hb
  have ta : Tch (fun _ => False) w4 (w4.alloc (.cells (LV.cells ⟨w4.heap.size, la, lb, c, .slice none 0 0, .slice none 0 0⟩) 49)) := Tch.of_below ba
  have pa4 := pa.tch tb (fun _ _ x => x)
  refine ⟨heap_alloc_new _ _, by show w.heap.size ≤ w4.heap.size; omega, (pa4.tch ta (fun _ _ x => x)).mono h3, (pb.tch ta (fun _ _ x => x)).mono (by omega), .inl ⟨rfl, rfl⟩, .inl ⟨rfl, rfl⟩, ?_, ?_, ?_, ?_, ?_⟩
  · intro e; have := (pa4.lt _ e).2; exact absurd this (Nat.lt_irrefl _)
  · intro e; have := (pb.lt _ e).2; exact absurd this (Nat.lt_irrefl _)
  · intro x e1 e2
    have := (pa.lt x e1).2
    have := (pb.lt x e2).1
    omega
  · intro x e; cases e
  · intro x e; cases e
set_option maxRecDepth 100000 in
set_option maxHeartbeats 4000000 in
theorem joined_any (XA XB : Nat → Value) (LA LB : Nat → List Int) (ma mb : Int) (w : World) (hA : CfgAt w XA LA) (hB : CfgAt w XB LB) (hLA : ∀ i, i < 6 → IsL (LA i)) (hLB : ∀ i, i < 6 → IsL (LB i)) (a1 : 1 ≤ ma) (a2 : ma ≤ 65535) (b1 : 1 ≤ mb) (b2 : mb ≤ 65535) :
    Calls Tryz.prog 16 #[.agg (cfC XA ma), .agg (cfC XB mb)] w fun e w' => ∃ v : LV, e = .returned (.pointer (some ⟨v.ln, 0, none⟩)) ∧ LI w' w.heap.size v (newL LA LB ma mb) ∧ Below w.heap.size w w' ∧ v.c = lnC XA XB ma mb := by
  have BA : Hid (Below w.heap.size w ((w.alloc (.cells (cfC XA ma) 31)).alloc (.cells (cfC XB mb) 31))) := ((Below.refl _ _).alloc (Nat.le_refl _) _).alloc (by simp) _
  have HE1 : Hid (_) := end_any XA LA ma ((w.alloc (.cells (cfC XA ma) 31)).alloc (.cells (cfC XB mb) 31)) (hA.below BA.out) hLA a1 a2
  have HE2 : Hid (∀ W, Below w.heap.size w W → Calls Tryz.prog 27 #[.agg (cfC XB mb)] W fun e w' => ∃ l : PLay, e = .returned (.pointer (some ⟨l.pb, 0, none⟩)) ∧ PE w' W.heap.size l (newM LB mb) ∧ Below W.heap.size W w') := fun W hW => end_any XB LB mb W (hB.below hW) hLB b1 b2
  obtain ⟨a0, n0, c0, e0, _⟩ := (hA 0 (by omega)).2
  obtain ⟨a1', n1, c1, e1, _⟩ := (hA 1 (by omega)).2
  obtain ⟨a2', n2, c2, e2, _⟩ := (hA 2 (by omega)).2
  obtain ⟨a3', n3, c3, e3, _⟩ := (hA 3 (by omega)).2
  obtain ⟨a4', n4, c4, e4, _⟩ := (hA 4 (by omega)).2
  obtain ⟨a5', n5, c5, e5, _⟩ := (hA 5 (by omega)).2
  obtain ⟨p0, m0, d0, f0, _⟩ := (hB 0 (by omega)).2
  obtain ⟨p1, m1, d1, f1, _⟩ := (hB 1 (by omega)).2
  obtain ⟨p2, m2, d2, f2, _⟩ := (hB 2 (by omega)).2
  obtain ⟨p3, m3, d3, f3, _⟩ := (hB 3 (by omega)).2
  obtain ⟨p4, m4, d4, f4, _⟩ := (hB 4 (by omega)).2
  obtain ⟨p5, m5, d5, f5, _⟩ := (hB 5 (by omega)).2
  have EC : Hid (∀ (ln : Nat) (la lb : PLay), LV.cells ⟨ln, la, lb, lnC XA XB ma mb, .slice none 0 0, .slice none 0 0⟩ = #[.pointer (some ⟨la.pb, 0, none⟩), .pointer (some ⟨lb.pb, 0, none⟩), .slice a0 n0 c0, .slice a1' n1 c1, .slice a2' n2 c2, .slice a3' n3 c3, .slice a4' n4 c4, .slice a5' n5 c5, .int .i64 ma, .slice p0 m0 d0, .slice p1 m1 d1, .slice p2 m2 d2, .slice p3 m3 d3, .slice p4 m4 d4, .slice p5 m5 d5, .int .i64 mb, .slice none 0 0, .slice none 0 0]) := by
    intro ln la lb
    rw [← e0, ← e1, ← e2, ← e3, ← e4, ← e5, ← f0, ← f1, ← f2, ← f3, ← f4, ← f5]
    rfl
  have EA : cfC XA ma = #[.slice a0 n0 c0, .slice a1' n1 c1, .slice a2' n2 c2, .slice a3' n3 c3, .slice a4' n4 c4, .slice a5' n5 c5, .int .i64 ma] := by unfold cfC; rw [e0, e1, e2, e3, e4, e5]
  have EB : cfC XB mb = #[.slice p0 m0 d0, .slice p1 m1 d1, .slice p2 m2 d2, .slice p3 m3 d3, .slice p4 m4 d4, .slice p5 m5 d5, .int .i64 mb] := by unfold cfC; rw [f0, f1, f2, f3, f4, f5]
  rw [EA, EB] at HE1 BA
  rw [EB] at HE2
  rw [EA, EB]
  clear hA hB hLA hLB e0 e1 e2 e3 e4 e5 f0 f1 f2 f3 f4 f5 EA EB
  go_enter Tryz.func16, Tryz.ntmps16
  go_wp2_with fail
  refine Calls.mono HE1.out ?_
  rintro e w3 ⟨la, rfl, hpa, hb3⟩
  have HB3 : Hid (Below w.heap.size w w3) := BA.out.trans (hb3.mono BA.out.size)
  have q1 : w3.heap[w.heap.size + 1]? = some (.cells #[.slice p0 m0 d0, .slice p1 m1 d1, .slice p2 m2 d2, .slice p3 m3 d3, .slice p4 m4 d4, .slice p5 m5 d5, .int .i64 mb] 31 (0, 0)) := (hb3.block _ (by simp)).trans (alloc_at _ _ _ (by simp))
  have q0 : w3.heap[w.heap.size]? = some (.cells #[.slice a0 n0 c0, .slice a1' n1 c1, .slice a2' n2 c2, .slice a3' n3 c3, .slice a4' n4 c4, .slice a5' n5 c5, .int .i64 ma] 31 (0, 0)) := (hb3.block _ (by simp; omega)).trans ((Below.heap_alloc _ _ _ (by simp)).trans (alloc_at w _ _ rfl))
  have HQ : Hid (_ ∧ _) := And.intro q0 q1
  have u1 : ∀ j, w3.cell? ⟨w.heap.size + 1, j, none⟩ = _ := fun j => blk_cell q1
  have HPA : Hid (PE w3 _ la (newM LA ma)) := hpa
  have HZ : Hid (w.heap.size + 2 ≤ w3.heap.size) := by have := hb3.size; simp at this; exact this
  clear q0 q1 hpa hb3 HE1
  go_wp2_with fail
  refine Calls.mono (HE2.out w3 HB3.out) ?_
  rintro e w4 ⟨lb, rfl, hpb, hb4⟩
  have v0 : ∀ j, w4.cell? ⟨w.heap.size, j, none⟩ = _ := fun j => blk_cell ((hb4.block _ (by have := HZ.out; omega)).trans HQ.out.1)
  have v1 : ∀ j, w4.cell? ⟨w.heap.size + 1, j, none⟩ = _ := fun j => blk_cell ((hb4.block _ (by have := HZ.out; omega)).trans HQ.out.2)
  have HF : Hid (_ ∧ _) := And.intro (LI.make (w := w) (c := lnC XA XB ma mb) (by simp; omega) HPA.out hpb hb4 (by simp; exact HZ.out)) ((HB3.out.trans (hb4.mono HB3.out.size)).alloc (by have := HB3.out.size; have := hb4.size; omega) (.cells (LV.cells ⟨w4.heap.size, la, lb, lnC XA XB ma mb, .slice none 0 0, .slice none 0 0⟩) 49))
  rw [EC.out] at HF
  clear hpb hb4 HPA HB3 u1 HQ HE2
  go_wp2_with fail
  go_ret
  exact ⟨⟨w4.heap.size, la, lb, lnC XA XB ma mb, .slice none 0 0, .slice none 0 0⟩, rfl, HF.out.1, HF.out.2, rfl⟩
end Go.Proofs.YtoeihlgidakjbaaGreatDoor

/- The laws' keep, walked to its end. -/
import Derived.Test.YtoeihlgidakjbaaGreatDoorKeep3
namespace Go.Proofs.YtoeihlgidakjbaaGreatDoor
open Go.RowKit Go.Lib

set_option maxRecDepth 100000 in
set_option maxHeartbeats 2000000 in
theorem keep_any2 {B wb hb : Nat} {vp vh vb vn : Value} {nb nn : Nat} {xs ys : List Value} {es : List HE} (w : World) (hw : WI w B wb vp vh es) (c0 : w.cell? ⟨hb, 0, none⟩ = some vb) (c1 : w.cell? ⟨hb, 1, none⟩ = some vn) (c2 : w.cell? ⟨hb, 2, none⟩ = some (.int .i64 0)) (f2 : w.frozen? ⟨hb, 2, none⟩ = false)
    (ob : w.ownsRow B 5 1 vb nb xs) (on : w.ownsRow B 3 1 vn nn ys) (lt : hb < w.heap.size) (ge : B ≤ hb) (h1 : vb.ownBlock ≠ some hb) (h2 : vn.ownBlock ≠ some hb) (h3 : vb.ownBlock = none ∨ vb.ownBlock ≠ vn.ownBlock) (hb1 : nb + 3 ≤ 140737488352000) (hn1 : nn + 3 ≤ 17592186044000) (hes : es.length + 4 ≤ 17000000000000)
    (sep : ∀ b, HE.in_ ⟨hb, vb, nb, vn, nn, (es.length : Int) + 1⟩ b → b ≠ wb ∧ vh.ownBlock ≠ some b ∧ ∀ e ∈ es, ¬ e.in_ b) :
    Calls Tryz.prog 57 #[.pointer (some ⟨wb, 0, none⟩), .pointer (some ⟨hb, 0, none⟩)] w fun r w' => r = .returned (.tuple #[]) ∧ ∃ vh' es', es'.length = es.length + 4 ∧ WI w' B wb vp vh' es' ∧ Tch (fun b => b = wb ∨ vh.ownBlock = some b ∨ HE.in_ ⟨hb, vb, nb, vn, nn, (es.length : Int) + 1⟩ b) w w' ∧ (∀ b, vh'.ownBlock = some b → vh.ownBlock = some b ∨ w.heap.size ≤ b) ∧ ∀ e ∈ es', ∀ b, e.in_ b → (∃ f ∈ es, f.in_ b) ∨ HE.in_ ⟨hb, vb, nb, vn, nn, (es.length : Int) + 1⟩ b ∨ w.heap.size ≤ b := by
  obtain ⟨i0, hi, hz0, hz1, hz2⟩ := info_parts Tryz.infoH
  obtain ⟨a, cap, g, hvh, ha, _, hc⟩ := own_shape hw.own
  have HW : Hid (WI w B wb vp vh es) := hw
  have e1 := hw.h
  rw [hvh] at e1
  have hwl := hw.lt
  have SEP : Hid (∀ b, HE.in_ ⟨hb, vb, nb, vn, nn, (es.length : Int) + 1⟩ b → b ≠ wb ∧ vh.ownBlock ≠ some b ∧ ∀ e ∈ es, ¬ e.in_ b) := sep
  have OB : Hid (w.ownsRow B 5 1 vb nb xs) := ob
  have ON : Hid (w.ownsRow B 3 1 vn nn ys) := on
  have H3 : Hid (vb.ownBlock = none ∨ vb.ownBlock ≠ vn.ownBlock) := h3
  have H12 : Hid (vb.ownBlock ≠ some hb ∧ vn.ownBlock ≠ some hb) := ⟨h1, h2⟩
  have hNB : ∀ b, HE.in_ ⟨hb, vb, nb, vn, nn, (es.length : Int) + 1⟩ b → b < w.heap.size := by
    rintro b (h | h | h)
    · rw [h]; exact lt
    · exact (ob.lt b h).2
    · exact (on.lt b h).2
  have HNB : Hid (∀ b, HE.in_ ⟨hb, vb, nb, vn, nn, (es.length : Int) + 1⟩ b → b < w.heap.size) := hNB
  have HC01 : Hid (w.cell? ⟨hb, 0, none⟩ = some vb ∧ w.cell? ⟨hb, 1, none⟩ = some vn) := ⟨c0, c1⟩
  have HVH : Hid (vh = .slice a es.length cap) := hvh
  clear hw ha hc sep ob on h1 h2 h3 hNB hvh c0 c1
  go_enter Tryz.func57, Tryz.ntmps57
  go_wp2_with fail
  have ht1 : Tch (HE.in_ ⟨hb, vb, nb, vn, nn, (es.length : Int) + 1⟩) w (w.setCell ⟨hb, 2, none⟩ (.int .i64 ((es.length : Int) + 1))) := Tch.set _ w ⟨hb, 2, none⟩ _ (.inl rfl)
  have d0 : (w.setCell ⟨hb, 2, none⟩ (.int .i64 ((es.length : Int) + 1))).cell? ⟨hb, 0, none⟩ = some vb := (World.cell?_setCell_other _ _ _ _ (by simp)).trans HC01.out.1
  have d1 : (w.setCell ⟨hb, 2, none⟩ (.int .i64 ((es.length : Int) + 1))).cell? ⟨hb, 1, none⟩ = some vn := (World.cell?_setCell_other _ _ _ _ (by simp)).trans HC01.out.2
  have d2 : (w.setCell ⟨hb, 2, none⟩ (.int .i64 ((es.length : Int) + 1))).cell? ⟨hb, 2, none⟩ = some (.int .i64 ((es.length : Int) + 1)) := World.cell?_setCell_same' w _ _ (by rw [c2]; rfl)
  have hs1 : Tch (fun b => b = hb) w (w.setCell ⟨hb, 2, none⟩ (.int .i64 ((es.length : Int) + 1))) := Tch.set _ w ⟨hb, 2, none⟩ _ rfl
  have ob1 := owns_tch OB.out hs1 (fun b x y => H12.out.1 (y ▸ x))
  have on1 := owns_tch ON.out hs1 (fun b x y => H12.out.2 (y ▸ x))
  have lt1 : hb < (w.setCell ⟨hb, 2, none⟩ (.int .i64 ((es.length : Int) + 1))).heap.size := Nat.lt_of_lt_of_le lt hs1.size
  clear hs1 e1
  generalize w.setCell ⟨hb, 2, none⟩ (.int .i64 ((es.length : Int) + 1)) = W1 at *
  refine (marks_any hb B vb vn nb nn xs ys ((es.length : Int) + 1) W1 d0 d1 d2 ob1 on1 lt1 H12.out.1 H12.out.2 H3.out (by omega) (by omega) (by omega) (by omega)).mono ?_
  rintro r w2 ⟨rfl, ob2, on2, ht2⟩
  have oh2 : OH w2 B ⟨hb, vb, nb, vn, nn, (es.length : Int) + 1⟩ := by
    have hbk := ht2.block hb lt1 (fun x => x.elim H12.out.1 H12.out.2)
    exact ⟨(World.cell?_of_block (w := W1) (a := ⟨hb, 0, none⟩) hbk).trans d0, (World.cell?_of_block (w := W1) (a := ⟨hb, 1, none⟩) hbk).trans d1, (World.cell?_of_block (w := W1) (a := ⟨hb, 2, none⟩) hbk).trans d2, ob2, on2, Nat.lt_of_lt_of_le lt1 ht2.size, ge, H12.out.1, H12.out.2, H3.out, by show (0 : Int) < (es.length : Int) + 1; omega, by show (es.length : Int) + 1 ≤ (4611686018427387904 : Int); omega, by show nb ≤ _; omega, by show nn ≤ _; omega⟩
  have ht : Tch (HE.in_ ⟨hb, vb, nb, vn, nn, (es.length : Int) + 1⟩) w w2 := ht1.trans (ht2.mono (fun b x => .inr x))
  clear ob2 on2 ht2 ob1 on1 d0 d1 d2 ht1 lt1
  have HT : Hid (_) := ht
  have OH2 : Hid (_) := oh2
  have hwi2 : WI w2 B wb vp vh es := HW.out.of_tch ht (fun x => (SEP.out wb x).1 rfl) (fun b x y => (SEP.out b y).2.1 x) (fun e he b x y => (SEP.out b y).2.2 e he x)
  have e2 := hwi2.h
  have f3 := hwi2.f
  have hown2 := hwi2.own
  have hne2 := hwi2.ne
  have hlt2 := hwi2.lt
  have hsz2 := ht.size
  rw [HVH.out] at e2 hown2
  have HOWN : Hid (w2.ownsRow B 104 1 (.slice a es.length cap) es.length (es.map fun e => .pointer (some ⟨e.hb, 0, none⟩))) := hown2
  have HWI2 : Hid (WI w2 B wb vp vh es) := hwi2
  have HNE2 : Hid (vh.ownBlock ≠ some wb) := hne2
  clear ht oh2 hwi2 hown2 hne2
  have hB2 : B ≤ w2.heap.size := by omega
  have eq : Hid ((Value.slice a es.length cap).ownBlock = vh.ownBlock) := by show _ = _; rw [HVH.out]
  go_upto_region 2 with fail
  go_cut [] (fun wx => ∃ vk, KI w wx B wb vp vh es ⟨hb, vb, nb, vn, nn, (es.length : Int) + 1⟩ 0 vk [⟨hb, vb, nb, vn, nn, (es.length : Int) + 1⟩] ⟨hb, vb, nb, vn, nn, (es.length : Int) + 1⟩)
  case first =>
    go_wp2_with (at_builtin; go_must (refine wpList_append_keep _ rfl (.tmp 21) (.tmp 23) 66 rfl B 104 i0 (.pointer none) 8 Tryz.underlying66 hi hz0 hz1 hz2 rfl _ es.length (es.map fun e => .pointer (some ⟨e.hb, 0, none⟩)) rfl (HOWN.out.alloc _) ⟨w2.heap.size, 0, none⟩ 1 1 [.pointer (some ⟨hb, 0, none⟩)] rfl rfl (cell_one_new _ _ _) (by intro u hu; simp at hu; subst hu; rfl) (by omega) (by unfold maxLen; omega) (by omega) (by simp; omega) _ rfl ?_; intro gv capv w3 hown3 _ hgrow3 hat3 hlt3; have e3 : w3.cell? ⟨wb, 1, none⟩ = some (.slice a es.length cap) := (World.cell?_of_block (w := w2) (a := ⟨wb, 1, none⟩) ((tch_grown hgrow3).block _ hlt2 (fun x => HNE2.out (eq.out.symm.trans x)))).trans e2; have u3 : w3.frozen? ⟨wb, 1, none⟩ = false := (World.frozen?_of_block (w := w2) (a := ⟨wb, 1, none⟩) ((tch_grown hgrow3).block _ hlt2 (fun x => HNE2.out (eq.out.symm.trans x)))).trans f3))
    go_meet
    have hg3 : (w2.alloc (.cells #[.pointer (some ⟨hb, 0, none⟩)] 104)).grownBy w3 (Value.slice a es.length cap).ownBlock := hgrow3
    have ha3 : (Value.slice a es.length cap).ownBlock = some gv ∨ gv = w2.heap.size + 1 := hat3.elim (fun x => .inl x) (fun x => .inr (x.trans (by simp)))
    rw [eq.out] at hg3 ha3
    exact ⟨_, KI.start HW.out (fun b hb => ⟨HNB.out b hb, SEP.out b hb⟩) HT.out OH2.out hg3 hown3 ha3⟩
  case rest =>
    obtain ⟨vk, hk⟩ := hcut
    clear e2 f3 HOWN HWI2 HNE2 eq hlt2
    go_wp2_with fail
    go_loopw [4, 5] (fun v i wr => ∃ (k : Nat) (vk : Value) (fs : List HE) (g : HE), k ≤ 3 ∧ v = .pointer (some ⟨g.hb, 0, none⟩) ∧ i = .int .i64 k ∧ Hid (KI w wr B wb vp vh es ⟨hb, vb, nb, vn, nn, (es.length : Int) + 1⟩ k vk fs g)) (fun _ i _ => 3 - (intOf i).toNat)
    case atStart => exact ⟨0, vk, _, _, by omega, rfl, rfl, hk⟩
    case round =>
      obtain ⟨k, vk, fs, g, hk3, rfl, rfl, HK⟩ := hrel
      clear hk
      by_cases hlt : k < 3
      · have hI : (k : Int) < 3 := by omega
        have hnb := HK.out.nb
        have hnn := HK.out.nn
        have hlen := HK.out.len
        have hsz := HK.out.t.size
        simp only at hnb hnn
        go_wp2_with fail
        refine (longer_any B g wr HK.out.oh (by omega) (by omega) (by omega)).mono ?_
        rintro r w5 ⟨e', rfl, q1, q2, q3, q4, q5, q6, q7, q8, q9, q10, q11⟩
        obtain ⟨l, hl⟩ : ∃ l, l = es ++ fs := ⟨_, rfl⟩
        have hll : l.length ≤ 17000000000000 := by rw [hl, List.length_append]; omega
        have K1 := HK.out.wi.own
        have K2 := HK.out.wi.h
        have K3 := HK.out.wi.f
        have K4 := HK.out.wi.ne
        have K5 := HK.out.wi.lt
        rw [← hl] at K1
        obtain ⟨a2, cap2, _, hv2, _, _, _⟩ := own_shape K1
        have wbn : ¬ g.in_ wb := fun x => (HK.out.gs wb x).1 rfl
        have x1 : w5.cell? ⟨wb, 1, none⟩ = some vk := (World.cell?_of_block (w := wr) (a := ⟨wb, 1, none⟩) (q11.block wb K5 wbn)).trans K2
        have x2 : w5.frozen? ⟨wb, 1, none⟩ = false := (World.frozen?_of_block (w := wr) (a := ⟨wb, 1, none⟩) (q11.block wb K5 wbn)).trans K3
        have own5 := owns_tch K1 q11 (fun b y1 y2 => (HK.out.gs b y2).2.1 y1)
        have K6 : wb < w5.heap.size := Nat.lt_of_lt_of_le K5 q11.size
        have hB5 : B ≤ w5.heap.size := by have := q11.size; omega
        rw [hv2] at x1 own5
        have eq : Hid ((Value.slice a2 l.length cap2).ownBlock = vk.ownBlock) := by show _ = _; rw [hv2]
        have OWN5 : Hid (w5.ownsRow B 104 1 (.slice a2 l.length cap2) l.length (l.map fun e => .pointer (some ⟨e.hb, 0, none⟩))) := own5
        have KNE : Hid (vk.ownBlock ≠ some wb) := K4
        have HL : Hid (l = es ++ fs) := hl
        have HQ : Hid (OH w5 B e' ∧ OH w5 B g ∧ e'.nb = g.nb + 1 ∧ e'.nn = g.nn + 1 ∧ e'.m = g.m ∧ wr.heap.size ≤ e'.hb ∧ (∀ b, e'.in_ b → g.in_ b ∨ wr.heap.size ≤ b) ∧ (∀ b, e'.in_ b → b < w5.heap.size) ∧ (e'.vb.ownBlock = g.vb.ownBlock ∨ ∀ b, e'.vb.ownBlock = some b → wr.heap.size ≤ b) ∧ (e'.vn.ownBlock = g.vn.ownBlock ∨ ∀ b, e'.vn.ownBlock = some b → wr.heap.size ≤ b) ∧ Tch g.in_ wr w5) := ⟨q1, q2, q3, q4, q5, q6, q7, q8, q9, q10, q11⟩
        clear q1 q2 q3 q4 q5 q6 q7 q8 q9 q10 q11 K1 K2 K3 K4 K5 hl own5 hv2 wbn hnb hnn
        go_upto_region 8 with fail
        go_wp2_with (at_builtin; go_must (refine wpList_append_keep _ rfl (.tmp 38) (.tmp 40) 66 rfl B 104 i0 (.pointer none) 8 Tryz.underlying66 hi hz0 hz1 hz2 rfl _ l.length (l.map fun e => .pointer (some ⟨e.hb, 0, none⟩)) rfl (OWN5.out.alloc _) ⟨w5.heap.size, 0, none⟩ 1 1 [.pointer (some ⟨e'.hb, 0, none⟩)] rfl rfl (cell_one_new _ _ _) (by intro u hu; simp at hu; subst hu; rfl) (by omega) (by unfold maxLen; omega) (by omega) (by simp; omega) _ rfl ?_; intro gv capv w3 hown3 _ hgrow3 hat3 hlt3; have e3 : w3.cell? ⟨wb, 1, none⟩ = some (.slice a2 l.length cap2) := (World.cell?_of_block (w := w5) (a := ⟨wb, 1, none⟩) ((tch_grown hgrow3).block _ K6 (fun x => KNE.out (eq.out.symm.trans x)))).trans x1; have u3 : w3.frozen? ⟨wb, 1, none⟩ = false := (World.frozen?_of_block (w := w5) (a := ⟨wb, 1, none⟩) ((tch_grown hgrow3).block _ K6 (fun x => KNE.out (eq.out.symm.trans x)))).trans x2))
        have hg3 : (w5.alloc (.cells #[.pointer (some ⟨e'.hb, 0, none⟩)] 104)).grownBy w3 (Value.slice a2 l.length cap2).ownBlock := hgrow3
        have ha3 : (Value.slice a2 l.length cap2).ownBlock = some gv ∨ gv = w5.heap.size + 1 := hat3.elim (fun x => .inl x) (fun x => .inr (x.trans (by simp)))
        rw [eq.out] at hg3 ha3
        obtain ⟨q1, q2, q3, q4, q5, q6, q7, q8, q9, q10, q11⟩ := HQ.out
        obtain rfl := HL.out
        have hnx := HK.out.next (fun e he b hb => ⟨(HW.out.sep e he b hb).2.1, fun x => (SEP.out b x).2.2 e he hb⟩) q1 q2 q3 q4 q5 q6 q7 q8 q9 q10 q11 hg3 hown3 ha3
        exact ⟨⟨k + 1, _, _, e', by omega, rfl, by go_num, hnx⟩, by simp [intOf]; omega⟩
      · go_wp2_with fail
        go_end0
        have h := HK.out
        have hk4 : k = 3 := by omega
        refine ⟨rfl, vk, es ++ fs, ?_, h.wi, h.t, ?_, ?_⟩
        · rw [List.length_append, h.len, hk4]
        · intro b hb
          rcases h.vk with x | x
          · exact .inl (x ▸ hb)
          · exact .inr (x b hb)
        · intro e he b hb
          rcases List.mem_append.1 he with he | he
          · exact .inl ⟨e, he, hb⟩
          · exact .inr (h.fn e he b hb)
theorem keep_any {B wb hb : Nat} {vp vh vb vn : Value} {nb nn : Nat} {xs ys : List Value} {es : List HE} (w : World) (hw : WI w B wb vp vh es) (c0 : w.cell? ⟨hb, 0, none⟩ = some vb) (c1 : w.cell? ⟨hb, 1, none⟩ = some vn) (c2 : w.cell? ⟨hb, 2, none⟩ = some (.int .i64 0)) (f2 : w.frozen? ⟨hb, 2, none⟩ = false)
    (ob : w.ownsRow B 5 1 vb nb xs) (on : w.ownsRow B 3 1 vn nn ys) (lt : hb < w.heap.size) (ge : B ≤ hb) (h1 : vb.ownBlock ≠ some hb) (h2 : vn.ownBlock ≠ some hb) (h3 : vb.ownBlock = none ∨ vb.ownBlock ≠ vn.ownBlock) (hb1 : nb + 3 ≤ 140737488352000) (hn1 : nn + 3 ≤ 17592186044000) (hes : es.length + 4 ≤ 17000000000000)
    (sep : ∀ b, HE.in_ ⟨hb, vb, nb, vn, nn, (es.length : Int) + 1⟩ b → b ≠ wb ∧ vh.ownBlock ≠ some b ∧ ∀ e ∈ es, ¬ e.in_ b) :
    Calls Tryz.prog 57 #[.pointer (some ⟨wb, 0, none⟩), .pointer (some ⟨hb, 0, none⟩)] w fun r w' => r = .returned (.tuple #[]) ∧ ∃ vh' es', es'.length = es.length + 4 ∧ WI w' B wb vp vh' es' ∧ Tch (fun b => b = wb ∨ vh.ownBlock = some b ∨ HE.in_ ⟨hb, vb, nb, vn, nn, (es.length : Int) + 1⟩ b) w w' :=
  (keep_any2 w hw c0 c1 c2 f2 ob on lt ge h1 h2 h3 hb1 hn1 hes sep).mono (fun _ _ ⟨a, vh', es', b, c, d, _⟩ => ⟨a, vh', es', b, c, d⟩)
end Go.Proofs.YtoeihlgidakjbaaGreatDoor

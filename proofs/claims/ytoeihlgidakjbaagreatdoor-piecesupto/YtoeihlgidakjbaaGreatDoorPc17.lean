/- The landed program's ends are what the laws ask of a program's ends. The laws' told and asked, over a world with ends. The laws' asked, over a world with ends. The laws' created: the lists that are lent. The laws' step, of the kinds 3 (New), 4 (Event), 6 (State, Told, Agreed). -/
import Derived.Test.YtoeihlgidakjbaaGreatDoorPc15
import Derived.Test.YtoeihlgidakjbaaGreatDoorPc16
import Derived.ChangeKeysEq
namespace Go.Proofs.YtoeihlgidakjbaaGreatDoor
open Go.RowKit Go.Lib
theorem RE.Lim.fit8 {m : RE} {n : Nat} (h : m.Lim n) (hn : n ≤ 15000000000000) : m.Fit 3000 := by
  obtain ⟨_, c0, c1, _, h1, h2, h3, h4, h5, h6, h7, _, _⟩ := h
  constructor <;> omega
theorem PE.lt {w : World} {B : Nat} {l : PLay} {m : RE} (h : PE w B l m) : ∀ b, inE l.pb l.v.vals b → B ≤ b ∧ b < w.heap.size := h.pi.lt
theorem PE.tch {w w' : World} {B : Nat} {l : PLay} {m : RE} {S : Nat → Prop} (h : PE w B l m) (ht : Tch S w w') (hs : ∀ b, inE l.pb l.v.vals b → ¬ S b) : PE w' B l m := ⟨h.pi.of_tch ht hs, h.vs⟩
theorem PE.mono {w : World} {B B' : Nat} {l : PLay} {m : RE} (h : PE w B l m) (hB : B' ≤ B) : PE w B' l m :=
  ⟨⟨h.pi.em.mono hB, h.pi.mp, Nat.le_trans hB h.pi.mg, h.pi.mn, h.pi.t0, h.pi.s1⟩, h.vs⟩
theorem pevent_all (w : World) (B : Nat) (l : PLay) (m : RE) (k : Int) (h : PE w B l m) (hg : 0 ≤ m.tim) (hl : m.Lim 14000000000000) :
    Calls Tryz.prog 25 #[.pointer (some ⟨l.pb, 0, none⟩), .int .i64 k] w fun r w' => ∃ (v : Value) (l' : PLay), r = .returned v ∧ w'.ownsRow w.heap.size 5 1 v (m.event k).2.length ((m.event k).2.map bv) ∧ PE w' B l' (m.event k).1 ∧ l'.pb = l.pb ∧
      Tch (inE l.pb l.v.vals) w w' ∧ (∀ b, inE l'.pb l'.v.vals b → inE l.pb l.v.vals b ∨ w.heap.size ≤ b) ∧ ∀ b, v.ownBlock = some b → ¬ inE l'.pb l'.v.vals b := by
  refine (pevent k w h.at hl.ok ((hl.fit8 (by omega)).less (by omega)) hg hl.t1).mono ?_
  rintro r w' ⟨vr, v', rfl, h1, h2, h3, h4, h5⟩
  exact ⟨vr, ⟨l.pb, v'⟩, rfl, h1, PE.of h2 h5, rfl, h3.t, h3.i, h4⟩
end Go.Proofs.YtoeihlgidakjbaaGreatDoor
namespace Go.Proofs.YtoeihlgidakjbaaGreatDoor
open Go.RowKit Go.Lib
section
variable {P : Pg}
end
end Go.Proofs.YtoeihlgidakjbaaGreatDoor
namespace Go.Proofs.YtoeihlgidakjbaaGreatDoor
open Go.RowKit Go.Lib
section
variable {P : Pg}
end
end Go.Proofs.YtoeihlgidakjbaaGreatDoor
namespace Go.Proofs.YtoeihlgidakjbaaGreatDoor
open Go.RowKit Go.Lib
def nS (g : Nat) (l : List Int) : Value := .slice (some ⟨g, 0, none⟩) (l.length + 8) (l.length + 8)
def cS (g : Nat) (l : List Int) : Value := .slice (some ⟨g, 0, none⟩) l.length (l.length + 8)
def cC (k : Nat) (G : Nat → Nat) (L : Nat → List Int) (mg : Int) : Array Value :=
  #[if 0 < k then cS (G 0) (L 0) else .slice none 0 0, if 1 < k then cS (G 1) (L 1) else .slice none 0 0, if 2 < k then cS (G 2) (L 2) else .slice none 0 0, if 0 < k then cS (G 3) (L 3) else .slice none 0 0, if 1 < k then cS (G 4) (L 4) else .slice none 0 0, if 2 < k then cS (G 5) (L 5) else .slice none 0 0, .int .i64 mg]
def wC (k s : Nat) (G : Nat → Nat) (L : Nat → List Int) : Array Value :=
  #[if 0 < k then nS (G s) (L s) else .slice none 0 0, if 1 < k then nS (G (s + 1)) (L (s + 1)) else .slice none 0 0, if 2 < k then nS (G (s + 2)) (L (s + 2)) else .slice none 0 0]
def Lent (w : World) (g : Nat) (l : List Int) : Prop := w.ownsRow g 3 1 (nS g l) (l.length + 8) ((numsL l 8).map zv)
def putG (k g1 g2 : Nat) (G : Nat → Nat) : Nat → Nat := fun i => if i = k then g1 else if i = 3 + k then g2 else G i
def used (k i : Nat) : Prop := i < k ∨ (3 ≤ i ∧ i < 3 + k)
structure C1 (w wr : World) (oc : Array Value) (mg : Int) (L : Nat → List Int) (k : Nat) (G : Nat → Nat) : Prop where
  ob : wr.heap[w.heap.size]? = some (.cells oc 33 (0, 0))
  cb : wr.heap[w.heap.size + 1]? = some (.cells (cC k G L mg) 31 (0, 0))
  wa : wr.heap[w.heap.size + 2]? = some (.cells (wC k 0 G L) 29 (0, 0))
  aa : wr.heap[w.heap.size + 3]? = some (.cells (wC k 3 G L) 29 (0, 0))
  rows : ∀ i, used k i → Lent wr (G i) (L i)
  ge : ∀ i, used k i → w.heap.size + 4 ≤ G i ∧ G i < wr.heap.size
  inj : ∀ i j, used k i → used k j → i ≠ j → G i ≠ G j
  bel : Below w.heap.size w wr
theorem wC_next (k s g : Nat) (h : k < 3) (G G' : Nat → Nat) (L : Nat → List Int) (he : ∀ i, i < k → G' (s + i) = G (s + i)) (hg : G' (s + k) = g) : (wC k s G L).setIfInBounds k (nS g (L (s + k))) = wC (k + 1) s G' L := by
  subst hg
  rcases (by omega : k = 0 ∨ k = 1 ∨ k = 2) with rfl | rfl | rfl
  · rfl
  · have := he 0 (by omega); unfold wC; simp at this ⊢; rw [this]
  · have h0 := he 0 (by omega); have h1 := he 1 (by omega); unfold wC; simp at h0 h1 ⊢; rw [h0, h1]; exact ⟨rfl, rfl⟩
theorem cC_next (k g1 g2 : Nat) (h : k < 3) (G : Nat → Nat) (L : Nat → List Int) (mg : Int) : ((cC k G L mg).setIfInBounds k (cS g1 (L k))).setIfInBounds (3 + k) (cS g2 (L (3 + k))) = cC (k + 1) (putG k g1 g2 G) L mg := by
  rcases (by omega : k = 0 ∨ k = 1 ∨ k = 2) with rfl | rfl | rfl <;> rfl
theorem IntsAt.at_ {w W wc : World} {v : Value} {l : List Int} {S : Nat → Prop} (h : IntsAt w v l) (hb : Below w.heap.size w W) (ht : Tch S W wc) (hs : ∀ b, S b → w.heap.size ≤ b) : IntsAt wc v l := by
  obtain ⟨a, cap, g, off, rfl, h1, h2⟩ := h
  refine ⟨a, cap, g, off, rfl, fun h => ⟨(h1 h).1, Nat.lt_of_lt_of_le (h1 h).2 (Nat.le_trans hb.size ht.size)⟩, fun k hk => ?_⟩
  have hg := (h1 (by omega)).2
  exact (World.cell?_of_block (w := W) (a := ⟨g, off + k, none⟩) (ht.block g (Nat.lt_of_lt_of_le hg hb.size) (fun x => by have := hs g x; omega))).trans ((hb.cell (p := ⟨g, off + k, none⟩) hg).trans (h2 k hk))
theorem C1.next {w wr W10 W11 : World} {oc : Array Value} {mg : Int} {L : Nat → List Int} {k g1 g2 : Nat} {G : Nat → Nat} (h : C1 w wr oc mg L k G) (hk : k < 3) (l1 : Lent W10 g1 (L k)) (l2 : Lent W10 g2 (L (3 + k))) (T10 : Tch (fun b => b = w.heap.size + 1 + 1 ∨ b = w.heap.size + 1 + 1 + 1) wr W10)
    (wa : W10.heap[w.heap.size + 1 + 1]? = some (.cells ((wC k 0 G L).setIfInBounds k (nS g1 (L k))) 29 (0, 0))) (aa : W10.heap[w.heap.size + 1 + 1 + 1]? = some (.cells ((wC k 3 G L).setIfInBounds k (nS g2 (L (3 + k)))) 29 (0, 0)))
    (ob : W10.heap[w.heap.size]? = some (.cells oc 33 (0, 0))) (q6 : g1 < g2) (q7 : g2 < W10.heap.size) (q8 : g1 = wr.heap.size) (t11 : Tch (fun b => b = w.heap.size + 1) W10 W11) (b11 : W11.heap[w.heap.size + 1]? = some (.cells ((cC k G L mg).setIfInBounds k (cS g1 (L k))) 31 (0, 0))) :
    C1 w (W11.setCell ⟨w.heap.size + 1, 3 + k, none⟩ (cS g2 (L (3 + k)))).drew oc mg L (k + 1) (putG k g1 g2 G) := by
  have tf := (tset W11 (w.heap.size + 1) (3 + k) (cS g2 (L (3 + k)))).drew
  have tt : Tch (fun b => b = w.heap.size + 1) W10 (W11.setCell ⟨w.heap.size + 1, 3 + k, none⟩ (cS g2 (L (3 + k)))).drew := t11.trans tf
  have hz3 : w.heap.size + 3 < wr.heap.size := blk_lt h.aa
  have pk : putG k g1 g2 G k = g1 := by unfold putG; rw [if_pos rfl]
  have p3 : putG k g1 g2 G (3 + k) = g2 := by unfold putG; rw [if_neg (by omega), if_pos rfl]
  have po : ∀ i, used k i → putG k g1 g2 G i = G i := by
    intro i hi; unfold putG
    unfold used at hi
    rw [if_neg (by omega), if_neg (by omega)]
  have cases4 : ∀ i, used (k + 1) i → used k i ∨ i = k ∨ i = 3 + k := by intro i hi; unfold used at *; omega
  have lentF : ∀ {g : Nat} {l : List Int}, Lent W10 g l → w.heap.size + 4 ≤ g → Lent (W11.setCell ⟨w.heap.size + 1, 3 + k, none⟩ (cS g2 (L (3 + k)))).drew g l := fun {g l} hl hg =>
    owns_tch hl tt (fun b hb e => by simp only [nS, Value.ownBlock, Option.some.injEq] at hb; omega)
  have lentO : ∀ i, used k i → Lent W10 (G i) (L i) := fun i hi =>
    owns_tch (h.rows i hi) T10 (fun b hb e => by simp only [nS, Value.ownBlock, Option.some.injEq] at hb; have := (h.ge i hi).1; omega)
  have hsF := tt.size
  have hs10 := T10.size
  refine ⟨?_, ?_, ?_, ?_, ?_, ?_, ?_, ?_⟩
  · exact (tt.block _ (blk_lt ob) (by omega)).trans ob
  · have := blk_set (k := 3 + k) (x := cS g2 (L (3 + k))) b11
    rw [cC_next k g1 g2 hk] at this
    exact this
  · rw [← wC_next k 0 g1 hk G (putG k g1 g2 G) L (fun i hi => by rw [Nat.zero_add]; exact po i (.inl hi)) (by rw [Nat.zero_add]; exact pk), Nat.zero_add]
    exact (tt.block _ (blk_lt wa) (by omega)).trans wa
  · rw [← wC_next k 3 g2 hk G (putG k g1 g2 G) L (fun i hi => po (3 + i) (.inr ⟨by omega, by omega⟩)) p3]
    exact (tt.block _ (blk_lt aa) (by omega)).trans aa
  · intro i hi
    rcases cases4 i hi with q | rfl | rfl
    · rw [po i q]; exact lentF (lentO i q) (h.ge i q).1
    · rw [pk]; exact lentF l1 (by omega)
    · rw [p3]; exact lentF l2 (by omega)
  · intro i hi
    rcases cases4 i hi with q | rfl | rfl
    · rw [po i q]; have := h.ge i q; exact ⟨this.1, by omega⟩
    · rw [pk]; exact ⟨by omega, by omega⟩
    · rw [p3]; exact ⟨by omega, by omega⟩
  · intro i j hi hj hne
    rcases cases4 i hi with q | rfl | rfl <;> rcases cases4 j hj with q' | q' | q'
    · rw [po i q, po j q']; exact h.inj i j q q' hne
    · subst q'; rw [po i q, pk]; have := (h.ge i q).2; omega
    · subst q'; rw [po i q, p3]; have := (h.ge i q).2; omega
    · rw [po j q', pk]; have := (h.ge j q').2; omega
    · omega
    · subst q'; rw [pk, p3]; omega
    · rw [po j q', p3]; have := (h.ge j q').2; omega
    · subst q'; rw [pk, p3]; omega
    · omega
  · refine h.bel.trans (((T10.mono (T := fun b => w.heap.size ≤ b) (fun b hb => by omega)).trans (tt.mono (fun b hb => by omega))).below h.bel.size (fun b hb => hb))
section
variable {P : Pg}
theorem IntsAt.bel {w wr : World} {B : Nat} {v : Value} {l : List Int} (h : IntsAt w v l) (hv : 0 < l.length → ∀ b, v.ownBlock = some b → b < B) (hb : Below B w wr) : IntsAt wr v l := by
  obtain ⟨a, cap, g, off, rfl, h1, h2⟩ := h
  refine ⟨a, cap, g, off, rfl, fun h => ⟨(h1 h).1, ?_⟩, fun k hk => ?_⟩
  · exact Nat.lt_of_lt_of_le (h1 h).2 hb.size
  · obtain ⟨rfl, hg⟩ := h1 (by omega)
    exact (hb.cell (p := ⟨g, off + k, none⟩) (hv (by omega) g rfl)).trans (h2 k hk)
theorem RI.mono {w : World} {B B' rb : Nat} {v : RV} {m : RE} (h : RI w B rb v m) (hb : B' ≤ B) : RI w B' rb v m :=
  ⟨h.blk, Nat.le_trans hb h.ge, owns_mono h.ot hb, owns_mono h.om hb, fun x hx => owns_mono (h.oc x hx) hb, h.t1, h.m1, h.tm, h.c1⟩
theorem WE.add {w w7 : World} {B wb n gv cap : Nat} {vp vh : Value} {es : List HE} {ps : List (PL P)} {o : Obj} (h : WE w B wb vp vh es ps n) (x : PL P) (hx : PI1 w B x) (hl : x.m.Lim n) (hf : ∀ b, x.in_ b → ¬ Busy wb vp vh es ps b) (hlen : ps.length < 5)
    (hr : (w.alloc o).grownBy w7 vp.ownBlock) (own : w7.ownsRow B 107 1 (.slice (some ⟨gv, 0, none⟩) (ps.length + 1) cap) (ps.length + 1) (ps.map PL.ptr ++ [x.ptr])) (hat : vp.ownBlock = some gv ∨ gv = w.heap.size + 1) :
    WE (w7.setCell ⟨wb, 0, none⟩ (.slice (some ⟨gv, 0, none⟩) (ps.length + 1) cap)) B wb (.slice (some ⟨gv, 0, none⟩) (ps.length + 1) cap) vh es (ps ++ [x]) n ∧ Tch (fun b => b = wb ∨ vp.ownBlock = some b) w (w7.setCell ⟨wb, 0, none⟩ (.slice (some ⟨gv, 0, none⟩) (ps.length + 1) cap)) := by
  have ht1 : Tch (fun b => vp.ownBlock = some b) w w7 := tch_grown hr
  have ht : Tch (fun b => b = wb ∨ vp.ownBlock = some b) w (w7.setCell ⟨wb, 0, none⟩ (.slice (some ⟨gv, 0, none⟩) (ps.length + 1) cap)) := (ht1.mono (fun _ h => .inr h)).trans ((tset w7 wb 0 _).mono (fun _ h => .inl h))
  have vpw : vp.ownBlock ≠ some wb := fun e => (h.vw wb e).1 rfl
  have hwb : w7.heap[wb]? = w.heap[wb]? := ht1.block wb h.wi.lt vpw
  have hgv : ∀ b, b < w.heap.size → vp.ownBlock ≠ some b → gv ≠ b := by
    intro b hb hn e
    rcases hat with h' | h'
    · exact hn (e ▸ h')
    · omega
  have hgw : gv ≠ wb := hgv wb h.wi.lt vpw
  have d0 : w7.cell? ⟨wb, 0, none⟩ = some vp := (World.cell?_of_block (w := w) (a := ⟨wb, 0, none⟩) hwb).trans h.wi.p
  have hsz := ht.size
  have vhT : ∀ b, vh.ownBlock = some b → ¬ (b = wb ∨ vp.ownBlock = some b) := by
    rintro b hb (e | e)
    · exact h.wi.ne (e ▸ hb)
    · exact (h.vw b e).2.1 hb
  have esT : ∀ e ∈ es, ∀ b, e.in_ b → ¬ (b = wb ∨ vp.ownBlock = some b) := by
    rintro e he b hb (q | q)
    · exact (h.wi.sep e he b hb).2.2.1 q
    · exact (h.vw b q).2.2 e he hb
  have psT : ∀ y ∈ ps, ∀ b, y.in_ b → ¬ (b = wb ∨ vp.ownBlock = some b) := by
    rintro y hy b hb (q | q)
    · exact (h.sp y hy b hb).1 q
    · exact (h.sp y hy b hb).2.2.1 q
  have xT : ∀ b, x.in_ b → ¬ (b = wb ∨ vp.ownBlock = some b) := by
    rintro b hb (q | q)
    · exact hf b hb (.inl q)
    · exact hf b hb (.inr (.inr (.inl q)))
  have mem : ∀ y ∈ ps ++ [x], y ∈ ps ∨ y = x := fun y hy => by
    rcases List.mem_append.1 hy with q | q
    · exact .inl q
    · exact .inr (List.mem_singleton.1 q)
  refine ⟨⟨⟨?_, ?_, ?_, ?_, owns_tch h.wi.own ht vhT, ?_, Nat.lt_of_lt_of_le h.wi.lt hsz, h.wi.ge, h.wi.ne, ?_⟩, ?_, by simp; omega, ?_, ?_, ?_, ?_, ?_⟩, ht⟩
  · exact World.cell?_setCell_same' w7 _ _ (by rw [d0]; rfl)
  · exact (World.cell?_setCell_other _ _ _ _ (by simp)).trans ((World.cell?_of_block (w := w) (a := ⟨wb, 1, none⟩) hwb).trans h.wi.h)
  · have := (World.frozen?_of_block (w := w) (a := ⟨wb, 1, none⟩) hwb).trans h.wi.f
    simpa using this
  · have := (World.frozen?_of_block (w := w) (a := ⟨wb, 0, none⟩) hwb).trans h.wi.f0
    simpa using this
  · exact fun e he => hi_of (h.wi.all e he) (fun b hb => ht.block b (h.wi.sep e he b hb).2.1 (esT e he b hb))
  · intro e he b hb
    obtain ⟨q1, q2, q3, q4⟩ := h.wi.sep e he b hb
    exact ⟨q1, by omega, q3, q4⟩
  · have := owns_tch own (tset w7 wb 0 (.slice (some ⟨gv, 0, none⟩) (ps.length + 1) cap)) (fun b h1 h2 => hgw (by simp only [Value.ownBlock, Option.some.injEq] at h1; omega))
    simpa using this
  · intro b hb
    simp only [Value.ownBlock, Option.some.injEq] at hb
    subst hb
    rcases hat with q | q
    · exact h.vw gv q
    · refine ⟨hgw, fun e => by have := (h.wi.own.lt gv e).2; omega, fun e he r => by have := (h.wi.sep e he gv r).2.1; omega⟩
  · intro y hy
    rcases mem y hy with q | rfl
    · exact (h.pi y q).of_tch ht (psT y q)
    · exact hx.of_tch ht xT
  · intro y hy
    rcases mem y hy with q | rfl
    · exact h.lim y q
    · exact hl
  · intro y hy b hb
    rcases mem y hy with q | rfl
    · obtain ⟨a1, a2, a3, a4⟩ := h.sp y q b hb
      refine ⟨a1, a2, ?_, a4⟩
      simp only [Value.ownBlock, ne_eq, Option.some.injEq]
      exact hgv b ((h.pi y q).lt b hb).2 a3
    · have hn := hf b hb
      refine ⟨fun e => hn (.inl e), fun e => hn (.inr (.inl e)), ?_, fun e he r => hn (.inr (.inr (.inr (.inl ⟨e, he, r⟩))))⟩
      simp only [Value.ownBlock, ne_eq, Option.some.injEq]
      exact hgv b (hx.lt b hb).2 (fun e => hn (.inr (.inr (.inl e))))
  · intro i j hij p q hp hq b hpb hqb
    have hjl := (List.getElem?_eq_some_iff.1 hq).1
    rw [List.length_append, List.length_singleton] at hjl
    rw [List.getElem?_append_left (by omega)] at hp
    by_cases hj : j < ps.length
    · rw [List.getElem?_append_left hj] at hq
      exact h.pw i j hij p q hp hq b hpb hqb
    · have hje : j = ps.length := by omega
      subst hje
      rw [List.getElem?_append_right (Nat.le_refl _), Nat.sub_self] at hq
      have eq : q = x := by simpa using hq.symm
      subst eq
      exact hf b hqb (.inr (.inr (.inr (.inr ⟨p, List.mem_of_getElem? hp, hpb⟩))))
structure C2 (ps : List (PL P)) (w w2 wr : World) (B wb n : Nat) (vp vh : Value) (es : List HE) (oc : Array Value) (L : Nat → List Int) (G : Nat → Nat) (T : Nat → Prop) (R : World → Prop) (U : Nat → Prop) (c : Nat) (vh' : Value) (es' : List HE) : Prop where
  ob : wr.heap[w.heap.size]? = some (.cells oc 33 (0, 0))
  wa : wr.heap[w.heap.size + 1 + 1]? = some (.cells (wC 3 0 G L) 29 (0, 0))
  aa : wr.heap[w.heap.size + 1 + 1 + 1]? = some (.cells (wC 3 3 G L) 29 (0, 0))
  we : WE wr B wb vp vh' es' ps n
  len : es'.length = es.length + c
  rows : ∀ i, i < 6 → ¬ U i → Lent wr (G i) (L i)
  fb : ∀ b, Busy wb vp vh' es' ps b → Busy wb vp vh es ps b ∨ (∃ i, i < 6 ∧ U i ∧ b = G i) ∨ w2.heap.size ≤ b
  r : R wr
  sz : w2.heap.size ≤ wr.heap.size
  bel : Below B w wr
structure C2F (ps : List (PL P)) (w w2 : World) (B wb : Nat) (vp vh : Value) (es : List HE) (G : Nat → Nat) (T : Nat → Prop) (R : World → Prop) : Prop where
  g : ∀ i, i < 6 → w.heap.size + 4 ≤ G i ∧ G i < w2.heap.size ∧ ¬ T (G i)
  inj : ∀ i j, i < 6 → j < 6 → i ≠ j → G i ≠ G j
  t : ∀ b, T b → w.heap.size + 4 ≤ b ∧ b < w2.heap.size
  o : ∀ b, Busy wb vp vh es ps b → b < w.heap.size
  r : ∀ (W W' : World) (S : Nat → Prop), R W → Tch S W W' → (∀ b, T b → ¬ S b) → R W'
  z : w.heap.size + 4 ≤ w2.heap.size
  b : B ≤ w.heap.size
theorem C2.free {ps : List (PL P)} {w w2 wr : World} {B wb n : Nat} {vp vh vh' : Value} {es es' : List HE} {oc : Array Value} {L : Nat → List Int} {G : Nat → Nat} {T : Nat → Prop} {R : World → Prop} {U : Nat → Prop} {c : Nat} (h : C2 ps w w2 wr B wb n vp vh es oc L G T R U c vh' es') (f : C2F ps w w2 B wb vp vh es G T R) (b : Nat) (h1 : w.heap.size ≤ b) (h2 : b < w2.heap.size) (h3 : ∀ i, i < 6 → U i → b ≠ G i) : ¬ Busy wb vp vh' es' ps b := by
  intro x
  rcases h.fb b x with q | ⟨i, hi, hu, q⟩ | q
  · have := f.o b q; omega
  · exact h3 i hi hu q
  · omega
theorem C2.below {ps : List (PL P)} {w w2 wr wr' : World} {B wb n : Nat} {vp vh vh' : Value} {es es' : List HE} {oc : Array Value} {L : Nat → List Int} {G : Nat → Nat} {T : Nat → Prop} {R : World → Prop} {U : Nat → Prop} {c : Nat} (h : C2 ps w w2 wr B wb n vp vh es oc L G T R U c vh' es') (f : C2F ps w w2 B wb vp vh es G T R) (hb : Below wr.heap.size wr wr') : C2 ps w w2 wr' B wb n vp vh es oc L G T R U c vh' es' :=
  ⟨(hb.block _ (blk_lt h.ob)).trans h.ob, (hb.block _ (blk_lt h.wa)).trans h.wa, (hb.block _ (blk_lt h.aa)).trans h.aa, h.we.below hb, h.len, fun i hi hu => owns_below (h.rows i hi hu) hb, h.fb,
   f.r _ _ (fun _ => False) h.r (Tch.of_below hb) (fun _ _ x => x), Nat.le_trans h.sz hb.size, h.bel.trans (hb.mono (Nat.le_trans f.b h.bel.size))⟩
theorem C2.keep {ps : List (PL P)} {w w2 wr wr' : World} {B wb n : Nat} {vp vh vh' vh2 : Value} {es es' es2 : List HE} {oc : Array Value} {L : Nat → List Int} {G : Nat → Nat} {T : Nat → Prop} {R : World → Prop} {U : Nat → Prop} {c : Nat} (h : C2 ps w w2 wr B wb n vp vh es oc L G T R U c vh' es') (f : C2F ps w w2 B wb vp vh es G T R) (j : Nat) (hj : j < 6)
    (len : es2.length = es'.length + 4) (we : WE wr' B wb vp vh2 es2 ps n) (ht : Tch (fun b => b = wb ∨ vh'.ownBlock = some b ∨ (nS (G j) (L j)).ownBlock = some b) wr wr') (hv : ∀ b, vh2.ownBlock = some b → vh'.ownBlock = some b ∨ wr.heap.size ≤ b) (he : ∀ e ∈ es2, ∀ b, e.in_ b → (∃ f ∈ es', f.in_ b) ∨ (nS (G j) (L j)).ownBlock = some b ∨ wr.heap.size ≤ b) :
    C2 ps w w2 wr' B wb n vp vh es oc L G T R (fun i => U i ∨ i = j) (c + 4) vh2 es2 := by
  have gj : ∀ b, (nS (G j) (L j)).ownBlock = some b → b = G j := fun b hb => by simp only [nS, Value.ownBlock, Option.some.injEq] at hb; exact hb.symm
  have off : ∀ b, w.heap.size ≤ b → b < w2.heap.size → (∀ i, i < 6 → U i → b ≠ G i) → b ≠ G j → ¬ (b = wb ∨ vh'.ownBlock = some b ∨ (nS (G j) (L j)).ownBlock = some b) := by
    intro b h1 h2 h3 h4
    have hf := h.free f b h1 h2 h3
    rintro (q | q | q)
    · exact hf (.inl q)
    · exact hf (.inr (.inl q))
    · exact h4 (gj b q)
  have g4 := fun i hi => f.g i hi
  have loc : ∀ b, w.heap.size ≤ b → b < w.heap.size + 4 → ¬ (b = wb ∨ vh'.ownBlock = some b ∨ (nS (G j) (L j)).ownBlock = some b) := fun b h1 h2 =>
    off b h1 (by have := f.z; omega) (fun i hi _ e => by have := (g4 i hi).1; omega) (fun e => by have := (g4 j hj).1; omega)
  refine ⟨(ht.block _ (blk_lt h.ob) (loc _ (by omega) (by omega))).trans h.ob, (ht.block _ (blk_lt h.wa) (loc _ (by omega) (by omega))).trans h.wa, (ht.block _ (blk_lt h.aa) (loc _ (by omega) (by omega))).trans h.aa, we, by rw [len, h.len]; omega, ?_, ?_, ?_, Nat.le_trans h.sz ht.size, ?_⟩
  · intro i hi hn
    have hn1 : ¬ U i := fun x => hn (.inl x)
    have hn2 : i ≠ j := fun x => hn (.inr x)
    refine owns_tch (h.rows i hi hn1) ht (fun b hb => ?_)
    have eb : b = G i := by simp only [nS, Value.ownBlock, Option.some.injEq] at hb; exact hb.symm
    subst eb
    refine off _ (by have := (g4 i hi).1; omega) (g4 i hi).2.1 (fun a ha hua e => ?_) (f.inj i j hi hj hn2)
    by_cases q : i = a
    · subst q; exact hn1 hua
    · exact f.inj i a hi ha q e
  · have hb0 : ∀ b, Busy wb vp vh' es' ps b → Busy wb vp vh es ps b ∨ (∃ i, i < 6 ∧ (U i ∨ i = j) ∧ b = G i) ∨ w2.heap.size ≤ b := by
      intro b x
      rcases h.fb b x with q | ⟨i, hi, hu, q⟩ | q
      · exact .inl q
      · exact .inr (.inl ⟨i, hi, .inl hu, q⟩)
      · exact .inr (.inr q)
    have hsz := h.sz
    rintro b (q | q | q | ⟨e, hm, q⟩ | ⟨x, hx, q⟩)
    · exact hb0 b (.inl q)
    · rcases hv b q with r | r
      · exact hb0 b (.inr (.inl r))
      · exact .inr (.inr (by omega))
    · exact hb0 b (.inr (.inr (.inl q)))
    · rcases he e hm b q with ⟨f', hf', r⟩ | r | r
      · exact hb0 b (.inr (.inr (.inr (.inl ⟨f', hf', r⟩))))
      · exact .inr (.inl ⟨j, hj, .inr rfl, gj b r⟩)
      · exact .inr (.inr (by omega))
    · exact hb0 b (.inr (.inr (.inr (.inr ⟨x, hx, q⟩))))
  · refine f.r _ _ _ h.r ht (fun b hb => ?_)
    have := f.t b hb
    exact off b (by omega) this.2 (fun i hi _ e => (g4 i hi).2.2 (e ▸ hb)) (fun e => (g4 j hj).2.2 (e ▸ hb))
  · refine h.bel.trans (ht.below (Nat.le_trans f.b h.bel.size) ?_)
    rintro b (q | q | q)
    · rw [q]; exact h.we.wi.ge
    · exact (h.we.wi.own.lt b q).1
    · rw [gj b q]; have := (g4 j hj).1; have := f.b; omega
end
end Go.Proofs.YtoeihlgidakjbaaGreatDoor
namespace Go.Proofs.YtoeihlgidakjbaaGreatDoor
open Go.RowKit Go.Lib
theorem RI.drew {w : World} {B rb : Nat} {v : RV} {m : RE} (h : RI w B rb v m) : RI w.drew B rb v m := h.of_tch (S := fun _ => False) ((Tch.refl _ w).drew) (fun _ _ x => x)
theorem Gl.drew {w : World} {aS aC aF aL aO aH : Addr} (h : Gl w aS aC aF aL aO aH) : Gl w.drew aS aC aF aL aO aH := h.below ((Below.refl _ w).drew)
section
variable {P : Pg}
theorem Pg.drew {w : World} {B : Nat} {l : P.Lay} {m : RE} (h : P.PE w B l m) : P.PE w.drew B l m := P.tch (S := fun _ => False) h ((Tch.refl _ w).drew) (fun _ _ x => x)
end
end Go.Proofs.YtoeihlgidakjbaaGreatDoor

/- The laws' created: the lists that are lent. -/
import Derived.Test.YtoeihlgidakjbaaGreatDoorEa18
namespace Go.Proofs.YtoeihlgidakjbaaGreatDoor
open Go.RowKit Go.Lib
def nS (g : Nat) (l : List Int) : Value := .slice (some ⟨g, 0, none⟩) (l.length + 8) (l.length + 8)
def cS (g : Nat) (l : List Int) : Value := .slice (some ⟨g, 0, none⟩) l.length (l.length + 8)
def cC (k : Nat) (G : Nat → Nat) (L : Nat → List Int) (mg : Int) : Array Value :=
  #[if 0 < k then cS (G 0) (L 0) else .slice none 0 0, if 1 < k then cS (G 1) (L 1) else .slice none 0 0, if 2 < k then cS (G 2) (L 2) else .slice none 0 0, if 0 < k then cS (G 3) (L 3) else .slice none 0 0, if 1 < k then cS (G 4) (L 4) else .slice none 0 0, if 2 < k then cS (G 5) (L 5) else .slice none 0 0, .int .i64 mg]
def wC (k s : Nat) (G : Nat → Nat) (L : Nat → List Int) : Array Value :=
  #[if 0 < k then nS (G s) (L s) else .slice none 0 0, if 1 < k then nS (G (s + 1)) (L (s + 1)) else .slice none 0 0, if 2 < k then nS (G (s + 2)) (L (s + 2)) else .slice none 0 0]
def opA (kd n code id : Int) (d s : ByteArray) (X : Nat → Value) (mg ev : Int) : Array Value := #[.int .i64 kd, .int .i64 n, .int .i64 code, .int .i64 id, .string d, .string s, X 0, X 1, X 2, X 3, X 4, X 5, .int .i64 mg, .int .i64 ev]
def Lent (w : World) (g : Nat) (l : List Int) : Prop := w.ownsRow g 3 1 (nS g l) (l.length + 8) ((numsL l 8).map zv)
def putG (k g1 g2 : Nat) (G : Nat → Nat) : Nat → Nat := fun i => if i = k then g1 else if i = 3 + k then g2 else G i
def used (k i : Nat) : Prop := i < k ∨ (3 ≤ i ∧ i < 3 + k)
structure C1 (w wr : World) (oc : Array Value) (mg : Int) (L : Nat → List Int) (k : Nat) (G : Nat → Nat) : Prop where
  ob : wr.heap[w.heap.size]? = some (.cells oc 33 (0, 0))
  cb : wr.heap[w.heap.size + 1]? = some (.cells (cC k G L mg) 31 (0, 0))
  wa : wr.heap[w.heap.size + 2]? = some (.cells (wC k 0 G L) 29 (0, 0))
  aa : wr.heap[w.heap.size + 3]? = some (.cells (wC k 3 G L) 29 (0, 0))
  rows : ∀ i, used k i → Lent wr (G i) (L i)
  ge : ∀ i, used k i → w.heap.size + 4 ≤ G i ∧ G i < wr.heap.size
  inj : ∀ i j, used k i → used k j → i ≠ j → G i ≠ G j
  bel : Below w.heap.size w wr
theorem wC_next (k s g : Nat) (h : k < 3) (G G' : Nat → Nat) (L : Nat → List Int) (he : ∀ i, i < k → G' (s + i) = G (s + i)) (hg : G' (s + k) = g) : (wC k s G L).setIfInBounds k (nS g (L (s + k))) = wC (k + 1) s G' L := by
  subst hg
  rcases (by omega : k = 0 ∨ k = 1 ∨ k = 2) with rfl | rfl | rfl
  · rfl
  · have := he 0 (by omega); unfold wC; simp at this ⊢; rw [this]
  · have h0 := he 0 (by omega); have h1 := he 1 (by omega); unfold wC; simp at h0 h1 ⊢; rw [h0, h1]; exact ⟨rfl, rfl⟩
theorem cC_next (k g1 g2 : Nat) (h : k < 3) (G : Nat → Nat) (L : Nat → List Int) (mg : Int) : ((cC k G L mg).setIfInBounds k (cS g1 (L k))).setIfInBounds (3 + k) (cS g2 (L (3 + k))) = cC (k + 1) (putG k g1 g2 G) L mg := by
  rcases (by omega : k = 0 ∨ k = 1 ∨ k = 2) with rfl | rfl | rfl <;> rfl
theorem lent_cell {w : World} {g : Nat} {l : List Int} (h : Lent w g l) : ∀ j (hj : j < (numsL l 8).length), w.cell? ⟨g, j, none⟩ = some (.int .i64 ((numsL l 8)[j])) := by
  intro j hj
  have hl := numsL_len l 8 (by omega)
  have := h.cellAt j (by omega)
  rw [this, List.getElem?_map, List.getElem?_eq_getElem hj]; rfl
theorem lent_ints {w : World} {g : Nat} {l : List Int} (h : Lent w g l) : IntsAt w (cS g l) l := by
  refine ⟨_, _, g, 0, rfl, fun _ => ⟨rfl, (h.lt g rfl).2⟩, fun k hk => ?_⟩
  have hl := numsL_len l 8 (by omega)
  have := lent_cell h k (by omega)
  rw [Nat.zero_add, this]
  have e : (numsL l 8)[k]'(by omega) = l[k] := by simp only [numsL]; rw [List.getElem_append_left hk]
  rw [e]
theorem run_cut (g len cap : Nat) (h : len ≤ cap) (wx : World) : (Instr.slice 28 (.slice (some ⟨g, 0, none⟩) (len + 8) cap) none (some (.int .i64 (len : Int))) none).run Tryz.prog wx = .ok (.slice (some ⟨g, 0, none⟩) len cap) wx := by
  go_simp
theorem IntsAt.at_ {w W wc : World} {v : Value} {l : List Int} {S : Nat → Prop} (h : IntsAt w v l) (hb : Below w.heap.size w W) (ht : Tch S W wc) (hs : ∀ b, S b → w.heap.size ≤ b) : IntsAt wc v l := by
  obtain ⟨a, cap, g, off, rfl, h1, h2⟩ := h
  refine ⟨a, cap, g, off, rfl, fun h => ⟨(h1 h).1, Nat.lt_of_lt_of_le (h1 h).2 (Nat.le_trans hb.size ht.size)⟩, fun k hk => ?_⟩
  have hg := (h1 (by omega)).2
  exact (World.cell?_of_block (w := W) (a := ⟨g, off + k, none⟩) (ht.block g (Nat.lt_of_lt_of_le hg hb.size) (fun x => by have := hs g x; omega))).trans ((hb.cell (p := ⟨g, off + k, none⟩) hg).trans (h2 k hk))
theorem heapN {w w' : World} {a : Obj} (h : Below (w.alloc a).heap.size (w.alloc a) w') : w'.heap[w.heap.size]? = some a := (h.block _ (by simp)).trans (heap_alloc_new w a)
theorem heap4_0 (w : World) (a b c d : Obj) : ((((w.alloc a).alloc b).alloc c).alloc d).heap[w.heap.size]? = some a := heapN ((((Below.refl _ _).alloc (Nat.le_refl _) b).alloc (by simp) c).alloc (by simp) d)
theorem heap4_1 (w : World) (a b c d : Obj) : ((((w.alloc a).alloc b).alloc c).alloc d).heap[w.heap.size + 1]? = some b := by
  have := heapN (((Below.refl _ ((w.alloc a).alloc b)).alloc (Nat.le_refl _) c).alloc (by simp) d)
  rwa [show (w.alloc a).heap.size = w.heap.size + 1 by simp] at this
theorem heap4_2 (w : World) (a b c d : Obj) : ((((w.alloc a).alloc b).alloc c).alloc d).heap[w.heap.size + 2]? = some c := by
  have := heapN ((Below.refl _ (((w.alloc a).alloc b).alloc c)).alloc (Nat.le_refl _) d)
  rwa [show ((w.alloc a).alloc b).heap.size = w.heap.size + 2 by simp] at this
theorem heap4_3 (w : World) (a b c d : Obj) : ((((w.alloc a).alloc b).alloc c).alloc d).heap[w.heap.size + 3]? = some d := by
  have := heapN (Below.refl _ ((((w.alloc a).alloc b).alloc c).alloc d))
  rwa [show (((w.alloc a).alloc b).alloc c).heap.size = w.heap.size + 3 by simp] at this
theorem C1.next {w wr W10 W11 : World} {oc : Array Value} {mg : Int} {L : Nat → List Int} {k g1 g2 : Nat} {G : Nat → Nat} (h : C1 w wr oc mg L k G) (hk : k < 3) (l1 : Lent W10 g1 (L k)) (l2 : Lent W10 g2 (L (3 + k))) (T10 : Tch (fun b => b = w.heap.size + 1 + 1 ∨ b = w.heap.size + 1 + 1 + 1) wr W10)
    (wa : W10.heap[w.heap.size + 1 + 1]? = some (.cells ((wC k 0 G L).setIfInBounds k (nS g1 (L k))) 29 (0, 0))) (aa : W10.heap[w.heap.size + 1 + 1 + 1]? = some (.cells ((wC k 3 G L).setIfInBounds k (nS g2 (L (3 + k)))) 29 (0, 0)))
    (ob : W10.heap[w.heap.size]? = some (.cells oc 33 (0, 0))) (q6 : g1 < g2) (q7 : g2 < W10.heap.size) (q8 : g1 = wr.heap.size) (t11 : Tch (fun b => b = w.heap.size + 1) W10 W11) (b11 : W11.heap[w.heap.size + 1]? = some (.cells ((cC k G L mg).setIfInBounds k (cS g1 (L k))) 31 (0, 0))) :
    C1 w (W11.setCell ⟨w.heap.size + 1, 3 + k, none⟩ (cS g2 (L (3 + k)))).drew oc mg L (k + 1) (putG k g1 g2 G) := by
  have tf := (tset W11 (w.heap.size + 1) (3 + k) (cS g2 (L (3 + k)))).drew
  have tt : Tch (fun b => b = w.heap.size + 1) W10 (W11.setCell ⟨w.heap.size + 1, 3 + k, none⟩ (cS g2 (L (3 + k)))).drew := t11.trans tf
  have hz3 : w.heap.size + 3 < wr.heap.size := blk_lt h.aa
  have pk : putG k g1 g2 G k = g1 := by unfold putG; rw [if_pos rfl]
  have p3 : putG k g1 g2 G (3 + k) = g2 := by unfold putG; rw [if_neg (by omega), if_pos rfl]
  have po : ∀ i, used k i → putG k g1 g2 G i = G i := by
    intro i hi; unfold putG
    unfold used at hi
    rw [if_neg (by omega), if_neg (by omega)]
  have cases4 : ∀ i, used (k + 1) i → used k i ∨ i = k ∨ i = 3 + k := by intro i hi; unfold used at *; omega
  have lentF : ∀ {g : Nat} {l : List Int}, Lent W10 g l → w.heap.size + 4 ≤ g → Lent (W11.setCell ⟨w.heap.size + 1, 3 + k, none⟩ (cS g2 (L (3 + k)))).drew g l := fun {g l} hl hg =>
    owns_tch hl tt (fun b hb e => by simp only [nS, Value.ownBlock, Option.some.injEq] at hb; omega)
  have lentO : ∀ i, used k i → Lent W10 (G i) (L i) := fun i hi =>
    owns_tch (h.rows i hi) T10 (fun b hb e => by simp only [nS, Value.ownBlock, Option.some.injEq] at hb; have := (h.ge i hi).1; omega)
  have hsF := tt.size
  have hs10 := T10.size
  refine ⟨?_, ?_, ?_, ?_, ?_, ?_, ?_, ?_⟩
  · exact (tt.block _ (blk_lt ob) (by omega)).trans ob
  · have := blk_set (k := 3 + k) (x := cS g2 (L (3 + k))) b11
    rw [cC_next k g1 g2 hk] at this
    exact this
  · rw [← wC_next k 0 g1 hk G (putG k g1 g2 G) L (fun i hi => by rw [Nat.zero_add]; exact po i (.inl hi)) (by rw [Nat.zero_add]; exact pk), Nat.zero_add]
    exact (tt.block _ (blk_lt wa) (by omega)).trans wa
  · rw [← wC_next k 3 g2 hk G (putG k g1 g2 G) L (fun i hi => po (3 + i) (.inr ⟨by omega, by omega⟩)) p3]
    exact (tt.block _ (blk_lt aa) (by omega)).trans aa
  · intro i hi
    rcases cases4 i hi with q | rfl | rfl
    · rw [po i q]; exact lentF (lentO i q) (h.ge i q).1
    · rw [pk]; exact lentF l1 (by omega)
    · rw [p3]; exact lentF l2 (by omega)
  · intro i hi
    rcases cases4 i hi with q | rfl | rfl
    · rw [po i q]; have := h.ge i q; exact ⟨this.1, by omega⟩
    · rw [pk]; exact ⟨by omega, by omega⟩
    · rw [p3]; exact ⟨by omega, by omega⟩
  · intro i j hi hj hne
    rcases cases4 i hi with q | rfl | rfl <;> rcases cases4 j hj with q' | q' | q'
    · rw [po i q, po j q']; exact h.inj i j q q' hne
    · subst q'; rw [po i q, pk]; have := (h.ge i q).2; omega
    · subst q'; rw [po i q, p3]; have := (h.ge i q).2; omega
    · rw [po j q', pk]; have := (h.ge j q').2; omega
    · omega
    · subst q'; rw [pk, p3]; omega
    · rw [po j q', p3]; have := (h.ge j q').2; omega
    · subst q'; rw [pk, p3]; omega
    · omega
  · refine h.bel.trans (((T10.mono (T := fun b => w.heap.size ≤ b) (fun b hb => by omega)).trans (tt.mono (fun b hb => by omega))).below h.bel.size (fun b hb => hb))
section
variable {P : Pg}
theorem IntsAt.bel {w wr : World} {B : Nat} {v : Value} {l : List Int} (h : IntsAt w v l) (hv : 0 < l.length → ∀ b, v.ownBlock = some b → b < B) (hb : Below B w wr) : IntsAt wr v l := by
  obtain ⟨a, cap, g, off, rfl, h1, h2⟩ := h
  refine ⟨a, cap, g, off, rfl, fun h => ⟨(h1 h).1, ?_⟩, fun k hk => ?_⟩
  · exact Nat.lt_of_lt_of_le (h1 h).2 hb.size
  · obtain ⟨rfl, hg⟩ := h1 (by omega)
    exact (hb.cell (p := ⟨g, off + k, none⟩) (hv (by omega) g rfl)).trans (h2 k hk)
theorem RI.mono {w : World} {B B' rb : Nat} {v : RV} {m : RE} (h : RI w B rb v m) (hb : B' ≤ B) : RI w B' rb v m :=
  ⟨h.blk, Nat.le_trans hb h.ge, owns_mono h.ot hb, owns_mono h.om hb, fun x hx => owns_mono (h.oc x hx) hb, h.t1, h.m1, h.tm, h.c1⟩
theorem cell_ptr2 (w : World) (o : Obj) (x : Value) (T : Nat) : ∀ (j : Nat) (u : Value), [x][j]? = some u → ((w.alloc o).alloc (.cells #[x] T)).cell? (Addr.add ⟨w.heap.size + 1, 0, none⟩ j) = some u := by
  intro j u hu
  match j with
  | 0 => simp at hu; subst hu; simp [Addr.add]
  | j + 1 => simp at hu
theorem WE.add {w w7 : World} {B wb n gv cap : Nat} {vp vh : Value} {es : List HE} {ps : List (PL P)} {o : Obj} (h : WE w B wb vp vh es ps n) (x : PL P) (hx : PI1 w B x) (hl : x.m.Lim n) (hf : ∀ b, x.in_ b → ¬ Busy wb vp vh es ps b) (hlen : ps.length < 5)
    (hr : (w.alloc o).grownBy w7 vp.ownBlock) (own : w7.ownsRow B 107 1 (.slice (some ⟨gv, 0, none⟩) (ps.length + 1) cap) (ps.length + 1) (ps.map PL.ptr ++ [x.ptr])) (hat : vp.ownBlock = some gv ∨ gv = w.heap.size + 1) :
    WE (w7.setCell ⟨wb, 0, none⟩ (.slice (some ⟨gv, 0, none⟩) (ps.length + 1) cap)) B wb (.slice (some ⟨gv, 0, none⟩) (ps.length + 1) cap) vh es (ps ++ [x]) n ∧ Tch (fun b => b = wb ∨ vp.ownBlock = some b) w (w7.setCell ⟨wb, 0, none⟩ (.slice (some ⟨gv, 0, none⟩) (ps.length + 1) cap)) := by
  have ht1 : Tch (fun b => vp.ownBlock = some b) w w7 := tch_grown hr
  have ht : Tch (fun b => b = wb ∨ vp.ownBlock = some b) w (w7.setCell ⟨wb, 0, none⟩ (.slice (some ⟨gv, 0, none⟩) (ps.length + 1) cap)) := (ht1.mono (fun _ h => .inr h)).trans ((tset w7 wb 0 _).mono (fun _ h => .inl h))
  have vpw : vp.ownBlock ≠ some wb := fun e => (h.vw wb e).1 rfl
  have hwb : w7.heap[wb]? = w.heap[wb]? := ht1.block wb h.wi.lt vpw
  have hgv : ∀ b, b < w.heap.size → vp.ownBlock ≠ some b → gv ≠ b := by
    intro b hb hn e
    rcases hat with h' | h'
    · exact hn (e ▸ h')
    · omega
  have hgw : gv ≠ wb := hgv wb h.wi.lt vpw
  have d0 : w7.cell? ⟨wb, 0, none⟩ = some vp := (World.cell?_of_block (w := w) (a := ⟨wb, 0, none⟩) hwb).trans h.wi.p
  have hsz := ht.size
  have vhT : ∀ b, vh.ownBlock = some b → ¬ (b = wb ∨ vp.ownBlock = some b) := by
    rintro b hb (e | e)
    · exact h.wi.ne (e ▸ hb)
    · exact (h.vw b e).2.1 hb
  have esT : ∀ e ∈ es, ∀ b, e.in_ b → ¬ (b = wb ∨ vp.ownBlock = some b) := by
    rintro e he b hb (q | q)
    · exact (h.wi.sep e he b hb).2.2.1 q
    · exact (h.vw b q).2.2 e he hb
  have psT : ∀ y ∈ ps, ∀ b, y.in_ b → ¬ (b = wb ∨ vp.ownBlock = some b) := by
    rintro y hy b hb (q | q)
    · exact (h.sp y hy b hb).1 q
    · exact (h.sp y hy b hb).2.2.1 q
  have xT : ∀ b, x.in_ b → ¬ (b = wb ∨ vp.ownBlock = some b) := by
    rintro b hb (q | q)
    · exact hf b hb (.inl q)
    · exact hf b hb (.inr (.inr (.inl q)))
  have mem : ∀ y ∈ ps ++ [x], y ∈ ps ∨ y = x := fun y hy => by
    rcases List.mem_append.1 hy with q | q
    · exact .inl q
    · exact .inr (List.mem_singleton.1 q)
  refine ⟨⟨⟨?_, ?_, ?_, ?_, owns_tch h.wi.own ht vhT, ?_, Nat.lt_of_lt_of_le h.wi.lt hsz, h.wi.ge, h.wi.ne, ?_⟩, ?_, by simp; omega, ?_, ?_, ?_, ?_, ?_⟩, ht⟩
  · exact World.cell?_setCell_same' w7 _ _ (by rw [d0]; rfl)
  · exact (World.cell?_setCell_other _ _ _ _ (by simp)).trans ((World.cell?_of_block (w := w) (a := ⟨wb, 1, none⟩) hwb).trans h.wi.h)
  · have := (World.frozen?_of_block (w := w) (a := ⟨wb, 1, none⟩) hwb).trans h.wi.f
    simpa using this
  · have := (World.frozen?_of_block (w := w) (a := ⟨wb, 0, none⟩) hwb).trans h.wi.f0
    simpa using this
  · exact fun e he => hi_of (h.wi.all e he) (fun b hb => ht.block b (h.wi.sep e he b hb).2.1 (esT e he b hb))
  · intro e he b hb
    obtain ⟨q1, q2, q3, q4⟩ := h.wi.sep e he b hb
    exact ⟨q1, by omega, q3, q4⟩
  · have := owns_tch own (tset w7 wb 0 (.slice (some ⟨gv, 0, none⟩) (ps.length + 1) cap)) (fun b h1 h2 => hgw (by simp only [Value.ownBlock, Option.some.injEq] at h1; omega))
    simpa using this
  · intro b hb
    simp only [Value.ownBlock, Option.some.injEq] at hb
    subst hb
    rcases hat with q | q
    · exact h.vw gv q
    · refine ⟨hgw, fun e => by have := (h.wi.own.lt gv e).2; omega, fun e he r => by have := (h.wi.sep e he gv r).2.1; omega⟩
  · intro y hy
    rcases mem y hy with q | rfl
    · exact (h.pi y q).of_tch ht (psT y q)
    · exact hx.of_tch ht xT
  · intro y hy
    rcases mem y hy with q | rfl
    · exact h.lim y q
    · exact hl
  · intro y hy b hb
    rcases mem y hy with q | rfl
    · obtain ⟨a1, a2, a3, a4⟩ := h.sp y q b hb
      refine ⟨a1, a2, ?_, a4⟩
      simp only [Value.ownBlock, ne_eq, Option.some.injEq]
      exact hgv b ((h.pi y q).lt b hb).2 a3
    · have hn := hf b hb
      refine ⟨fun e => hn (.inl e), fun e => hn (.inr (.inl e)), ?_, fun e he r => hn (.inr (.inr (.inr (.inl ⟨e, he, r⟩))))⟩
      simp only [Value.ownBlock, ne_eq, Option.some.injEq]
      exact hgv b (hx.lt b hb).2 (fun e => hn (.inr (.inr (.inl e))))
  · intro i j hij p q hp hq b hpb hqb
    have hjl := (List.getElem?_eq_some_iff.1 hq).1
    rw [List.length_append, List.length_singleton] at hjl
    rw [List.getElem?_append_left (by omega)] at hp
    by_cases hj : j < ps.length
    · rw [List.getElem?_append_left hj] at hq
      exact h.pw i j hij p q hp hq b hpb hqb
    · have hje : j = ps.length := by omega
      subst hje
      rw [List.getElem?_append_right (Nat.le_refl _), Nat.sub_self] at hq
      have eq : q = x := by simpa using hq.symm
      subst eq
      exact hf b hqb (.inr (.inr (.inr (.inr ⟨p, List.mem_of_getElem? hp, hpb⟩))))
theorem Tryz.infoP : (Tryz.prog.info? 107).map (fun i => (i.zero, i.size, i.bytes)) = some (some (.pointer none), 1, 8) := by kernel_rfl
structure C2 (ps : List (PL P)) (w w2 wr : World) (B wb n : Nat) (vp vh : Value) (es : List HE) (oc : Array Value) (L : Nat → List Int) (G : Nat → Nat) (T : Nat → Prop) (R : World → Prop) (U : Nat → Prop) (c : Nat) (vh' : Value) (es' : List HE) : Prop where
  ob : wr.heap[w.heap.size]? = some (.cells oc 33 (0, 0))
  wa : wr.heap[w.heap.size + 1 + 1]? = some (.cells (wC 3 0 G L) 29 (0, 0))
  aa : wr.heap[w.heap.size + 1 + 1 + 1]? = some (.cells (wC 3 3 G L) 29 (0, 0))
  we : WE wr B wb vp vh' es' ps n
  len : es'.length = es.length + c
  rows : ∀ i, i < 6 → ¬ U i → Lent wr (G i) (L i)
  fb : ∀ b, Busy wb vp vh' es' ps b → Busy wb vp vh es ps b ∨ (∃ i, i < 6 ∧ U i ∧ b = G i) ∨ w2.heap.size ≤ b
  r : R wr
  sz : w2.heap.size ≤ wr.heap.size
  bel : Below B w wr
structure C2F (ps : List (PL P)) (w w2 : World) (B wb : Nat) (vp vh : Value) (es : List HE) (G : Nat → Nat) (T : Nat → Prop) (R : World → Prop) : Prop where
  g : ∀ i, i < 6 → w.heap.size + 4 ≤ G i ∧ G i < w2.heap.size ∧ ¬ T (G i)
  inj : ∀ i j, i < 6 → j < 6 → i ≠ j → G i ≠ G j
  t : ∀ b, T b → w.heap.size + 4 ≤ b ∧ b < w2.heap.size
  o : ∀ b, Busy wb vp vh es ps b → b < w.heap.size
  r : ∀ (W W' : World) (S : Nat → Prop), R W → Tch S W W' → (∀ b, T b → ¬ S b) → R W'
  z : w.heap.size + 4 ≤ w2.heap.size
  b : B ≤ w.heap.size
theorem C2.free {ps : List (PL P)} {w w2 wr : World} {B wb n : Nat} {vp vh vh' : Value} {es es' : List HE} {oc : Array Value} {L : Nat → List Int} {G : Nat → Nat} {T : Nat → Prop} {R : World → Prop} {U : Nat → Prop} {c : Nat} (h : C2 ps w w2 wr B wb n vp vh es oc L G T R U c vh' es') (f : C2F ps w w2 B wb vp vh es G T R) (b : Nat) (h1 : w.heap.size ≤ b) (h2 : b < w2.heap.size) (h3 : ∀ i, i < 6 → U i → b ≠ G i) : ¬ Busy wb vp vh' es' ps b := by
  intro x
  rcases h.fb b x with q | ⟨i, hi, hu, q⟩ | q
  · have := f.o b q; omega
  · exact h3 i hi hu q
  · omega
theorem C2.below {ps : List (PL P)} {w w2 wr wr' : World} {B wb n : Nat} {vp vh vh' : Value} {es es' : List HE} {oc : Array Value} {L : Nat → List Int} {G : Nat → Nat} {T : Nat → Prop} {R : World → Prop} {U : Nat → Prop} {c : Nat} (h : C2 ps w w2 wr B wb n vp vh es oc L G T R U c vh' es') (f : C2F ps w w2 B wb vp vh es G T R) (hb : Below wr.heap.size wr wr') : C2 ps w w2 wr' B wb n vp vh es oc L G T R U c vh' es' :=
  ⟨(hb.block _ (blk_lt h.ob)).trans h.ob, (hb.block _ (blk_lt h.wa)).trans h.wa, (hb.block _ (blk_lt h.aa)).trans h.aa, h.we.below hb, h.len, fun i hi hu => owns_below (h.rows i hi hu) hb, h.fb,
   f.r _ _ (fun _ => False) h.r (Tch.of_below hb) (fun _ _ x => x), Nat.le_trans h.sz hb.size, h.bel.trans (hb.mono (Nat.le_trans f.b h.bel.size))⟩
theorem C2.keep {ps : List (PL P)} {w w2 wr wr' : World} {B wb n : Nat} {vp vh vh' vh2 : Value} {es es' es2 : List HE} {oc : Array Value} {L : Nat → List Int} {G : Nat → Nat} {T : Nat → Prop} {R : World → Prop} {U : Nat → Prop} {c : Nat} (h : C2 ps w w2 wr B wb n vp vh es oc L G T R U c vh' es') (f : C2F ps w w2 B wb vp vh es G T R) (j : Nat) (hj : j < 6)
    (len : es2.length = es'.length + 4) (we : WE wr' B wb vp vh2 es2 ps n) (ht : Tch (fun b => b = wb ∨ vh'.ownBlock = some b ∨ (nS (G j) (L j)).ownBlock = some b) wr wr') (hv : ∀ b, vh2.ownBlock = some b → vh'.ownBlock = some b ∨ wr.heap.size ≤ b) (he : ∀ e ∈ es2, ∀ b, e.in_ b → (∃ f ∈ es', f.in_ b) ∨ (nS (G j) (L j)).ownBlock = some b ∨ wr.heap.size ≤ b) :
    C2 ps w w2 wr' B wb n vp vh es oc L G T R (fun i => U i ∨ i = j) (c + 4) vh2 es2 := by
  have gj : ∀ b, (nS (G j) (L j)).ownBlock = some b → b = G j := fun b hb => by simp only [nS, Value.ownBlock, Option.some.injEq] at hb; exact hb.symm
  have off : ∀ b, w.heap.size ≤ b → b < w2.heap.size → (∀ i, i < 6 → U i → b ≠ G i) → b ≠ G j → ¬ (b = wb ∨ vh'.ownBlock = some b ∨ (nS (G j) (L j)).ownBlock = some b) := by
    intro b h1 h2 h3 h4
    have hf := h.free f b h1 h2 h3
    rintro (q | q | q)
    · exact hf (.inl q)
    · exact hf (.inr (.inl q))
    · exact h4 (gj b q)
  have g4 := fun i hi => f.g i hi
  have loc : ∀ b, w.heap.size ≤ b → b < w.heap.size + 4 → ¬ (b = wb ∨ vh'.ownBlock = some b ∨ (nS (G j) (L j)).ownBlock = some b) := fun b h1 h2 =>
    off b h1 (by have := f.z; omega) (fun i hi _ e => by have := (g4 i hi).1; omega) (fun e => by have := (g4 j hj).1; omega)
  refine ⟨(ht.block _ (blk_lt h.ob) (loc _ (by omega) (by omega))).trans h.ob, (ht.block _ (blk_lt h.wa) (loc _ (by omega) (by omega))).trans h.wa, (ht.block _ (blk_lt h.aa) (loc _ (by omega) (by omega))).trans h.aa, we, by rw [len, h.len]; omega, ?_, ?_, ?_, Nat.le_trans h.sz ht.size, ?_⟩
  · intro i hi hn
    have hn1 : ¬ U i := fun x => hn (.inl x)
    have hn2 : i ≠ j := fun x => hn (.inr x)
    refine owns_tch (h.rows i hi hn1) ht (fun b hb => ?_)
    have eb : b = G i := by simp only [nS, Value.ownBlock, Option.some.injEq] at hb; exact hb.symm
    subst eb
    refine off _ (by have := (g4 i hi).1; omega) (g4 i hi).2.1 (fun a ha hua e => ?_) (f.inj i j hi hj hn2)
    by_cases q : i = a
    · subst q; exact hn1 hua
    · exact f.inj i a hi ha q e
  · have hb0 : ∀ b, Busy wb vp vh' es' ps b → Busy wb vp vh es ps b ∨ (∃ i, i < 6 ∧ (U i ∨ i = j) ∧ b = G i) ∨ w2.heap.size ≤ b := by
      intro b x
      rcases h.fb b x with q | ⟨i, hi, hu, q⟩ | q
      · exact .inl q
      · exact .inr (.inl ⟨i, hi, .inl hu, q⟩)
      · exact .inr (.inr q)
    have hsz := h.sz
    rintro b (q | q | q | ⟨e, hm, q⟩ | ⟨x, hx, q⟩)
    · exact hb0 b (.inl q)
    · rcases hv b q with r | r
      · exact hb0 b (.inr (.inl r))
      · exact .inr (.inr (by omega))
    · exact hb0 b (.inr (.inr (.inl q)))
    · rcases he e hm b q with ⟨f', hf', r⟩ | r | r
      · exact hb0 b (.inr (.inr (.inr (.inl ⟨f', hf', r⟩))))
      · exact .inr (.inl ⟨j, hj, .inr rfl, gj b r⟩)
      · exact .inr (.inr (by omega))
    · exact hb0 b (.inr (.inr (.inr (.inr ⟨x, hx, q⟩))))
  · refine f.r _ _ _ h.r ht (fun b hb => ?_)
    have := f.t b hb
    exact off b (by omega) this.2 (fun i hi _ e => (g4 i hi).2.2 (e ▸ hb)) (fun e => (g4 j hj).2.2 (e ▸ hb))
  · refine h.bel.trans (ht.below (Nat.le_trans f.b h.bel.size) ?_)
    rintro b (q | q | q)
    · rw [q]; exact h.we.wi.ge
    · exact (h.we.wi.own.lt b q).1
    · rw [gj b q]; have := (g4 j hj).1; have := f.b; omega
theorem C2.cong {ps : List (PL P)} {w w2 wr : World} {B wb n : Nat} {vp vh vh' : Value} {es es' : List HE} {oc : Array Value} {L : Nat → List Int} {G : Nat → Nat} {T : Nat → Prop} {R : World → Prop} {U U' : Nat → Prop} {c c' : Nat} (h : C2 ps w w2 wr B wb n vp vh es oc L G T R U c vh' es') (hu : ∀ i, U i ↔ U' i) (hc : c = c') : C2 ps w w2 wr B wb n vp vh es oc L G T R U' c' vh' es' := by
  subst hc
  exact ⟨h.ob, h.wa, h.aa, h.we, h.len, fun i hi hn => h.rows i hi (fun x => hn ((hu i).1 x)), fun b hb => (h.fb b hb).imp id (fun x => x.imp (fun ⟨i, a, b, c⟩ => ⟨i, a, (hu i).1 b, c⟩) id), h.r, h.sz, h.bel⟩
def CrR (P : Pg) (w w' : World) (B wb : Nat) (es : List HE) (n : Nat) : Prop := ∃ (vp' vh' : Value) (es' : List HE) (ps' : List (PL P)), es'.length = es.length + 24 ∧ WE w' B wb vp' vh' es' ps' n ∧ Below B w w'
set_option maxRecDepth 100000 in
set_option maxHeartbeats 4000000 in
theorem created_any {aS aC aF aL aO aH : Addr} {B wb : Nat} {vp vh : Value} {n : Nat} {es : List HE} {ps : List (PL P)} (w : World) (hgl : Gl w aS aC aF aL aO aH) (hw : WE w B wb vp vh es ps n) (hes : es.length + 24 ≤ 17000000000000) (kd nn code id : Int) (d s : ByteArray) (X : Nat → Value) (L : Nat → List Int) (mg ev : Int)
    (hX : ∀ i, i < 6 → IntsAt w (X i) (L i)) (hXB : ∀ i, i < 6 → 0 < (L i).length → ∀ b, (X i).ownBlock = some b → b < B) (hL : ∀ i, i < 6 → (L i).length ≤ 17592186043904) :
    Calls Tryz.prog 58 #[.pointer (some ⟨wb, 0, none⟩), .agg (opA kd nn code id d s X mg ev)] w fun r w' => r = .returned (.bool true) ∧ CrR P w w' B wb es n := by
  have HX : Hid (∀ i, i < 6 → IntsAt w (X i) (L i)) := hX
  have HLn : Hid (∀ i, i < 6 → (L i).length ≤ 17592186043904) := hL
  have HXB : Hid (∀ i, i < 6 → 0 < (L i).length → ∀ b, (X i).ownBlock = some b → b < B) := hXB
  have HW : Hid (WE w B wb vp vh es ps n) := hw
  have HG : Hid (Gl w aS aC aF aL aO aH) := hgl
  clear hX hL hw hgl hXB
  unfold opA
  go_enter Tryz.func58, Tryz.ntmps58
  go_wp2_with fail
  go_loopw [8] (fun i wr => ∃ (k : Nat) (G : Nat → Nat), k ≤ 3 ∧ i = .int .i64 k ∧ Hid (C1 w wr (opA kd nn code id d s X mg ev) mg L k G)) (fun i _ => 3 - (intOf i).toNat)
  case atStart =>
    refine ⟨0, fun _ => 0, by omega, rfl, ?_, ?_, ?_, ?_, fun i hi => by unfold used at hi; omega, fun i hi => by unfold used at hi; omega, fun i j hi => by unfold used at hi; omega, ?_⟩
    · exact heap4_0 w _ _ _ _
    · exact heap4_1 w _ _ _ _
    · exact heap4_2 w _ _ _ _
    · exact heap4_3 w _ _ _ _
    · exact ((((Below.refl _ _).alloc (Nat.le_refl _) _).alloc (by simp) _).alloc (by simp; omega) _).alloc (by simp; omega) _
  case round =>
    obtain ⟨k, G, hk, rfl, HC⟩ := hrel
    by_cases hlt : k < 3
    · have hI : (k : Int) < 3 := by omega
      have c6 : wr.cell? ⟨w.heap.size, 6 + k, none⟩ = some (X k) := by
        rcases (by omega : k = 0 ∨ k = 1 ∨ k = 2) with rfl | rfl | rfl <;> exact blk_cell HC.out.ob
      have hz0 : w.heap.size < wr.heap.size := blk_lt HC.out.ob
      have hz1 : w.heap.size + 1 < wr.heap.size := blk_lt HC.out.cb
      have hz2 : w.heap.size + 2 < wr.heap.size := blk_lt HC.out.wa
      have hz3 : w.heap.size + 3 < wr.heap.size := blk_lt HC.out.aa
      go_upto_region 8 with fail
      refine (nums_any (X k) (L k) wr ((HX.out k (by omega)).below HC.out.bel) (HLn.out k (by omega))).mono ?_
      rintro e w1 ⟨rfl, ho1, hb1⟩
      have b2 := (hb1.block _ hz2).trans HC.out.wa
      obtain ⟨old2, hold2⟩ : ∃ old, (wC k 0 G L)[k]? = some old := by
        rcases (by omega : k = 0 ∨ k = 1 ∨ k = 2) with rfl | rfl | rfl <;> exact ⟨_, rfl⟩
      have e2 : w1.cell? ⟨w.heap.size + 1 + 1, k, none⟩ = some old2 := (blk_cell b2).trans hold2
      have f2 : w1.frozen? ⟨w.heap.size + 1 + 1, k, none⟩ = false := blk_free b2
      have H1 : Hid (w1.heap[w.heap.size + 1 + 1]? = some (.cells (wC k 0 G L) 29 (0, 0)) ∧ Lent w1 wr.heap.size (L k) ∧ Below wr.heap.size wr w1) := ⟨b2, ho1, hb1⟩
      have hz7 : wr.heap.size < w1.heap.size := (ho1.lt _ rfl).2
      have hs7 := hb1.size
      clear b2 hold2 ho1 hb1 c6
      go_upto_region 8 with fail
      have t8 : Tch (fun b => b = w.heap.size + 1 + 1) w1 (w1.setCell ⟨w.heap.size + 1 + 1, k, none⟩ (.slice (some ⟨wr.heap.size, 0, none⟩) ((L k).length + 8) ((L k).length + 8))) := tset _ _ _ _
      have b8 := blk_set (k := k) (x := .slice (some ⟨wr.heap.size, 0, none⟩) ((L k).length + 8) ((L k).length + 8)) H1.out.1
      have H8 : Hid (Tch (fun b => b = w.heap.size + 1 + 1) w1 (w1.setCell ⟨w.heap.size + 1 + 1, k, none⟩ (.slice (some ⟨wr.heap.size, 0, none⟩) ((L k).length + 8) ((L k).length + 8))) ∧ (w1.setCell ⟨w.heap.size + 1 + 1, k, none⟩ (.slice (some ⟨wr.heap.size, 0, none⟩) ((L k).length + 8) ((L k).length + 8))).heap[w.heap.size + 1 + 1]? = some (.cells ((wC k 0 G L).setIfInBounds k (nS wr.heap.size (L k))) 29 (0, 0))) := ⟨t8, b8⟩
      have hsz8 : (w1.setCell ⟨w.heap.size + 1 + 1, k, none⟩ (.slice (some ⟨wr.heap.size, 0, none⟩) ((L k).length + 8) ((L k).length + 8))).heap.size = w1.heap.size := by simp
      have HS8 : Hid (_) := hsz8
      clear t8 b8 e2 f2 hsz8
      generalize w1.setCell ⟨w.heap.size + 1 + 1, k, none⟩ (.slice (some ⟨wr.heap.size, 0, none⟩) ((L k).length + 8) ((L k).length + 8)) = W8 at *
      have T8 : Hid (Tch (fun b => b = w.heap.size + 1 + 1) wr W8) := (Tch.of_below H1.out.2.2).trans H8.out.1
      have ob8 := (T8.out.block _ hz0 (by omega)).trans HC.out.ob
      have c9 : W8.cell? ⟨w.heap.size, 9 + k, none⟩ = some (X (3 + k)) := by
        rcases (by omega : k = 0 ∨ k = 1 ∨ k = 2) with rfl | rfl | rfl <;> exact blk_cell ob8
      clear ob8
      go_upto_region 9 with fail
      refine (nums_any (X (3 + k)) (L (3 + k)) W8 ((HX.out (3 + k) (by omega)).at_ HC.out.bel T8.out (fun b hb => by omega)) (HLn.out (3 + k) (by omega))).mono ?_
      rintro e w9 ⟨rfl, ho9, hb9⟩
      have hz8 : wr.heap.size < W8.heap.size := by rw [HS8.out]; exact hz7
      have aa9 := (hb9.block _ (by omega)).trans ((T8.out.block _ hz3 (by omega)).trans HC.out.aa)
      obtain ⟨old3, hold3⟩ : ∃ old, (wC k 3 G L)[k]? = some old := by
        rcases (by omega : k = 0 ∨ k = 1 ∨ k = 2) with rfl | rfl | rfl <;> exact ⟨_, rfl⟩
      have e3 : w9.cell? ⟨w.heap.size + 1 + 1 + 1, k, none⟩ = some old3 := (blk_cell aa9).trans hold3
      have f3 : w9.frozen? ⟨w.heap.size + 1 + 1 + 1, k, none⟩ = false := blk_free aa9
      have wa9 := (hb9.block _ (by omega)).trans H8.out.2
      have l9 : Lent w9 wr.heap.size (L k) := owns_below (owns_tch H1.out.2.1 H8.out.1 (fun b hb e => by simp only [nS, Value.ownBlock, Option.some.injEq] at hb; omega)) hb9
      have T9 : Tch (fun b => b = w.heap.size + 1 + 1) wr w9 := T8.out.trans (Tch.of_below hb9)
      have lt9 : W8.heap.size < w9.heap.size := (ho9.lt _ rfl).2
      obtain ⟨g1, eg1⟩ : ∃ g, g = wr.heap.size := ⟨_, rfl⟩
      obtain ⟨g2, eg2⟩ : ∃ g, g = W8.heap.size := ⟨_, rfl⟩
      have H9 : Hid (w9.heap[w.heap.size + 1 + 1 + 1]? = some (.cells (wC k 3 G L) 29 (0, 0)) ∧ w9.heap[w.heap.size + 1 + 1]? = some (.cells ((wC k 0 G L).setIfInBounds k (nS g1 (L k))) 29 (0, 0)) ∧ Lent w9 g1 (L k) ∧ Lent w9 g2 (L (3 + k)) ∧ Tch (fun b => b = w.heap.size + 1 + 1) wr w9 ∧ g1 < g2 ∧ g2 < w9.heap.size ∧ g1 = wr.heap.size) := by
        subst eg1 eg2; exact ⟨aa9, wa9, l9, ho9, T9, hz8, lt9, rfl⟩
      rw [← eg2, ← eg1]
      clear hold3 aa9 wa9 l9 T9 ho9 hb9 T8 H8 H1 HS8 c9 hz7 hs7 hz8 lt9 eg1 eg2
      go_upto_region 9 with fail
      have t10 := tset w9 (w.heap.size + 1 + 1 + 1) k (.slice (some ⟨g2, 0, none⟩) ((L (3 + k)).length + 8) ((L (3 + k)).length + 8))
      have b10 := blk_set (k := k) (x := .slice (some ⟨g2, 0, none⟩) ((L (3 + k)).length + 8) ((L (3 + k)).length + 8)) H9.out.1
      have hs10 : (w9.setCell ⟨w.heap.size + 1 + 1 + 1, k, none⟩ (.slice (some ⟨g2, 0, none⟩) ((L (3 + k)).length + 8) ((L (3 + k)).length + 8))).heap.size = w9.heap.size := by simp
      have H10 : Hid (_) := And.intro t10 (And.intro b10 hs10)
      clear t10 b10 hs10 e3 f3
      generalize w9.setCell ⟨w.heap.size + 1 + 1 + 1, k, none⟩ (.slice (some ⟨g2, 0, none⟩) ((L (3 + k)).length + 8) ((L (3 + k)).length + 8)) = W10 at *
      obtain ⟨t10, b10, hs10⟩ := H10.out
      obtain ⟨q1, q2, q3, q4, q5, q6, q7, q8⟩ := H9.out
      have l1 : Lent W10 g1 (L k) := owns_tch q3 t10 (fun b hb e => by simp only [nS, Value.ownBlock, Option.some.injEq] at hb; omega)
      have l2 : Lent W10 g2 (L (3 + k)) := owns_tch q4 t10 (fun b hb e => by simp only [nS, Value.ownBlock, Option.some.injEq] at hb; omega)
      have T10 : Tch (fun b => b = w.heap.size + 1 + 1 ∨ b = w.heap.size + 1 + 1 + 1) wr W10 := (q5.mono (fun _ x => .inl x)).trans (t10.mono (fun _ x => .inr x))
      have wa10 := (t10.block _ (blk_lt q2) (by omega)).trans q2
      have cb10 := (T10.block _ hz1 (by omega)).trans HC.out.cb
      have ob10 := (T10.block _ hz0 (by omega)).trans HC.out.ob
      have HH : Hid (Lent W10 g1 (L k) ∧ Lent W10 g2 (L (3 + k)) ∧ Tch (fun b => b = w.heap.size + 1 + 1 ∨ b = w.heap.size + 1 + 1 + 1) wr W10 ∧ W10.heap[w.heap.size + 1 + 1]? = some (.cells ((wC k 0 G L).setIfInBounds k (nS g1 (L k))) 29 (0, 0)) ∧ W10.heap[w.heap.size + 1 + 1 + 1]? = some (.cells ((wC k 3 G L).setIfInBounds k (nS g2 (L (3 + k)))) 29 (0, 0)) ∧ W10.heap[w.heap.size + 1]? = some (.cells (cC k G L mg) 31 (0, 0)) ∧ W10.heap[w.heap.size]? = some (.cells (opA kd nn code id d s X mg ev) 33 (0, 0)) ∧ g1 < g2 ∧ g2 < W10.heap.size ∧ g1 = wr.heap.size) := ⟨l1, l2, T10, wa10, b10, cb10, ob10, q6, by omega, q8⟩
      obtain ⟨aX, capX, gX, offX, hXk, _, _⟩ := HX.out k (by omega)
      obtain ⟨aY, capY, gY, offY, hYk, _, _⟩ := HX.out (3 + k) (by omega)
      have y1 : W10.cell? ⟨w.heap.size + 1 + 1, k, none⟩ = some (.slice (some ⟨g1, 0, none⟩) ((L k).length + 8) ((L k).length + 8)) := by
        refine (blk_cell wa10).trans ?_
        rcases (by omega : k = 0 ∨ k = 1 ∨ k = 2) with rfl | rfl | rfl <;> rfl
      have y2 : W10.cell? ⟨w.heap.size, 6 + k, none⟩ = some (.slice aX (L k).length capX) := by
        rw [← hXk]
        rcases (by omega : k = 0 ∨ k = 1 ∨ k = 2) with rfl | rfl | rfl <;> exact blk_cell ob10
      obtain ⟨old4, hold4⟩ : ∃ old, (cC k G L mg)[k]? = some old := by
        rcases (by omega : k = 0 ∨ k = 1 ∨ k = 2) with rfl | rfl | rfl <;> exact ⟨_, rfl⟩
      have y3 : W10.cell? ⟨w.heap.size + 1, k, none⟩ = some old4 := (blk_cell cb10).trans hold4
      have y4 : W10.frozen? ⟨w.heap.size + 1, k, none⟩ = false := blk_free cb10
      have hcut := run_cut g1 (L k).length ((L k).length + 8) (by omega)
      have neC : w.heap.size + 1 + 1 ≠ w.heap.size + 1 := by omega
      have neO : w.heap.size ≠ w.heap.size + 1 := by omega
      have hlk : ((L k).length : Int) ≤ (L k).length + 8 := by omega
      clear t10 b10 hs10 q1 q2 q3 q4 q5 q6 q7 q8 l1 l2 T10 wa10 cb10 ob10 H10 H9 hold4 hXk
      go_wp2_with fail
      go_region_held3 (fun w' => w'.cell? ⟨w.heap.size + 1 + 1, k, none⟩ = some (.slice (some ⟨g1, 0, none⟩) ((L k).length + 8) ((L k).length + 8)) ∧ w'.cell? ⟨w.heap.size, 6 + k, none⟩ = some (.slice aX (L k).length capX)) (first | exact ⟨y1, y2⟩ | assumption | exact ⟨(set_ne2 neC).trans y1, (set_ne2 neO).trans y2⟩ | exact ⟨(set_ne neC).trans y1, (set_ne neO).trans y2⟩) (fail)
      go_wp2_with fail
      have t11 := (tset W10 (w.heap.size + 1) k (.slice (some ⟨g1, 0, none⟩) (L k).length ((L k).length + 8))).drew
      have b11 : (W10.setCell ⟨w.heap.size + 1, k, none⟩ (.slice (some ⟨g1, 0, none⟩) (L k).length ((L k).length + 8))).drew.heap[w.heap.size + 1]? = some (.cells ((cC k G L mg).setIfInBounds k (cS g1 (L k))) 31 (0, 0)) := blk_set (k := k) (x := .slice (some ⟨g1, 0, none⟩) (L k).length ((L k).length + 8)) HH.out.2.2.2.2.2.1
      have H11 : Hid (_) := And.intro t11 b11
      clear t11 b11 y1 y2 y3 y4 hcut neC hlk
      generalize (W10.setCell ⟨w.heap.size + 1, k, none⟩ (.slice (some ⟨g1, 0, none⟩) (L k).length ((L k).length + 8))).drew = W11 at *
      obtain ⟨t11, b11⟩ := H11.out
      obtain ⟨l1, l2, T10, wa10, aa10, _, ob10, q6, q7, q8⟩ := HH.out
      have aa11 := (t11.block _ (blk_lt aa10) (by omega)).trans aa10
      have ob11 := (t11.block _ (blk_lt ob10) (by omega)).trans ob10
      have y1 : W11.cell? ⟨w.heap.size + 1 + 1 + 1, k, none⟩ = some (.slice (some ⟨g2, 0, none⟩) ((L (3 + k)).length + 8) ((L (3 + k)).length + 8)) := by
        refine (blk_cell aa11).trans ?_
        rcases (by omega : k = 0 ∨ k = 1 ∨ k = 2) with rfl | rfl | rfl <;> rfl
      have y2 : W11.cell? ⟨w.heap.size, 9 + k, none⟩ = some (.slice aY (L (3 + k)).length capY) := by
        rw [← hYk]
        rcases (by omega : k = 0 ∨ k = 1 ∨ k = 2) with rfl | rfl | rfl <;> exact blk_cell ob11
      obtain ⟨old4, hold4⟩ : ∃ old, ((cC k G L mg).setIfInBounds k (cS g1 (L k)))[3 + k]? = some old := by
        rcases (by omega : k = 0 ∨ k = 1 ∨ k = 2) with rfl | rfl | rfl <;> exact ⟨_, rfl⟩
      have y3 : W11.cell? ⟨w.heap.size + 1, 3 + k, none⟩ = some old4 := (blk_cell b11).trans hold4
      have y4 : W11.frozen? ⟨w.heap.size + 1, 3 + k, none⟩ = false := blk_free b11
      have hcut := run_cut g2 (L (3 + k)).length ((L (3 + k)).length + 8) (by omega)
      have neC : w.heap.size + 1 + 1 + 1 ≠ w.heap.size + 1 := by omega
      have hlk : ((L (3 + k)).length : Int) ≤ (L (3 + k)).length + 8 := by omega
      clear t11 b11 l1 l2 T10 wa10 aa10 ob10 q6 q7 q8 aa11 ob11 hold4 hYk
      go_region_held3 (fun w' => w'.cell? ⟨w.heap.size + 1 + 1 + 1, k, none⟩ = some (.slice (some ⟨g2, 0, none⟩) ((L (3 + k)).length + 8) ((L (3 + k)).length + 8)) ∧ w'.cell? ⟨w.heap.size, 9 + k, none⟩ = some (.slice aY (L (3 + k)).length capY)) (first | exact ⟨y1, y2⟩ | assumption | exact ⟨(set_ne2 neC).trans y1, (set_ne2 neO).trans y2⟩ | exact ⟨(set_ne neC).trans y1, (set_ne neO).trans y2⟩) (fail)
      go_wp2_with fail
      obtain ⟨l1, l2, T10, wa10, aa10, _, ob10, q6, q7, q8⟩ := HH.out
      exact ⟨⟨k + 1, putG k g1 g2 G, by omega, by go_num, HC.out.next hlt l1 l2 T10 wa10 aa10 ob10 q6 q7 q8 H11.out.1 H11.out.2⟩, by simp [intOf]; omega⟩
    · have hk3 : k = 3 := by omega
      subst hk3
      have hcb := HC.out.cb
      have hob := HC.out.ob
      have n0 : wr.cell? ⟨w.heap.size + 1, 0, none⟩ = some (cS (G 0) (L 0)) := blk_cell hcb
      have n1 : wr.cell? ⟨w.heap.size + 1, 1, none⟩ = some (cS (G 1) (L 1)) := blk_cell hcb
      have n2 : wr.cell? ⟨w.heap.size + 1, 2, none⟩ = some (cS (G 2) (L 2)) := blk_cell hcb
      have n3 : wr.cell? ⟨w.heap.size + 1, 3, none⟩ = some (cS (G 3) (L 3)) := blk_cell hcb
      have n4 : wr.cell? ⟨w.heap.size + 1, 4, none⟩ = some (cS (G 4) (L 4)) := blk_cell hcb
      have n5 : wr.cell? ⟨w.heap.size + 1, 5, none⟩ = some (cS (G 5) (L 5)) := blk_cell hcb
      have n6 : wr.cell? ⟨w.heap.size + 1, 6, none⟩ = some (.int .i64 mg) := blk_cell hcb
      have hG0 : w.heap.size < wr.heap.size := blk_lt hob
      have hX2 : ∀ i, i < 6 → IntsAt wr ((fun i => cS (G i) (L i)) i) (L i) := fun i hi => lent_ints (HC.out.rows i (by unfold used; omega))
      have HX2 : Hid (_) := hX2
      clear hcb hob hX2
      go_upto_region 12 with fail
      refine (P.new (fun i => cS (G i) (L i)) L mg wr (HG.out.below HC.out.bel) HX2.out (fun i _ => ⟨_, _, _, rfl, by omega⟩) HLn.out).mono ?_
      rintro e w1 ⟨hb1, hR1⟩
      obtain ⟨ev1, b1, er1, rfl, hne1, her1, hiff1, hpe1⟩ : ∃ (ev1 : Option Addr) (b1 : Bool) (er1 : Int), e = .returned (.tuple #[.pointer ev1, .int .i64 er1]) ∧ (∀ wx, (binOp .neq 46 (.pointer ev1) (.pointer none)).run Tryz.prog wx = .ok (.bool b1) wx) ∧ er1 = (if b1 then 0 else 1) ∧ (b1 = true ↔ ((∀ i, i < 6 → IsL (L i)) ∧ 1 ≤ mg ∧ mg ≤ 65535)) ∧ (b1 = true → ∃ l, ev1 = some ⟨P.pb l, 0, none⟩ ∧ P.PE w1 wr.heap.size l (newM L mg)) := by
        rcases hR1 with ⟨h1, h2, h3, l, rfl, hp⟩ | ⟨h1, rfl⟩
        · exact ⟨_, true, _, rfl, fun wx => by go_simp, rfl, ⟨fun _ => ⟨h1, h2, h3⟩, fun _ => rfl⟩, fun _ => ⟨l, rfl, hp⟩⟩
        · exact ⟨_, false, _, rfl, fun wx => by go_simp, rfl, ⟨fun x => by (cases x), fun x => absurd x h1⟩, fun x => by (cases x)⟩
      have B1 : Hid (Below wr.heap.size wr w1 ∧ (b1 = true ↔ ((∀ i, i < 6 → IsL (L i)) ∧ 1 ≤ mg ∧ mg ≤ 65535)) ∧ er1 = (if b1 then 0 else 1) ∧ (b1 = true → ∃ l, ev1 = some ⟨P.pb l, 0, none⟩ ∧ P.PE w1 wr.heap.size l (newM L mg))) := ⟨hb1, hiff1, her1, hpe1⟩
      have hob := (hb1.block _ (blk_lt HC.out.ob)).trans HC.out.ob
      have m0 : w1.cell? ⟨w.heap.size, 6, none⟩ = some (X 0) := blk_cell hob
      have m1 : w1.cell? ⟨w.heap.size, 7, none⟩ = some (X 1) := blk_cell hob
      have m2 : w1.cell? ⟨w.heap.size, 8, none⟩ = some (X 2) := blk_cell hob
      have m3 : w1.cell? ⟨w.heap.size, 9, none⟩ = some (X 3) := blk_cell hob
      have m4 : w1.cell? ⟨w.heap.size, 10, none⟩ = some (X 4) := blk_cell hob
      have m5 : w1.cell? ⟨w.heap.size, 11, none⟩ = some (X 5) := blk_cell hob
      have m6 : w1.cell? ⟨w.heap.size, 12, none⟩ = some (.int .i64 mg) := blk_cell hob
      clear hR1 hb1 hiff1 her1 hpe1 hob n0 n1 n2 n3 n4 n5 n6 HX2
      go_upto_region 13 with fail
      refine (rnew_any X L mg w1 (fun i hi => ((HX.out i hi).below HC.out.bel).below B1.out.1)).mono ?_
      rintro e w2 ⟨hb2, hR2⟩
      obtain ⟨ev2, b2, er2, rfl, hne2, her2, hiff2, hri2⟩ : ∃ (ev2 : Option Addr) (b2 : Bool) (er2 : Int), e = .returned (.tuple #[.pointer ev2, .int .i64 er2]) ∧ (∀ wx, (binOp .neq 108 (.pointer ev2) (.pointer none)).run Tryz.prog wx = .ok (.bool b2) wx) ∧ er2 = (if b2 then 0 else 1) ∧ (b2 = true ↔ ((∀ i, i < 6 → IsL (L i)) ∧ 1 ≤ mg ∧ mg ≤ 65535)) ∧ (b2 = true → ∃ rb v, ev2 = some ⟨rb, 0, none⟩ ∧ RI w2 w1.heap.size rb v (newM L mg)) := by
        rcases hR2 with ⟨h1, h2, h3, rb, v, rfl, hp⟩ | ⟨h1, rfl⟩
        · exact ⟨_, true, _, rfl, fun wx => by go_simp, rfl, ⟨fun _ => ⟨h1, h2, h3⟩, fun _ => rfl⟩, fun _ => ⟨rb, v, rfl, hp⟩⟩
        · exact ⟨_, false, _, rfl, fun wx => by go_simp, rfl, ⟨fun x => by (cases x), fun x => absurd x h1⟩, fun x => by (cases x)⟩
      have eb : b2 = b1 := by
        have h1 := B1.out.2.1
        cases b1 <;> cases b2 <;> simp_all
      subst eb
      have eer : er2 = er1 := her2.trans B1.out.2.2.1.symm
      subst eer
      have B2 : Hid (Below w1.heap.size w1 w2 ∧ (b2 = true → ∃ rb v, ev2 = some ⟨rb, 0, none⟩ ∧ RI w2 w1.heap.size rb v (newM L mg))) := ⟨hb2, hri2⟩
      clear hR2 hb2 her2 hri2 m0 m1 m2 m3 m4 m5 m6 hiff2
      have hBw : B ≤ w.heap.size := Nat.le_trans HW.out.wi.ge (Nat.le_of_lt HW.out.wi.lt)
      obtain ⟨T, R, hT, hR, hSt, hEnd⟩ : ∃ (T : Nat → Prop) (R : World → Prop), (∀ b, T b → wr.heap.size ≤ b ∧ b < w2.heap.size) ∧ R w2 ∧ (∀ (W W' : World) (S : Nat → Prop), R W → Tch S W W' → (∀ b, T b → ¬ S b) → R W') ∧
          (b2 = true → ∃ l rb v, ev1 = some ⟨P.pb l, 0, none⟩ ∧ ev2 = some ⟨rb, 0, none⟩ ∧ (∀ W, R W → P.PE W B l (newM L mg) ∧ RI W B rb v (newM L mg)) ∧ (∀ b, P.all l b ∨ v.all rb b → T b) ∧ (∀ b, P.all l b → ¬ v.all rb b) ∧ (newM L mg).Lim 0) := by
        cases hb2 : b2 with
        | false => exact ⟨fun _ => False, fun _ => True, fun _ h => h.elim, trivial, fun _ _ _ _ _ _ => trivial, fun h => by cases h⟩
        | true =>
          obtain ⟨l, e1, p1⟩ := B1.out.2.2.2 hb2
          obtain ⟨rb, v, e2, p2⟩ := B2.out.2 hb2
          have a1 := P.lt p1
          have a2 := p2.lt
          have s12 := B2.out.1.size
          have s01 := B1.out.1.size
          refine ⟨fun b => P.all l b ∨ v.all rb b, fun W => P.PE W B l (newM L mg) ∧ RI W B rb v (newM L mg), ?_, ⟨P.mono (P.tch (S := fun _ => False) p1 (Tch.of_below B2.out.1) (fun _ _ x => x)) (by omega), p2.mono (by omega)⟩, ?_, fun _ => ⟨l, rb, v, e1, e2, fun W h => h, fun b h => h, fun b h1 h2 => ?_, lim_new (B1.out.2.1.1 hb2).1 (B1.out.2.1.1 hb2).2.1 (B1.out.2.1.1 hb2).2.2⟩⟩
          · rintro b (h | h)
            · have := a1 b h; exact ⟨this.1, by omega⟩
            · have := a2 b h; exact ⟨by omega, this.2⟩
          · intro W W' S hR ht hs
            exact ⟨P.tch hR.1 ht (fun b hb => hs b (.inl hb)), hR.2.of_tch ht (fun b hb => hs b (.inr hb))⟩
          · have := a1 b h1; have := a2 b h2; omega
      have hs02 : wr.heap.size ≤ w2.heap.size := Nat.le_trans B1.out.1.size B2.out.1.size
      have hb02 : Below wr.heap.size wr w2 := B1.out.1.trans (B2.out.1.mono B1.out.1.size)
      have hzz : w.heap.size + 3 < wr.heap.size := blk_lt HC.out.aa
      have F2 : Hid (C2F ps w w2 B wb vp vh es G T R) := ⟨fun i hi => ⟨(HC.out.ge i (by unfold used; omega)).1, by have := (HC.out.ge i (by unfold used; omega)).2; omega, fun x => by have := (hT _ x).1; have := (HC.out.ge i (by unfold used; omega)).2; omega⟩, fun i j hi hj => HC.out.inj i j (by unfold used; omega) (by unfold used; omega), fun b hb => by have := hT b hb; omega, fun b hb => (HW.out.busy_lt b hb).2, hSt, by omega, hBw⟩
      have C20 : Hid (C2 ps w w2 w2 B wb n vp vh es (opA kd nn code id d s X mg ev) L G T R (fun _ => False) 0 vh es) := ⟨(hb02.block _ (blk_lt HC.out.ob)).trans HC.out.ob, (hb02.block _ (blk_lt HC.out.wa)).trans HC.out.wa, (hb02.block _ (blk_lt HC.out.aa)).trans HC.out.aa, (HW.out.below HC.out.bel).below hb02, rfl, fun i hi _ => owns_below (HC.out.rows i (by unfold used; omega)) hb02, fun b hb => .inl hb, hR, Nat.le_refl _, (HC.out.bel.mono hBw).trans (hb02.mono (by omega))⟩
      have HEND : Hid (_) := hEnd
      clear hT hR hSt hEnd hb02 B1 B2 HC HG
      go_wp2_with fail
      go_loopw [13, 14] (fun ok i wq => ∃ (k : Nat) (vh' : Value) (es' : List HE), k ≤ 3 ∧ ok = .bool true ∧ i = .int .i64 k ∧ Hid (C2 ps w w2 wq B wb n vp vh es (opA kd nn code id d s X mg ev) L G T R (fun i => i < k ∨ (3 ≤ i ∧ i < 3 + k)) (8 * k) vh' es')) (fun _ i _ => 3 - (intOf i).toNat)
      case atStart =>
        refine ⟨0, vh, es, by omega, by simp, rfl, ?_⟩
        have h := C20.out
        exact ⟨h.ob, h.wa, h.aa, h.we, h.len, fun i hi _ => h.rows i hi (fun x => x), fun b hb => .inl hb, h.r, h.sz, h.bel⟩
      case round =>
        obtain ⟨k, vh', es', hk, rfl, rfl, HK⟩ := hrel
        by_cases hlt : k < 3
        · have hI : (k : Int) < 3 := by omega
          have y1 : wr.cell? ⟨w.heap.size + 1 + 1, k, none⟩ = some (.slice (some ⟨G k, 0, none⟩) ((L k).length + 8) ((L k).length + 8)) := by
            refine (blk_cell HK.out.wa).trans ?_
            rcases (by omega : k = 0 ∨ k = 1 ∨ k = 2) with rfl | rfl | rfl <;> rfl
          have y2 : wr.cell? ⟨w.heap.size, 6 + k, none⟩ = some (X k) := by
            rcases (by omega : k = 0 ∨ k = 1 ∨ k = 2) with rfl | rfl | rfl <;> exact blk_cell HK.out.ob
          have IX : Hid (IntsAt wr (X k) (L k)) := (HX.out k (by omega)).bel (HXB.out k (by omega)) HK.out.bel
          have LC : Hid (∀ j (hj : j < (numsL (L k) 8).length), wr.cell? ⟨G k, j, none⟩ = some (.int .i64 ((numsL (L k) 8)[j]))) := lent_cell (HK.out.rows k (by omega) (by omega))
          have z1 : w.heap.size + 1 + 1 < wr.heap.size := blk_lt HK.out.wa
          have z2 : w.heap.size < wr.heap.size := blk_lt HK.out.ob
          go_upto_region 17 with fail
          go_cut [15] (fun x wx => x = .bool true ∧ Below wr.heap.size wr wx)
          case first =>
            go_region_held3 (fun w' => w'.cell? ⟨w.heap.size + 1 + 1, k, none⟩ = some (.slice (some ⟨G k, 0, none⟩) ((L k).length + 8) ((L k).length + 8)) ∧ w'.cell? ⟨w.heap.size, 6 + k, none⟩ = some (X k)) (first | exact ⟨y1, y2⟩ | assumption | exact ⟨(hbq.cell (p := ⟨w.heap.size + 1 + 1, k, none⟩) z1).trans y1, (hbq.cell (p := ⟨w.heap.size, 6 + k, none⟩) z2).trans y2⟩) ((go_at_call 82; refine (unhurt_any (X k) (L k) (G k) _ _ IX.out.drew (HLn.out k (by omega)) LC.out).mono ?_; rintro e wq ⟨rfl, hbq⟩))
            go_wp2_with fail
            go_meet
            exact ⟨rfl, below_undrew hbq⟩
          case rest =>
            obtain ⟨rfl, hb3⟩ := hcut
            have HK3 : Hid (_) := HK.out.below F2.out hb3
            clear y1 y2 IX LC z1 z2 hb3 HK
            have y1 : wc.cell? ⟨w.heap.size + 1 + 1 + 1, k, none⟩ = some (.slice (some ⟨G (3 + k), 0, none⟩) ((L (3 + k)).length + 8) ((L (3 + k)).length + 8)) := by
              refine (blk_cell HK3.out.aa).trans ?_
              rcases (by omega : k = 0 ∨ k = 1 ∨ k = 2) with rfl | rfl | rfl <;> rfl
            have y2 : wc.cell? ⟨w.heap.size, 9 + k, none⟩ = some (X (3 + k)) := by
              rcases (by omega : k = 0 ∨ k = 1 ∨ k = 2) with rfl | rfl | rfl <;> exact blk_cell HK3.out.ob
            have IX : Hid (IntsAt wc (X (3 + k)) (L (3 + k))) := (HX.out (3 + k) (by omega)).bel (HXB.out (3 + k) (by omega)) HK3.out.bel
            have LC : Hid (∀ j (hj : j < (numsL (L (3 + k)) 8).length), wc.cell? ⟨G (3 + k), j, none⟩ = some (.int .i64 ((numsL (L (3 + k)) 8)[j]))) := lent_cell (HK3.out.rows (3 + k) (by omega) (by omega))
            have z1 : w.heap.size + 1 + 1 + 1 < wc.heap.size := blk_lt HK3.out.aa
            have z2 : w.heap.size < wc.heap.size := blk_lt HK3.out.ob
            go_upto_region 18 with fail
            go_cut [16] (fun x wx => x = .bool true ∧ Below wc.heap.size wc wx)
            case first =>
              go_region_held3 (fun w' => w'.cell? ⟨w.heap.size + 1 + 1 + 1, k, none⟩ = some (.slice (some ⟨G (3 + k), 0, none⟩) ((L (3 + k)).length + 8) ((L (3 + k)).length + 8)) ∧ w'.cell? ⟨w.heap.size, 9 + k, none⟩ = some (X (3 + k))) (first | exact ⟨y1, y2⟩ | assumption | exact ⟨(hbq.cell (p := ⟨w.heap.size + 1 + 1 + 1, k, none⟩) z1).trans y1, (hbq.cell (p := ⟨w.heap.size, 9 + k, none⟩) z2).trans y2⟩) ((go_at_call 82; refine (unhurt_any (X (3 + k)) (L (3 + k)) (G (3 + k)) _ _ IX.out.drew (HLn.out (3 + k) (by omega)) LC.out).mono ?_; rintro e wq ⟨rfl, hbq⟩))
              go_wp2_with fail
              go_meet
              exact ⟨rfl, below_undrew hbq⟩
            case rest =>
              obtain ⟨rfl, hb4⟩ := hcut
              have HK4 : Hid (_) := HK3.out.below F2.out hb4
              clear y1 y2 IX LC z1 z2 hb4 HK3
              have y1 : wc.cell? ⟨w.heap.size + 1 + 1, k, none⟩ = some (.slice (some ⟨G k, 0, none⟩) ((L k).length + 8) ((L k).length + 8)) := by
                refine (blk_cell HK4.out.wa).trans ?_
                rcases (by omega : k = 0 ∨ k = 1 ∨ k = 2) with rfl | rfl | rfl <;> rfl
              have hln := HLn.out k (by omega)
              have hel := HK4.out.len
              have hgk := F2.out.g k (by omega)
              have KP : Hid (_) := keepn_new wc HK4.out.we (owns_mono (HK4.out.rows k (by omega) (by omega)) (by omega)) (by omega) (by omega) (fun b hb => by
                have eb : b = G k := by simp only [nS, Value.ownBlock, Option.some.injEq] at hb; exact hb.symm
                subst eb
                exact HK4.out.free F2.out _ (by omega) hgk.2.1 (fun i hi hu e => F2.out.inj k i (by omega) hi (by omega) e))
              clear hgk
              go_upto_region 21 with fail
              refine Calls.mono KP.out ?_
              rintro e w5 ⟨rfl, vh5, es5, hl5, hw5, ht5, hv5, he5⟩
              have HK5 : Hid (_) := HK4.out.keep F2.out k (by omega) hl5 hw5 ht5 hv5 he5
              clear hw5 ht5 hv5 he5 KP y1 hln
              have y1 : w5.cell? ⟨w.heap.size + 1 + 1 + 1, k, none⟩ = some (.slice (some ⟨G (3 + k), 0, none⟩) ((L (3 + k)).length + 8) ((L (3 + k)).length + 8)) := by
                refine (blk_cell HK5.out.aa).trans ?_
                rcases (by omega : k = 0 ∨ k = 1 ∨ k = 2) with rfl | rfl | rfl <;> rfl
              have hln := HLn.out (3 + k) (by omega)
              have hgk := F2.out.g (3 + k) (by omega)
              have KP : Hid (_) := keepn_new w5 HK5.out.we (owns_mono (HK5.out.rows (3 + k) (by omega) (by omega)) (by omega)) (by omega) (by omega) (fun b hb => by
                have eb : b = G (3 + k) := by simp only [nS, Value.ownBlock, Option.some.injEq] at hb; exact hb.symm
                subst eb
                exact HK5.out.free F2.out _ (by omega) hgk.2.1 (fun i hi hu e => F2.out.inj (3 + k) i (by omega) hi (by omega) e))
              clear hgk
              go_wp2_with fail
              refine Calls.mono KP.out ?_
              rintro e w6 ⟨rfl, vh6, es6, hl6, hw6, ht6, hv6, he6⟩
              have HK6 : Hid (_) := HK5.out.keep F2.out (3 + k) (by omega) hl6 hw6 ht6 hv6 he6
              clear hw6 ht6 hv6 he6 KP y1 hln
              go_wp2_with fail
              exact ⟨⟨k + 1, vh6, es6, by omega, by simp, by go_num, HK6.out.cong (fun i => by omega) (by omega)⟩, by simp [intOf]; omega⟩
        · have hk3 : k = 3 := by omega
          subst hk3
          have hlen := HK.out.len
          obtain ⟨av, capv0, gv0, hvp, _, _, _⟩ := own_shape HK.out.we.op
          have c0 : wr.cell? ⟨wb, 0, none⟩ = some (.slice av ps.length capv0) := by rw [← hvp]; exact HK.out.we.wi.p
          have HVP : Hid (vp = .slice av ps.length capv0) := hvp
          clear hvp
          cases b2 with
          | false =>
            go_wp2_with fail
            go_ret
            exact ⟨rfl, vp, vh', es', ps, by omega, HK.out.we, HK.out.bel⟩
          | true =>
            obtain ⟨l, rb, v, rfl, rfl, hR, hT, hD, hLim⟩ := HEND.out rfl
            by_cases h5 : ps.length < 5
            · have h5i : (ps.length : Int) < 5 := by omega
              obtain ⟨i0, hi, hz0, hz1, hz2⟩ := info_parts Tryz.infoP
              have hRw := hR wr HK.out.r
              have hTf : ∀ b, T b → w.heap.size + 4 ≤ b ∧ b < w2.heap.size := F2.out.t
              have hsz := HK.out.sz
              have hBw2 := F2.out.b
              have hz24 := F2.out.z
              have bA : Below wr.heap.size wr (wr.alloc (.cells #[.pointer (some ⟨P.pb l, 0, none⟩), .pointer (some ⟨rb, 0, none⟩)] 110)) := (Below.refl _ _).alloc (Nat.le_refl _) _
              have hweA := HK.out.we.below bA
              have hpi : PI1 (wr.alloc (.cells #[.pointer (some ⟨P.pb l, 0, none⟩), .pointer (some ⟨rb, 0, none⟩)] 110)) B (⟨wr.heap.size, l, rb, v, newM L mg⟩ : PL P) :=
                ⟨heap_alloc_new wr _, by show B ≤ wr.heap.size; omega, P.tch (S := fun _ => False) hRw.1 (Tch.of_below bA) (fun _ _ x => x), hRw.2.below bA, P.gnew L mg, fun e => by have := (hTf _ (hT _ (.inl e))).2; have : wr.heap.size < w2.heap.size := this; omega, fun e => by have := (hTf _ (hT _ (.inr e))).2; have : wr.heap.size < w2.heap.size := this; omega, hD⟩
              have hfree : ∀ b, (⟨wr.heap.size, l, rb, v, newM L mg⟩ : PL P).in_ b → ¬ Busy wb vp vh' es' ps b := by
                have tf : ∀ b, T b → ¬ Busy wb vp vh' es' ps b := fun b hb => HK.out.free F2.out b (by have := hTf b hb; omega) (hTf b hb).2 (fun i hi _ e => (F2.out.g i hi).2.2 (e ▸ hb))
                rintro b (e | e | e)
                · intro q
                  have := (HK.out.we.busy_lt b q).2
                  have e' : b = wr.heap.size := e
                  omega
                · exact tf b (hT b (.inl e))
                · exact tf b (hT b (.inr e))
              have HADD : Hid (WE (wr.alloc (.cells #[.pointer (some ⟨P.pb l, 0, none⟩), .pointer (some ⟨rb, 0, none⟩)] 110)) B wb vp vh' es' ps n ∧ PI1 (wr.alloc (.cells #[.pointer (some ⟨P.pb l, 0, none⟩), .pointer (some ⟨rb, 0, none⟩)] 110)) B (⟨wr.heap.size, l, rb, v, newM L mg⟩ : PL P) ∧ (∀ b, (⟨wr.heap.size, l, rb, v, newM L mg⟩ : PL P).in_ b → ¬ Busy wb vp vh' es' ps b) ∧ Below wr.heap.size wr (wr.alloc (.cells #[.pointer (some ⟨P.pb l, 0, none⟩), .pointer (some ⟨rb, 0, none⟩)] 110))) := ⟨hweA, hpi, hfree, bA⟩
              have OWN : Hid ((wr.alloc (.cells #[.pointer (some ⟨P.pb l, 0, none⟩), .pointer (some ⟨rb, 0, none⟩)] 110)).ownsRow B 107 1 (.slice av ps.length capv0) ps.length (ps.map PL.ptr)) := by rw [← HVP.out]; exact hweA.op
              have hwbl := HK.out.we.wi.lt
              have VW : Hid ((Value.slice av ps.length capv0).ownBlock ≠ some wb) := fun e => by rw [← HVP.out] at e; exact (HK.out.we.vw wb e).1 rfl
              have C00 : Hid (wr.cell? ⟨wb, 0, none⟩ = some (.slice av ps.length capv0) ∧ wr.frozen? ⟨wb, 0, none⟩ = false) := ⟨c0, HK.out.we.wi.f0⟩
              have HLIM : Hid ((newM L mg).Lim n) := hLim.mono (Nat.zero_le _)
              clear hRw hTf hpi hfree hweA bA hR hT hD hLim
              go_wp2_with (at_builtin; go_must (refine wpList_append_lies _ rfl (.tmp 148) (.tmp 153) 65 rfl B 107 i0 (.pointer none) 1 8 Tryz.underlying65 hi hz0 hz1 hz2 rfl (by decide) _ ps.length (ps.map PL.ptr) rfl (OWN.out.alloc _) ⟨wr.heap.size + 1, 0, none⟩ 1 1 [.pointer (some ⟨wr.heap.size, 0, none⟩)] rfl rfl (cell_ptr2 _ _ _ _) (by intro u hu; simp at hu; subst hu; rfl) (by omega) (by unfold maxLen; omega) (by omega) (by simp; omega) _ rfl ?_; intro gv capv w7 hown7 hgrow7 hat7 hlt7; have bk7 := (tch_grown hgrow7).block wb (by simp; omega) (fun e => VW.out e); have e8 : w7.cell? ⟨wb, 0, none⟩ = some (.slice av ps.length capv0) := (World.cell?_of_block (w := wr.alloc _) (a := ⟨wb, 0, none⟩) bk7).trans ((World.cell?_alloc_lt wr _ ⟨wb, 0, none⟩ hwbl).trans C00.out.1); have f8 : w7.frozen? ⟨wb, 0, none⟩ = false := (World.frozen?_of_block (w := wr.alloc _) (a := ⟨wb, 0, none⟩) bk7).trans ((Below.frozen HADD.out.2.2.2 (p := ⟨wb, 0, none⟩) hwbl).trans C00.out.2)))
              go_ret
              have hadd := HADD.out.1.add ⟨wr.heap.size, l, rb, v, newM L mg⟩ HADD.out.2.1 HLIM.out HADD.out.2.2.1 h5 (by rw [HVP.out]; exact hgrow7) hown7 (by rw [HVP.out]; exact hat7.elim .inl (fun e => .inr (e.trans (by simp))))
              refine ⟨rfl, _, vh', es', _, by omega, hadd.1, HK.out.bel.trans ((HADD.out.2.2.2.mono (by omega)).trans (hadd.2.below (by have := HADD.out.2.2.2.size; omega) ?_))⟩
              rintro b (e | e)
              · rw [e]; exact HK.out.we.wi.ge
              · exact (HK.out.we.op.lt b e).1
            · have h5i : ¬ (ps.length : Int) < 5 := by omega
              go_wp2_with fail
              go_ret
              exact ⟨rfl, vp, vh', es', ps, by omega, HK.out.we, HK.out.bel⟩
end
end Go.Proofs.YtoeihlgidakjbaaGreatDoor

/- The laws' keep: one list more that is its owner's, and three places more behind it. The laws' keep, walked. The laws' keep, walked. The laws' keep, walked to its end. The laws' same: the bytes that came out are these, and they are kept. -/
import Derived.Test.YtoeihlgidakjbaaGreatDoorEa11
namespace Go.Proofs.YtoeihlgidakjbaaGreatDoor
open Go.RowKit Go.Lib
structure Pre (f g : HE) : Prop where
  m : f.m = g.m
  nb : f.nb ≤ g.nb
  nn : f.nn ≤ g.nn
  hb : f = g ∨ ¬ g.in_ f.hb
  vb : f.vb.ownBlock = g.vb.ownBlock ∨ ∀ b, f.vb.ownBlock = some b → ¬ g.in_ b
  vn : f.vn.ownBlock = g.vn.ownBlock ∨ ∀ b, f.vn.ownBlock = some b → ¬ g.in_ b
theorem Pre.self (g : HE) : Pre g g := ⟨rfl, Nat.le_refl _, Nat.le_refl _, .inl rfl, .inl rfl, .inl rfl⟩
theorem hi_pre {w w' : World} {B : Nat} {f g : HE} (h : HI w f) (p : Pre f g) (hg' : OH w' B g) (ht : Tch g.in_ w w') (hlt : ∀ b, f.in_ b → b < w.heap.size) : HI w' f := by
  rcases p.hb with rfl | hb
  · exact hg'.hi
  · have hc : w'.heap[f.hb]? = w.heap[f.hb]? := ht.block _ (hlt _ (.inl rfl)) hb
    refine ⟨(World.cell?_of_block (w := w) (a := ⟨f.hb, 0, none⟩) hc).trans h.c0, (World.cell?_of_block (w := w) (a := ⟨f.hb, 1, none⟩) hc).trans h.c1, (World.cell?_of_block (w := w) (a := ⟨f.hb, 2, none⟩) hc).trans h.c2, ?_, ?_, h.m0, h.m1⟩
    · rcases p.vb with h1 | h1
      · obtain ⟨a, cap, g0, hv, hn, ha, hcl⟩ := h.b
        refine ⟨a, cap, g0, hv, hn, ha, fun j hj => ?_⟩
        obtain ⟨a2, cap2, g2, hv2, ha2, _, hc2⟩ := own_shape hg'.ob
        have hjg : j < g.nb := Nat.lt_of_lt_of_le hj p.nb
        rw [hv, hv2, ha (by omega), ha2 (by omega)] at h1
        have e : g0 = g2 := by simpa [Value.ownBlock] using h1
        rw [e, hc2 j hjg, marksB, List.getElem?_map, List.getElem?_eq_getElem (by simpa using hjg), p.m]
        simp
      · exact br_of h.b (fun b hb' => ht.block b (hlt _ (.inr (.inl hb'))) (h1 b hb'))
    · rcases p.vn with h1 | h1
      · obtain ⟨a, cap, g0, hv, hn, ha, hcl⟩ := h.n
        refine ⟨a, cap, g0, hv, hn, ha, fun j hj => ?_⟩
        obtain ⟨a2, cap2, g2, hv2, ha2, _, hc2⟩ := own_shape hg'.on
        have hjg : j < g.nn := Nat.lt_of_lt_of_le hj p.nn
        rw [hv, hv2, ha (by omega), ha2 (by omega)] at h1
        have e : g0 = g2 := by simpa [Value.ownBlock] using h1
        rw [e, hc2 j hjg, List.getElem?_eq_getElem (by simpa using hjg), p.m]
        simp
      · exact nr_of h.n (fun b hb' => ht.block b (hlt _ (.inr (.inr hb'))) (h1 b hb'))
theorem Pre.longer {w : World} {B : Nat} {f g g' : HE} (p : Pre f g) (hg : OH w B g) (hlt : ∀ b, f.in_ b → b < w.heap.size) (hm : g'.m = g.m) (hnb : g.nb ≤ g'.nb) (hnn : g.nn ≤ g'.nn) (hh : w.heap.size ≤ g'.hb)
    (hvb : g'.vb.ownBlock = g.vb.ownBlock ∨ ∀ b, g'.vb.ownBlock = some b → w.heap.size ≤ b) (hvn : g'.vn.ownBlock = g.vn.ownBlock ∨ ∀ b, g'.vn.ownBlock = some b → w.heap.size ≤ b) : Pre f g' := by
  refine ⟨p.m.trans hm.symm, Nat.le_trans p.nb hnb, Nat.le_trans p.nn hnn, ?_, ?_, ?_⟩
  · right
    have hl := hlt _ (.inl rfl)
    rintro (h | h | h)
    · omega
    · rcases hvb with h' | h'
      · rw [h'] at h
        rcases p.hb with rfl | hb
        · exact hg.h1 h
        · exact hb (.inr (.inl h))
      · have := h' _ h; omega
    · rcases hvn with h' | h'
      · rw [h'] at h
        rcases p.hb with rfl | hb
        · exact hg.h2 h
        · exact hb (.inr (.inr h))
      · have := h' _ h; omega
  · rcases p.vb with h1 | h1
    · rcases hvb with h' | h'
      · exact .inl (h1.trans h'.symm)
      · right
        intro b hb
        have hl := hlt _ (.inr (.inl hb))
        rintro (h | h | h)
        · omega
        · have := h' _ h; omega
        · rcases hvn with h2 | h2
          · rcases hg.h3 with h3 | h3
            · rw [h3] at h1; rw [h1] at hb; cases hb
            · exact h3 (h1.symm.trans (hb.trans (h.symm.trans h2)))
          · have := h2 _ h; omega
    · right
      intro b hb
      have hl := hlt _ (.inr (.inl hb))
      rintro (h | h | h)
      · omega
      · rcases hvb with h2 | h2
        · exact h1 b hb (.inr (.inl (h2.symm.trans h)))
        · have := h2 _ h; omega
      · rcases hvn with h2 | h2
        · exact h1 b hb (.inr (.inr (h2.symm.trans h)))
        · have := h2 _ h; omega
  · rcases p.vn with h1 | h1
    · rcases hvn with h' | h'
      · exact .inl (h1.trans h'.symm)
      · right
        intro b hb
        have hl := hlt _ (.inr (.inr hb))
        rintro (h | h | h)
        · omega
        · rcases hvb with h2 | h2
          · rcases hg.h3 with h3 | h3
            · rw [h2, h3] at h; cases h
            · exact h3 (h2.symm.trans (h.trans (hb.symm.trans h1)))
          · have := h2 _ h; omega
        · have := h' _ h; omega
    · right
      intro b hb
      have hl := hlt _ (.inr (.inr hb))
      rintro (h | h | h)
      · omega
      · rcases hvb with h2 | h2
        · exact h1 b hb (.inr (.inl (h2.symm.trans h)))
        · have := h2 _ h; omega
      · rcases hvn with h2 | h2
        · exact h1 b hb (.inr (.inr (h2.symm.trans h)))
        · have := h2 _ h; omega
end Go.Proofs.YtoeihlgidakjbaaGreatDoor
namespace Go.Proofs.YtoeihlgidakjbaaGreatDoor
open Go.RowKit Go.Lib
theorem WI.of_tch {w w' : World} {B wb : Nat} {vp vh : Value} {es : List HE} (h : WI w B wb vp vh es) {S : Nat → Prop} (ht : Tch S w w') (h1 : ¬ S wb) (h2 : ∀ b, vh.ownBlock = some b → ¬ S b) (h3 : ∀ e ∈ es, ∀ b, e.in_ b → ¬ S b) : WI w' B wb vp vh es := by
  have hc := ht.block wb h.lt h1
  exact ⟨(World.cell?_of_block (w := w) (a := ⟨wb, 0, none⟩) hc).trans h.p, (World.cell?_of_block (w := w) (a := ⟨wb, 1, none⟩) hc).trans h.h, (World.frozen?_of_block (w := w) (a := ⟨wb, 1, none⟩) hc).trans h.f, (World.frozen?_of_block (w := w) (a := ⟨wb, 0, none⟩) hc).trans h.f0,
    owns_tch h.own ht h2, fun e he => hi_of (h.all e he) (fun b hb => ht.block b (h.sep e he b hb).2.1 (h3 e he b hb)), Nat.lt_of_lt_of_le h.lt ht.size, h.ge, h.ne,
    fun e he b hb => ⟨(h.sep e he b hb).1, Nat.lt_of_lt_of_le (h.sep e he b hb).2.1 ht.size, (h.sep e he b hb).2.2⟩⟩
theorem push {w w1 : World} {B wb : Nat} {vp vh : Value} {es : List HE} {o : Obj} (h : WI w B wb vp vh es) (g : HE) (hg : HI w g) (hs : ∀ b, g.in_ b → B ≤ b ∧ b < w.heap.size ∧ b ≠ wb ∧ vh.ownBlock ≠ some b) {gv cap : Nat}
    (hr : (w.alloc o).grownBy w1 vh.ownBlock) (own : w1.ownsRow B 104 1 (.slice (some ⟨gv, 0, none⟩) (es.length + 1) cap) (es.length + 1) ((es.map fun e => .pointer (some ⟨e.hb, 0, none⟩)) ++ [.pointer (some ⟨g.hb, 0, none⟩)]))
    (hat : vh.ownBlock = some gv ∨ gv = w.heap.size + 1) :
    WI (w1.setCell ⟨wb, 1, none⟩ (.slice (some ⟨gv, 0, none⟩) (es.length + 1) cap)) B wb vp (.slice (some ⟨gv, 0, none⟩) (es.length + 1) cap) (es ++ [g]) ∧ Tch (fun b => b = wb ∨ vh.ownBlock = some b) w (w1.setCell ⟨wb, 1, none⟩ (.slice (some ⟨gv, 0, none⟩) (es.length + 1) cap)) := by
  have ht1 : Tch (fun b => vh.ownBlock = some b) w w1 := tch_grown hr
  have ht : Tch (fun b => b = wb ∨ vh.ownBlock = some b) w (w1.setCell ⟨wb, 1, none⟩ (.slice (some ⟨gv, 0, none⟩) (es.length + 1) cap)) := (ht1.mono (fun _ h => .inr h)).trans (Tch.set _ w1 ⟨wb, 1, none⟩ _ (.inl rfl))
  refine ⟨?_, ht⟩
  have hwb : w1.heap[wb]? = w.heap[wb]? := ht1.block wb h.lt h.ne
  have d1 : w1.cell? ⟨wb, 1, none⟩ = some vh := (World.cell?_of_block (w := w) (a := ⟨wb, 1, none⟩) hwb).trans h.h
  have hgv : gv ≠ wb := by
    rcases hat with h' | h'
    · exact fun e => h.ne (e ▸ h')
    · have := h.lt; omega
  have hgb : ∀ b, b < w.heap.size → vh.ownBlock ≠ some b → gv ≠ b := by
    intro b hb hn e
    rcases hat with h' | h'
    · exact hn (e ▸ h')
    · omega
  have hsz : w.heap.size ≤ w1.heap.size := ht1.size
  have hall : ∀ e, HI w e → (∀ b, e.in_ b → B ≤ b ∧ b < w.heap.size ∧ b ≠ wb ∧ vh.ownBlock ≠ some b) → HI (w1.setCell ⟨wb, 1, none⟩ (.slice (some ⟨gv, 0, none⟩) (es.length + 1) cap)) e := by
    intro e he hse
    refine hi_of he (fun b hb => ht.block b (hse b hb).2.1 ?_)
    rintro (h' | h')
    · exact (hse b hb).2.2.1 h'
    · exact (hse b hb).2.2.2 h'
  have hsep : ∀ e : HE, (∀ b, e.in_ b → B ≤ b ∧ b < w.heap.size ∧ b ≠ wb ∧ vh.ownBlock ≠ some b) → ∀ b, e.in_ b → B ≤ b ∧ b < (w1.setCell ⟨wb, 1, none⟩ (.slice (some ⟨gv, 0, none⟩) (es.length + 1) cap)).heap.size ∧ b ≠ wb ∧ (Value.slice (some ⟨gv, 0, none⟩) (es.length + 1) cap).ownBlock ≠ some b := by
    intro e hse b hb
    obtain ⟨q1, q2, q3, q4⟩ := hse b hb
    refine ⟨q1, by simp; omega, q3, ?_⟩
    have := hgb b q2 q4
    simpa [Value.ownBlock] using this
  refine ⟨?_, ?_, ?_, ?_, ?_, ?_, ?_, h.ge, ?_, ?_⟩
  · exact (World.cell?_setCell_other _ _ _ _ (by simp)).trans ((World.cell?_of_block (w := w) (a := ⟨wb, 0, none⟩) hwb).trans h.p)
  · exact World.cell?_setCell_same' w1 _ _ (by rw [d1]; rfl)
  · have := (World.frozen?_of_block (w := w) (a := ⟨wb, 1, none⟩) hwb).trans h.f
    simpa using this
  · have := (World.frozen?_of_block (w := w) (a := ⟨wb, 0, none⟩) hwb).trans h.f0
    simpa using this
  · have := owns_tch own (Tch.set (fun b => b = wb) w1 ⟨wb, 1, none⟩ (.slice (some ⟨gv, 0, none⟩) (es.length + 1) cap) rfl) (fun b h1 h2 => hgv (by simp [Value.ownBlock] at h1; omega))
    simpa using this
  · intro e he
    rcases List.mem_append.1 he with he | he
    · exact hall e (h.all e he) (h.sep e he)
    · rw [List.mem_singleton.1 he]; exact hall g hg hs
  · have := h.lt; simp; omega
  · simpa [Value.ownBlock] using hgv
  · intro e he
    rcases List.mem_append.1 he with he | he
    · exact hsep e (h.sep e he)
    · rw [List.mem_singleton.1 he]; exact hsep g hs
theorem Tryz.infoH : (Tryz.prog.info? 104).map (fun i => (i.zero, i.size, i.bytes)) = some (some (.pointer none), 1, 8) := by kernel_rfl
end Go.Proofs.YtoeihlgidakjbaaGreatDoor
namespace Go.Proofs.YtoeihlgidakjbaaGreatDoor
open Go.RowKit Go.Lib
structure KI (w wr : World) (B wb : Nat) (vp vh : Value) (es : List HE) (N : HE) (k : Nat) (vk : Value) (fs : List HE) (g : HE) : Prop where
  wi : WI wr B wb vp vk (es ++ fs)
  oh : OH wr B g
  len : fs.length = k + 1
  pre : ∀ f ∈ fs, Pre f g
  nb : g.nb = N.nb + k
  nn : g.nn = N.nn + k
  gs : ∀ b, g.in_ b → b ≠ wb ∧ vk.ownBlock ≠ some b ∧ b < wr.heap.size
  gn : ∀ b, g.in_ b → N.in_ b ∨ w.heap.size ≤ b
  fn : ∀ f ∈ fs, ∀ b, f.in_ b → N.in_ b ∨ w.heap.size ≤ b
  vk : vk.ownBlock = vh.ownBlock ∨ ∀ b, vk.ownBlock = some b → w.heap.size ≤ b
  t : Tch (fun b => b = wb ∨ vh.ownBlock = some b ∨ N.in_ b) w wr
theorem KI.next {w wr w2 w3 : World} {B wb : Nat} {vp vh vk : Value} {es fs : List HE} {N g e' : HE} {k gv cap : Nat} {o : Obj} (h : KI w wr B wb vp vh es N k vk fs g) (hes : ∀ e ∈ es, ∀ b, e.in_ b → b < w.heap.size ∧ ¬ N.in_ b)
    (q1 : OH w2 B e') (q2 : OH w2 B g) (q3 : e'.nb = g.nb + 1) (q4 : e'.nn = g.nn + 1) (q5 : e'.m = g.m) (q6 : wr.heap.size ≤ e'.hb) (q7 : ∀ b, e'.in_ b → g.in_ b ∨ wr.heap.size ≤ b) (q8 : ∀ b, e'.in_ b → b < w2.heap.size)
    (q9 : e'.vb.ownBlock = g.vb.ownBlock ∨ ∀ b, e'.vb.ownBlock = some b → wr.heap.size ≤ b) (q10 : e'.vn.ownBlock = g.vn.ownBlock ∨ ∀ b, e'.vn.ownBlock = some b → wr.heap.size ≤ b) (q11 : Tch g.in_ wr w2)
    (hr : (w2.alloc o).grownBy w3 vk.ownBlock) (own : w3.ownsRow B 104 1 (.slice (some ⟨gv, 0, none⟩) ((es ++ fs).length + 1) cap) ((es ++ fs).length + 1) (((es ++ fs).map fun e => .pointer (some ⟨e.hb, 0, none⟩)) ++ [.pointer (some ⟨e'.hb, 0, none⟩)]))
    (hat : vk.ownBlock = some gv ∨ gv = w2.heap.size + 1) :
    KI w (w3.setCell ⟨wb, 1, none⟩ (.slice (some ⟨gv, 0, none⟩) ((es ++ fs).length + 1) cap)) B wb vp vh es N (k + 1) (.slice (some ⟨gv, 0, none⟩) ((es ++ fs).length + 1) cap) (fs ++ [e']) e' := by
  have hsz : wr.heap.size ≤ w2.heap.size := q11.size
  have hsz0 : w.heap.size ≤ wr.heap.size := h.t.size
  -- the holds, behind longer
  have hsep := h.wi.sep
  have hfl : ∀ f ∈ fs, ∀ b, f.in_ b → b < wr.heap.size := fun f hf b hb => (hsep f (List.mem_append_right _ hf) b hb).2.1
  have wi2 : WI w2 B wb vp vk (es ++ fs) := by
    have hc := q11.block wb h.wi.lt (fun x => (h.gs wb x).1 rfl)
    refine ⟨(World.cell?_of_block (w := wr) (a := ⟨wb, 0, none⟩) hc).trans h.wi.p, (World.cell?_of_block (w := wr) (a := ⟨wb, 1, none⟩) hc).trans h.wi.h, (World.frozen?_of_block (w := wr) (a := ⟨wb, 1, none⟩) hc).trans h.wi.f, (World.frozen?_of_block (w := wr) (a := ⟨wb, 0, none⟩) hc).trans h.wi.f0,
      owns_tch h.wi.own q11 (fun b h1 h2 => (h.gs b h2).2.1 h1), ?_, Nat.lt_of_lt_of_le h.wi.lt hsz, h.wi.ge, h.wi.ne, fun e he b hb => ⟨(hsep e he b hb).1, Nat.lt_of_lt_of_le (hsep e he b hb).2.1 hsz, (hsep e he b hb).2.2⟩⟩
    intro e he
    have hhi := h.wi.all e he
    rcases List.mem_append.1 he with he | he
    · refine hi_of hhi (fun b hb => q11.block b (by have := (hes e he b hb).1; omega) (fun x => ?_))
      have := hes e he b hb
      rcases h.gn b x with h1 | h1
      · exact this.2 h1
      · omega
    · exact hi_pre hhi (h.pre e he) q2 q11 (hfl e he)
  have hge : ∀ b, e'.in_ b → B ≤ b := by
    rintro b (h1 | h1 | h1)
    · rw [h1]; exact q1.ge
    · exact (q1.ob.lt b h1).1
    · exact (q1.on.lt b h1).1
  have hvk : ∀ b, vk.ownBlock = some b → b < wr.heap.size := fun b hb => (h.wi.own.lt b hb).2
  have hs : ∀ b, e'.in_ b → B ≤ b ∧ b < w2.heap.size ∧ b ≠ wb ∧ vk.ownBlock ≠ some b := by
    intro b hb
    refine ⟨hge b hb, q8 b hb, ?_, ?_⟩
    · rcases q7 b hb with h1 | h1
      · exact (h.gs b h1).1
      · have := h.wi.lt; omega
    · rcases q7 b hb with h1 | h1
      · exact (h.gs b h1).2.1
      · intro x; have := hvk b x; omega
  obtain ⟨wi3, ht3⟩ := push wi2 e' q1.hi hs hr own hat
  have hsz3 : w2.heap.size ≤ (w3.setCell ⟨wb, 1, none⟩ (.slice (some ⟨gv, 0, none⟩) ((es ++ fs).length + 1) cap)).heap.size := ht3.size
  rw [List.append_assoc] at wi3
  refine ⟨wi3, ?_, by simp [h.len], ?_, by rw [q3, h.nb]; omega, by rw [q4, h.nn]; omega, ?_, ?_, ?_, ?_, ?_⟩
  · exact q1.of ht3 (fun b hb hx => hx.elim (hs b hb).2.2.1 (hs b hb).2.2.2)
  · intro f hf
    rcases List.mem_append.1 hf with hf | hf
    · exact (h.pre f hf).longer h.oh (hfl f hf) q5 (by omega) (by omega) q6 q9 q10
    · rw [List.mem_singleton.1 hf]; exact Pre.self _
  · intro b hb
    refine ⟨(hs b hb).2.2.1, ?_, by have := (hs b hb).2.1; omega⟩
    have h1 := hs b hb
    intro x
    have e : gv = b := by simpa [Value.ownBlock] using x
    rcases hat with h2 | h2
    · exact h1.2.2.2 (e ▸ h2)
    · omega
  · intro b hb
    rcases q7 b hb with h1 | h1
    · exact h.gn b h1
    · exact .inr (by omega)
  · intro f hf b hb
    rcases List.mem_append.1 hf with hf | hf
    · exact h.fn f hf b hb
    · rw [List.mem_singleton.1 hf] at hb
      rcases q7 b hb with h1 | h1
      · exact h.gn b h1
      · exact .inr (by omega)
  · rcases hat with h2 | h2
    · rcases h.vk with h3 | h3
      · left; rw [← h3, h2]; rfl
      · right; intro b hb; have e : gv = b := by simpa [Value.ownBlock] using hb
        exact h3 b (e ▸ h2)
    · right; intro b hb; have e : gv = b := by simpa [Value.ownBlock] using hb
      omega
  · refine Tch.restrict (((h.t.mono (fun b hb => .inl hb)).trans (q11.mono ?_)).trans (ht3.mono ?_))
    · intro b hb
      rcases h.gn b hb with h1 | h1
      · exact .inl (.inr (.inr h1))
      · exact .inr h1
    · rintro b (h1 | h1)
      · exact .inl (.inl h1)
      · rcases h.vk with h3 | h3
        · exact .inl (.inr (.inl (h3.symm.trans h1)))
        · exact .inr (h3 b h1)
theorem KI.start {w w2 w3 : World} {B wb : Nat} {vp vh : Value} {es : List HE} {N : HE} {gv cap : Nat} {o : Obj} (hw : WI w B wb vp vh es) (sep : ∀ b, N.in_ b → b < w.heap.size ∧ b ≠ wb ∧ vh.ownBlock ≠ some b ∧ ∀ e ∈ es, ¬ e.in_ b)
    (ht : Tch N.in_ w w2) (oh : OH w2 B N) (hr : (w2.alloc o).grownBy w3 vh.ownBlock) (own : w3.ownsRow B 104 1 (.slice (some ⟨gv, 0, none⟩) (es.length + 1) cap) (es.length + 1) ((es.map fun e => .pointer (some ⟨e.hb, 0, none⟩)) ++ [.pointer (some ⟨N.hb, 0, none⟩)]))
    (hat : vh.ownBlock = some gv ∨ gv = w2.heap.size + 1) :
    KI w (w3.setCell ⟨wb, 1, none⟩ (.slice (some ⟨gv, 0, none⟩) (es.length + 1) cap)) B wb vp vh es N 0 (.slice (some ⟨gv, 0, none⟩) (es.length + 1) cap) [N] N := by
  have wi2 : WI w2 B wb vp vh es := hw.of_tch ht (fun x => (sep wb x).2.1 rfl) (fun b h1 h2 => (sep b h2).2.2.1 h1) (fun e he b h1 h2 => (sep b h2).2.2.2 e he h1)
  have hsz : w.heap.size ≤ w2.heap.size := ht.size
  have hge : ∀ b, N.in_ b → B ≤ b := by
    rintro b (h1 | h1 | h1)
    · rw [h1]; exact oh.ge
    · exact (oh.ob.lt b h1).1
    · exact (oh.on.lt b h1).1
  have hs : ∀ b, N.in_ b → B ≤ b ∧ b < w2.heap.size ∧ b ≠ wb ∧ vh.ownBlock ≠ some b := fun b hb => ⟨hge b hb, Nat.lt_of_lt_of_le (sep b hb).1 hsz, (sep b hb).2.1, (sep b hb).2.2.1⟩
  obtain ⟨wi3, ht3⟩ := push wi2 N oh.hi hs hr own hat
  have hsz3 := ht3.size
  refine ⟨wi3, oh.of ht3 (fun b hb hx => hx.elim (hs b hb).2.2.1 (hs b hb).2.2.2), rfl, ?_, rfl, rfl, ?_, fun b hb => .inl hb, fun f hf b hb => .inl (by rw [List.mem_singleton.1 hf] at hb; exact hb), ?_, ?_⟩
  · intro f hf
    rw [List.mem_singleton.1 hf]; exact Pre.self _
  · intro b hb
    refine ⟨(hs b hb).2.2.1, ?_, by have := (hs b hb).2.1; omega⟩
    have h1 := hs b hb
    intro x
    have e : gv = b := by simpa [Value.ownBlock] using x
    rcases hat with h2 | h2
    · exact h1.2.2.2 (e ▸ h2)
    · omega
  · rcases hat with h2 | h2
    · left; rw [h2]; rfl
    · right; intro b hb; have e : gv = b := by simpa [Value.ownBlock] using hb
      omega
  · exact (ht.mono (fun _ h => .inr (.inr h))).trans (ht3.mono (fun b h => h.elim .inl (fun x => .inr (.inl x))))
end Go.Proofs.YtoeihlgidakjbaaGreatDoor
namespace Go.Proofs.YtoeihlgidakjbaaGreatDoor
open Go.RowKit Go.Lib
set_option maxRecDepth 100000 in
set_option maxHeartbeats 2000000 in
theorem keep_any2 {B wb hb : Nat} {vp vh vb vn : Value} {nb nn : Nat} {xs ys : List Value} {es : List HE} (w : World) (hw : WI w B wb vp vh es) (c0 : w.cell? ⟨hb, 0, none⟩ = some vb) (c1 : w.cell? ⟨hb, 1, none⟩ = some vn) (c2 : w.cell? ⟨hb, 2, none⟩ = some (.int .i64 0)) (f2 : w.frozen? ⟨hb, 2, none⟩ = false)
    (ob : w.ownsRow B 5 1 vb nb xs) (on : w.ownsRow B 3 1 vn nn ys) (lt : hb < w.heap.size) (ge : B ≤ hb) (h1 : vb.ownBlock ≠ some hb) (h2 : vn.ownBlock ≠ some hb) (h3 : vb.ownBlock = none ∨ vb.ownBlock ≠ vn.ownBlock) (hb1 : nb + 3 ≤ 140737488352000) (hn1 : nn + 3 ≤ 17592186044000) (hes : es.length + 4 ≤ 17000000000000)
    (sep : ∀ b, HE.in_ ⟨hb, vb, nb, vn, nn, (es.length : Int) + 1⟩ b → b ≠ wb ∧ vh.ownBlock ≠ some b ∧ ∀ e ∈ es, ¬ e.in_ b) :
    Calls Tryz.prog 57 #[.pointer (some ⟨wb, 0, none⟩), .pointer (some ⟨hb, 0, none⟩)] w fun r w' => r = .returned (.tuple #[]) ∧ ∃ vh' es', es'.length = es.length + 4 ∧ WI w' B wb vp vh' es' ∧ Tch (fun b => b = wb ∨ vh.ownBlock = some b ∨ HE.in_ ⟨hb, vb, nb, vn, nn, (es.length : Int) + 1⟩ b) w w' ∧ (∀ b, vh'.ownBlock = some b → vh.ownBlock = some b ∨ w.heap.size ≤ b) ∧ ∀ e ∈ es', ∀ b, e.in_ b → (∃ f ∈ es, f.in_ b) ∨ HE.in_ ⟨hb, vb, nb, vn, nn, (es.length : Int) + 1⟩ b ∨ w.heap.size ≤ b := by
  obtain ⟨i0, hi, hz0, hz1, hz2⟩ := info_parts Tryz.infoH
  obtain ⟨a, cap, g, hvh, ha, _, hc⟩ := own_shape hw.own
  have HW : Hid (WI w B wb vp vh es) := hw
  have e1 := hw.h
  rw [hvh] at e1
  have hwl := hw.lt
  have SEP : Hid (∀ b, HE.in_ ⟨hb, vb, nb, vn, nn, (es.length : Int) + 1⟩ b → b ≠ wb ∧ vh.ownBlock ≠ some b ∧ ∀ e ∈ es, ¬ e.in_ b) := sep
  have OB : Hid (w.ownsRow B 5 1 vb nb xs) := ob
  have ON : Hid (w.ownsRow B 3 1 vn nn ys) := on
  have H3 : Hid (vb.ownBlock = none ∨ vb.ownBlock ≠ vn.ownBlock) := h3
  have H12 : Hid (vb.ownBlock ≠ some hb ∧ vn.ownBlock ≠ some hb) := ⟨h1, h2⟩
  have hNB : ∀ b, HE.in_ ⟨hb, vb, nb, vn, nn, (es.length : Int) + 1⟩ b → b < w.heap.size := by
    rintro b (h | h | h)
    · rw [h]; exact lt
    · exact (ob.lt b h).2
    · exact (on.lt b h).2
  have HNB : Hid (∀ b, HE.in_ ⟨hb, vb, nb, vn, nn, (es.length : Int) + 1⟩ b → b < w.heap.size) := hNB
  have HC01 : Hid (w.cell? ⟨hb, 0, none⟩ = some vb ∧ w.cell? ⟨hb, 1, none⟩ = some vn) := ⟨c0, c1⟩
  have HVH : Hid (vh = .slice a es.length cap) := hvh
  clear hw ha hc sep ob on h1 h2 h3 hNB hvh c0 c1
  go_enter Tryz.func57, Tryz.ntmps57
  go_wp2_with fail
  have ht1 : Tch (HE.in_ ⟨hb, vb, nb, vn, nn, (es.length : Int) + 1⟩) w (w.setCell ⟨hb, 2, none⟩ (.int .i64 ((es.length : Int) + 1))) := Tch.set _ w ⟨hb, 2, none⟩ _ (.inl rfl)
  have d0 : (w.setCell ⟨hb, 2, none⟩ (.int .i64 ((es.length : Int) + 1))).cell? ⟨hb, 0, none⟩ = some vb := (World.cell?_setCell_other _ _ _ _ (by simp)).trans HC01.out.1
  have d1 : (w.setCell ⟨hb, 2, none⟩ (.int .i64 ((es.length : Int) + 1))).cell? ⟨hb, 1, none⟩ = some vn := (World.cell?_setCell_other _ _ _ _ (by simp)).trans HC01.out.2
  have d2 : (w.setCell ⟨hb, 2, none⟩ (.int .i64 ((es.length : Int) + 1))).cell? ⟨hb, 2, none⟩ = some (.int .i64 ((es.length : Int) + 1)) := World.cell?_setCell_same' w _ _ (by rw [c2]; rfl)
  have hs1 : Tch (fun b => b = hb) w (w.setCell ⟨hb, 2, none⟩ (.int .i64 ((es.length : Int) + 1))) := Tch.set _ w ⟨hb, 2, none⟩ _ rfl
  have ob1 := owns_tch OB.out hs1 (fun b x y => H12.out.1 (y ▸ x))
  have on1 := owns_tch ON.out hs1 (fun b x y => H12.out.2 (y ▸ x))
  have lt1 : hb < (w.setCell ⟨hb, 2, none⟩ (.int .i64 ((es.length : Int) + 1))).heap.size := Nat.lt_of_lt_of_le lt hs1.size
  clear hs1 e1
  generalize w.setCell ⟨hb, 2, none⟩ (.int .i64 ((es.length : Int) + 1)) = W1 at *
  refine (marks_any hb B vb vn nb nn xs ys ((es.length : Int) + 1) W1 d0 d1 d2 ob1 on1 lt1 H12.out.1 H12.out.2 H3.out (by omega) (by omega) (by omega) (by omega)).mono ?_
  rintro r w2 ⟨rfl, ob2, on2, ht2⟩
  have oh2 : OH w2 B ⟨hb, vb, nb, vn, nn, (es.length : Int) + 1⟩ := by
    have hbk := ht2.block hb lt1 (fun x => x.elim H12.out.1 H12.out.2)
    exact ⟨(World.cell?_of_block (w := W1) (a := ⟨hb, 0, none⟩) hbk).trans d0, (World.cell?_of_block (w := W1) (a := ⟨hb, 1, none⟩) hbk).trans d1, (World.cell?_of_block (w := W1) (a := ⟨hb, 2, none⟩) hbk).trans d2, ob2, on2, Nat.lt_of_lt_of_le lt1 ht2.size, ge, H12.out.1, H12.out.2, H3.out, by show (0 : Int) < (es.length : Int) + 1; omega, by show (es.length : Int) + 1 ≤ (4611686018427387904 : Int); omega, by show nb ≤ _; omega, by show nn ≤ _; omega⟩
  have ht : Tch (HE.in_ ⟨hb, vb, nb, vn, nn, (es.length : Int) + 1⟩) w w2 := ht1.trans (ht2.mono (fun b x => .inr x))
  clear ob2 on2 ht2 ob1 on1 d0 d1 d2 ht1 lt1
  have HT : Hid (_) := ht
  have OH2 : Hid (_) := oh2
  have hwi2 : WI w2 B wb vp vh es := HW.out.of_tch ht (fun x => (SEP.out wb x).1 rfl) (fun b x y => (SEP.out b y).2.1 x) (fun e he b x y => (SEP.out b y).2.2 e he x)
  have e2 := hwi2.h
  have f3 := hwi2.f
  have hown2 := hwi2.own
  have hne2 := hwi2.ne
  have hlt2 := hwi2.lt
  have hsz2 := ht.size
  rw [HVH.out] at e2 hown2
  have HOWN : Hid (w2.ownsRow B 104 1 (.slice a es.length cap) es.length (es.map fun e => .pointer (some ⟨e.hb, 0, none⟩))) := hown2
  have HWI2 : Hid (WI w2 B wb vp vh es) := hwi2
  have HNE2 : Hid (vh.ownBlock ≠ some wb) := hne2
  clear ht oh2 hwi2 hown2 hne2
  have hB2 : B ≤ w2.heap.size := by omega
  have eq : Hid ((Value.slice a es.length cap).ownBlock = vh.ownBlock) := by show _ = _; rw [HVH.out]
  go_upto_region 2 with fail
  go_cut [] (fun wx => ∃ vk, KI w wx B wb vp vh es ⟨hb, vb, nb, vn, nn, (es.length : Int) + 1⟩ 0 vk [⟨hb, vb, nb, vn, nn, (es.length : Int) + 1⟩] ⟨hb, vb, nb, vn, nn, (es.length : Int) + 1⟩)
  case first =>
    go_wp2_with (at_builtin; go_must (refine wpList_append_keep _ rfl (.tmp 21) (.tmp 23) 66 rfl B 104 i0 (.pointer none) 8 Tryz.underlying66 hi hz0 hz1 hz2 rfl _ es.length (es.map fun e => .pointer (some ⟨e.hb, 0, none⟩)) rfl (HOWN.out.alloc _) ⟨w2.heap.size, 0, none⟩ 1 1 [.pointer (some ⟨hb, 0, none⟩)] rfl rfl (cell_one_new _ _ _) (by intro u hu; simp at hu; subst hu; rfl) (by omega) (by unfold maxLen; omega) (by omega) (by simp; omega) _ rfl ?_; intro gv capv w3 hown3 _ hgrow3 hat3 hlt3; have e3 : w3.cell? ⟨wb, 1, none⟩ = some (.slice a es.length cap) := (World.cell?_of_block (w := w2) (a := ⟨wb, 1, none⟩) ((tch_grown hgrow3).block _ hlt2 (fun x => HNE2.out (eq.out.symm.trans x)))).trans e2; have u3 : w3.frozen? ⟨wb, 1, none⟩ = false := (World.frozen?_of_block (w := w2) (a := ⟨wb, 1, none⟩) ((tch_grown hgrow3).block _ hlt2 (fun x => HNE2.out (eq.out.symm.trans x)))).trans f3))
    go_meet
    have hg3 : (w2.alloc (.cells #[.pointer (some ⟨hb, 0, none⟩)] 104)).grownBy w3 (Value.slice a es.length cap).ownBlock := hgrow3
    have ha3 : (Value.slice a es.length cap).ownBlock = some gv ∨ gv = w2.heap.size + 1 := hat3.elim (fun x => .inl x) (fun x => .inr (x.trans (by simp)))
    rw [eq.out] at hg3 ha3
    exact ⟨_, KI.start HW.out (fun b hb => ⟨HNB.out b hb, SEP.out b hb⟩) HT.out OH2.out hg3 hown3 ha3⟩
  case rest =>
    obtain ⟨vk, hk⟩ := hcut
    clear e2 f3 HOWN HWI2 HNE2 eq hlt2
    go_wp2_with fail
    go_loopw [4, 5] (fun v i wr => ∃ (k : Nat) (vk : Value) (fs : List HE) (g : HE), k ≤ 3 ∧ v = .pointer (some ⟨g.hb, 0, none⟩) ∧ i = .int .i64 k ∧ Hid (KI w wr B wb vp vh es ⟨hb, vb, nb, vn, nn, (es.length : Int) + 1⟩ k vk fs g)) (fun _ i _ => 3 - (intOf i).toNat)
    case atStart => exact ⟨0, vk, _, _, by omega, rfl, rfl, hk⟩
    case round =>
      obtain ⟨k, vk, fs, g, hk3, rfl, rfl, HK⟩ := hrel
      clear hk
      by_cases hlt : k < 3
      · have hI : (k : Int) < 3 := by omega
        have hnb := HK.out.nb
        have hnn := HK.out.nn
        have hlen := HK.out.len
        have hsz := HK.out.t.size
        simp only at hnb hnn
        go_wp2_with fail
        refine (longer_any B g wr HK.out.oh (by omega) (by omega) (by omega)).mono ?_
        rintro r w5 ⟨e', rfl, q1, q2, q3, q4, q5, q6, q7, q8, q9, q10, q11⟩
        obtain ⟨l, hl⟩ : ∃ l, l = es ++ fs := ⟨_, rfl⟩
        have hll : l.length ≤ 17000000000000 := by rw [hl, List.length_append]; omega
        have K1 := HK.out.wi.own
        have K2 := HK.out.wi.h
        have K3 := HK.out.wi.f
        have K4 := HK.out.wi.ne
        have K5 := HK.out.wi.lt
        rw [← hl] at K1
        obtain ⟨a2, cap2, _, hv2, _, _, _⟩ := own_shape K1
        have wbn : ¬ g.in_ wb := fun x => (HK.out.gs wb x).1 rfl
        have x1 : w5.cell? ⟨wb, 1, none⟩ = some vk := (World.cell?_of_block (w := wr) (a := ⟨wb, 1, none⟩) (q11.block wb K5 wbn)).trans K2
        have x2 : w5.frozen? ⟨wb, 1, none⟩ = false := (World.frozen?_of_block (w := wr) (a := ⟨wb, 1, none⟩) (q11.block wb K5 wbn)).trans K3
        have own5 := owns_tch K1 q11 (fun b y1 y2 => (HK.out.gs b y2).2.1 y1)
        have K6 : wb < w5.heap.size := Nat.lt_of_lt_of_le K5 q11.size
        have hB5 : B ≤ w5.heap.size := by have := q11.size; omega
        rw [hv2] at x1 own5
        have eq : Hid ((Value.slice a2 l.length cap2).ownBlock = vk.ownBlock) := by show _ = _; rw [hv2]
        have OWN5 : Hid (w5.ownsRow B 104 1 (.slice a2 l.length cap2) l.length (l.map fun e => .pointer (some ⟨e.hb, 0, none⟩))) := own5
        have KNE : Hid (vk.ownBlock ≠ some wb) := K4
        have HL : Hid (l = es ++ fs) := hl
        have HQ : Hid (OH w5 B e' ∧ OH w5 B g ∧ e'.nb = g.nb + 1 ∧ e'.nn = g.nn + 1 ∧ e'.m = g.m ∧ wr.heap.size ≤ e'.hb ∧ (∀ b, e'.in_ b → g.in_ b ∨ wr.heap.size ≤ b) ∧ (∀ b, e'.in_ b → b < w5.heap.size) ∧ (e'.vb.ownBlock = g.vb.ownBlock ∨ ∀ b, e'.vb.ownBlock = some b → wr.heap.size ≤ b) ∧ (e'.vn.ownBlock = g.vn.ownBlock ∨ ∀ b, e'.vn.ownBlock = some b → wr.heap.size ≤ b) ∧ Tch g.in_ wr w5) := ⟨q1, q2, q3, q4, q5, q6, q7, q8, q9, q10, q11⟩
        clear q1 q2 q3 q4 q5 q6 q7 q8 q9 q10 q11 K1 K2 K3 K4 K5 hl own5 hv2 wbn hnb hnn
        go_upto_region 8 with fail
        go_wp2_with (at_builtin; go_must (refine wpList_append_keep _ rfl (.tmp 38) (.tmp 40) 66 rfl B 104 i0 (.pointer none) 8 Tryz.underlying66 hi hz0 hz1 hz2 rfl _ l.length (l.map fun e => .pointer (some ⟨e.hb, 0, none⟩)) rfl (OWN5.out.alloc _) ⟨w5.heap.size, 0, none⟩ 1 1 [.pointer (some ⟨e'.hb, 0, none⟩)] rfl rfl (cell_one_new _ _ _) (by intro u hu; simp at hu; subst hu; rfl) (by omega) (by unfold maxLen; omega) (by omega) (by simp; omega) _ rfl ?_; intro gv capv w3 hown3 _ hgrow3 hat3 hlt3; have e3 : w3.cell? ⟨wb, 1, none⟩ = some (.slice a2 l.length cap2) := (World.cell?_of_block (w := w5) (a := ⟨wb, 1, none⟩) ((tch_grown hgrow3).block _ K6 (fun x => KNE.out (eq.out.symm.trans x)))).trans x1; have u3 : w3.frozen? ⟨wb, 1, none⟩ = false := (World.frozen?_of_block (w := w5) (a := ⟨wb, 1, none⟩) ((tch_grown hgrow3).block _ K6 (fun x => KNE.out (eq.out.symm.trans x)))).trans x2))
        have hg3 : (w5.alloc (.cells #[.pointer (some ⟨e'.hb, 0, none⟩)] 104)).grownBy w3 (Value.slice a2 l.length cap2).ownBlock := hgrow3
        have ha3 : (Value.slice a2 l.length cap2).ownBlock = some gv ∨ gv = w5.heap.size + 1 := hat3.elim (fun x => .inl x) (fun x => .inr (x.trans (by simp)))
        rw [eq.out] at hg3 ha3
        obtain ⟨q1, q2, q3, q4, q5, q6, q7, q8, q9, q10, q11⟩ := HQ.out
        obtain rfl := HL.out
        have hnx := HK.out.next (fun e he b hb => ⟨(HW.out.sep e he b hb).2.1, fun x => (SEP.out b x).2.2 e he hb⟩) q1 q2 q3 q4 q5 q6 q7 q8 q9 q10 q11 hg3 hown3 ha3
        exact ⟨⟨k + 1, _, _, e', by omega, rfl, by go_num, hnx⟩, by simp [intOf]; omega⟩
      · go_wp2_with fail
        go_end0
        have h := HK.out
        have hk4 : k = 3 := by omega
        refine ⟨rfl, vk, es ++ fs, ?_, h.wi, h.t, ?_, ?_⟩
        · rw [List.length_append, h.len, hk4]
        · intro b hb
          rcases h.vk with x | x
          · exact .inl (x ▸ hb)
          · exact .inr (x b hb)
        · intro e he b hb
          rcases List.mem_append.1 he with he | he
          · exact .inl ⟨e, he, hb⟩
          · exact .inr (h.fn e he b hb)
end Go.Proofs.YtoeihlgidakjbaaGreatDoor
namespace Go.Proofs.YtoeihlgidakjbaaGreatDoor
open Go.RowKit Go.Lib
theorem conv_own {w : World} {B : Nat} {v : Value} {n : Nat} {l : List UInt8} (h : w.ownsRow B 5 1 v n (l.map bv)) : (convert 52 9 v).run Tryz.prog w = .ok (.string ⟨l.toArray⟩) w := by
  by_cases h0 : 0 < l.length
  · obtain ⟨rfl, g, cap, rfl, _, _, _, _, hr⟩ := owns_rd h h0
    exact conv_bytes w g 0 cap l hr
  · have hl : l = [] := List.eq_nil_of_length_eq_zero (by omega)
    subst hl
    have hn : n = 0 := by have := h.1; simp at this; omega
    subst hn
    rcases h.2 with ⟨rfl, _⟩ | ⟨g, cap, cur, rfl, _⟩
    · rw [run_convert_bytes_string w 52 9 5 _ _ _ Tryz.underlying52 Tryz.underlying5 Tryz.underlying9]
      rfl
    · exact conv_bytes w g 0 cap [] (fun k hk => absurd hk (Nat.not_lt_zero _))
theorem WI.below {w w' : World} {B wb : Nat} {vp vh : Value} {es : List HE} (h : WI w B wb vp vh es) (hb : Below w.heap.size w w') : WI w' B wb vp vh es :=
  h.of_tch (S := fun _ => False) (Tch.of_below hb) id (fun _ _ x => x) (fun _ _ _ _ x => x)
theorem WI.vlt {w : World} {B wb : Nat} {vp vh : Value} {es : List HE} (h : WI w B wb vp vh es) : ∀ b, vh.ownBlock = some b → B ≤ b ∧ b < w.heap.size := fun b hb => h.own.lt b hb
end Go.Proofs.YtoeihlgidakjbaaGreatDoor

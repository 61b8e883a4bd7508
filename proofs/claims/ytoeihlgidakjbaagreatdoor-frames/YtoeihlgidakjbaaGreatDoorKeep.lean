/- The laws' keep: one list more that is its owner's, and three places more behind it. -/
import Derived.Test.YtoeihlgidakjbaaGreatDoorHold4
namespace Go.Proofs.YtoeihlgidakjbaaGreatDoor
open Go.RowKit Go.Lib

/-- f is an earlier stage of g: each list of f lies in g's room, ahead of its end, or apart from g. -/
structure Pre (f g : HE) : Prop where
  m : f.m = g.m
  nb : f.nb ≤ g.nb
  nn : f.nn ≤ g.nn
  hb : f = g ∨ ¬ g.in_ f.hb
  vb : f.vb.ownBlock = g.vb.ownBlock ∨ ∀ b, f.vb.ownBlock = some b → ¬ g.in_ b
  vn : f.vn.ownBlock = g.vn.ownBlock ∨ ∀ b, f.vn.ownBlock = some b → ¬ g.in_ b
theorem Pre.self (g : HE) : Pre g g := ⟨rfl, Nat.le_refl _, Nat.le_refl _, .inl rfl, .inl rfl, .inl rfl⟩
theorem hi_pre {w w' : World} {B : Nat} {f g : HE} (h : HI w f) (p : Pre f g) (hg' : OH w' B g) (ht : Tch g.in_ w w') (hlt : ∀ b, f.in_ b → b < w.heap.size) : HI w' f := by
  rcases p.hb with rfl | hb
  · exact hg'.hi
  · have hc : w'.heap[f.hb]? = w.heap[f.hb]? := ht.block _ (hlt _ (.inl rfl)) hb
    refine ⟨(World.cell?_of_block (w := w) (a := ⟨f.hb, 0, none⟩) hc).trans h.c0, (World.cell?_of_block (w := w) (a := ⟨f.hb, 1, none⟩) hc).trans h.c1, (World.cell?_of_block (w := w) (a := ⟨f.hb, 2, none⟩) hc).trans h.c2, ?_, ?_, h.m0, h.m1⟩
    · rcases p.vb with h1 | h1
      · obtain ⟨a, cap, g0, hv, hn, ha, hcl⟩ := h.b
        refine ⟨a, cap, g0, hv, hn, ha, fun j hj => ?_⟩
        obtain ⟨a2, cap2, g2, hv2, ha2, _, hc2⟩ := own_shape hg'.ob
        have hjg : j < g.nb := Nat.lt_of_lt_of_le hj p.nb
        rw [hv, hv2, ha (by omega), ha2 (by omega)] at h1
        have e : g0 = g2 := by simpa [Value.ownBlock] using h1
        rw [e, hc2 j hjg, marksB, List.getElem?_map, List.getElem?_eq_getElem (by simpa using hjg), p.m]
        simp
      · exact br_of h.b (fun b hb' => ht.block b (hlt _ (.inr (.inl hb'))) (h1 b hb'))
    · rcases p.vn with h1 | h1
      · obtain ⟨a, cap, g0, hv, hn, ha, hcl⟩ := h.n
        refine ⟨a, cap, g0, hv, hn, ha, fun j hj => ?_⟩
        obtain ⟨a2, cap2, g2, hv2, ha2, _, hc2⟩ := own_shape hg'.on
        have hjg : j < g.nn := Nat.lt_of_lt_of_le hj p.nn
        rw [hv, hv2, ha (by omega), ha2 (by omega)] at h1
        have e : g0 = g2 := by simpa [Value.ownBlock] using h1
        rw [e, hc2 j hjg, List.getElem?_eq_getElem (by simpa using hjg), p.m]
        simp
      · exact nr_of h.n (fun b hb' => ht.block b (hlt _ (.inr (.inr hb'))) (h1 b hb'))
theorem Pre.longer {w : World} {B : Nat} {f g g' : HE} (p : Pre f g) (hg : OH w B g) (hlt : ∀ b, f.in_ b → b < w.heap.size) (hm : g'.m = g.m) (hnb : g.nb ≤ g'.nb) (hnn : g.nn ≤ g'.nn) (hh : w.heap.size ≤ g'.hb)
    (hvb : g'.vb.ownBlock = g.vb.ownBlock ∨ ∀ b, g'.vb.ownBlock = some b → w.heap.size ≤ b) (hvn : g'.vn.ownBlock = g.vn.ownBlock ∨ ∀ b, g'.vn.ownBlock = some b → w.heap.size ≤ b) : Pre f g' := by
  refine ⟨p.m.trans hm.symm, Nat.le_trans p.nb hnb, Nat.le_trans p.nn hnn, ?_, ?_, ?_⟩
  · right
    have hl := hlt _ (.inl rfl)
    rintro (h | h | h)
    · omega
    · rcases hvb with h' | h'
      · rw [h'] at h
        rcases p.hb with rfl | hb
        · exact hg.h1 h
        · exact hb (.inr (.inl h))
      · have := h' _ h; omega
    · rcases hvn with h' | h'
      · rw [h'] at h
        rcases p.hb with rfl | hb
        · exact hg.h2 h
        · exact hb (.inr (.inr h))
      · have := h' _ h; omega
  · rcases p.vb with h1 | h1
    · rcases hvb with h' | h'
      · exact .inl (h1.trans h'.symm)
      · right
        intro b hb
        have hl := hlt _ (.inr (.inl hb))
        rintro (h | h | h)
        · omega
        · have := h' _ h; omega
        · rcases hvn with h2 | h2
          · rcases hg.h3 with h3 | h3
            · rw [h3] at h1; rw [h1] at hb; cases hb
            · exact h3 (h1.symm.trans (hb.trans (h.symm.trans h2)))
          · have := h2 _ h; omega
    · right
      intro b hb
      have hl := hlt _ (.inr (.inl hb))
      rintro (h | h | h)
      · omega
      · rcases hvb with h2 | h2
        · exact h1 b hb (.inr (.inl (h2.symm.trans h)))
        · have := h2 _ h; omega
      · rcases hvn with h2 | h2
        · exact h1 b hb (.inr (.inr (h2.symm.trans h)))
        · have := h2 _ h; omega
  · rcases p.vn with h1 | h1
    · rcases hvn with h' | h'
      · exact .inl (h1.trans h'.symm)
      · right
        intro b hb
        have hl := hlt _ (.inr (.inr hb))
        rintro (h | h | h)
        · omega
        · rcases hvb with h2 | h2
          · rcases hg.h3 with h3 | h3
            · rw [h2, h3] at h; cases h
            · exact h3 (h2.symm.trans (h.trans (hb.symm.trans h1)))
          · have := h2 _ h; omega
        · have := h' _ h; omega
    · right
      intro b hb
      have hl := hlt _ (.inr (.inr hb))
      rintro (h | h | h)
      · omega
      · rcases hvb with h2 | h2
        · exact h1 b hb (.inr (.inl (h2.symm.trans h)))
        · have := h2 _ h; omega
      · rcases hvn with h2 | h2
        · exact h1 b hb (.inr (.inr (h2.symm.trans h)))
        · have := h2 _ h; omega
end Go.Proofs.YtoeihlgidakjbaaGreatDoor

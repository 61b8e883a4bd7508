/- The laws' keep, walked. -/
import Derived.Test.YtoeihlgidakjbaaGreatDoorKeep
namespace Go.Proofs.YtoeihlgidakjbaaGreatDoor
open Go.RowKit Go.Lib

theorem WI.of_tch {w w' : World} {B wb : Nat} {vp vh : Value} {es : List HE} (h : WI w B wb vp vh es) {S : Nat → Prop} (ht : Tch S w w') (h1 : ¬ S wb) (h2 : ∀ b, vh.ownBlock = some b → ¬ S b) (h3 : ∀ e ∈ es, ∀ b, e.in_ b → ¬ S b) : WI w' B wb vp vh es := by
  have hc := ht.block wb h.lt h1
  exact ⟨(World.cell?_of_block (w := w) (a := ⟨wb, 0, none⟩) hc).trans h.p, (World.cell?_of_block (w := w) (a := ⟨wb, 1, none⟩) hc).trans h.h, (World.frozen?_of_block (w := w) (a := ⟨wb, 1, none⟩) hc).trans h.f, (World.frozen?_of_block (w := w) (a := ⟨wb, 0, none⟩) hc).trans h.f0,
    owns_tch h.own ht h2, fun e he => hi_of (h.all e he) (fun b hb => ht.block b (h.sep e he b hb).2.1 (h3 e he b hb)), Nat.lt_of_lt_of_le h.lt ht.size, h.ge, h.ne,
    fun e he b hb => ⟨(h.sep e he b hb).1, Nat.lt_of_lt_of_le (h.sep e he b hb).2.1 ht.size, (h.sep e he b hb).2.2⟩⟩
theorem push {w w1 : World} {B wb : Nat} {vp vh : Value} {es : List HE} {o : Obj} (h : WI w B wb vp vh es) (g : HE) (hg : HI w g) (hs : ∀ b, g.in_ b → B ≤ b ∧ b < w.heap.size ∧ b ≠ wb ∧ vh.ownBlock ≠ some b) {gv cap : Nat}
    (hr : (w.alloc o).grownBy w1 vh.ownBlock) (own : w1.ownsRow B 104 1 (.slice (some ⟨gv, 0, none⟩) (es.length + 1) cap) (es.length + 1) ((es.map fun e => .pointer (some ⟨e.hb, 0, none⟩)) ++ [.pointer (some ⟨g.hb, 0, none⟩)]))
    (hat : vh.ownBlock = some gv ∨ gv = w.heap.size + 1) :
    WI (w1.setCell ⟨wb, 1, none⟩ (.slice (some ⟨gv, 0, none⟩) (es.length + 1) cap)) B wb vp (.slice (some ⟨gv, 0, none⟩) (es.length + 1) cap) (es ++ [g]) ∧ Tch (fun b => b = wb ∨ vh.ownBlock = some b) w (w1.setCell ⟨wb, 1, none⟩ (.slice (some ⟨gv, 0, none⟩) (es.length + 1) cap)) := by
  have ht1 : Tch (fun b => vh.ownBlock = some b) w w1 := tch_grown hr
  have ht : Tch (fun b => b = wb ∨ vh.ownBlock = some b) w (w1.setCell ⟨wb, 1, none⟩ (.slice (some ⟨gv, 0, none⟩) (es.length + 1) cap)) := (ht1.mono (fun _ h => .inr h)).trans (Tch.set _ w1 ⟨wb, 1, none⟩ _ (.inl rfl))
  refine ⟨?_, ht⟩
  have hwb : w1.heap[wb]? = w.heap[wb]? := ht1.block wb h.lt h.ne
  have d1 : w1.cell? ⟨wb, 1, none⟩ = some vh := (World.cell?_of_block (w := w) (a := ⟨wb, 1, none⟩) hwb).trans h.h
  have hgv : gv ≠ wb := by
    rcases hat with h' | h'
    · exact fun e => h.ne (e ▸ h')
    · have := h.lt; omega
  have hgb : ∀ b, b < w.heap.size → vh.ownBlock ≠ some b → gv ≠ b := by
    intro b hb hn e
    rcases hat with h' | h'
    · exact hn (e ▸ h')
    · omega
  have hsz : w.heap.size ≤ w1.heap.size := ht1.size
  have hall : ∀ e, HI w e → (∀ b, e.in_ b → B ≤ b ∧ b < w.heap.size ∧ b ≠ wb ∧ vh.ownBlock ≠ some b) → HI (w1.setCell ⟨wb, 1, none⟩ (.slice (some ⟨gv, 0, none⟩) (es.length + 1) cap)) e := by
    intro e he hse
    refine hi_of he (fun b hb => ht.block b (hse b hb).2.1 ?_)
    rintro (h' | h')
    · exact (hse b hb).2.2.1 h'
    · exact (hse b hb).2.2.2 h'
  have hsep : ∀ e : HE, (∀ b, e.in_ b → B ≤ b ∧ b < w.heap.size ∧ b ≠ wb ∧ vh.ownBlock ≠ some b) → ∀ b, e.in_ b → B ≤ b ∧ b < (w1.setCell ⟨wb, 1, none⟩ (.slice (some ⟨gv, 0, none⟩) (es.length + 1) cap)).heap.size ∧ b ≠ wb ∧ (Value.slice (some ⟨gv, 0, none⟩) (es.length + 1) cap).ownBlock ≠ some b := by
    intro e hse b hb
    obtain ⟨q1, q2, q3, q4⟩ := hse b hb
    refine ⟨q1, by simp; omega, q3, ?_⟩
    have := hgb b q2 q4
    simpa [Value.ownBlock] using this
  refine ⟨?_, ?_, ?_, ?_, ?_, ?_, ?_, h.ge, ?_, ?_⟩
  · exact (World.cell?_setCell_other _ _ _ _ (by simp)).trans ((World.cell?_of_block (w := w) (a := ⟨wb, 0, none⟩) hwb).trans h.p)
  · exact World.cell?_setCell_same' w1 _ _ (by rw [d1]; rfl)
  · have := (World.frozen?_of_block (w := w) (a := ⟨wb, 1, none⟩) hwb).trans h.f
    simpa using this
  · have := (World.frozen?_of_block (w := w) (a := ⟨wb, 0, none⟩) hwb).trans h.f0
    simpa using this
  · have := owns_tch own (Tch.set (fun b => b = wb) w1 ⟨wb, 1, none⟩ (.slice (some ⟨gv, 0, none⟩) (es.length + 1) cap) rfl) (fun b h1 h2 => hgv (by simp [Value.ownBlock] at h1; omega))
    simpa using this
  · intro e he
    rcases List.mem_append.1 he with he | he
    · exact hall e (h.all e he) (h.sep e he)
    · rw [List.mem_singleton.1 he]; exact hall g hg hs
  · have := h.lt; simp; omega
  · simpa [Value.ownBlock] using hgv
  · intro e he
    rcases List.mem_append.1 he with he | he
    · exact hsep e (h.sep e he)
    · rw [List.mem_singleton.1 he]; exact hsep g hs
theorem Tryz.infoH : (Tryz.prog.info? 104).map (fun i => (i.zero, i.size, i.bytes)) = some (some (.pointer none), 1, 8) := by kernel_rfl
end Go.Proofs.YtoeihlgidakjbaaGreatDoor

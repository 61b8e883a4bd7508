/- The laws' world of holds; looks; marks. -/
import Derived.Test.YtoeihlgidakjbaaGreatDoorHold1
namespace Go.Proofs.YtoeihlgidakjbaaGreatDoor
open Go.RowKit Go.Lib

/-- The blocks that a hold lies in. -/
def HE.in_ (e : HE) (b : Nat) : Prop := b = e.hb ∨ e.vb.ownBlock = some b ∨ e.vn.ownBlock = some b
theorem br_of {w w' : World} {v : Value} {n : Nat} {m : Int} (h : BR w v n m) (hb : ∀ b, v.ownBlock = some b → w'.heap[b]? = w.heap[b]?) : BR w' v n m := by
  obtain ⟨a, cap, g, rfl, h1, h2, h3⟩ := h
  refine ⟨a, cap, g, rfl, h1, h2, fun j hj => ?_⟩
  have ha := h2 (by omega)
  subst ha
  exact (World.cell?_of_block (w := w) (a := ⟨g, j, none⟩) (hb g rfl)).trans (h3 j hj)
theorem nr_of {w w' : World} {v : Value} {n : Nat} {m : Int} (h : NR w v n m) (hb : ∀ b, v.ownBlock = some b → w'.heap[b]? = w.heap[b]?) : NR w' v n m := by
  obtain ⟨a, cap, g, rfl, h1, h2, h3⟩ := h
  refine ⟨a, cap, g, rfl, h1, h2, fun j hj => ?_⟩
  have ha := h2 (by omega)
  subst ha
  exact (World.cell?_of_block (w := w) (a := ⟨g, j, none⟩) (hb g rfl)).trans (h3 j hj)
theorem hi_of {w w' : World} {e : HE} (h : HI w e) (hb : ∀ b, e.in_ b → w'.heap[b]? = w.heap[b]?) : HI w' e :=
  ⟨(World.cell?_of_block (w := w) (a := ⟨e.hb, 0, none⟩) (hb _ (.inl rfl))).trans h.c0, (World.cell?_of_block (w := w) (a := ⟨e.hb, 1, none⟩) (hb _ (.inl rfl))).trans h.c1, (World.cell?_of_block (w := w) (a := ⟨e.hb, 2, none⟩) (hb _ (.inl rfl))).trans h.c2,
   br_of h.b (fun b hb' => hb b (.inr (.inl hb'))), nr_of h.n (fun b hb' => hb b (.inr (.inr hb'))), h.m0, h.m1⟩

/-- The world of a script: its list of ends (vp) and its holds. -/
structure WI (w : World) (B wb : Nat) (vp vh : Value) (es : List HE) : Prop where
  p : w.cell? ⟨wb, 0, none⟩ = some vp
  h : w.cell? ⟨wb, 1, none⟩ = some vh
  f : w.frozen? ⟨wb, 1, none⟩ = false
  f0 : w.frozen? ⟨wb, 0, none⟩ = false
  own : w.ownsRow B 104 1 vh es.length (es.map fun e => .pointer (some ⟨e.hb, 0, none⟩))
  all : ∀ e ∈ es, HI w e
  lt : wb < w.heap.size
  ge : B ≤ wb
  ne : vh.ownBlock ≠ some wb
  sep : ∀ e ∈ es, ∀ b, e.in_ b → B ≤ b ∧ b < w.heap.size ∧ b ≠ wb ∧ vh.ownBlock ≠ some b

set_option maxHeartbeats 1000000 in
theorem looks_any {B wb : Nat} {vp vh : Value} {es : List HE} (w : World) (hw : WI w B wb vp vh es) (hn : es.length ≤ 1000000000000000) :
    Calls Tryz.prog 35 #[.pointer (some ⟨wb, 0, none⟩)] w fun r w' => r = .returned (.bool true) ∧ ∃ n, w' = w.drewN n := by
  obtain ⟨a, cap, g, rfl, ha, _, hc⟩ := own_shape hw.own
  have HA : Hid (0 < es.length → a = some ⟨g, 0, none⟩) := ha
  have HC : Hid (∀ j (hj : j < es.length), w.cell? ⟨g, j, none⟩ = some (.pointer (some ⟨(es[j]).hb, 0, none⟩))) := by
    intro j hj
    rw [hc j hj, List.getElem?_map, List.getElem?_eq_getElem hj]; rfl
  have HH : Hid (∀ j (hj : j < es.length), HI w es[j]) := fun j hj => hw.all _ (List.getElem_mem hj)
  have c1 := hw.h
  clear ha hc hw
  go_enter Tryz.func35, Tryz.ntmps35
  go_wp2_with fail
  go_loopw [3] (fun i wr => ∃ k : Nat, k ≤ es.length ∧ i = .int .i64 (k : Int) ∧ ∃ n, wr = w.drewN n) (fun i _ => es.length - (intOf i).toNat)
  case atStart => exact ⟨0, by omega, rfl, 0, rfl⟩
  case round =>
    obtain ⟨k, hk, rfl, n, rfl⟩ := hrel
    have d1 : (w.drewN n).cell? ⟨wb, 1, none⟩ = some (.slice a es.length cap) := c1
    by_cases hlt : k < es.length
    · obtain rfl := HA.out (by omega)
      have ck : (w.drewN n).cell? ⟨g, k, none⟩ = some (.pointer (some ⟨(es[k]).hb, 0, none⟩)) := HC.out k hlt
      have hI : (k : Int) < (es.length : Int) := by omega
      have hHI : HI (w.drewN n) es[k] := hi_of (HH.out k hlt) (fun _ _ => rfl)
      clear c1
      generalize hwr : w.drewN n = wr at *
      have HWR : Hid (wr = w.drewN n) := hwr.symm
      clear hwr
      go_wp2_with fail
      refine (marked_any es[k] wr hHI).mono ?_
      rintro e w2 ⟨rfl, n2, rfl⟩
      go_wp2_with fail
      exact ⟨⟨k + 1, by omega, by go_num, n + n2, by rw [HWR.out]; simp⟩, by simp [intOf]; omega⟩
    · go_wp2_with fail
      go_ret
      exact ⟨rfl, _, rfl⟩
end Go.Proofs.YtoeihlgidakjbaaGreatDoor

/- The program's wishesOf and New. -/
import Derived.Test.YtoeihlgidakjbaaGreatDoorPc9
namespace Go.Proofs.YtoeihlgidakjbaaGreatDoor
open Go.RowKit Go.Lib
def wishC (k : Nat) (V : Nat → Value) (D : Nat → Int) (mg : Int) (mb : Nat) : Array Value :=
  #[if 0 < k then V 0 else .slice none 0 0, if 1 < k then V 1 else .slice none 0 0, if 2 < k then V 2 else .slice none 0 0, if 0 < k then V 3 else .slice none 0 0, if 1 < k then V 4 else .slice none 0 0, if 2 < k then V 5 else .slice none 0 0, .int .i64 0, .int .i64 0, .int .i64 0, .int .i64 (if 0 < k then D 0 else 0), .int .i64 (if 1 < k then D 1 else 0), .int .i64 (if 2 < k then D 2 else 0), .int .i64 mg, .map (some mb)]
def usedW (k i : Nat) : Prop := i < k ∨ (3 ≤ i ∧ i < 3 + k)
structure WN (w wr : World) (N : Nat) (X : Nat → Value) (L : Nat → List Int) (D : Nat → Int) (mg : Int) (k : Nat) (V : Nat → Value) : Prop where
  cb : wr.heap[N]? = some (.cells #[X 0, X 1, X 2, X 3, X 4, X 5, .int .i64 mg] 31 (0, 0))
  rb : wr.heap[N + 1]? = some (.cells #[.slice none 0 0, .slice none 0 0, .slice none 0 0, .slice none 0 0, .slice none 0 0, .slice none 0 0, .int .i64 0, .int .i64 0, .int .i64 0, .int .i64 0, .int .i64 0, .int .i64 0, .int .i64 0, .map none] 81 (0, 0))
  mp : MapIs wr (N + 2) [mg.toNat]
  eb : wr.heap[N + 3]? = some (.cells (wishC k V D mg (N + 2)) 81 (0, 0))
  ow : ∀ i, usedW k i → wr.ownsRow (N + 4) 3 1 (V i) (L i).length ((L i).map zv)
  dj : ∀ i j, usedW k i → usedW k j → i ≠ j → ∀ b, (V i).ownBlock = some b → (V j).ownBlock ≠ some b
  bel : Below N w wr
theorem WN.next {w wr W5 : World} {N : Nat} {X : Nat → Value} {L : Nat → List Int} {D : Nat → Int} {mg : Int} {k : Nat} {V : Nat → Value} {a b : Value} (h : WN w wr N X L D mg k V) (hb : W5.heap[N + 3]? = some (.cells (wishC (k + 1) (fun i => if i = k then a else if i = 3 + k then b else V i) D mg (N + 2)) 81 (0, 0)))
    (ht : Tch (fun x => x = N + 3) wr W5) (oa : W5.ownsRow wr.heap.size 3 1 a (L k).length ((L k).map zv)) (ob : W5.ownsRow wr.heap.size 3 1 b (L (3 + k)).length ((L (3 + k)).map zv)) (hab : ∀ x, a.ownBlock = some x → b.ownBlock ≠ some x) :
    WN w W5 N X L D mg (k + 1) (fun i => if i = k then a else if i = 3 + k then b else V i) := by
  have hcb := blk_lt h.cb
  have hrb := blk_lt h.rb
  have heb := blk_lt h.eb
  have hmp := h.mp.lt
  have old : ∀ i, usedW k i → ∀ x, (V i).ownBlock = some x → x < wr.heap.size := fun i hi x hx => ((h.ow i hi).lt x hx).2
  have val : ∀ i, usedW (k + 1) i → (i = k ∧ (if i = k then a else if i = 3 + k then b else V i) = a) ∨ (i = 3 + k ∧ (if i = k then a else if i = 3 + k then b else V i) = b) ∨ (usedW k i ∧ (if i = k then a else if i = 3 + k then b else V i) = V i) := by
    intro i hi
    by_cases e1 : i = k
    · exact .inl ⟨e1, by rw [if_pos e1]⟩
    by_cases e2 : i = 3 + k
    · exact .inr (.inl ⟨e2, by rw [if_neg e1, if_pos e2]⟩)
    · exact .inr (.inr ⟨by unfold usedW at *; omega, by rw [if_neg e1, if_neg e2]⟩)
  refine ⟨(ht.block _ hcb (by omega)).trans h.cb, (ht.block _ hrb (by omega)).trans h.rb, h.mp.blk (ht.block _ hmp (by omega)), hb, ?_, ?_, h.bel.trans (ht.below (Nat.le_of_lt hcb) (fun x hx => by omega))⟩
  · intro i hi
    show World.ownsRow W5 _ _ _ (if i = k then a else if i = 3 + k then b else V i) _ _
    rcases val i hi with ⟨e, q⟩ | ⟨e, q⟩ | ⟨e, q⟩
    · rw [q, e]; exact owns_mono oa (by omega)
    · rw [q, e]; exact owns_mono ob (by omega)
    · rw [q]; exact owns_tch (h.ow i e) ht (fun x hx e2 => by have := ((h.ow i e).lt x hx).1; omega)
  · intro i j hi hj hij x hx
    show (if j = k then a else if j = 3 + k then b else V j).ownBlock ≠ some x
    replace hx : (if i = k then a else if i = 3 + k then b else V i).ownBlock = some x := hx
    rcases val i hi with ⟨e, q⟩ | ⟨e, q⟩ | ⟨e, q⟩ <;> rcases val j hj with ⟨e', q'⟩ | ⟨e', q'⟩ | ⟨e', q'⟩ <;> rw [q] at hx <;> rw [q']
    · omega
    · exact hab x hx
    · intro y; have := old j e' x y; have := (oa.lt x hx).1; omega
    · intro y; exact hab x y hx
    · omega
    · intro y; have := old j e' x y; have := (ob.lt x hx).1; omega
    · intro y; have := old i e x hx; have := (oa.lt x y).1; omega
    · intro y; have := old i e x hx; have := (ob.lt x y).1; omega
    · exact h.dj i j e e' hij x hx
def WishR (w w' : World) (L : Nat → List Int) (D : Nat → Int) (mg : Int) (r : Ending) : Prop :=
  ∃ (V : Nat → Value) (mb : Nat), r = .returned (.agg #[V 0, V 1, V 2, V 3, V 4, V 5, .int .i64 0, .int .i64 0, .int .i64 0, .int .i64 (D 0), .int .i64 (D 1), .int .i64 (D 2), .int .i64 mg, .map (some mb)]) ∧ MapIs w' mb [mg.toNat] ∧ w.heap.size ≤ mb ∧ (∀ i, i < 6 → w'.ownsRow w.heap.size 3 1 (V i) (L i).length ((L i).map zv)) ∧ (∀ i j, i < 6 → j < 6 → i ≠ j → ∀ b, (V i).ownBlock = some b → (V j).ownBlock ≠ some b) ∧ (∀ i, i < 6 → ∀ b, (V i).ownBlock = some b → b ≠ mb) ∧ Below w.heap.size w w'
set_option maxRecDepth 100000 in
set_option maxHeartbeats 4000000 in
theorem wishesOf_any (X : Nat → Value) (L : Nat → List Int) (D : Nat → Int) (mg : Int) (w : World) (hD : ∀ i, i < 3 → (L i).headD 0 = D i) (hX : ∀ i, i < 6 → IntsAt w (X i) (L i)) (hL : ∀ i, i < 6 → IsL (L i)) (hm1 : 1 ≤ mg) (hm2 : mg ≤ 65535) :
    Calls Tryz.prog 71 #[.agg #[X 0, X 1, X 2, X 3, X 4, X 5, .int .i64 mg]] w fun r w' => WishR w w' L D mg r := by
  have HX : Hid (∀ i, i < 6 → IntsAt w (X i) (L i)) := hX
  have HL : Hid (∀ i, i < 6 → IsL (L i)) := hL
  have HD : Hid (∀ i, i < 3 → (L i).headD 0 = D i) := hD
  clear hX hL hD
  have hmk : ∀ wx, (Instr.makeMap 79 none).run Tryz.prog wx = .ok (.map (some wx.heap.size)) (wx.alloc (.map #[] 0)) := fun wx => run_makeMap _ wx
  have z4 : ((((w.alloc (.cells #[X 0, X 1, X 2, X 3, X 4, X 5, .int .i64 mg] 31)).alloc (.cells #[.slice none 0 0, .slice none 0 0, .slice none 0 0, .slice none 0 0, .slice none 0 0, .slice none 0 0, .int .i64 0, .int .i64 0, .int .i64 0, .int .i64 0, .int .i64 0, .int .i64 0, .int .i64 0, .map none] 81)).alloc (.map #[] 0)).alloc (.cells #[.slice none 0 0, .slice none 0 0, .slice none 0 0, .slice none 0 0, .slice none 0 0, .slice none 0 0, .int .i64 0, .int .i64 0, .int .i64 0, .int .i64 0, .int .i64 0, .int .i64 0, .int .i64 0, .map (some (w.heap.size + 2))] 81)).heap.size = w.heap.size + 4 := by simp
  have z3 : (((w.alloc (.cells #[X 0, X 1, X 2, X 3, X 4, X 5, .int .i64 mg] 31)).alloc (.cells #[.slice none 0 0, .slice none 0 0, .slice none 0 0, .slice none 0 0, .slice none 0 0, .slice none 0 0, .int .i64 0, .int .i64 0, .int .i64 0, .int .i64 0, .int .i64 0, .int .i64 0, .int .i64 0, .map none] 81)).alloc (.map #[] 0)).heap.size = w.heap.size + 3 := by simp
  have b3 : Below (((w.alloc (.cells #[X 0, X 1, X 2, X 3, X 4, X 5, .int .i64 mg] 31)).alloc (.cells #[.slice none 0 0, .slice none 0 0, .slice none 0 0, .slice none 0 0, .slice none 0 0, .slice none 0 0, .int .i64 0, .int .i64 0, .int .i64 0, .int .i64 0, .int .i64 0, .int .i64 0, .int .i64 0, .map none] 81)).alloc (.map #[] 0)).heap.size (((w.alloc (.cells #[X 0, X 1, X 2, X 3, X 4, X 5, .int .i64 mg] 31)).alloc (.cells #[.slice none 0 0, .slice none 0 0, .slice none 0 0, .slice none 0 0, .slice none 0 0, .slice none 0 0, .int .i64 0, .int .i64 0, .int .i64 0, .int .i64 0, .int .i64 0, .int .i64 0, .int .i64 0, .map none] 81)).alloc (.map #[] 0)) ((((w.alloc (.cells #[X 0, X 1, X 2, X 3, X 4, X 5, .int .i64 mg] 31)).alloc (.cells #[.slice none 0 0, .slice none 0 0, .slice none 0 0, .slice none 0 0, .slice none 0 0, .slice none 0 0, .int .i64 0, .int .i64 0, .int .i64 0, .int .i64 0, .int .i64 0, .int .i64 0, .int .i64 0, .map none] 81)).alloc (.map #[] 0)).alloc (.cells #[.slice none 0 0, .slice none 0 0, .slice none 0 0, .slice none 0 0, .slice none 0 0, .slice none 0 0, .int .i64 0, .int .i64 0, .int .i64 0, .int .i64 0, .int .i64 0, .int .i64 0, .int .i64 0, .map (some (w.heap.size + 2))] 81)) := (Below.refl _ _).alloc (Nat.le_refl _) _
  have b2 : Below (w.heap.size + 2) ((w.alloc (.cells #[X 0, X 1, X 2, X 3, X 4, X 5, .int .i64 mg] 31)).alloc (.cells #[.slice none 0 0, .slice none 0 0, .slice none 0 0, .slice none 0 0, .slice none 0 0, .slice none 0 0, .int .i64 0, .int .i64 0, .int .i64 0, .int .i64 0, .int .i64 0, .int .i64 0, .int .i64 0, .map none] 81)) (((w.alloc (.cells #[X 0, X 1, X 2, X 3, X 4, X 5, .int .i64 mg] 31)).alloc (.cells #[.slice none 0 0, .slice none 0 0, .slice none 0 0, .slice none 0 0, .slice none 0 0, .slice none 0 0, .int .i64 0, .int .i64 0, .int .i64 0, .int .i64 0, .int .i64 0, .int .i64 0, .int .i64 0, .map none] 81)).alloc (.map #[] 0)) := by
    have := (Below.refl ((w.alloc (.cells #[X 0, X 1, X 2, X 3, X 4, X 5, .int .i64 mg] 31)).alloc (.cells #[.slice none 0 0, .slice none 0 0, .slice none 0 0, .slice none 0 0, .slice none 0 0, .slice none 0 0, .int .i64 0, .int .i64 0, .int .i64 0, .int .i64 0, .int .i64 0, .int .i64 0, .int .i64 0, .map none] 81)).heap.size ((w.alloc (.cells #[X 0, X 1, X 2, X 3, X 4, X 5, .int .i64 mg] 31)).alloc (.cells #[.slice none 0 0, .slice none 0 0, .slice none 0 0, .slice none 0 0, .slice none 0 0, .slice none 0 0, .int .i64 0, .int .i64 0, .int .i64 0, .int .i64 0, .int .i64 0, .int .i64 0, .int .i64 0, .map none] 81))).alloc (Nat.le_refl _) (.map #[] 0)
    have z2 : ((w.alloc (.cells #[X 0, X 1, X 2, X 3, X 4, X 5, .int .i64 mg] 31)).alloc (.cells #[.slice none 0 0, .slice none 0 0, .slice none 0 0, .slice none 0 0, .slice none 0 0, .slice none 0 0, .int .i64 0, .int .i64 0, .int .i64 0, .int .i64 0, .int .i64 0, .int .i64 0, .int .i64 0, .map none] 81)).heap.size = w.heap.size + 2 := by simp
    rw [z2] at this; exact this
  have mp4 : MapIs ((((w.alloc (.cells #[X 0, X 1, X 2, X 3, X 4, X 5, .int .i64 mg] 31)).alloc (.cells #[.slice none 0 0, .slice none 0 0, .slice none 0 0, .slice none 0 0, .slice none 0 0, .slice none 0 0, .int .i64 0, .int .i64 0, .int .i64 0, .int .i64 0, .int .i64 0, .int .i64 0, .int .i64 0, .map none] 81)).alloc (.map #[] 0)).alloc (.cells #[.slice none 0 0, .slice none 0 0, .slice none 0 0, .slice none 0 0, .slice none 0 0, .slice none 0 0, .int .i64 0, .int .i64 0, .int .i64 0, .int .i64 0, .int .i64 0, .int .i64 0, .int .i64 0, .map (some (w.heap.size + 2))] 81)) (w.heap.size + 2) [] := by
    have := MapIs.made ((w.alloc (.cells #[X 0, X 1, X 2, X 3, X 4, X 5, .int .i64 mg] 31)).alloc (.cells #[.slice none 0 0, .slice none 0 0, .slice none 0 0, .slice none 0 0, .slice none 0 0, .slice none 0 0, .int .i64 0, .int .i64 0, .int .i64 0, .int .i64 0, .int .i64 0, .int .i64 0, .int .i64 0, .map none] 81))
    have z2 : ((w.alloc (.cells #[X 0, X 1, X 2, X 3, X 4, X 5, .int .i64 mg] 31)).alloc (.cells #[.slice none 0 0, .slice none 0 0, .slice none 0 0, .slice none 0 0, .slice none 0 0, .slice none 0 0, .int .i64 0, .int .i64 0, .int .i64 0, .int .i64 0, .int .i64 0, .int .i64 0, .int .i64 0, .map none] 81)).heap.size = w.heap.size + 2 := by simp
    rw [z2] at this
    exact this.blk (b3.block _ (by omega))
  have cb4 : ((((w.alloc (.cells #[X 0, X 1, X 2, X 3, X 4, X 5, .int .i64 mg] 31)).alloc (.cells #[.slice none 0 0, .slice none 0 0, .slice none 0 0, .slice none 0 0, .slice none 0 0, .slice none 0 0, .int .i64 0, .int .i64 0, .int .i64 0, .int .i64 0, .int .i64 0, .int .i64 0, .int .i64 0, .map none] 81)).alloc (.map #[] 0)).alloc (.cells #[.slice none 0 0, .slice none 0 0, .slice none 0 0, .slice none 0 0, .slice none 0 0, .slice none 0 0, .int .i64 0, .int .i64 0, .int .i64 0, .int .i64 0, .int .i64 0, .int .i64 0, .int .i64 0, .map (some (w.heap.size + 2))] 81)).heap[w.heap.size]? = some (.cells #[X 0, X 1, X 2, X 3, X 4, X 5, .int .i64 mg] 31 (0, 0)) := (b3.block _ (by omega)).trans ((b2.block _ (by omega)).trans ((((Below.refl _ (w.alloc (.cells #[X 0, X 1, X 2, X 3, X 4, X 5, .int .i64 mg] 31))).alloc (Nat.le_refl _) _).block _ (by simp)).trans (heap_alloc_new w _)))
  have rb4 : ((((w.alloc (.cells #[X 0, X 1, X 2, X 3, X 4, X 5, .int .i64 mg] 31)).alloc (.cells #[.slice none 0 0, .slice none 0 0, .slice none 0 0, .slice none 0 0, .slice none 0 0, .slice none 0 0, .int .i64 0, .int .i64 0, .int .i64 0, .int .i64 0, .int .i64 0, .int .i64 0, .int .i64 0, .map none] 81)).alloc (.map #[] 0)).alloc (.cells #[.slice none 0 0, .slice none 0 0, .slice none 0 0, .slice none 0 0, .slice none 0 0, .slice none 0 0, .int .i64 0, .int .i64 0, .int .i64 0, .int .i64 0, .int .i64 0, .int .i64 0, .int .i64 0, .map (some (w.heap.size + 2))] 81)).heap[w.heap.size + 1]? = some (.cells #[.slice none 0 0, .slice none 0 0, .slice none 0 0, .slice none 0 0, .slice none 0 0, .slice none 0 0, .int .i64 0, .int .i64 0, .int .i64 0, .int .i64 0, .int .i64 0, .int .i64 0, .int .i64 0, .map none] 81 (0, 0)) := (b3.block _ (by omega)).trans ((b2.block _ (by omega)).trans (by
    have := heap_alloc_new (w.alloc (.cells #[X 0, X 1, X 2, X 3, X 4, X 5, .int .i64 mg] 31)) (.cells #[.slice none 0 0, .slice none 0 0, .slice none 0 0, .slice none 0 0, .slice none 0 0, .slice none 0 0, .int .i64 0, .int .i64 0, .int .i64 0, .int .i64 0, .int .i64 0, .int .i64 0, .int .i64 0, .map none] 81)
    have z1 : (w.alloc (.cells #[X 0, X 1, X 2, X 3, X 4, X 5, .int .i64 mg] 31)).heap.size = w.heap.size + 1 := by simp
    rw [z1] at this; exact this))
  have eb4 : ((((w.alloc (.cells #[X 0, X 1, X 2, X 3, X 4, X 5, .int .i64 mg] 31)).alloc (.cells #[.slice none 0 0, .slice none 0 0, .slice none 0 0, .slice none 0 0, .slice none 0 0, .slice none 0 0, .int .i64 0, .int .i64 0, .int .i64 0, .int .i64 0, .int .i64 0, .int .i64 0, .int .i64 0, .map none] 81)).alloc (.map #[] 0)).alloc (.cells #[.slice none 0 0, .slice none 0 0, .slice none 0 0, .slice none 0 0, .slice none 0 0, .slice none 0 0, .int .i64 0, .int .i64 0, .int .i64 0, .int .i64 0, .int .i64 0, .int .i64 0, .int .i64 0, .map (some (w.heap.size + 2))] 81)).heap[w.heap.size + 3]? = some (.cells #[.slice none 0 0, .slice none 0 0, .slice none 0 0, .slice none 0 0, .slice none 0 0, .slice none 0 0, .int .i64 0, .int .i64 0, .int .i64 0, .int .i64 0, .int .i64 0, .int .i64 0, .int .i64 0, .map (some (w.heap.size + 2))] 81 (0, 0)) := by
    have := heap_alloc_new (((w.alloc (.cells #[X 0, X 1, X 2, X 3, X 4, X 5, .int .i64 mg] 31)).alloc (.cells #[.slice none 0 0, .slice none 0 0, .slice none 0 0, .slice none 0 0, .slice none 0 0, .slice none 0 0, .int .i64 0, .int .i64 0, .int .i64 0, .int .i64 0, .int .i64 0, .int .i64 0, .int .i64 0, .map none] 81)).alloc (.map #[] 0)) (.cells #[.slice none 0 0, .slice none 0 0, .slice none 0 0, .slice none 0 0, .slice none 0 0, .slice none 0 0, .int .i64 0, .int .i64 0, .int .i64 0, .int .i64 0, .int .i64 0, .int .i64 0, .int .i64 0, .map (some (w.heap.size + 2))] 81)
    rw [z3] at this; exact this
  have BEL : Hid (Below w.heap.size w ((((w.alloc (.cells #[X 0, X 1, X 2, X 3, X 4, X 5, .int .i64 mg] 31)).alloc (.cells #[.slice none 0 0, .slice none 0 0, .slice none 0 0, .slice none 0 0, .slice none 0 0, .slice none 0 0, .int .i64 0, .int .i64 0, .int .i64 0, .int .i64 0, .int .i64 0, .int .i64 0, .int .i64 0, .map none] 81)).alloc (.map #[] 0)).alloc (.cells #[.slice none 0 0, .slice none 0 0, .slice none 0 0, .slice none 0 0, .slice none 0 0, .slice none 0 0, .int .i64 0, .int .i64 0, .int .i64 0, .int .i64 0, .int .i64 0, .int .i64 0, .int .i64 0, .map (some (w.heap.size + 2))] 81))) := ((((Below.refl _ _).alloc (Nat.le_refl _) _).alloc (by simp) _).alloc (by simp; omega) _).alloc (by simp; omega) _
  have hmgN : ((mg.toNat : Nat) : Int) = mg := by omega
  have htm := takeMagic_any (w.heap.size + 3) (w.heap.size + 2) mg.toNat _ [] ((((w.alloc (.cells #[X 0, X 1, X 2, X 3, X 4, X 5, .int .i64 mg] 31)).alloc (.cells #[.slice none 0 0, .slice none 0 0, .slice none 0 0, .slice none 0 0, .slice none 0 0, .slice none 0 0, .int .i64 0, .int .i64 0, .int .i64 0, .int .i64 0, .int .i64 0, .int .i64 0, .int .i64 0, .map none] 81)).alloc (.map #[] 0)).alloc (.cells #[.slice none 0 0, .slice none 0 0, .slice none 0 0, .slice none 0 0, .slice none 0 0, .slice none 0 0, .int .i64 0, .int .i64 0, .int .i64 0, .int .i64 0, .int .i64 0, .int .i64 0, .int .i64 0, .map (some (w.heap.size + 2))] 81)) mp4 (by omega) (blk_cell eb4) (blk_free eb4) ((blk_cell eb4).trans rfl) (by omega) (by simp)
  rw [hmgN] at htm
  have HTM : Hid (_) := htm
  have C4 : Hid (((((w.alloc (.cells #[X 0, X 1, X 2, X 3, X 4, X 5, .int .i64 mg] 31)).alloc (.cells #[.slice none 0 0, .slice none 0 0, .slice none 0 0, .slice none 0 0, .slice none 0 0, .slice none 0 0, .int .i64 0, .int .i64 0, .int .i64 0, .int .i64 0, .int .i64 0, .int .i64 0, .int .i64 0, .map none] 81)).alloc (.map #[] 0)).alloc (.cells #[.slice none 0 0, .slice none 0 0, .slice none 0 0, .slice none 0 0, .slice none 0 0, .slice none 0 0, .int .i64 0, .int .i64 0, .int .i64 0, .int .i64 0, .int .i64 0, .int .i64 0, .int .i64 0, .map (some (w.heap.size + 2))] 81)).heap[w.heap.size]? = some (.cells #[X 0, X 1, X 2, X 3, X 4, X 5, .int .i64 mg] 31 (0, 0)) ∧ ((((w.alloc (.cells #[X 0, X 1, X 2, X 3, X 4, X 5, .int .i64 mg] 31)).alloc (.cells #[.slice none 0 0, .slice none 0 0, .slice none 0 0, .slice none 0 0, .slice none 0 0, .slice none 0 0, .int .i64 0, .int .i64 0, .int .i64 0, .int .i64 0, .int .i64 0, .int .i64 0, .int .i64 0, .map none] 81)).alloc (.map #[] 0)).alloc (.cells #[.slice none 0 0, .slice none 0 0, .slice none 0 0, .slice none 0 0, .slice none 0 0, .slice none 0 0, .int .i64 0, .int .i64 0, .int .i64 0, .int .i64 0, .int .i64 0, .int .i64 0, .int .i64 0, .map (some (w.heap.size + 2))] 81)).heap[w.heap.size + 1]? = some (.cells #[.slice none 0 0, .slice none 0 0, .slice none 0 0, .slice none 0 0, .slice none 0 0, .slice none 0 0, .int .i64 0, .int .i64 0, .int .i64 0, .int .i64 0, .int .i64 0, .int .i64 0, .int .i64 0, .map none] 81 (0, 0)) ∧ ((((w.alloc (.cells #[X 0, X 1, X 2, X 3, X 4, X 5, .int .i64 mg] 31)).alloc (.cells #[.slice none 0 0, .slice none 0 0, .slice none 0 0, .slice none 0 0, .slice none 0 0, .slice none 0 0, .int .i64 0, .int .i64 0, .int .i64 0, .int .i64 0, .int .i64 0, .int .i64 0, .int .i64 0, .map none] 81)).alloc (.map #[] 0)).alloc (.cells #[.slice none 0 0, .slice none 0 0, .slice none 0 0, .slice none 0 0, .slice none 0 0, .slice none 0 0, .int .i64 0, .int .i64 0, .int .i64 0, .int .i64 0, .int .i64 0, .int .i64 0, .int .i64 0, .map (some (w.heap.size + 2))] 81)).heap[w.heap.size + 3]? = some (.cells #[.slice none 0 0, .slice none 0 0, .slice none 0 0, .slice none 0 0, .slice none 0 0, .slice none 0 0, .int .i64 0, .int .i64 0, .int .i64 0, .int .i64 0, .int .i64 0, .int .i64 0, .int .i64 0, .map (some (w.heap.size + 2))] 81 (0, 0))) := ⟨cb4, rb4, eb4⟩
  clear htm mp4 cb4 rb4 eb4 b2 b3 z3
  go_enter Tryz.func71, Tryz.ntmps71
  go_wp2_with fail
  simp only [Nat.add_assoc, Nat.reduceAdd]
  generalize ((((w.alloc (.cells #[X 0, X 1, X 2, X 3, X 4, X 5, .int .i64 mg] 31)).alloc (.cells #[.slice none 0 0, .slice none 0 0, .slice none 0 0, .slice none 0 0, .slice none 0 0, .slice none 0 0, .int .i64 0, .int .i64 0, .int .i64 0, .int .i64 0, .int .i64 0, .int .i64 0, .int .i64 0, .map none] 81)).alloc (.map #[] 0)).alloc (.cells #[.slice none 0 0, .slice none 0 0, .slice none 0 0, .slice none 0 0, .slice none 0 0, .slice none 0 0, .int .i64 0, .int .i64 0, .int .i64 0, .int .i64 0, .int .i64 0, .int .i64 0, .int .i64 0, .map (some (w.heap.size + 2))] 81)) = W4 at *
  refine Calls.mono HTM.out ?_
  rintro e w5 ⟨rfl, hm5, hg5⟩
  have t1 := tset W4 (w.heap.size + 3) 12 (.int .i64 mg)
  have t2 : Tch (fun b => b = w.heap.size + 2) (W4.setCell ⟨w.heap.size + 3, 12, none⟩ (.int .i64 mg)) w5 := ⟨hg5.os, hg5.tape, hg5.output, hg5.size, fun b hb hs => hg5.block b hb (fun e => hs (Option.some.inj e))⟩
  have zs : (W4.setCell ⟨w.heap.size + 3, 12, none⟩ (.int .i64 mg)).heap.size = W4.heap.size := by simp [World.setCell]
  have H0 : Hid (WN w w5 w.heap.size X L D mg 0 (fun _ => .slice none 0 0)) := by
    refine ⟨?_, ?_, hm5, ?_, fun i hi => by (unfold usedW at hi; omega), fun i j hi => by (unfold usedW at hi; omega), ?_⟩
    · exact (t2.block _ (by omega) (by omega)).trans ((t1.block _ (by omega) (by omega)).trans C4.out.1)
    · exact (t2.block _ (by omega) (by omega)).trans ((t1.block _ (by omega) (by omega)).trans C4.out.2.1)
    · exact (t2.block _ (by omega) (by omega)).trans (blk_set C4.out.2.2)
    · exact BEL.out.trans ((t1.below (by omega) (fun b hb => by omega)).trans (t2.below (by omega) (fun b hb => by omega)))
  clear hm5 hg5 t1 t2 HTM
  go_wp2_with fail
  go_loopw [10] (fun i wr => ∃ (k : Nat) (V : Nat → Value), k ≤ 3 ∧ i = .int .i64 k ∧ Hid (WN w wr w.heap.size X L D mg k V)) (fun i _ => 3 - (intOf i).toNat)
  case atStart => exact ⟨0, fun _ => .slice none 0 0, by omega, rfl, H0.out⟩
  case round =>
    obtain ⟨k, V, hk, rfl, HN⟩ := hrel
    rcases (by omega : k = 0 ∨ k = 1 ∨ k = 2 ∨ k = 3) with rfl | rfl | rfl | rfl
    · have x1 : wr.cell? ⟨w.heap.size, 0, none⟩ = some (X 0) := blk_cell HN.out.cb
      obtain ⟨p1, p2, _, _⟩ := HL.out 0 (by omega)
      obtain ⟨r1, r2, _, _⟩ := HL.out 3 (by omega)
      have hcb := blk_lt HN.out.cb
      have heb := blk_lt HN.out.eb
      have HC1 : Hid (_) := clone_any (X 0) (L 0) wr ((HX.out 0 (by omega)).below HN.out.bel) p1 (by omega)
      go_wp2_with fail
      refine Calls.mono HC1.out ?_
      rintro e W1 ⟨g1, cap1, rfl, o1, b1⟩
      have e1 := (b1.block _ heb).trans HN.out.eb
      have c1 := (b1.block _ hcb).trans HN.out.cb
      have y1 : W1.cell? ⟨w.heap.size + 3, 0, none⟩ = some (.slice none 0 0) := (blk_cell e1).trans rfl
      have f1 : W1.frozen? ⟨w.heap.size + 3, 0, none⟩ = false := blk_free e1
      have t1 := tset W1 (w.heap.size + 3) 0 (.slice (some ⟨g1, 0, none⟩) (L 0).length cap1)
      have zb1 := b1.size
      have hg1 : wr.heap.size ≤ g1 := (o1.lt g1 rfl).1
      have o2 := owns_tch o1 t1 (fun x hx e => by have := (o1.lt x hx).1; omega)
      have e2 := blk_set (k := 0) (x := .slice (some ⟨g1, 0, none⟩) (L 0).length cap1) e1
      have c2 := (t1.block _ (by omega) (by omega)).trans c1
      have x2 : (W1.setCell ⟨w.heap.size + 3, 0, none⟩ (.slice (some ⟨g1, 0, none⟩) (L 0).length cap1)).cell? ⟨w.heap.size, 3, none⟩ = some (X 3) := blk_cell c2
      have zs1 : (W1.setCell ⟨w.heap.size + 3, 0, none⟩ (.slice (some ⟨g1, 0, none⟩) (L 0).length cap1)).heap.size = W1.heap.size := by simp [World.setCell]
      have T2 : Hid (Tch (fun x => x = w.heap.size + 3) wr (W1.setCell ⟨w.heap.size + 3, 0, none⟩ (.slice (some ⟨g1, 0, none⟩) (L 0).length cap1))) := (Tch.of_below b1).trans t1
      have E2 : Hid (_) := e2
      have O2 : Hid ((W1.setCell ⟨w.heap.size + 3, 0, none⟩ (.slice (some ⟨g1, 0, none⟩) (L 0).length cap1)).ownsRow wr.heap.size 3 1 (.slice (some ⟨g1, 0, none⟩) (L 0).length cap1) (L 0).length ((L 0).map zv)) := o2
      have HC2 : Hid (_) := clone_any (X 3) (L 3) (W1.setCell ⟨w.heap.size + 3, 0, none⟩ (.slice (some ⟨g1, 0, none⟩) (L 0).length cap1)) ((HX.out 3 (by omega)).below (HN.out.bel.trans (T2.out.below (by omega) (fun x hx => by omega)))) r1 (by omega)
      clear HC1 o1 b1 e1 c1 t1 o2 e2 c2 x1
      go_wp2_with fail
      generalize W1.setCell ⟨w.heap.size + 3, 0, none⟩ (.slice (some ⟨g1, 0, none⟩) (L 0).length cap1) = W2 at *
      refine Calls.mono HC2.out ?_
      rintro e W3 ⟨g2, cap2, rfl, o3, b3⟩
      have zb3 := b3.size
      have e3 := (b3.block _ (by omega)).trans E2.out
      have y3 : W3.cell? ⟨w.heap.size + 3, 3, none⟩ = some (.slice none 0 0) := (blk_cell e3).trans rfl
      have y4 : W3.cell? ⟨w.heap.size + 3, 0, none⟩ = some (.slice (some ⟨g1, 0, none⟩) (L 0).length cap1) := (blk_cell e3).trans rfl
      have y5 : W3.cell? ⟨w.heap.size + 3, 9, none⟩ = some (.int .i64 0) := (blk_cell e3).trans rfl
      have f3 : W3.frozen? ⟨w.heap.size + 3, 3, none⟩ = false := blk_free e3
      have f5 : W3.frozen? ⟨w.heap.size + 3, 9, none⟩ = false := blk_free e3
      have o2' := owns_below O2.out b3
      have h0 : W3.cell? ⟨g1, 0, none⟩ = some (.int .i64 (D 0)) := by
        have := o2'.cells (g := g1) rfl 0 (.int .i64 (D 0)) (by rw [← HD.out 0 (by omega), List.getElem?_map, headD_get _ p1, List.getElem?_eq_getElem p1]; rfl)
        simpa [Addr.add] using this
      have hlp : (0 : Int) < ((L 0).length : Int) := by omega
      have t3 := tset W3 (w.heap.size + 3) 3 (.slice (some ⟨g2, 0, none⟩) (L 3).length cap2)
      have t5 := tset (W3.setCell ⟨w.heap.size + 3, 3, none⟩ (.slice (some ⟨g2, 0, none⟩) (L 3).length cap2)) (w.heap.size + 3) 9 (.int .i64 (D 0))
      have hg2 : W2.heap.size ≤ g2 := (o3.lt g2 rfl).1
      have hgne : g1 ≠ w.heap.size + 3 := by omega
      have hg12 : g1 < W2.heap.size := (O2.out.lt g1 rfl).2
      have o2f := owns_tch (owns_tch o2' t3 (fun x hx e => by have := (o2'.lt x hx).1; omega)) t5 (fun x hx e => by have := (o2'.lt x hx).1; omega)
      have o3f := owns_tch (owns_tch o3 t3 (fun x hx e => by have := (o3.lt x hx).1; omega)) t5 (fun x hx e => by have := (o3.lt x hx).1; omega)
      have hfin := HN.out.next (a := .slice (some ⟨g1, 0, none⟩) (L 0).length cap1) (b := .slice (some ⟨g2, 0, none⟩) (L 3).length cap2) (W5 := (W3.setCell ⟨w.heap.size + 3, 3, none⟩ (.slice (some ⟨g2, 0, none⟩) (L 3).length cap2)).setCell ⟨w.heap.size + 3, 9, none⟩ (.int .i64 (D 0)))
        ((blk_set (k := 9) (x := .int .i64 (D 0)) (blk_set (k := 3) (x := .slice (some ⟨g2, 0, none⟩) (L 3).length cap2) e3)).trans rfl) ((T2.out.trans (Tch.of_below b3)).trans (t3.trans t5)) o2f (owns_mono o3f (by omega)) (fun x hx hy => by simp only [Value.ownBlock, Option.some.injEq] at hx hy; omega)
      have HF : Hid (_) := hfin
      clear HC2 o3 b3 e3 o2' t3 t5 o2f o3f hfin x2
      go_wp2_with fail
      exact ⟨⟨1, _, by omega, by go_num, HF.out⟩, by simp [intOf]⟩
    · have x1 : wr.cell? ⟨w.heap.size, 1, none⟩ = some (X 1) := blk_cell HN.out.cb
      obtain ⟨p1, p2, _, _⟩ := HL.out 1 (by omega)
      obtain ⟨r1, r2, _, _⟩ := HL.out 4 (by omega)
      have hcb := blk_lt HN.out.cb
      have heb := blk_lt HN.out.eb
      have HC1 : Hid (_) := clone_any (X 1) (L 1) wr ((HX.out 1 (by omega)).below HN.out.bel) p1 (by omega)
      go_wp2_with fail
      refine Calls.mono HC1.out ?_
      rintro e W1 ⟨g1, cap1, rfl, o1, b1⟩
      have e1 := (b1.block _ heb).trans HN.out.eb
      have c1 := (b1.block _ hcb).trans HN.out.cb
      have y1 : W1.cell? ⟨w.heap.size + 3, 1, none⟩ = some (.slice none 0 0) := (blk_cell e1).trans rfl
      have f1 : W1.frozen? ⟨w.heap.size + 3, 1, none⟩ = false := blk_free e1
      have t1 := tset W1 (w.heap.size + 3) 1 (.slice (some ⟨g1, 0, none⟩) (L 1).length cap1)
      have zb1 := b1.size
      have hg1 : wr.heap.size ≤ g1 := (o1.lt g1 rfl).1
      have o2 := owns_tch o1 t1 (fun x hx e => by have := (o1.lt x hx).1; omega)
      have e2 := blk_set (k := 1) (x := .slice (some ⟨g1, 0, none⟩) (L 1).length cap1) e1
      have c2 := (t1.block _ (by omega) (by omega)).trans c1
      have x2 : (W1.setCell ⟨w.heap.size + 3, 1, none⟩ (.slice (some ⟨g1, 0, none⟩) (L 1).length cap1)).cell? ⟨w.heap.size, 4, none⟩ = some (X 4) := blk_cell c2
      have zs1 : (W1.setCell ⟨w.heap.size + 3, 1, none⟩ (.slice (some ⟨g1, 0, none⟩) (L 1).length cap1)).heap.size = W1.heap.size := by simp [World.setCell]
      have T2 : Hid (Tch (fun x => x = w.heap.size + 3) wr (W1.setCell ⟨w.heap.size + 3, 1, none⟩ (.slice (some ⟨g1, 0, none⟩) (L 1).length cap1))) := (Tch.of_below b1).trans t1
      have E2 : Hid (_) := e2
      have O2 : Hid ((W1.setCell ⟨w.heap.size + 3, 1, none⟩ (.slice (some ⟨g1, 0, none⟩) (L 1).length cap1)).ownsRow wr.heap.size 3 1 (.slice (some ⟨g1, 0, none⟩) (L 1).length cap1) (L 1).length ((L 1).map zv)) := o2
      have HC2 : Hid (_) := clone_any (X 4) (L 4) (W1.setCell ⟨w.heap.size + 3, 1, none⟩ (.slice (some ⟨g1, 0, none⟩) (L 1).length cap1)) ((HX.out 4 (by omega)).below (HN.out.bel.trans (T2.out.below (by omega) (fun x hx => by omega)))) r1 (by omega)
      clear HC1 o1 b1 e1 c1 t1 o2 e2 c2 x1
      go_wp2_with fail
      generalize W1.setCell ⟨w.heap.size + 3, 1, none⟩ (.slice (some ⟨g1, 0, none⟩) (L 1).length cap1) = W2 at *
      refine Calls.mono HC2.out ?_
      rintro e W3 ⟨g2, cap2, rfl, o3, b3⟩
      have zb3 := b3.size
      have e3 := (b3.block _ (by omega)).trans E2.out
      have y3 : W3.cell? ⟨w.heap.size + 3, 4, none⟩ = some (.slice none 0 0) := (blk_cell e3).trans rfl
      have y4 : W3.cell? ⟨w.heap.size + 3, 1, none⟩ = some (.slice (some ⟨g1, 0, none⟩) (L 1).length cap1) := (blk_cell e3).trans rfl
      have y5 : W3.cell? ⟨w.heap.size + 3, 10, none⟩ = some (.int .i64 0) := (blk_cell e3).trans rfl
      have f3 : W3.frozen? ⟨w.heap.size + 3, 4, none⟩ = false := blk_free e3
      have f5 : W3.frozen? ⟨w.heap.size + 3, 10, none⟩ = false := blk_free e3
      have o2' := owns_below O2.out b3
      have h0 : W3.cell? ⟨g1, 0, none⟩ = some (.int .i64 (D 1)) := by
        have := o2'.cells (g := g1) rfl 0 (.int .i64 (D 1)) (by rw [← HD.out 1 (by omega), List.getElem?_map, headD_get _ p1, List.getElem?_eq_getElem p1]; rfl)
        simpa [Addr.add] using this
      have hlp : (0 : Int) < ((L 1).length : Int) := by omega
      have t3 := tset W3 (w.heap.size + 3) 4 (.slice (some ⟨g2, 0, none⟩) (L 4).length cap2)
      have t5 := tset (W3.setCell ⟨w.heap.size + 3, 4, none⟩ (.slice (some ⟨g2, 0, none⟩) (L 4).length cap2)) (w.heap.size + 3) 10 (.int .i64 (D 1))
      have hg2 : W2.heap.size ≤ g2 := (o3.lt g2 rfl).1
      have hgne : g1 ≠ w.heap.size + 3 := by omega
      have hg12 : g1 < W2.heap.size := (O2.out.lt g1 rfl).2
      have o2f := owns_tch (owns_tch o2' t3 (fun x hx e => by have := (o2'.lt x hx).1; omega)) t5 (fun x hx e => by have := (o2'.lt x hx).1; omega)
      have o3f := owns_tch (owns_tch o3 t3 (fun x hx e => by have := (o3.lt x hx).1; omega)) t5 (fun x hx e => by have := (o3.lt x hx).1; omega)
      have hfin := HN.out.next (a := .slice (some ⟨g1, 0, none⟩) (L 1).length cap1) (b := .slice (some ⟨g2, 0, none⟩) (L 4).length cap2) (W5 := (W3.setCell ⟨w.heap.size + 3, 4, none⟩ (.slice (some ⟨g2, 0, none⟩) (L 4).length cap2)).setCell ⟨w.heap.size + 3, 10, none⟩ (.int .i64 (D 1)))
        ((blk_set (k := 10) (x := .int .i64 (D 1)) (blk_set (k := 4) (x := .slice (some ⟨g2, 0, none⟩) (L 4).length cap2) e3)).trans rfl) ((T2.out.trans (Tch.of_below b3)).trans (t3.trans t5)) o2f (owns_mono o3f (by omega)) (fun x hx hy => by simp only [Value.ownBlock, Option.some.injEq] at hx hy; omega)
      have HF : Hid (_) := hfin
      clear HC2 o3 b3 e3 o2' t3 t5 o2f o3f hfin x2
      go_wp2_with fail
      exact ⟨⟨2, _, by omega, by go_num, HF.out⟩, by simp [intOf]⟩
    · have x1 : wr.cell? ⟨w.heap.size, 2, none⟩ = some (X 2) := blk_cell HN.out.cb
      obtain ⟨p1, p2, _, _⟩ := HL.out 2 (by omega)
      obtain ⟨r1, r2, _, _⟩ := HL.out 5 (by omega)
      have hcb := blk_lt HN.out.cb
      have heb := blk_lt HN.out.eb
      have HC1 : Hid (_) := clone_any (X 2) (L 2) wr ((HX.out 2 (by omega)).below HN.out.bel) p1 (by omega)
      go_wp2_with fail
      refine Calls.mono HC1.out ?_
      rintro e W1 ⟨g1, cap1, rfl, o1, b1⟩
      have e1 := (b1.block _ heb).trans HN.out.eb
      have c1 := (b1.block _ hcb).trans HN.out.cb
      have y1 : W1.cell? ⟨w.heap.size + 3, 2, none⟩ = some (.slice none 0 0) := (blk_cell e1).trans rfl
      have f1 : W1.frozen? ⟨w.heap.size + 3, 2, none⟩ = false := blk_free e1
      have t1 := tset W1 (w.heap.size + 3) 2 (.slice (some ⟨g1, 0, none⟩) (L 2).length cap1)
      have zb1 := b1.size
      have hg1 : wr.heap.size ≤ g1 := (o1.lt g1 rfl).1
      have o2 := owns_tch o1 t1 (fun x hx e => by have := (o1.lt x hx).1; omega)
      have e2 := blk_set (k := 2) (x := .slice (some ⟨g1, 0, none⟩) (L 2).length cap1) e1
      have c2 := (t1.block _ (by omega) (by omega)).trans c1
      have x2 : (W1.setCell ⟨w.heap.size + 3, 2, none⟩ (.slice (some ⟨g1, 0, none⟩) (L 2).length cap1)).cell? ⟨w.heap.size, 5, none⟩ = some (X 5) := blk_cell c2
      have zs1 : (W1.setCell ⟨w.heap.size + 3, 2, none⟩ (.slice (some ⟨g1, 0, none⟩) (L 2).length cap1)).heap.size = W1.heap.size := by simp [World.setCell]
      have T2 : Hid (Tch (fun x => x = w.heap.size + 3) wr (W1.setCell ⟨w.heap.size + 3, 2, none⟩ (.slice (some ⟨g1, 0, none⟩) (L 2).length cap1))) := (Tch.of_below b1).trans t1
      have E2 : Hid (_) := e2
      have O2 : Hid ((W1.setCell ⟨w.heap.size + 3, 2, none⟩ (.slice (some ⟨g1, 0, none⟩) (L 2).length cap1)).ownsRow wr.heap.size 3 1 (.slice (some ⟨g1, 0, none⟩) (L 2).length cap1) (L 2).length ((L 2).map zv)) := o2
      have HC2 : Hid (_) := clone_any (X 5) (L 5) (W1.setCell ⟨w.heap.size + 3, 2, none⟩ (.slice (some ⟨g1, 0, none⟩) (L 2).length cap1)) ((HX.out 5 (by omega)).below (HN.out.bel.trans (T2.out.below (by omega) (fun x hx => by omega)))) r1 (by omega)
      clear HC1 o1 b1 e1 c1 t1 o2 e2 c2 x1
      go_wp2_with fail
      generalize W1.setCell ⟨w.heap.size + 3, 2, none⟩ (.slice (some ⟨g1, 0, none⟩) (L 2).length cap1) = W2 at *
      refine Calls.mono HC2.out ?_
      rintro e W3 ⟨g2, cap2, rfl, o3, b3⟩
      have zb3 := b3.size
      have e3 := (b3.block _ (by omega)).trans E2.out
      have y3 : W3.cell? ⟨w.heap.size + 3, 5, none⟩ = some (.slice none 0 0) := (blk_cell e3).trans rfl
      have y4 : W3.cell? ⟨w.heap.size + 3, 2, none⟩ = some (.slice (some ⟨g1, 0, none⟩) (L 2).length cap1) := (blk_cell e3).trans rfl
      have y5 : W3.cell? ⟨w.heap.size + 3, 11, none⟩ = some (.int .i64 0) := (blk_cell e3).trans rfl
      have f3 : W3.frozen? ⟨w.heap.size + 3, 5, none⟩ = false := blk_free e3
      have f5 : W3.frozen? ⟨w.heap.size + 3, 11, none⟩ = false := blk_free e3
      have o2' := owns_below O2.out b3
      have h0 : W3.cell? ⟨g1, 0, none⟩ = some (.int .i64 (D 2)) := by
        have := o2'.cells (g := g1) rfl 0 (.int .i64 (D 2)) (by rw [← HD.out 2 (by omega), List.getElem?_map, headD_get _ p1, List.getElem?_eq_getElem p1]; rfl)
        simpa [Addr.add] using this
      have hlp : (0 : Int) < ((L 2).length : Int) := by omega
      have t3 := tset W3 (w.heap.size + 3) 5 (.slice (some ⟨g2, 0, none⟩) (L 5).length cap2)
      have t5 := tset (W3.setCell ⟨w.heap.size + 3, 5, none⟩ (.slice (some ⟨g2, 0, none⟩) (L 5).length cap2)) (w.heap.size + 3) 11 (.int .i64 (D 2))
      have hg2 : W2.heap.size ≤ g2 := (o3.lt g2 rfl).1
      have hgne : g1 ≠ w.heap.size + 3 := by omega
      have hg12 : g1 < W2.heap.size := (O2.out.lt g1 rfl).2
      have o2f := owns_tch (owns_tch o2' t3 (fun x hx e => by have := (o2'.lt x hx).1; omega)) t5 (fun x hx e => by have := (o2'.lt x hx).1; omega)
      have o3f := owns_tch (owns_tch o3 t3 (fun x hx e => by have := (o3.lt x hx).1; omega)) t5 (fun x hx e => by have := (o3.lt x hx).1; omega)
      have hfin := HN.out.next (a := .slice (some ⟨g1, 0, none⟩) (L 2).length cap1) (b := .slice (some ⟨g2, 0, none⟩) (L 5).length cap2) (W5 := (W3.setCell ⟨w.heap.size + 3, 5, none⟩ (.slice (some ⟨g2, 0, none⟩) (L 5).length cap2)).setCell ⟨w.heap.size + 3, 11, none⟩ (.int .i64 (D 2)))
        ((blk_set (k := 11) (x := .int .i64 (D 2)) (blk_set (k := 5) (x := .slice (some ⟨g2, 0, none⟩) (L 5).length cap2) e3)).trans rfl) ((T2.out.trans (Tch.of_below b3)).trans (t3.trans t5)) o2f (owns_mono o3f (by omega)) (fun x hx hy => by simp only [Value.ownBlock, Option.some.injEq] at hx hy; omega)
      have HF : Hid (_) := hfin
      clear HC2 o3 b3 e3 o2' t3 t5 o2f o3f hfin x2
      go_wp2_with fail
      exact ⟨⟨3, _, by omega, by go_num, HF.out⟩, by simp [intOf]⟩
    · have e3 := HN.out.eb
      have r3 := HN.out.rb
      obtain ⟨a0, k0, h0, v0, _, _, _⟩ := own_shape (HN.out.ow 0 (by unfold usedW; omega))
      obtain ⟨a1, k1, h1, v1, _, _, _⟩ := own_shape (HN.out.ow 1 (by unfold usedW; omega))
      obtain ⟨a2, k2, h2, v2, _, _, _⟩ := own_shape (HN.out.ow 2 (by unfold usedW; omega))
      obtain ⟨a3, k3, h3, v3, _, _, _⟩ := own_shape (HN.out.ow 3 (by unfold usedW; omega))
      obtain ⟨a4, k4, h4, v4, _, _, _⟩ := own_shape (HN.out.ow 4 (by unfold usedW; omega))
      obtain ⟨a5, k5, h5, v5, _, _, _⟩ := own_shape (HN.out.ow 5 (by unfold usedW; omega))
      have q0 : wr.cell? ⟨w.heap.size + 3, 0, none⟩ = some (.slice a0 (L 0).length k0) := (blk_cell e3).trans (by rw [← v0]; rfl)
      have s0 : wr.cell? ⟨w.heap.size + 1, 0, none⟩ = some (.slice none 0 0) := (blk_cell r3).trans rfl
      have f0 : wr.frozen? ⟨w.heap.size + 1, 0, none⟩ = false := blk_free r3
      have q1 : wr.cell? ⟨w.heap.size + 3, 1, none⟩ = some (.slice a1 (L 1).length k1) := (blk_cell e3).trans (by rw [← v1]; rfl)
      have s1 : wr.cell? ⟨w.heap.size + 1, 1, none⟩ = some (.slice none 0 0) := (blk_cell r3).trans rfl
      have f1 : wr.frozen? ⟨w.heap.size + 1, 1, none⟩ = false := blk_free r3
      have q2 : wr.cell? ⟨w.heap.size + 3, 2, none⟩ = some (.slice a2 (L 2).length k2) := (blk_cell e3).trans (by rw [← v2]; rfl)
      have s2 : wr.cell? ⟨w.heap.size + 1, 2, none⟩ = some (.slice none 0 0) := (blk_cell r3).trans rfl
      have f2 : wr.frozen? ⟨w.heap.size + 1, 2, none⟩ = false := blk_free r3
      have q3 : wr.cell? ⟨w.heap.size + 3, 3, none⟩ = some (.slice a3 (L 3).length k3) := (blk_cell e3).trans (by rw [← v3]; rfl)
      have s3 : wr.cell? ⟨w.heap.size + 1, 3, none⟩ = some (.slice none 0 0) := (blk_cell r3).trans rfl
      have f3 : wr.frozen? ⟨w.heap.size + 1, 3, none⟩ = false := blk_free r3
      have q4 : wr.cell? ⟨w.heap.size + 3, 4, none⟩ = some (.slice a4 (L 4).length k4) := (blk_cell e3).trans (by rw [← v4]; rfl)
      have s4 : wr.cell? ⟨w.heap.size + 1, 4, none⟩ = some (.slice none 0 0) := (blk_cell r3).trans rfl
      have f4 : wr.frozen? ⟨w.heap.size + 1, 4, none⟩ = false := blk_free r3
      have q5 : wr.cell? ⟨w.heap.size + 3, 5, none⟩ = some (.slice a5 (L 5).length k5) := (blk_cell e3).trans (by rw [← v5]; rfl)
      have s5 : wr.cell? ⟨w.heap.size + 1, 5, none⟩ = some (.slice none 0 0) := (blk_cell r3).trans rfl
      have f5 : wr.frozen? ⟨w.heap.size + 1, 5, none⟩ = false := blk_free r3
      have q6 : wr.cell? ⟨w.heap.size + 3, 6, none⟩ = some (.int .i64 0) := (blk_cell e3).trans (by rfl)
      have s6 : wr.cell? ⟨w.heap.size + 1, 6, none⟩ = some (.int .i64 0) := (blk_cell r3).trans rfl
      have f6 : wr.frozen? ⟨w.heap.size + 1, 6, none⟩ = false := blk_free r3
      have q7 : wr.cell? ⟨w.heap.size + 3, 7, none⟩ = some (.int .i64 0) := (blk_cell e3).trans (by rfl)
      have s7 : wr.cell? ⟨w.heap.size + 1, 7, none⟩ = some (.int .i64 0) := (blk_cell r3).trans rfl
      have f7 : wr.frozen? ⟨w.heap.size + 1, 7, none⟩ = false := blk_free r3
      have q8 : wr.cell? ⟨w.heap.size + 3, 8, none⟩ = some (.int .i64 0) := (blk_cell e3).trans (by rfl)
      have s8 : wr.cell? ⟨w.heap.size + 1, 8, none⟩ = some (.int .i64 0) := (blk_cell r3).trans rfl
      have f8 : wr.frozen? ⟨w.heap.size + 1, 8, none⟩ = false := blk_free r3
      have q9 : wr.cell? ⟨w.heap.size + 3, 9, none⟩ = some (.int .i64 (D 0)) := (blk_cell e3).trans (by rfl)
      have s9 : wr.cell? ⟨w.heap.size + 1, 9, none⟩ = some (.int .i64 0) := (blk_cell r3).trans rfl
      have f9 : wr.frozen? ⟨w.heap.size + 1, 9, none⟩ = false := blk_free r3
      have q10 : wr.cell? ⟨w.heap.size + 3, 10, none⟩ = some (.int .i64 (D 1)) := (blk_cell e3).trans (by rfl)
      have s10 : wr.cell? ⟨w.heap.size + 1, 10, none⟩ = some (.int .i64 0) := (blk_cell r3).trans rfl
      have f10 : wr.frozen? ⟨w.heap.size + 1, 10, none⟩ = false := blk_free r3
      have q11 : wr.cell? ⟨w.heap.size + 3, 11, none⟩ = some (.int .i64 (D 2)) := (blk_cell e3).trans (by rfl)
      have s11 : wr.cell? ⟨w.heap.size + 1, 11, none⟩ = some (.int .i64 0) := (blk_cell r3).trans rfl
      have f11 : wr.frozen? ⟨w.heap.size + 1, 11, none⟩ = false := blk_free r3
      have q12 : wr.cell? ⟨w.heap.size + 3, 12, none⟩ = some (.int .i64 mg) := (blk_cell e3).trans (by rfl)
      have s12 : wr.cell? ⟨w.heap.size + 1, 12, none⟩ = some (.int .i64 0) := (blk_cell r3).trans rfl
      have f12 : wr.frozen? ⟨w.heap.size + 1, 12, none⟩ = false := blk_free r3
      have q13 : wr.cell? ⟨w.heap.size + 3, 13, none⟩ = some (.map (some (w.heap.size + 2))) := (blk_cell e3).trans (by rfl)
      have s13 : wr.cell? ⟨w.heap.size + 1, 13, none⟩ = some (.map none) := (blk_cell r3).trans rfl
      have f13 : wr.frozen? ⟨w.heap.size + 1, 13, none⟩ = false := blk_free r3
      have HV : Hid (V 0 = .slice a0 (L 0).length k0 ∧ V 1 = .slice a1 (L 1).length k1 ∧ V 2 = .slice a2 (L 2).length k2 ∧ V 3 = .slice a3 (L 3).length k3 ∧ V 4 = .slice a4 (L 4).length k4 ∧ V 5 = .slice a5 (L 5).length k5) := ⟨v0, v1, v2, v3, v4, v5⟩
      have TT : Hid (Tch (fun b => b = w.heap.size + 1) wr ((((((((((((((wr.setCell ⟨w.heap.size + 1, 0, none⟩ (.slice a0 (L 0).length k0)).setCell ⟨w.heap.size + 1, 1, none⟩ (.slice a1 (L 1).length k1)).setCell ⟨w.heap.size + 1, 2, none⟩ (.slice a2 (L 2).length k2)).setCell ⟨w.heap.size + 1, 3, none⟩ (.slice a3 (L 3).length k3)).setCell ⟨w.heap.size + 1, 4, none⟩ (.slice a4 (L 4).length k4)).setCell ⟨w.heap.size + 1, 5, none⟩ (.slice a5 (L 5).length k5)).setCell ⟨w.heap.size + 1, 6, none⟩ (.int .i64 0)).setCell ⟨w.heap.size + 1, 7, none⟩ (.int .i64 0)).setCell ⟨w.heap.size + 1, 8, none⟩ (.int .i64 0)).setCell ⟨w.heap.size + 1, 9, none⟩ (.int .i64 (D 0))).setCell ⟨w.heap.size + 1, 10, none⟩ (.int .i64 (D 1))).setCell ⟨w.heap.size + 1, 11, none⟩ (.int .i64 (D 2))).setCell ⟨w.heap.size + 1, 12, none⟩ (.int .i64 mg)).setCell ⟨w.heap.size + 1, 13, none⟩ (.map (some (w.heap.size + 2))))) := (((((((((((((tset wr (w.heap.size + 1) 0 (.slice a0 (L 0).length k0)).trans (tset _ (w.heap.size + 1) 1 (.slice a1 (L 1).length k1))).trans (tset _ (w.heap.size + 1) 2 (.slice a2 (L 2).length k2))).trans (tset _ (w.heap.size + 1) 3 (.slice a3 (L 3).length k3))).trans (tset _ (w.heap.size + 1) 4 (.slice a4 (L 4).length k4))).trans (tset _ (w.heap.size + 1) 5 (.slice a5 (L 5).length k5))).trans (tset _ (w.heap.size + 1) 6 (.int .i64 0))).trans (tset _ (w.heap.size + 1) 7 (.int .i64 0))).trans (tset _ (w.heap.size + 1) 8 (.int .i64 0))).trans (tset _ (w.heap.size + 1) 9 (.int .i64 (D 0)))).trans (tset _ (w.heap.size + 1) 10 (.int .i64 (D 1)))).trans (tset _ (w.heap.size + 1) 11 (.int .i64 (D 2)))).trans (tset _ (w.heap.size + 1) 12 (.int .i64 mg))).trans (tset _ (w.heap.size + 1) 13 (.map (some (w.heap.size + 2))))
      clear e3 r3 v0 v1 v2 v3 v4 v5
      go_wp2_with fail
      refine bodyPost_ret (v := .agg #[.slice a0 (L 0).length k0, .slice a1 (L 1).length k1, .slice a2 (L 2).length k2, .slice a3 (L 3).length k3, .slice a4 (L 4).length k4, .slice a5 (L 5).length k5, .int .i64 0, .int .i64 0, .int .i64 0, .int .i64 (D 0), .int .i64 (D 1), .int .i64 (D 2), .int .i64 mg, .map (some (w.heap.size + 2))]) (by simp [results, Tryz.results71, go_sem, s0, s1, s2, s3, s4, s5, s6, s7, s8, s9, s10, s11, s12, s13]) rfl ?_
      have hz := HN.out.mp.lt
      have u6 : ∀ i, i < 6 → usedW 3 i := fun i hi => by unfold usedW; omega
      refine ⟨V, w.heap.size + 2, ?_, HN.out.mp.blk (TT.out.block _ hz (by omega)), by omega, fun i hi => owns_mono (owns_tch (HN.out.ow i (u6 i hi)) TT.out (fun x hx e => by have := ((HN.out.ow i (u6 i hi)).lt x hx).1; omega)) (by omega), fun i j hi hj => HN.out.dj i j (u6 i hi) (u6 j hj), fun i hi b hb e => by have := ((HN.out.ow i (u6 i hi)).lt b hb).1; omega, HN.out.bel.trans (TT.out.below (by omega) (fun b hb => by omega))⟩
      obtain ⟨e0, e1, e2, e3, e4, e5⟩ := HV.out
      rw [e0, e1, e2, e3, e4, e5]
end Go.Proofs.YtoeihlgidakjbaaGreatDoor

/- pair. -/
import Derived.Test.YtoeihlgidakjbaaGreatDoorPc26
namespace Go.Proofs.YtoeihlgidakjbaaGreatDoor
open Go.RowKit Go.Lib
def cfC (X : Nat → Value) (mg : Int) : Array Value := #[X 0, X 1, X 2, X 3, X 4, X 5, .int .i64 mg]
def upd {α : Type} (X : Nat → α) (k : Nat) (x : α) : Nat → α := fun i => if i = k then x else X i
theorem cfC_upd (X : Nat → Value) (mg : Int) (k : Nat) (hk : k < 6) (x : Value) : (cfC X mg).setIfInBounds k x = cfC (upd X k x) mg := by
  rcases (by omega : k = 0 ∨ k = 1 ∨ k = 2 ∨ k = 3 ∨ k = 4 ∨ k = 5) with rfl | rfl | rfl | rfl | rfl | rfl <;> rfl
def xN (raw : List Int) (i : Nat) : Nat := pickN (atL raw (2 + 2 * i)) 12
def yN (raw : List Int) (i : Nat) : Nat := pickN (atL raw (3 + 2 * i)) 12
def cfgA (raw : List Int) (i : Nat) : List Int := if i < 3 then listL raw (8 + 20 * i) (xN raw i) else listL raw (23 + 20 * (i - 3)) (yN raw (i - 3))
def cfgB (raw : List Int) (i : Nat) : List Int := if i < 3 then listL raw (18 + 20 * i) (yN raw i) else listL raw (13 + 20 * (i - 3)) (xN raw (i - 3))
def magA (raw : List Int) : Nat := 1 + pickN (atL raw 0) 1000
def magB (raw : List Int) : Nat := 1 + pickN (atL raw 0) 1000 + 1 + pickN (atL raw 1) 1000
structure PrI (w wr : World) (XA XB : Nat → Value) (LA LB : Nat → List Int) (ma mb : Int) : Prop where
  bl : Below w.heap.size w wr
  r1 : wr.heap[w.heap.size]? = some (.cells (cfC (fun _ => .slice none 0 0) 0) 31 (0, 0))
  r2 : wr.heap[w.heap.size + 1]? = some (.cells (cfC (fun _ => .slice none 0 0) 0) 31 (0, 0))
  a : wr.heap[w.heap.size + 2]? = some (.cells (cfC XA ma) 31 (0, 0))
  b : wr.heap[w.heap.size + 3]? = some (.cells (cfC XB mb) 31 (0, 0))
  oa : ∀ i, i < 6 → wr.ownsRow (w.heap.size + 4) 3 1 (XA i) (LA i).length ((LA i).map zv)
  ob : ∀ i, i < 6 → wr.ownsRow (w.heap.size + 4) 3 1 (XB i) (LB i).length ((LB i).map zv)
theorem PrI.below {w wr w1 : World} {XA XB : Nat → Value} {LA LB : Nat → List Int} {ma mb : Int} (h : PrI w wr XA XB LA LB ma mb) (hb : Below wr.heap.size wr w1) : PrI w w1 XA XB LA LB ma mb :=
  ⟨h.bl.trans (hb.mono h.bl.size), (hb.block _ (blk_lt h.r1)).trans h.r1, (hb.block _ (blk_lt h.r2)).trans h.r2, (hb.block _ (blk_lt h.a)).trans h.a, (hb.block _ (blk_lt h.b)).trans h.b, fun i hi => owns_tch (h.oa i hi) (Tch.of_below (S := fun _ => False) hb) (fun _ _ x => x), fun i hi => owns_tch (h.ob i hi) (Tch.of_below (S := fun _ => False) hb) (fun _ _ x => x)⟩
theorem PrI.setA {w wr w1 : World} {XA XB : Nat → Value} {LA LB : Nat → List Int} {ma mb : Int} (h : PrI w wr XA XB LA LB ma mb) (hb : Below wr.heap.size wr w1) (k : Nat) (hk : k < 6) (x : Value) (L : List Int) (ho : w1.ownsRow wr.heap.size 3 1 x L.length (L.map zv)) : PrI w (w1.setCell ⟨w.heap.size + 2, k, none⟩ x) (upd XA k x) XB (upd LA k L) LB ma mb := by
  have h1 := h.below hb
  have hz := blk_lt h.b
  have ts : Tch (fun b => b = w.heap.size + 2) w1 (w1.setCell ⟨w.heap.size + 2, k, none⟩ x) := Tch.set _ _ _ _ rfl
  have ns : ∀ (v : Value) (b : Nat), (v.ownBlock = some b → w.heap.size + 4 ≤ b) → v.ownBlock = some b → ¬ b = w.heap.size + 2 := fun v b q e => by have := q e; omega
  refine ⟨h1.bl.trans (ts.below h1.bl.size (fun k hk => by omega)), ?_, ?_, ?_, ?_, fun i hi => ?_, fun i hi => ?_⟩
  · exact (ts.block _ (blk_lt h1.r1) (by omega)).trans h1.r1
  · exact (ts.block _ (blk_lt h1.r2) (by omega)).trans h1.r2
  · rw [blk_set h1.a, cfC_upd _ _ _ hk]
  · exact (ts.block _ (blk_lt h1.b) (by omega)).trans h1.b
  · by_cases e : i = k
    · subst e
      have e1 : upd XA i x i = x := if_pos rfl
      have e2 : upd LA i L i = L := if_pos rfl
      rw [e1, e2]
      exact owns_tch (owns_mono ho (by omega)) ts (fun b hb2 => by have := (ho.lt b hb2).1; omega)
    · have e1 : upd XA k x i = XA i := if_neg e
      have e2 : upd LA k L i = LA i := if_neg e
      rw [e1, e2]
      exact owns_tch (h1.oa i hi) ts (fun b hb2 => by have := ((h1.oa i hi).lt b hb2).1; omega)
  · exact owns_tch (h1.ob i hi) ts (fun b hb2 => by have := ((h1.ob i hi).lt b hb2).1; omega)
theorem PrI.setB {w wr w1 : World} {XA XB : Nat → Value} {LA LB : Nat → List Int} {ma mb : Int} (h : PrI w wr XA XB LA LB ma mb) (hb : Below wr.heap.size wr w1) (k : Nat) (hk : k < 6) (x : Value) (L : List Int) (ho : w1.ownsRow wr.heap.size 3 1 x L.length (L.map zv)) : PrI w (w1.setCell ⟨w.heap.size + 3, k, none⟩ x) XA (upd XB k x) LA (upd LB k L) ma mb := by
  have h1 := h.below hb
  have hz := blk_lt h.b
  have ts : Tch (fun b => b = w.heap.size + 3) w1 (w1.setCell ⟨w.heap.size + 3, k, none⟩ x) := Tch.set _ _ _ _ rfl
  refine ⟨h1.bl.trans (ts.below h1.bl.size (fun k hk => by omega)), ?_, ?_, ?_, ?_, fun i hi => ?_, fun i hi => ?_⟩
  · exact (ts.block _ (blk_lt h1.r1) (by omega)).trans h1.r1
  · exact (ts.block _ (blk_lt h1.r2) (by omega)).trans h1.r2
  · exact (ts.block _ (blk_lt h1.a) (by omega)).trans h1.a
  · rw [blk_set h1.b, cfC_upd _ _ _ hk]
  · exact owns_tch (h1.oa i hi) ts (fun b hb2 => by have := ((h1.oa i hi).lt b hb2).1; omega)
  · by_cases e : i = k
    · subst e
      have e1 : upd XB i x i = x := if_pos rfl
      have e2 : upd LB i L i = L := if_pos rfl
      rw [e1, e2]
      exact owns_tch (owns_mono ho (by omega)) ts (fun b hb2 => by have := (ho.lt b hb2).1; omega)
    · have e1 : upd XB k x i = XB i := if_neg e
      have e2 : upd LB k L i = LB i := if_neg e
      rw [e1, e2]
      exact owns_tch (h1.ob i hi) ts (fun b hb2 => by have := ((h1.ob i hi).lt b hb2).1; omega)
def PrK (w wr : World) (raw : List Int) (k : Nat) : Prop := ∃ XA XB LA LB, PrI w wr XA XB LA LB (magA raw) (magB raw) ∧ ∀ i, i < 6 → LA i = (if i % 3 < k then cfgA raw i else []) ∧ LB i = (if i % 3 < k then cfgB raw i else [])
theorem ints_of_owns {w : World} {B : Nat} {x : Value} {L : List Int} (h : w.ownsRow B 3 1 x L.length (L.map zv)) : IntsAt w x L ∧ ∃ a n c, x = .slice a n c ∧ n ≤ c := by
  have h0 := h
  obtain ⟨_, a, cap, g, rfl, ha, hc⟩ := int_cells h0
  refine ⟨⟨a, cap, g, 0, rfl, fun hp => ⟨ha hp, ?_⟩, fun k hk => by rw [Nat.zero_add]; exact hc k hk⟩, ?_⟩
  · have e := ha hp
    subst e
    exact (h.lt g rfl).2
  · rcases h.2 with ⟨e, h2⟩ | ⟨g2, cap2, cur, e, _, _, h3, _⟩
    · exact ⟨none, 0, 0, e, Nat.le_refl _⟩
    · exact ⟨_, _, _, e, h3⟩
theorem cell_of_blk {w : World} {b : Nat} {X : Nat → Value} {mg : Int} (h : w.heap[b]? = some (.cells (cfC X mg) 31 (0, 0))) (k : Nat) (hk : k < 6) : w.cell? ⟨b, k, none⟩ = some (X k) ∧ w.frozen? ⟨b, k, none⟩ = false := by
  refine ⟨?_, blk_free h⟩
  rw [blk_cell h]
  rcases (by omega : k = 0 ∨ k = 1 ∨ k = 2 ∨ k = 3 ∨ k = 4 ∨ k = 5) with rfl | rfl | rfl | rfl | rfl | rfl <;> rfl
def nilX : Nat → Value := fun _ => .slice none 0 0
theorem alloc_at (w : World) (o : Obj) (n : Nat) (h : w.heap.size = n) : (w.alloc o).heap[n]? = some o := by subst h; exact heap_alloc_new w o
theorem prI_start (w : World) (ma mb : Int) : PrI w ((((w.alloc (.cells (cfC nilX 0) 31)).alloc (.cells (cfC nilX 0) 31)).alloc (.cells (cfC nilX ma) 31)).alloc (.cells (cfC nilX mb) 31)) nilX nilX (fun _ => []) (fun _ => []) ma mb := by
  refine ⟨((((Below.refl _ w).alloc (Nat.le_refl _) _).alloc (by simp) _).alloc (by simp; omega) _).alloc (by simp; omega) _, ?_, ?_, ?_, ?_, fun _ _ => World.ownsRow_nil _ _ _ _, fun _ _ => World.ownsRow_nil _ _ _ _⟩
  · exact (Below.heap_alloc _ _ _ (by simp; omega)).trans ((Below.heap_alloc _ _ _ (by simp; omega)).trans ((Below.heap_alloc _ _ _ (by simp)).trans (alloc_at w _ _ rfl)))
  · exact (Below.heap_alloc _ _ _ (by simp)).trans ((Below.heap_alloc _ _ _ (by simp)).trans (alloc_at _ _ _ (by simp)))
  · exact (Below.heap_alloc _ _ _ (by simp)).trans (alloc_at _ _ _ (by simp))
  · exact alloc_at _ _ _ (by simp)
theorem pair_end {w wr W' : World} {raw : List Int} {XA XB : Nat → Value} {LA LB : Nat → List Int} {ma mb : Int} (tt : Tch (fun b => b = w.heap.size ∨ b = w.heap.size + 1) wr W') (P : PrI w wr XA XB LA LB ma mb) (h : ∀ i, i < 6 → LA i = cfgA raw i ∧ LB i = cfgB raw i) :
    Below w.heap.size w W' ∧ ∀ i, i < 6 → (IntsAt W' (XA i) (cfgA raw i) ∧ ∃ a n c, XA i = .slice a n c ∧ n ≤ c) ∧ IntsAt W' (XB i) (cfgB raw i) ∧ ∃ a n c, XB i = .slice a n c ∧ n ≤ c := by
  refine ⟨P.bl.trans (tt.below P.bl.size (fun k hk => by omega)), fun i hi => ?_⟩
  obtain ⟨e1, e2⟩ := h i hi
  have o1 := owns_tch (P.oa i hi) tt (fun b hb q => by have := ((P.oa i hi).lt b hb).1; omega)
  have o2 := owns_tch (P.ob i hi) tt (fun b hb q => by have := ((P.ob i hi).lt b hb).1; omega)
  rw [e1] at o1
  rw [e2] at o2
  exact ⟨ints_of_owns o1, ints_of_owns o2⟩
set_option maxRecDepth 100000 in
set_option maxHeartbeats 8000000 in
theorem pair_any (v : Value) (raw : List Int) (w : World) (hi : IntsAt w v raw) (hr : Raw raw) :
    Calls Tryz.prog 15 #[v] w fun r w' => ∃ XA XB, r = .returned (.tuple #[.agg (cfC XA (magA raw)), .agg (cfC XB (magB raw))]) ∧ Below w.heap.size w w' ∧ ∀ i, i < 6 → (IntsAt w' (XA i) (cfgA raw i) ∧ ∃ a n c, XA i = .slice a n c ∧ n ≤ c) ∧ IntsAt w' (XB i) (cfgB raw i) ∧ ∃ a n c, XB i = .slice a n c ∧ n ≤ c := by
  have HI : Hid (IntsAt w v raw) := hi
  have HR : Hid (Raw raw) := hr
  have B2 : Hid (Below w.heap.size w ((w.alloc (.cells (cfC nilX 0) 31)).alloc (.cells (cfC nilX 0) 31))) := ((Below.refl _ w).alloc (Nat.le_refl _) _).alloc (by simp) _
  have HA0 : Hid (_) := kat_any v raw 0 ((w.alloc (.cells (cfC nilX 0) 31)).alloc (.cells (cfC nilX 0) 31)) (hi.below B2.out) (by omega)
  obtain ⟨a0, cap0, g0, off0, hv0, _, _⟩ := hi
  subst hv0
  have h0 := hr.at 0
  have h1 := hr.at 1
  have HP0 : Hid (_) := pick_any (atL raw 0) 1000 ((w.alloc (.cells (cfC nilX 0) 31)).alloc (.cells (cfC nilX 0) 31)) (by omega) (by omega) h0.1 h0.2
  obtain ⟨m0, hm0⟩ : ∃ m0, m0 = pickN (atL raw 0) 1000 := ⟨_, rfl⟩
  have hm0l : m0 < 1000 := by rw [hm0]; exact Nat.mod_lt _ (by decide)
  rw [← hm0] at HP0
  obtain ⟨m1, hm1⟩ : ∃ m1, m1 = pickN (atL raw 1) 1000 := ⟨_, rfl⟩
  have hm1l : m1 < 1000 := by rw [hm1]; exact Nat.mod_lt _ (by decide)
  have HM : Hid (m0 = pickN (atL raw 0) 1000 ∧ m1 = pickN (atL raw 1) 1000) := ⟨hm0, hm1⟩
  have H1 : Hid (-9223372036854775808 ≤ atL raw 1 ∧ atL raw 1 < 9223372036854775808) := h1
  clear hr h0 h1 hm0 hm1
  go_enter Tryz.func15, Tryz.ntmps15
  go_wp2_with fail
  refine Calls.mono HA0.out ?_
  rintro e w1 ⟨rfl, rfl⟩
  go_wp2_with fail
  refine Calls.mono HP0.out ?_
  rintro e w1 ⟨rfl, rfl⟩
  clear HA0 HP0
  have B3 : Hid (Below w.heap.size w (((w.alloc (.cells (cfC nilX 0) 31)).alloc (.cells (cfC nilX 0) 31)).alloc (.cells (cfC nilX (1 + (m0 : Int))) 31))) := B2.out.alloc (by simp; omega) _
  have HA1 : Hid (_) := kat_any _ raw 1 (((w.alloc (.cells (cfC nilX 0) 31)).alloc (.cells (cfC nilX 0) 31)).alloc (.cells (cfC nilX (1 + (m0 : Int))) 31)) (HI.out.below B3.out) (by omega)
  have HP1 : Hid (_) := pick_any (atL raw 1) 1000 (((w.alloc (.cells (cfC nilX 0) 31)).alloc (.cells (cfC nilX 0) 31)).alloc (.cells (cfC nilX (1 + (m0 : Int))) 31)) (by omega) (by omega) H1.out.1 H1.out.2
  rw [← HM.out.2] at HP1
  go_wp2_with fail
  refine Calls.mono HA1.out ?_
  rintro e w1 ⟨rfl, rfl⟩
  go_wp2_with fail
  refine Calls.mono HP1.out ?_
  rintro e w1 ⟨rfl, rfl⟩
  clear HA1 HP1 B2 B3
  have HS : Hid (PrK w ((((w.alloc (.cells (cfC nilX 0) 31)).alloc (.cells (cfC nilX 0) 31)).alloc (.cells (cfC nilX (1 + (m0 : Int))) 31)).alloc (.cells (cfC nilX (1 + (m0 : Int) + 1 + (m1 : Int))) 31)) raw 0) := by
    refine ⟨nilX, nilX, fun _ => [], fun _ => [], ?_, fun i _ => ⟨by simp, by simp⟩⟩
    have ea : ((magA raw : Nat) : Int) = 1 + (m0 : Int) := by unfold magA; rw [← HM.out.1]; omega
    have eb : ((magB raw : Nat) : Int) = 1 + (m0 : Int) + 1 + (m1 : Int) := by unfold magB; rw [← HM.out.1, ← HM.out.2]; omega
    rw [ea, eb]
    exact prI_start w _ _
  go_wp2_with fail
  go_loopw [7] (fun v7 wr => ∃ (k : Nat), k ≤ 3 ∧ v7 = .int .i64 (k : Int) ∧ Hid (PrK w wr raw k)) (fun v7 _ => 3 - (intOf v7).toNat)
  case atStart => exact ⟨0, by omega, rfl, HS⟩
  case round =>
    obtain ⟨k, hk, rfl, HW⟩ := hrel
    by_cases hlt : k < 3
    · have hI : (k : Int) < 3 := by omega
      obtain ⟨XA, XB, LA, LB, P00, HLs⟩ := HW.out
      have P0 : Hid (PrI w wr XA XB LA LB (magA raw) (magB raw)) := P00
      have HLS : Hid (∀ i, i < 6 → LA i = (if i % 3 < k then cfgA raw i else []) ∧ LB i = (if i % 3 < k then cfgB raw i else [])) := HLs
      clear P00 HLs HW HS
      have HX : Hid (Calls Tryz.prog 36 #[.slice a0 raw.length cap0, .int .i64 (2 + 2 * (k : Int))] wr fun e w' => e = .returned (.int .i64 (atL raw (2 + 2 * k))) ∧ wr = w') := by
        have := kat_any _ raw (2 + 2 * k) wr (HI.out.below P0.out.bl) (by omega)
        rw [show ((2 + 2 * k : Nat) : Int) = 2 + 2 * (k : Int) by omega] at this
        exact this
      have HY : Hid (Calls Tryz.prog 36 #[.slice a0 raw.length cap0, .int .i64 (3 + 2 * (k : Int))] wr fun e w' => e = .returned (.int .i64 (atL raw (3 + 2 * k))) ∧ wr = w') := by
        have := kat_any _ raw (3 + 2 * k) wr (HI.out.below P0.out.bl) (by omega)
        rw [show ((3 + 2 * k : Nat) : Int) = 3 + 2 * (k : Int) by omega] at this
        exact this
      have hx := HR.out.at (2 + 2 * k)
      have hy := HR.out.at (3 + 2 * k)
      have HPX : Hid (_) := pick_any (atL raw (2 + 2 * k)) 12 wr (by omega) (by omega) hx.1 hx.2
      have HPY : Hid (_) := pick_any (atL raw (3 + 2 * k)) 12 wr (by omega) (by omega) hy.1 hy.2
      obtain ⟨x, hxe⟩ : ∃ x, x = xN raw k := ⟨_, rfl⟩
      obtain ⟨y, hye⟩ : ∃ y, y = yN raw k := ⟨_, rfl⟩
      have hx12 : x < 12 := by rw [hxe]; exact Nat.mod_lt _ (by decide)
      have hy12 : y < 12 := by rw [hye]; exact Nat.mod_lt _ (by decide)
      have HXY : Hid (x = xN raw k ∧ y = yN raw k) := ⟨hxe, hye⟩
      rw [show pickN (atL raw (2 + 2 * k)) 12 = x from hxe.symm] at HPX
      rw [show pickN (atL raw (3 + 2 * k)) 12 = y from hye.symm] at HPY
      clear hx hy hxe hye
      have hhx : x < 12 := hx12
      have hhy : y < 12 := hy12
      go_wp2_with fail
      refine Calls.mono HX.out ?_
      rintro e w9 ⟨rfl, rfl⟩
      go_wp2_with fail
      refine Calls.mono HPX.out ?_
      rintro e w9 ⟨rfl, rfl⟩
      go_wp2_with fail
      refine Calls.mono HY.out ?_
      rintro e w9 ⟨rfl, rfl⟩
      go_wp2_with fail
      refine Calls.mono HPY.out ?_
      rintro e w9 ⟨rfl, rfl⟩
      clear HX HY HPX HPY
      have w0eq : True := trivial
      have HL0 : Hid (Calls Tryz.prog 37 #[.slice a0 raw.length cap0, .int .i64 (8 + 20 * (k : Int)), .int .i64 (x : Int)] wr fun e w' => ∃ vl, e = .returned vl ∧ w'.ownsRow wr.heap.size 3 1 vl (listL raw (8 + 20 * k) x).length ((listL raw (8 + 20 * k) x).map zv) ∧ Below wr.heap.size wr w') := by
        have := list_any _ raw (8 + 20 * k) x wr (HI.out.below P0.out.bl) HR.out (by omega) hhx
        rw [show ((8 + 20 * k : Nat) : Int) = 8 + 20 * (k : Int) by omega] at this
        exact this
      go_wp2_with fail
      refine Calls.mono HL0.out ?_
      rintro e v0 ⟨y0, rfl, o0, b0⟩
      obtain ⟨p0, q0, r0, hv0, _⟩ := (ints_of_owns o0).2
      subst hv0
      have Q0 : Hid (PrI w v0 _ _ _ _ _ _) := P0.out.below b0
      have d0 : v0.cell? ⟨w.heap.size + 1 + 1, k, none⟩ = some _ := (cell_of_blk Q0.out.a (k) (by omega)).1
      have f0 : v0.frozen? ⟨w.heap.size + 1 + 1, k, none⟩ = false := (cell_of_blk Q0.out.a (k) (by omega)).2
      have P1 : Hid (PrI w (v0.setCell ⟨w.heap.size + 1 + 1, k, none⟩ (.slice p0 q0 r0)) _ _ _ _ _ _) := P0.out.setA b0 (k) (by omega) (.slice p0 q0 r0) _ o0
      clear HL0 o0 b0 Q0
      go_upto_region 10 with fail
      generalize v0.setCell ⟨w.heap.size + 1 + 1, k, none⟩ (.slice p0 q0 r0) = w1 at *
      clear d0 f0
      have HL1 : Hid (Calls Tryz.prog 37 #[.slice a0 raw.length cap0, .int .i64 (13 + 20 * (k : Int)), .int .i64 (x : Int)] w1 fun e w' => ∃ vl, e = .returned vl ∧ w'.ownsRow w1.heap.size 3 1 vl (listL raw (13 + 20 * k) x).length ((listL raw (13 + 20 * k) x).map zv) ∧ Below w1.heap.size w1 w') := by
        have := list_any _ raw (13 + 20 * k) x w1 (HI.out.below P1.out.bl) HR.out (by omega) hhx
        rw [show ((13 + 20 * k : Nat) : Int) = 13 + 20 * (k : Int) by omega] at this
        exact this
      go_wp2_with fail
      refine Calls.mono HL1.out ?_
      rintro e v1 ⟨y1, rfl, o1, b1⟩
      obtain ⟨p1, q1, r1, hv1, _⟩ := (ints_of_owns o1).2
      subst hv1
      have Q1 : Hid (PrI w v1 _ _ _ _ _ _) := P1.out.below b1
      have d1 : v1.cell? ⟨w.heap.size + 1 + 1 + 1, 3 + k, none⟩ = some _ := (cell_of_blk Q1.out.b (3 + k) (by omega)).1
      have f1 : v1.frozen? ⟨w.heap.size + 1 + 1 + 1, 3 + k, none⟩ = false := (cell_of_blk Q1.out.b (3 + k) (by omega)).2
      have P2 : Hid (PrI w (v1.setCell ⟨w.heap.size + 1 + 1 + 1, 3 + k, none⟩ (.slice p1 q1 r1)) _ _ _ _ _ _) := P1.out.setB b1 (3 + k) (by omega) (.slice p1 q1 r1) _ o1
      clear HL1 o1 b1 Q1
      go_upto_region 11 with fail
      generalize v1.setCell ⟨w.heap.size + 1 + 1 + 1, 3 + k, none⟩ (.slice p1 q1 r1) = w2 at *
      clear d1 f1
      have HL2 : Hid (Calls Tryz.prog 37 #[.slice a0 raw.length cap0, .int .i64 (18 + 20 * (k : Int)), .int .i64 (y : Int)] w2 fun e w' => ∃ vl, e = .returned vl ∧ w'.ownsRow w2.heap.size 3 1 vl (listL raw (18 + 20 * k) y).length ((listL raw (18 + 20 * k) y).map zv) ∧ Below w2.heap.size w2 w') := by
        have := list_any _ raw (18 + 20 * k) y w2 (HI.out.below P2.out.bl) HR.out (by omega) hhy
        rw [show ((18 + 20 * k : Nat) : Int) = 18 + 20 * (k : Int) by omega] at this
        exact this
      go_wp2_with fail
      refine Calls.mono HL2.out ?_
      rintro e v2 ⟨y2, rfl, o2, b2⟩
      obtain ⟨p2, q2, r2, hv2, _⟩ := (ints_of_owns o2).2
      subst hv2
      have Q2 : Hid (PrI w v2 _ _ _ _ _ _) := P2.out.below b2
      have d2 : v2.cell? ⟨w.heap.size + 1 + 1 + 1, k, none⟩ = some _ := (cell_of_blk Q2.out.b (k) (by omega)).1
      have f2 : v2.frozen? ⟨w.heap.size + 1 + 1 + 1, k, none⟩ = false := (cell_of_blk Q2.out.b (k) (by omega)).2
      have P3 : Hid (PrI w (v2.setCell ⟨w.heap.size + 1 + 1 + 1, k, none⟩ (.slice p2 q2 r2)) _ _ _ _ _ _) := P2.out.setB b2 (k) (by omega) (.slice p2 q2 r2) _ o2
      clear HL2 o2 b2 Q2
      go_upto_region 12 with fail
      generalize v2.setCell ⟨w.heap.size + 1 + 1 + 1, k, none⟩ (.slice p2 q2 r2) = w3 at *
      clear d2 f2
      have HL3 : Hid (Calls Tryz.prog 37 #[.slice a0 raw.length cap0, .int .i64 (23 + 20 * (k : Int)), .int .i64 (y : Int)] w3 fun e w' => ∃ vl, e = .returned vl ∧ w'.ownsRow w3.heap.size 3 1 vl (listL raw (23 + 20 * k) y).length ((listL raw (23 + 20 * k) y).map zv) ∧ Below w3.heap.size w3 w') := by
        have := list_any _ raw (23 + 20 * k) y w3 (HI.out.below P3.out.bl) HR.out (by omega) hhy
        rw [show ((23 + 20 * k : Nat) : Int) = 23 + 20 * (k : Int) by omega] at this
        exact this
      go_wp2_with fail
      refine Calls.mono HL3.out ?_
      rintro e v3 ⟨y3, rfl, o3, b3⟩
      obtain ⟨p3, q3, r3, hv3, _⟩ := (ints_of_owns o3).2
      subst hv3
      have Q3 : Hid (PrI w v3 _ _ _ _ _ _) := P3.out.below b3
      have d3 : v3.cell? ⟨w.heap.size + 1 + 1, 3 + k, none⟩ = some _ := (cell_of_blk Q3.out.a (3 + k) (by omega)).1
      have f3 : v3.frozen? ⟨w.heap.size + 1 + 1, 3 + k, none⟩ = false := (cell_of_blk Q3.out.a (3 + k) (by omega)).2
      have P4 : Hid (PrI w (v3.setCell ⟨w.heap.size + 1 + 1, 3 + k, none⟩ (.slice p3 q3 r3)) _ _ _ _ _ _) := P3.out.setA b3 (3 + k) (by omega) (.slice p3 q3 r3) _ o3
      clear HL3 o3 b3 Q3
      go_wp2_with fail
      refine ⟨⟨k + 1, by omega, by go_num, ?_⟩, by simp [intOf]; omega⟩
      refine ⟨_, _, _, _, P4.out, fun i hi6 => ?_⟩
      obtain ⟨e1, e2⟩ := HLS.out i hi6
      obtain ⟨ex, ey⟩ := HXY.out
      simp only [upd]
      by_cases h3 : i % 3 = k
      · by_cases hi3 : i < 3
        · have hik : k = i := by omega
          subst hik
          have n1 : ¬ k = 3 + k := by omega
          have n2 : k % 3 < k + 1 := by omega
          rw [if_neg n1, if_pos rfl, if_pos rfl, if_pos n2, if_pos n2]
          unfold cfgA cfgB
          rw [if_pos hi3, if_pos hi3, ex, ey]
          exact ⟨rfl, rfl⟩
        · have hik : i = 3 + k := by omega
          subst hik
          have n1 : ¬ 3 + k = k := by omega
          have n2 : (3 + k) % 3 < k + 1 := by omega
          rw [if_pos rfl, if_neg n1, if_pos rfl, if_pos n2, if_pos n2]
          unfold cfgA cfgB
          rw [if_neg hi3, if_neg hi3, ex, ey, show 3 + k - 3 = k by omega]
          exact ⟨rfl, rfl⟩
      · have n1 : ¬ i = k := by omega
        have n2 : ¬ i = 3 + k := by omega
        rw [if_neg n2, if_neg n1, if_neg n1, if_neg n2, e1, e2]
        by_cases h4 : i % 3 < k
        · rw [if_pos h4, if_pos h4, if_pos (by omega), if_pos (by omega)]
          exact ⟨rfl, rfl⟩
        · rw [if_neg h4, if_neg h4, if_neg (by omega), if_neg (by omega)]
          exact ⟨rfl, rfl⟩
    · have hk3 : k = 3 := by omega
      subst hk3
      obtain ⟨XA, XB, LA, LB, P00, HLs⟩ := HW.out
      have HLS : Hid (∀ i, i < 6 → LA i = cfgA raw i ∧ LB i = cfgB raw i) := fun i hi6 => by
        obtain ⟨e1, e2⟩ := HLs i hi6
        rw [if_pos (by omega)] at e1 e2
        exact ⟨e1, e2⟩
      have P0 : Hid (PrI w wr XA XB LA LB (magA raw) (magB raw)) := P00
      obtain ⟨a0', a0'', a0c, ea0, _⟩ := (ints_of_owns (P00.oa 0 (by omega))).2
      obtain ⟨a1', a1'', a1c, ea1, _⟩ := (ints_of_owns (P00.oa 1 (by omega))).2
      obtain ⟨a2', a2'', a2c, ea2, _⟩ := (ints_of_owns (P00.oa 2 (by omega))).2
      obtain ⟨a3', a3'', a3c, ea3, _⟩ := (ints_of_owns (P00.oa 3 (by omega))).2
      obtain ⟨a4', a4'', a4c, ea4, _⟩ := (ints_of_owns (P00.oa 4 (by omega))).2
      obtain ⟨a5', a5'', a5c, ea5, _⟩ := (ints_of_owns (P00.oa 5 (by omega))).2
      obtain ⟨b0', b0'', b0c, eb0, _⟩ := (ints_of_owns (P00.ob 0 (by omega))).2
      obtain ⟨b1', b1'', b1c, eb1, _⟩ := (ints_of_owns (P00.ob 1 (by omega))).2
      obtain ⟨b2', b2'', b2c, eb2, _⟩ := (ints_of_owns (P00.ob 2 (by omega))).2
      obtain ⟨b3', b3'', b3c, eb3, _⟩ := (ints_of_owns (P00.ob 3 (by omega))).2
      obtain ⟨b4', b4'', b4c, eb4, _⟩ := (ints_of_owns (P00.ob 4 (by omega))).2
      obtain ⟨b5', b5'', b5c, eb5, _⟩ := (ints_of_owns (P00.ob 5 (by omega))).2
      have EA : Hid (cfC XA (magA raw) = #[.slice a0' a0'' a0c, .slice a1' a1'' a1c, .slice a2' a2'' a2c, .slice a3' a3'' a3c, .slice a4' a4'' a4c, .slice a5' a5'' a5c, .int .i64 (magA raw : Int)]) := by show _ = _; unfold cfC; rw [ea0, ea1, ea2, ea3, ea4, ea5]
      have EB : Hid (cfC XB (magB raw) = #[.slice b0' b0'' b0c, .slice b1' b1'' b1c, .slice b2' b2'' b2c, .slice b3' b3'' b3c, .slice b4' b4'' b4c, .slice b5' b5'' b5c, .int .i64 (magB raw : Int)]) := by show _ = _; unfold cfC; rw [eb0, eb1, eb2, eb3, eb4, eb5]
      have ba : wr.heap[w.heap.size + 1 + 1]? = some (.cells #[.slice a0' a0'' a0c, .slice a1' a1'' a1c, .slice a2' a2'' a2c, .slice a3' a3'' a3c, .slice a4' a4'' a4c, .slice a5' a5'' a5c, .int .i64 (magA raw : Int)] 31 (0, 0)) := by rw [← EA.out]; exact P00.a
      have bb : wr.heap[w.heap.size + 1 + 1 + 1]? = some (.cells #[.slice b0' b0'' b0c, .slice b1' b1'' b1c, .slice b2' b2'' b2c, .slice b3' b3'' b3c, .slice b4' b4'' b4c, .slice b5' b5'' b5c, .int .i64 (magB raw : Int)] 31 (0, 0)) := by rw [← EB.out]; exact P00.b
      have ca : ∀ j, wr.cell? ⟨w.heap.size + 1 + 1, j, none⟩ = _ := fun j => blk_cell ba
      have cb : ∀ j, wr.cell? ⟨w.heap.size + 1 + 1 + 1, j, none⟩ = _ := fun j => blk_cell bb
      have r1 : wr.heap[w.heap.size]? = some (.cells #[.slice none 0 0, .slice none 0 0, .slice none 0 0, .slice none 0 0, .slice none 0 0, .slice none 0 0, .int .i64 0] 31 (0, 0)) := P00.r1
      have r2 : wr.heap[w.heap.size + 1]? = some (.cells #[.slice none 0 0, .slice none 0 0, .slice none 0 0, .slice none 0 0, .slice none 0 0, .slice none 0 0, .int .i64 0] 31 (0, 0)) := P00.r2
      have c1 : ∀ j, wr.cell? ⟨w.heap.size, j, none⟩ = _ := fun j => blk_cell r1
      have c2 : ∀ j, wr.cell? ⟨w.heap.size + 1, j, none⟩ = _ := fun j => blk_cell r2
      have g1 : ∀ j, wr.frozen? ⟨w.heap.size, j, none⟩ = false := fun j => blk_free r1
      have g2 : ∀ j, wr.frozen? ⟨w.heap.size + 1, j, none⟩ = false := fun j => blk_free r2
      clear P00 HLs HW HS ea0 ea1 ea2 ea3 ea4 ea5 eb0 eb1 eb2 eb3 eb4 eb5 ba bb r1 r2
      go_upto_region 13 with fail
      go_region
      all_goals
        go_wp2_with fail
        refine bodyPost_ret (v := .tuple #[.agg #[.slice a0' a0'' a0c, .slice a1' a1'' a1c, .slice a2' a2'' a2c, .slice a3' a3'' a3c, .slice a4' a4'' a4c, .slice a5' a5'' a5c, .int .i64 (magA raw : Int)], .agg #[.slice b0' b0'' b0c, .slice b1' b1'' b1c, .slice b2' b2'' b2c, .slice b3' b3'' b3c, .slice b4' b4'' b4c, .slice b5' b5'' b5c, .int .i64 (magB raw : Int)]]) (by simp [results, Tryz.results15, go_sem, c1, c2]) rfl ?_
        refine ⟨XA, XB, by rw [EA.out, EB.out], pair_end ?_ P0.out HLS.out⟩
        refine Tch.drew ?_
        iterate 14 refine Tch.trans ?_ (Tch.set _ _ _ _ (by simp))
        exact Tch.refl _ _
end Go.Proofs.YtoeihlgidakjbaaGreatDoor

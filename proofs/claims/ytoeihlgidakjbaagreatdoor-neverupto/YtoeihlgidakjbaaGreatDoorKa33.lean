/- Never. Never's walk. -/
import Derived.Test.YtoeihlgidakjbaaGreatDoorKa31
import Derived.Test.YtoeihlgidakjbaaGreatDoorKa4
namespace Go.Proofs.YtoeihlgidakjbaaGreatDoor
open Go.RowKit Go.Lib
structure CfS (w1 W : World) (XA XB : Nat → Value) (LA LB : Nat → List Int) (ma mb : Int) : Prop where
  bl : Below w1.heap.size w1 W
  a : W.heap[w1.heap.size]? = some (.cells (cfC XA ma) 31 (0, 0))
  b : W.heap[w1.heap.size + 1]? = some (.cells (cfC XB mb) 31 (0, 0))
  ca : CfgAt W XA LA
  cb : CfgAt W XB LB
theorem CfS.start {w1 : World} {XA XB : Nat → Value} {LA LB : Nat → List Int} (ma mb : Int) (hA : CfgAt w1 XA LA) (hB : CfgAt w1 XB LB) : CfS w1 ((w1.alloc (.cells (cfC XA ma) 31)).alloc (.cells (cfC XB mb) 31)) XA XB LA LB ma mb := by
  have hb : Below w1.heap.size w1 ((w1.alloc (.cells (cfC XA ma) 31)).alloc (.cells (cfC XB mb) 31)) := ((Below.refl _ _).alloc (Nat.le_refl _) _).alloc (by simp) _
  exact ⟨hb, (Below.heap_alloc _ _ _ (by simp)).trans (alloc_at w1 _ _ rfl), alloc_at _ _ _ (by simp), hA.below hb, hB.below hb⟩
theorem ints_low {w1 W W' : World} {x : Value} {L : List Int} {c : Nat} (hx : IntsAt w1 x L) (hb : Below w1.heap.size w1 W) (ht : Tch (fun b => b = c) W W') (hc : w1.heap.size ≤ c) : IntsAt W' x L := by
  obtain ⟨a, cap, g, off, rfl, h1, h2⟩ := hx
  refine ⟨a, cap, g, off, rfl, fun h => ⟨(h1 h).1, Nat.lt_of_lt_of_le (h1 h).2 (Nat.le_trans hb.size ht.size)⟩, fun k hk => ?_⟩
  have hg := (h1 (by omega)).2
  rw [(cell_blk (ht.block g (Nat.lt_of_lt_of_le hg hb.size) (by omega)) _).1]
  exact (hb.cell (p := ⟨g, off + k, none⟩) hg).trans (h2 k hk)
theorem cells_ints (W : World) (ns : List Int) (T : Nat) : IntsAt (W.alloc (.cells (ns.map zv).toArray T)) (.slice (some ⟨W.heap.size, 0, none⟩) ns.length ns.length) ns := by
  refine ⟨_, ns.length, W.heap.size, 0, rfl, fun _ => ⟨rfl, by simp⟩, fun k hk => ?_⟩
  rw [Nat.zero_add, blk_cell (heap_alloc_new W _)]
  simp [zv, hk]
theorem CfS.setA {w1 W2 : World} {XA XB : Nat → Value} {LA LB : Nat → List Int} {ma mb : Int} (h : CfS w1 W2 XA XB LA LB ma mb) (lowA : ∀ i, i < 6 → IntsAt w1 (XA i) (LA i)) (lowB : ∀ i, i < 6 → IntsAt w1 (XB i) (LB i)) (o : Nat) (ho : o < 3) (ns : List Int) :
    CfS w1 ((W2.alloc (.cells (ns.map zv).toArray 3)).setCell ⟨w1.heap.size, o, none⟩ (.slice (some ⟨W2.heap.size, 0, none⟩) ns.length ns.length)) (upd XA o (.slice (some ⟨W2.heap.size, 0, none⟩) ns.length ns.length)) XB (upd LA o ns) LB ma mb := by
  have b3 : Below W2.heap.size W2 (W2.alloc (.cells (ns.map zv).toArray 3)) := (Below.refl _ _).alloc (Nat.le_refl _) _
  have hz := blk_lt h.b
  have ts : Tch (fun b => b = w1.heap.size) (W2.alloc (.cells (ns.map zv).toArray 3)) ((W2.alloc (.cells (ns.map zv).toArray 3)).setCell ⟨w1.heap.size, o, none⟩ (.slice (some ⟨W2.heap.size, 0, none⟩) ns.length ns.length)) := Tch.set _ _ _ _ rfl
  have b13 := h.bl.trans (b3.mono h.bl.size)
  have a3 := (b3.block _ (blk_lt h.a)).trans h.a
  have bb3 := (b3.block _ hz).trans h.b
  refine ⟨b13.trans (ts.below b13.size (fun k hk => by omega)), ?_, (ts.block _ (blk_lt bb3) (by omega)).trans bb3, fun i hi => ?_, fun i hi => ⟨ints_low (lowB i hi) b13 ts (Nat.le_refl _), (h.cb i hi).2⟩⟩
  · rw [blk_set a3, cfC_upd _ _ _ (by omega)]
  · by_cases e : i = o
    · subst e
      have e1 : upd XA i (.slice (some ⟨W2.heap.size, 0, none⟩) ns.length ns.length) i = .slice (some ⟨W2.heap.size, 0, none⟩) ns.length ns.length := if_pos rfl
      have e2 : upd LA i ns i = ns := if_pos rfl
      rw [e1, e2]
      refine ⟨?_, _, _, _, rfl, Nat.le_refl _⟩
      obtain ⟨a, cap, g, off, hv, h1, h2⟩ := cells_ints W2 ns 3
      by_cases hn : ns.length = 0
      · exact ⟨_, ns.length, 0, 0, rfl, fun q => by omega, fun k hk => by omega⟩
      · have ea := (h1 (by omega)).1
        injection hv with hv1 hv2 hv3
        rw [ea] at hv1
        injection hv1 with hv4
        injection hv4 with hv5 hv6
        subst hv5 hv6
        refine ⟨_, ns.length, W2.heap.size, 0, rfl, fun _ => ⟨rfl, Nat.lt_of_lt_of_le (h1 (by omega)).2 ts.size⟩, fun k hk => ?_⟩
        rw [(cell_blk (ts.block W2.heap.size (by simp) (by omega)) _).1]
        exact h2 k hk
    · have e1 : upd XA o (.slice (some ⟨W2.heap.size, 0, none⟩) ns.length ns.length) i = XA i := if_neg e
      have e2 : upd LA o ns i = LA i := if_neg e
      rw [e1, e2]
      exact ⟨ints_low (lowA i hi) b13 ts (Nat.le_refl _), (h.ca i hi).2⟩
theorem CfS.setB {w1 W2 : World} {XA XB : Nat → Value} {LA LB : Nat → List Int} {ma mb : Int} (h : CfS w1 W2 XA XB LA LB ma mb) (lowA : ∀ i, i < 6 → IntsAt w1 (XA i) (LA i)) (lowB : ∀ i, i < 6 → IntsAt w1 (XB i) (LB i)) (o : Nat) (ho : o < 3) (ns : List Int) :
    CfS w1 ((W2.alloc (.cells (ns.map zv).toArray 3)).setCell ⟨w1.heap.size + 1, o, none⟩ (.slice (some ⟨W2.heap.size, 0, none⟩) ns.length ns.length)) XA (upd XB o (.slice (some ⟨W2.heap.size, 0, none⟩) ns.length ns.length)) LA (upd LB o ns) ma mb := by
  have b3 : Below W2.heap.size W2 (W2.alloc (.cells (ns.map zv).toArray 3)) := (Below.refl _ _).alloc (Nat.le_refl _) _
  have hz := blk_lt h.b
  have ts : Tch (fun b => b = w1.heap.size + 1) (W2.alloc (.cells (ns.map zv).toArray 3)) ((W2.alloc (.cells (ns.map zv).toArray 3)).setCell ⟨w1.heap.size + 1, o, none⟩ (.slice (some ⟨W2.heap.size, 0, none⟩) ns.length ns.length)) := Tch.set _ _ _ _ rfl
  have b13 := h.bl.trans (b3.mono h.bl.size)
  have a3 := (b3.block _ (blk_lt h.a)).trans h.a
  have bb3 := (b3.block _ hz).trans h.b
  refine ⟨b13.trans (ts.below b13.size (fun k hk => by omega)), (ts.block _ (blk_lt a3) (by omega)).trans a3, ?_, fun i hi => ⟨ints_low (lowA i hi) b13 ts (by omega), (h.ca i hi).2⟩, fun i hi => ?_⟩
  · rw [blk_set bb3, cfC_upd _ _ _ (by omega)]
  · by_cases e : i = o
    · subst e
      have e1 : upd XB i (.slice (some ⟨W2.heap.size, 0, none⟩) ns.length ns.length) i = .slice (some ⟨W2.heap.size, 0, none⟩) ns.length ns.length := if_pos rfl
      have e2 : upd LB i ns i = ns := if_pos rfl
      rw [e1, e2]
      refine ⟨?_, _, _, _, rfl, Nat.le_refl _⟩
      obtain ⟨a, cap, g, off, hv, h1, h2⟩ := cells_ints W2 ns 3
      by_cases hn : ns.length = 0
      · exact ⟨_, ns.length, 0, 0, rfl, fun q => by omega, fun k hk => by omega⟩
      · have ea := (h1 (by omega)).1
        injection hv with hv1 hv2 hv3
        rw [ea] at hv1
        injection hv1 with hv4
        injection hv4 with hv5 hv6
        subst hv5 hv6
        refine ⟨_, ns.length, W2.heap.size, 0, rfl, fun _ => ⟨rfl, Nat.lt_of_lt_of_le (h1 (by omega)).2 ts.size⟩, fun k hk => ?_⟩
        rw [(cell_blk (ts.block W2.heap.size (by simp) (by omega)) _).1]
        exact h2 k hk
    · have e1 : upd XB o (.slice (some ⟨W2.heap.size, 0, none⟩) ns.length ns.length) i = XB i := if_neg e
      have e2 : upd LB o ns i = LB i := if_neg e
      rw [e1, e2]
      exact ⟨ints_low (lowB i hi) b13 ts (by omega), (h.cb i hi).2⟩
theorem upd_isL {L : Nat → List Int} (h : ∀ i, i < 6 → IsL (L i)) (o : Nat) (ns : List Int) (hn : IsL ns) : ∀ i, i < 6 → IsL (upd L o ns i) := by
  intro i hi
  unfold upd
  split
  · exact hn
  · exact h i hi
theorem isL_far2 : IsL [200, 201] := ⟨by simp, by simp, fun x hx => by simp at hx; omega, fun i j hij hj => by
  simp at hj
  obtain rfl : i = 0 := by omega
  obtain rfl : j = 1 := by omega
  simp⟩
theorem isL_far1 : IsL [200] := ⟨by simp, by simp, fun x hx => by simp at hx; omega, fun i j hij hj => by simp at hj; omega⟩
theorem new_wt {L : Nat → List Int} {mg : Int} (h : ∀ i, i < 6 → IsL (L i)) (h1 : 1 ≤ mg) (h2 : mg ≤ 65535) (o : Nat) (ho : o < 3) (ns : List Int) (hn : IsL ns) (hf : ∀ x ∈ ns, 200 ≤ x) : (newM (upd L o ns) mg).Wt (o + 1) := by
  have hl := upd_isL h o ns hn
  have ok := (lim_new hl h1 h2).ok
  have hp : 0 < ns.length := hn.1
  obtain ⟨y, t, rfl⟩ : ∃ y t, ns = y :: t := by
    cases ns with
    | nil => simp at hp
    | cons y t => exact ⟨y, t, rfl⟩
  have hy := hf y (by simp)
  have hw : (newM (upd L o (y :: t)) mg).want (o + 1) = (y :: t).map Int.toNat := by
    rcases (by omega : o = 0 ∨ o = 1 ∨ o = 2) with rfl | rfl | rfl <;> rfl
  have hk : (newM (upd L o (y :: t)) mg).kk (o + 1) = y.toNat := by
    rcases (by omega : o = 0 ∨ o = 1 ∨ o = 2) with rfl | rfl | rfl <;> rfl
  refine ⟨ok, by rw [hk]; omega, fun v hv => ?_, by show (0 : Nat) ≠ 7; omega, by show (0 : Nat) ≠ 9; omega⟩
  rw [hw] at hv
  obtain ⟨z, hz, rfl⟩ := List.mem_map.1 hv
  have := hf z hz
  omega
theorem new_nt {L : Nat → List Int} {mg : Int} (o : Nat) (ho : o < 3) (h : ∀ x ∈ L (3 + o), x < 12) : (newM L mg).Nt (o + 1) := by
  refine ⟨by show (0 : Nat) < 10; omega, fun v hv => ?_⟩
  have hw : (newM L mg).acc (o + 1) = (L (3 + o)).map Int.toNat := by
    rcases (by omega : o = 0 ∨ o = 1 ∨ o = 2) with rfl | rfl | rfl <;> rfl
  rw [hw] at hv
  obtain ⟨z, hz, rfl⟩ := List.mem_map.1 hv
  have := h z hz
  omega
theorem cfgA_12 (raw : List Int) (i : Nat) : ∀ x ∈ cfgA raw i, x < 12 := by
  unfold cfgA
  split
  · exact fun x hx => ((listL_ok _ _ _ (xN_lt _ _)).2.1 x hx).2
  · exact fun x hx => ((listL_ok _ _ _ (yN_lt _ _)).2.1 x hx).2
theorem cfgB_12 (raw : List Int) (i : Nat) : ∀ x ∈ cfgB raw i, x < 12 := by
  unfold cfgB
  split
  · exact fun x hx => ((listL_ok _ _ _ (yN_lt _ _)).2.1 x hx).2
  · exact fun x hx => ((listL_ok _ _ _ (xN_lt _ _)).2.1 x hx).2
theorem nev_a (raw : List Int) (o : Nat) (ho : o < 3) : (newL (upd (cfgA raw) o [200, 201]) (cfgB raw) (magA raw) (magB raw)).Nev (o + 1) true := by
  unfold Ln.Nev
  rw [if_pos rfl]
  exact ⟨new_wt (fun i _ => cfgA_isL _ i) (magA_in _).1 (magA_in _).2 o ho _ isL_far2 (fun x hx => by simp at hx; omega), new_nt o ho (cfgB_12 raw _), fun _ q => (nomatch q), fun _ q => (nomatch q)⟩
theorem nev_b (raw : List Int) (o : Nat) (ho : o < 3) : (newL (cfgA raw) (upd (cfgB raw) o [200]) (magA raw) (magB raw)).Nev (o + 1) false := by
  unfold Ln.Nev
  rw [if_neg (by decide)]
  exact ⟨new_wt (fun i _ => cfgB_isL _ i) (magB_in _).1 (magB_in _).2 o ho _ isL_far1 (fun x hx => by simp at hx; omega), new_nt o ho (cfgA_12 raw _), fun _ q => (nomatch q), fun _ q => (nomatch q)⟩
end Go.Proofs.YtoeihlgidakjbaaGreatDoor
namespace Go.Proofs.YtoeihlgidakjbaaGreatDoor
open Go.RowKit Go.Lib
set_option maxRecDepth 100000 in
set_option maxHeartbeats 8000000 in
theorem never_law (vr va : Value) (raw : List Int) (option : Int) (way : Bool) (n : Nat) (K : Nat → Int) (F : Nat → Bool) (w : World) (gz : Gz w) (hr : IntsAt w vr raw) (hraw : Raw raw) (ho1 : -9223372036854775808 ≤ option) (ho2 : option < 9223372036854775808) (ha : ActsAt w va n K F) (hn : n ≤ 1048576) :
    Calls Tryz.prog 8 #[vr, .int .i64 option, .bool way, va] w fun e w' => e = .returned (.bool true) ∧ Below w.heap.size w w' := by
  have HK : Hid (_) := known_any w w gz (Below.refl _ _)
  have HG : Hid (Gz w ∧ IntsAt w vr raw ∧ Raw raw) := ⟨gz, hr, hraw⟩
  obtain ⟨ar, capr, gr, offr, hvr, _, _⟩ := hr
  subst hvr
  obtain ⟨aa, capa, ga, offa, hva, haa, hac⟩ := ha
  subst hva
  have HA : Hid (0 < n → aa = some ⟨ga, offa, none⟩ ∧ ga < w.heap.size) := haa
  have HC : Hid (_) := hac
  clear gz hraw haa hac
  go_enter Tryz.func8, Tryz.ntmps8
  go_wp2_with fail
  refine Calls.mono HK.out ?_
  rintro e w0 ⟨rfl, hb0⟩
  have HP : Hid (_) := pair_any (.slice ar raw.length capr) raw w0 (HG.out.2.1.below hb0) HG.out.2.2
  have HB0 : Hid (Below w.heap.size w w0) := hb0
  clear hb0 HK
  go_wp2_with fail
  refine Calls.mono HP.out ?_
  rintro e w1 ⟨XA, XB, rfl, hb1, hcf⟩
  have hA : CfgAt w1 XA (cfgA raw) := fun i hi => (hcf i hi).1
  have hB : CfgAt w1 XB (cfgB raw) := fun i hi => (hcf i hi).2
  have HAB : Hid (CfgAt w1 XA (cfgA raw) ∧ CfgAt w1 XB (cfgB raw)) := ⟨hA, hB⟩
  obtain ⟨a0, n0, c0, a1, n1, c1, a2, n2, c2, a3, n3, c3, a4, n4, c4, a5, n5, c5, EA⟩ := hA.shapes (magA raw)
  obtain ⟨p0, m0, d0, p1, m1, d1, p2, m2, d2, p3, m3, d3, p4, m4, d4, p5, m5, d5, EB⟩ := hB.shapes (magB raw)
  have CS : Hid (_) := CfS.start (magA raw) (magB raw) hA hB
  have HZ2 : Hid (((w1.alloc (.cells (cfC XA (magA raw)) 31)).alloc (.cells (cfC XB (magB raw)) 31)).heap.size = w1.heap.size + 1 + 1) := by show _ = _; simp
  have HPO : Hid (_) := pick_any option 3 ((w1.alloc (.cells (cfC XA (magA raw)) 31)).alloc (.cells (cfC XB (magB raw)) 31)) (by omega) (by omega) ho1 ho2
  have HB1 : Hid (Below w.heap.size w w1) := HB0.out.trans (hb1.mono HB0.out.size)
  obtain ⟨o, hoe⟩ : ∃ o, o = pickN option 3 := ⟨_, rfl⟩
  have ho : o < 3 := by rw [hoe]; exact pickN_less _ _ (by decide)
  rw [← hoe] at HPO
  rw [show (.cells (cfC XA (magA raw)) 31 : Obj) = .cells #[.slice a0 n0 c0, .slice a1 n1 c1, .slice a2 n2 c2, .slice a3 n3 c3, .slice a4 n4 c4, .slice a5 n5 c5, .int .i64 (magA raw : Int)] 31 by rw [EA], show (.cells (cfC XB (magB raw)) 31 : Obj) = .cells #[.slice p0 m0 d0, .slice p1 m1 d1, .slice p2 m2 d2, .slice p3 m3 d3, .slice p4 m4 d4, .slice p5 m5 d5, .int .i64 (magB raw : Int)] 31 by rw [EB]] at CS HPO HZ2
  rw [EA, EB]
  clear EA EB hA hB hcf hb1 HP HB0 hoe
  go_wp2_with fail
  generalize ((w1.alloc (.cells #[.slice a0 n0 c0, .slice a1 n1 c1, .slice a2 n2 c2, .slice a3 n3 c3, .slice a4 n4 c4, .slice a5 n5 c5, .int .i64 (magA raw : Int)] 31)).alloc (.cells #[.slice p0 m0 d0, .slice p1 m1 d1, .slice p2 m2 d2, .slice p3 m3 d3, .slice p4 m4 d4, .slice p5 m5 d5, .int .i64 (magB raw : Int)] 31)) = W2 at *
  refine Calls.mono HPO.out ?_
  rintro e W2' ⟨rfl, rfl⟩
  clear HPO
  have hoI : (o : Int) < 3 := by omega
  have hz2 := HZ2.out
  cases way
  · have C4 : Hid (CfS w1 ((W2.setCell ⟨w1.heap.size + 1, o, none⟩ (.slice (some ⟨w1.heap.size + 1 + 1, 0, none⟩) 1 1)).alloc (.cells #[.int .i64 200] 3)) (XA) (upd XB o (.slice (some ⟨w1.heap.size + 1 + 1, 0, none⟩) 1 1)) (cfgA raw) (upd (cfgB raw) o [200]) (magA raw) (magB raw)) := by
      have := CS.out.setB (fun i hi => (HAB.out.1 i hi).1) (fun i hi => (HAB.out.2 i hi).1) o ho [200]
      rw [World.setCell_alloc_past _ _ _ _ (blk_lt CS.out.b), HZ2.out] at this
      exact this
    have bW : (W2.alloc (.cells #[.int .i64 200] 3)).heap[w1.heap.size + 1]? = some (.cells (cfC XB (magB raw)) 31 (0, 0)) := (Below.heap_alloc _ _ _ (blk_lt CS.out.b)).trans CS.out.b
    have x0 : (W2.alloc (.cells #[.int .i64 200] 3)).cell? ⟨w1.heap.size + 1, o, none⟩ = some (XB o) := (cell_of_blk bW o (by omega)).1
    have x1 : (W2.alloc (.cells #[.int .i64 200] 3)).frozen? ⟨w1.heap.size + 1, o, none⟩ = false := (cell_of_blk bW o (by omega)).2
    clear bW
    go_upto_region 9 with fail
    generalize (W2.setCell ⟨w1.heap.size + 1, o, none⟩ (.slice (some ⟨w1.heap.size + 1 + 1, 0, none⟩) 1 1)).alloc (.cells #[.int .i64 200] 3) = W4 at *
    clear x0 x1
    obtain ⟨q0, r0, s0, q1, r1, s1, q2, r2, s2, q3, r3, s3, q4, r4, s4, q5, r5, s5, EA⟩ := C4.out.ca.shapes (magA raw)
    obtain ⟨t0, u0, z0, t1, u1, z1, t2, u2, z2, t3, u3, z3, t4, u4, z4, t5, u5, z5, EB⟩ := C4.out.cb.shapes (magB raw)
    have b0 := C4.out.a
    have b1 := C4.out.b
    have HJ : Hid (_) := joined_any (XA) (upd XB o (.slice (some ⟨w1.heap.size + 1 + 1, 0, none⟩) 1 1)) (cfgA raw) (upd (cfgB raw) o [200]) (magA raw) (magB raw) W4 C4.out.ca C4.out.cb (fun i _ => cfgA_isL _ i) (upd_isL (fun i _ => cfgB_isL _ i) o _ isL_far1) (magA_in _).1 (magA_in _).2 (magB_in _).1 (magB_in _).2
    rw [EA] at b0
    rw [EB] at b1
    rw [EA, EB] at HJ
    have g0 : ∀ j, W4.cell? ⟨w1.heap.size, j, none⟩ = _ := fun j => blk_cell b0
    have g1 : ∀ j, W4.cell? ⟨w1.heap.size + 1, j, none⟩ = _ := fun j => blk_cell b1
    have HB4 : Hid (Below w.heap.size w W4) := HB1.out.trans (C4.out.bl.mono HB1.out.size)
    clear b0 b1 EA EB C4 CS HAB
    go_wp2_with fail
    refine Calls.mono HJ.out ?_
    rintro e w2 ⟨v, rfl, hL, hb2, _⟩
    have ok0 : (newL (cfgA raw) (upd (cfgB raw) o [200]) (magA raw) (magB raw)).Ok 0 := newL_ok (fun i _ => cfgA_isL _ i) (upd_isL (fun i _ => cfgB_isL _ i) o _ isL_far1) (magA_in _).1 (magA_in _).2 (magB_in _).1 (magB_in _).2
    have HL0 : Hid (LI w2 w.heap.size v (newL (cfgA raw) (upd (cfgB raw) o [200]) (magA raw) (magB raw)) ∧ Below w.heap.size w w2 ∧ (newL (cfgA raw) (upd (cfgB raw) o [200]) (magA raw) (magB raw)).Ok 0) := ⟨hL.lower HB4.out.size, HB4.out.trans (hb2.mono HB4.out.size), ok0⟩
    clear hL hb2 ok0 HJ HB1 HB4 g0 g1
    have HS : Hid (∃ v' l', LI w2 w.heap.size v' l' ∧ LS w2 w2 v v' ∧ l'.Ok (400 * 0) ∧ l'.Nev (o + 1) false) := ⟨v, _, HL0.out.1, LS.refl _ _, HL0.out.2.2, nev_b raw o ho⟩
    go_wp2_with fail
    go_loopw [14] (fun v9 wr => ∃ (k : Nat), k ≤ n ∧ v9 = .int .i64 (k : Int) ∧ Hid (∃ v' l', LI wr w.heap.size v' l' ∧ LS w2 wr v v' ∧ l'.Ok (400 * k) ∧ l'.Nev (o + 1) false)) (fun v9 _ => n - (intOf v9).toNat)
    case atStart => exact ⟨0, Nat.zero_le _, rfl, HS⟩
    case round =>
      obtain ⟨k, hk, rfl, HW⟩ := hrel
      clear HS
      by_cases hlt : k < n
      · have hI : (k : Int) < (n : Int) := by omega
        obtain ⟨rfl, hga⟩ := HA.out (by omega)
        obtain ⟨v1, l1, hL1, hS1, hO1, hE1⟩ := HW.out
        have e1 : v1.ln = v.ln := hS1.ln
        have hbw : Below w.heap.size w wr := LS.low HL0.out.1 hS1 HL0.out.2.1 (Nat.le_refl _)
        obtain ⟨k1, k2, k3, k4⟩ := HC.out k hlt
        have d1 : wr.cell? ⟨ga, offa + k * 2, none⟩ = some (.int .i64 (K k)) := (hbw.cell (p := ⟨ga, offa + k * 2, none⟩) hga).trans k1
        have d2 : wr.cell? ⟨ga, offa + k * 2 + 1, none⟩ = some (.bool (F k)) := (hbw.cell (p := ⟨ga, offa + k * 2 + 1, none⟩) hga).trans k2
        have D1 : Hid (_) := happens_any (K k) (F k) w wr HG.out.1 hbw (Nat.le_refl _) hL1 hO1 (by omega) k3 k4
        rw [e1] at D1
        have H1 : Hid (LS w2 wr v v1 ∧ (l1.happens (pickN (K k) 10) (F k)).Ok (400 * (k + 1)) ∧ (l1.happens (pickN (K k) 10) (F k)).Nev (o + 1) false) := ⟨hS1, (hO1.happens _ _).mono (by omega), hE1.happens (by omega) (by omega) hO1 _ _⟩
        clear hL1 hS1 hO1 hE1 HW e1 hbw k1 k2 k3 k4
        generalize K k = kind at *
        generalize F k = fst at *
        go_wp2_with fail
        refine Calls.mono D1.out ?_
        rintro e w3 ⟨rfl, v3, hL3, hS3⟩
        have hS3' := H1.out.1.trans hS3
        have e3 : v3.ln = v.ln := hS3'.ln
        have S1 : Hid (_) := opened_any w3 hL3
        rw [e3, H1.out.2.2.closed] at S1
        have H3 : Hid (LI w3 w.heap.size v3 (l1.happens (pickN kind 10) fst) ∧ LS w2 w3 v v3) := ⟨hL3, hS3'⟩
        clear hL3 hS3 hS3' e3 D1 d1 d2
        go_wp2_with fail
        refine Calls.mono S1.out ?_
        rintro e w4 ⟨rfl, hb4⟩
        have H4 : Hid (LI w4 w.heap.size v3 (l1.happens (pickN kind 10) fst) ∧ LS w2 w4 v v3) := ⟨H3.out.1.below hb4, H3.out.2.trans (LS.new hb4)⟩
        clear hb4 S1
        go_wp2_with fail
        exact ⟨⟨k + 1, by omega, by go_num, v3, _, H4.out.1, H4.out.2, H1.out.2.1, H1.out.2.2⟩, by simp [intOf]; omega⟩
      · have hI : ¬ (k : Int) < (n : Int) := by omega
        go_wp2_with fail
        go_ret
        obtain ⟨v1, l1, _, hS1, _, _⟩ := HW.out
        exact ⟨rfl, LS.low HL0.out.1 hS1 HL0.out.2.1 (Nat.le_refl _)⟩
  · have C4 : Hid (CfS w1 ((W2.setCell ⟨w1.heap.size, o, none⟩ (.slice (some ⟨w1.heap.size + 1 + 1, 0, none⟩) 2 2)).alloc (.cells #[.int .i64 200, .int .i64 201] 3)) (upd XA o (.slice (some ⟨w1.heap.size + 1 + 1, 0, none⟩) 2 2)) (XB) (upd (cfgA raw) o [200, 201]) (cfgB raw) (magA raw) (magB raw)) := by
      have := CS.out.setA (fun i hi => (HAB.out.1 i hi).1) (fun i hi => (HAB.out.2 i hi).1) o ho [200, 201]
      rw [World.setCell_alloc_past _ _ _ _ (blk_lt CS.out.a), HZ2.out] at this
      exact this
    have bW : (W2.alloc (.cells #[.int .i64 200, .int .i64 201] 3)).heap[w1.heap.size]? = some (.cells (cfC XA (magA raw)) 31 (0, 0)) := (Below.heap_alloc _ _ _ (blk_lt CS.out.a)).trans CS.out.a
    have x0 : (W2.alloc (.cells #[.int .i64 200, .int .i64 201] 3)).cell? ⟨w1.heap.size, o, none⟩ = some (XA o) := (cell_of_blk bW o (by omega)).1
    have x1 : (W2.alloc (.cells #[.int .i64 200, .int .i64 201] 3)).frozen? ⟨w1.heap.size, o, none⟩ = false := (cell_of_blk bW o (by omega)).2
    clear bW
    go_upto_region 9 with fail
    generalize (W2.setCell ⟨w1.heap.size, o, none⟩ (.slice (some ⟨w1.heap.size + 1 + 1, 0, none⟩) 2 2)).alloc (.cells #[.int .i64 200, .int .i64 201] 3) = W4 at *
    clear x0 x1
    obtain ⟨q0, r0, s0, q1, r1, s1, q2, r2, s2, q3, r3, s3, q4, r4, s4, q5, r5, s5, EA⟩ := C4.out.ca.shapes (magA raw)
    obtain ⟨t0, u0, z0, t1, u1, z1, t2, u2, z2, t3, u3, z3, t4, u4, z4, t5, u5, z5, EB⟩ := C4.out.cb.shapes (magB raw)
    have b0 := C4.out.a
    have b1 := C4.out.b
    have HJ : Hid (_) := joined_any (upd XA o (.slice (some ⟨w1.heap.size + 1 + 1, 0, none⟩) 2 2)) (XB) (upd (cfgA raw) o [200, 201]) (cfgB raw) (magA raw) (magB raw) W4 C4.out.ca C4.out.cb (upd_isL (fun i _ => cfgA_isL _ i) o _ isL_far2) (fun i _ => cfgB_isL _ i) (magA_in _).1 (magA_in _).2 (magB_in _).1 (magB_in _).2
    rw [EA] at b0
    rw [EB] at b1
    rw [EA, EB] at HJ
    have g0 : ∀ j, W4.cell? ⟨w1.heap.size, j, none⟩ = _ := fun j => blk_cell b0
    have g1 : ∀ j, W4.cell? ⟨w1.heap.size + 1, j, none⟩ = _ := fun j => blk_cell b1
    have HB4 : Hid (Below w.heap.size w W4) := HB1.out.trans (C4.out.bl.mono HB1.out.size)
    clear b0 b1 EA EB C4 CS HAB
    go_wp2_with fail
    refine Calls.mono HJ.out ?_
    rintro e w2 ⟨v, rfl, hL, hb2, _⟩
    have ok0 : (newL (upd (cfgA raw) o [200, 201]) (cfgB raw) (magA raw) (magB raw)).Ok 0 := newL_ok (upd_isL (fun i _ => cfgA_isL _ i) o _ isL_far2) (fun i _ => cfgB_isL _ i) (magA_in _).1 (magA_in _).2 (magB_in _).1 (magB_in _).2
    have HL0 : Hid (LI w2 w.heap.size v (newL (upd (cfgA raw) o [200, 201]) (cfgB raw) (magA raw) (magB raw)) ∧ Below w.heap.size w w2 ∧ (newL (upd (cfgA raw) o [200, 201]) (cfgB raw) (magA raw) (magB raw)).Ok 0) := ⟨hL.lower HB4.out.size, HB4.out.trans (hb2.mono HB4.out.size), ok0⟩
    clear hL hb2 ok0 HJ HB1 HB4 g0 g1
    have HS : Hid (∃ v' l', LI w2 w.heap.size v' l' ∧ LS w2 w2 v v' ∧ l'.Ok (400 * 0) ∧ l'.Nev (o + 1) true) := ⟨v, _, HL0.out.1, LS.refl _ _, HL0.out.2.2, nev_a raw o ho⟩
    go_wp2_with fail
    go_loopw [14] (fun v9 wr => ∃ (k : Nat), k ≤ n ∧ v9 = .int .i64 (k : Int) ∧ Hid (∃ v' l', LI wr w.heap.size v' l' ∧ LS w2 wr v v' ∧ l'.Ok (400 * k) ∧ l'.Nev (o + 1) true)) (fun v9 _ => n - (intOf v9).toNat)
    case atStart => exact ⟨0, Nat.zero_le _, rfl, HS⟩
    case round =>
      obtain ⟨k, hk, rfl, HW⟩ := hrel
      clear HS
      by_cases hlt : k < n
      · have hI : (k : Int) < (n : Int) := by omega
        obtain ⟨rfl, hga⟩ := HA.out (by omega)
        obtain ⟨v1, l1, hL1, hS1, hO1, hE1⟩ := HW.out
        have e1 : v1.ln = v.ln := hS1.ln
        have hbw : Below w.heap.size w wr := LS.low HL0.out.1 hS1 HL0.out.2.1 (Nat.le_refl _)
        obtain ⟨k1, k2, k3, k4⟩ := HC.out k hlt
        have d1 : wr.cell? ⟨ga, offa + k * 2, none⟩ = some (.int .i64 (K k)) := (hbw.cell (p := ⟨ga, offa + k * 2, none⟩) hga).trans k1
        have d2 : wr.cell? ⟨ga, offa + k * 2 + 1, none⟩ = some (.bool (F k)) := (hbw.cell (p := ⟨ga, offa + k * 2 + 1, none⟩) hga).trans k2
        have D1 : Hid (_) := happens_any (K k) (F k) w wr HG.out.1 hbw (Nat.le_refl _) hL1 hO1 (by omega) k3 k4
        rw [e1] at D1
        have H1 : Hid (LS w2 wr v v1 ∧ (l1.happens (pickN (K k) 10) (F k)).Ok (400 * (k + 1)) ∧ (l1.happens (pickN (K k) 10) (F k)).Nev (o + 1) true) := ⟨hS1, (hO1.happens _ _).mono (by omega), hE1.happens (by omega) (by omega) hO1 _ _⟩
        clear hL1 hS1 hO1 hE1 HW e1 hbw k1 k2 k3 k4
        generalize K k = kind at *
        generalize F k = fst at *
        go_wp2_with fail
        refine Calls.mono D1.out ?_
        rintro e w3 ⟨rfl, v3, hL3, hS3⟩
        have hS3' := H1.out.1.trans hS3
        have e3 : v3.ln = v.ln := hS3'.ln
        have S1 : Hid (_) := opened_any w3 hL3
        rw [e3, H1.out.2.2.closed] at S1
        have H3 : Hid (LI w3 w.heap.size v3 (l1.happens (pickN kind 10) fst) ∧ LS w2 w3 v v3) := ⟨hL3, hS3'⟩
        clear hL3 hS3 hS3' e3 D1 d1 d2
        go_wp2_with fail
        refine Calls.mono S1.out ?_
        rintro e w4 ⟨rfl, hb4⟩
        have H4 : Hid (LI w4 w.heap.size v3 (l1.happens (pickN kind 10) fst) ∧ LS w2 w4 v v3) := ⟨H3.out.1.below hb4, H3.out.2.trans (LS.new hb4)⟩
        clear hb4 S1
        go_wp2_with fail
        exact ⟨⟨k + 1, by omega, by go_num, v3, _, H4.out.1, H4.out.2, H1.out.2.1, H1.out.2.2⟩, by simp [intOf]; omega⟩
      · have hI : ¬ (k : Int) < (n : Int) := by omega
        go_wp2_with fail
        go_ret
        obtain ⟨v1, l1, _, hS1, _, _⟩ := HW.out
        exact ⟨rfl, LS.low HL0.out.1 hS1 HL0.out.2.1 (Nat.le_refl _)⟩
end Go.Proofs.YtoeihlgidakjbaaGreatDoor

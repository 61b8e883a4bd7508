/- The reference's copied and New. -/
import Derived.Test.YtoeihlgidakjbaaGreatDoorEa14
import Derived.Deep.RegionLaw
namespace Go.Proofs.YtoeihlgidakjbaaGreatDoor
open Go.RowKit Go.Lib
set_option maxRecDepth 100000 in
set_option maxHeartbeats 2000000 in
theorem copied_any (v : Value) (l : List Int) (w : World) (hi : IntsAt w v l) (h0 : 0 < l.length) (h8 : l.length ≤ 1000000) :
    Calls Tryz.prog 115 #[v] w fun r w' => ∃ g cap, r = .returned (.slice (some ⟨g, 0, none⟩) l.length cap) ∧ w'.ownsRow w.heap.size 3 1 (.slice (some ⟨g, 0, none⟩) l.length cap) l.length (l.map zv) ∧ Below w.heap.size w w' := by
  obtain ⟨j0, hj, hy0, hy1, hy2⟩ := info_parts Tryz.infoI
  obtain ⟨a, cap, g, off, rfl, ha, hc⟩ := hi
  obtain ⟨rfl, hg⟩ := ha h0
  have HN : Hid (∀ j u, (l.map zv)[j]? = some u → w.cell? ((⟨g, off, none⟩ : Addr).add j) = some u) := by
    intro j u hu
    rw [List.getElem?_map] at hu
    obtain ⟨x, hx, rfl⟩ := Option.map_eq_some_iff.1 hu
    obtain ⟨hjl, rfl⟩ := List.getElem?_eq_some_iff.1 hx
    have hadd : (⟨g, off, none⟩ : Addr).add j = ⟨g, off + j, none⟩ := by unfold Addr.add; split <;> simp_all
    rw [hadd]; exact hc j hjl
  clear ha hc
  go_enter Tryz.func115, Tryz.ntmps115
  go_wp2_with (at_builtin; go_must (refine wpList_append_lies _ rfl (.tmp 4) (.tmp 5) 28 rfl w.heap.size 3 j0 (.int .i64 0) 1 8 Tryz.underlying28 hj hy0 hy1 hy2 rfl (by decide) _ 0 [] rfl (World.ownsRow_nil _ _ _ _) ⟨g, off, none⟩ l.length cap (l.map zv) rfl (by simp) HN.out (by intro u hu; obtain ⟨x, _, rfl⟩ := List.mem_map.1 hu; rfl) h0 (by unfold maxLen; omega) (by omega) (Nat.le_refl _) _ rfl ?_; intro gv capv w1 hown1 hgrow1 hat1 hlt1))
  go_ret
  have e0 : 0 + l.length = l.length := by omega
  rw [e0] at hown1
  refine ⟨gv, capv, rfl, by simpa using hown1, ⟨hgrow1.os, hgrow1.tape, hgrow1.output, hgrow1.size, fun k hk => hgrow1.block k hk (by show some k ≠ (Value.slice none 0 0).ownBlock; simp [Value.ownBlock])⟩⟩
def nCells (k : Nat) (V : Nat → Value) (L : Nat → List Int) : Array Value :=
  #[if 0 < k then V 0 else .slice none 0 0, if 1 < k then V 1 else .slice none 0 0, if 2 < k then V 2 else .slice none 0 0, if 0 < k then V 3 else .slice none 0 0, if 1 < k then V 4 else .slice none 0 0, if 2 < k then V 5 else .slice none 0 0, .int .i64 0, .int .i64 0, .slice none 0 0, .string ⟨#[]⟩, .int .i64 0, .int .i64 0, .int .i64 0, .int .i64 0, .string ⟨#[]⟩, .int .i64 (-1), .string ⟨#[]⟩, .int .i64 0, .int .i64 0, .string ⟨#[]⟩, .int .i64 0, .int .i64 0, .int .i64 (if 0 < k then (L 0).headD 0 else 0), .int .i64 (if 1 < k then (L 1).headD 0 else 0), .int .i64 (if 2 < k then (L 2).headD 0 else 0), .int .i64 0, .int .i64 0, .int .i64 0, .slice none 0 0]
structure NI (w wr : World) (X : Nat → Value) (L : Nat → List Int) (mg : Int) (k : Nat) (V : Nat → Value) : Prop where
  cb : wr.heap[w.heap.size]? = some (.cells #[X 0, X 1, X 2, X 3, X 4, X 5, .int .i64 mg] 31 (0, 0))
  eb : wr.heap[w.heap.size + 1]? = some (.cells (nCells k V L) 129 (0, 0))
  ow : ∀ i, i < k → wr.ownsRow (w.heap.size + 2) 3 1 (V i) (L i).length ((L i).map zv) ∧ wr.ownsRow (w.heap.size + 2) 3 1 (V (3 + i)) (L (3 + i)).length ((L (3 + i)).map zv)
  ok : ∀ i, i < k → IsL (L i) ∧ IsL (L (3 + i))
  bel : Below w.heap.size w wr
theorem NI.x {w wr : World} {X : Nat → Value} {L : Nat → List Int} {mg : Int} {k : Nat} {V : Nat → Value} (h : NI w wr X L mg k V) : ∀ i, i < 6 → wr.cell? ⟨w.heap.size, i, none⟩ = some (X i) := by
  intro i hi
  rcases (by omega : i = 0 ∨ i = 1 ∨ i = 2 ∨ i = 3 ∨ i = 4 ∨ i = 5) with rfl | rfl | rfl | rfl | rfl | rfl <;> exact blk_cell h.cb
theorem NI.drew {w wr : World} {X : Nat → Value} {L : Nat → List Int} {mg : Int} {k : Nat} {V : Nat → Value} {n : Nat} (h : NI w wr X L mg k V) : NI w (wr.drewN n) X L mg k V :=
  ⟨h.cb, h.eb, fun i hi => ⟨owns_below (h.ow i hi).1 (below_drewN (Below.refl _ _) n), owns_below (h.ow i hi).2 (below_drewN (Below.refl _ _) n)⟩, h.ok, below_drewN h.bel n⟩
theorem nCells_next (k : Nat) (hk : k < 3) (V : Nat → Value) (L : Nat → List Int) (a b : Value) :
    ((((nCells k V L).setIfInBounds k a).setIfInBounds (3 + k) b).setIfInBounds (22 + k) (.int .i64 ((L k).headD 0))) = nCells (k + 1) (fun i => if i = k then a else if i = 3 + k then b else V i) L := by
  rcases (by omega : k = 0 ∨ k = 1 ∨ k = 2) with rfl | rfl | rfl <;> rfl
theorem NI.next {w W wc : World} {X : Nat → Value} {L : Nat → List Int} {mg : Int} {k : Nat} {V : Nat → Value} {a b : Value} (h : NI w W X L mg k V) (hk : k < 3) (ok : IsL (L k) ∧ IsL (L (3 + k)))
    (hb : wc.heap[w.heap.size + 1]? = some (.cells (((nCells k V L).setIfInBounds k a).setIfInBounds (3 + k) b) 129 (0, 0))) (oa : wc.ownsRow (w.heap.size + 2) 3 1 a (L k).length ((L k).map zv)) (ob : wc.ownsRow (w.heap.size + 2) 3 1 b (L (3 + k)).length ((L (3 + k)).map zv)) (ht : Tch (fun b => b = w.heap.size + 1) W wc) :
    NI w (wc.setCell ⟨w.heap.size + 1, 22 + k, none⟩ (.int .i64 ((L k).headD 0))).drew X L mg (k + 1) (fun i => if i = k then a else if i = 3 + k then b else V i) := by
  have ts := tset wc (w.heap.size + 1) (22 + k) (.int .i64 ((L k).headD 0))
  have hs := blk_set (k := 22 + k) (x := .int .i64 ((L k).headD 0)) hb
  rw [nCells_next k hk] at hs
  have hcb : w.heap.size < W.heap.size := blk_lt h.cb
  have rows : ∀ {v : Value} {n : Nat} {xs : List Value}, W.ownsRow (w.heap.size + 2) 3 1 v n xs → (wc.setCell ⟨w.heap.size + 1, 22 + k, none⟩ (.int .i64 ((L k).headD 0))).drew.ownsRow (w.heap.size + 2) 3 1 v n xs := fun {v n xs} ho =>
    (owns_tch (owns_tch ho ht (fun b hb e => by have := (ho.lt b hb).1; omega)) ts (fun b hb e => by have := (ho.lt b hb).1; omega)).drew
  have rowc : ∀ {v : Value} {n : Nat} {xs : List Value}, wc.ownsRow (w.heap.size + 2) 3 1 v n xs → (wc.setCell ⟨w.heap.size + 1, 22 + k, none⟩ (.int .i64 ((L k).headD 0))).drew.ownsRow (w.heap.size + 2) 3 1 v n xs := fun {v n xs} ho =>
    (owns_tch ho ts (fun b hb e => by have := (ho.lt b hb).1; omega)).drew
  refine ⟨?_, hs, ?_, ?_, ?_⟩
  · exact (ts.block _ (Nat.lt_of_lt_of_le hcb ht.size) (by omega)).trans ((ht.block _ hcb (by omega)).trans h.cb)
  · intro i hi
    by_cases e : i = k
    · subst e
      rw [if_pos rfl, if_neg (by omega), if_pos rfl]
      exact ⟨rowc oa, rowc ob⟩
    · rw [if_neg e, if_neg (by omega), if_neg (by omega), if_neg (by omega)]
      exact ⟨rows (h.ow i (by omega)).1, rows (h.ow i (by omega)).2⟩
  · intro i hi
    by_cases e : i = k
    · subst e; exact ok
    · exact h.ok i (by omega)
  · exact h.bel.trans (((ht.trans ts).drew).below h.bel.size (fun b hb => by omega))
def NewR (w w' : World) (L : Nat → List Int) (mg : Int) (r : Ending) : Prop :=
  Below w.heap.size w w' ∧ (((∀ i, i < 6 → IsL (L i)) ∧ 1 ≤ mg ∧ mg ≤ 65535 ∧ ∃ rb v, r = .returned (.tuple #[.pointer (some ⟨rb, 0, none⟩), .int .i64 0]) ∧ RI w' w.heap.size rb v (newM L mg)) ∨
    (¬ ((∀ i, i < 6 → IsL (L i)) ∧ 1 ≤ mg ∧ mg ≤ 65535) ∧ r = .returned (.tuple #[.pointer none, .int .i64 1])))
theorem NI.finish {w wr w1 : World} {X : Nat → Value} {L : Nat → List Int} {mg : Int} {V : Nat → Value} {gv capv : Nat} (h : NI w wr X L mg 3 V) (h1 : 1 ≤ mg) (h2 : mg ≤ 65535) (ht : Tch (fun _ => False) wr w1)
    (ho : w1.ownsRow wr.heap.size 3 1 (.slice (some ⟨gv, 0, none⟩) 1 capv) 1 [.int .i64 mg]) :
    NewR w (w1.setCell ⟨w.heap.size + 1, 28, none⟩ (.slice (some ⟨gv, 0, none⟩) 1 capv)) L mg (.returned (.tuple #[.pointer (some ⟨w.heap.size + 1, 0, none⟩), .int .i64 0])) := by
  have all : ∀ i, i < 6 → IsL (L i) := by
    intro i hi
    rcases (by omega : i < 3 ∨ 3 ≤ i) with x | x
    · exact (h.ok i x).1
    · have := (h.ok (i - 3) (by omega)).2
      rwa [show 3 + (i - 3) = i by omega] at this
  have own : ∀ i, i < 6 → wr.ownsRow (w.heap.size + 2) 3 1 (V i) (L i).length ((L i).map zv) := by
    intro i hi
    rcases (by omega : i < 3 ∨ 3 ≤ i) with x | x
    · exact (h.ow i x).1
    · have := (h.ow (i - 3) (by omega)).2
      rwa [show 3 + (i - 3) = i by omega] at this
  have hcb : w.heap.size < wr.heap.size := blk_lt h.cb
  have heb : w.heap.size + 1 < wr.heap.size := blk_lt h.eb
  have ts := tset w1 (w.heap.size + 1) 28 (.slice (some ⟨gv, 0, none⟩) 1 capv)
  have hgv : wr.heap.size ≤ gv := (ho.lt gv rfl).1
  have hb := blk_set (k := 28) (x := .slice (some ⟨gv, 0, none⟩) 1 capv) ((ht.block _ heb id).trans h.eb)
  have pos : ∀ i, i < 6 → ((((L i).headD 0).toNat : Nat) : Int) = (L i).headD 0 := by
    intro i hi
    obtain ⟨p1, _, p3, _⟩ := all i hi
    rw [headD_get _ p1]
    exact Int.toNat_of_nonneg (p3 _ (List.getElem_mem p1)).1
  have emg : ((mg.toNat : Nat) : Int) = mg := by omega
  have hcfg : ∀ x ∈ (newM L mg).cfg ⟨V 0, V 1, V 2, V 3, V 4, V 5, .slice none 0 0, .slice (some ⟨gv, 0, none⟩) 1 capv⟩, ∃ i, i < 6 ∧ x = (V i, (L i).map Int.toNat) := by
    intro x hx
    simp only [RE.cfg, newM, List.mem_cons, List.not_mem_nil, or_false] at hx
    rcases hx with rfl | rfl | rfl | rfl | rfl | rfl
    · exact ⟨0, by omega, rfl⟩
    · exact ⟨1, by omega, rfl⟩
    · exact ⟨2, by omega, rfl⟩
    · exact ⟨3, by omega, rfl⟩
    · exact ⟨4, by omega, rfl⟩
    · exact ⟨5, by omega, rfl⟩
  refine ⟨?_, .inl ⟨all, h1, h2, w.heap.size + 1, ⟨V 0, V 1, V 2, V 3, V 4, V 5, .slice none 0 0, .slice (some ⟨gv, 0, none⟩) 1 capv⟩, rfl, ?_⟩⟩
  · exact h.bel.trans (((ht.mono (fun _ x => x.elim)).trans ts).below h.bel.size (fun b hb => by omega))
  · refine ⟨?_, by omega, World.ownsRow_nil _ _ _ _, ?_, ?_, by simp [Value.ownBlock], ?_, by simp [Value.ownBlock], ?_⟩
    · rw [hb]
      show some (Obj.cells _ _ _) = some (Obj.cells _ _ _)
      unfold RE.cell newM nCells iv
      simp only [pos 0 (by omega), pos 1 (by omega), pos 2 (by omega)]
      rfl
    · have := owns_tch (owns_mono ho (B' := w.heap.size) (by omega)) ts (fun b hb e => by simp only [Value.ownBlock, Option.some.injEq] at hb; omega)
      show World.ownsRow _ _ _ _ _ 1 [iv mg.toNat]
      unfold iv
      rw [emg]; exact this
    · intro x hx
      obtain ⟨i, hi, rfl⟩ := hcfg x hx
      have o1 := own i hi
      have := owns_tch (owns_tch (owns_mono o1 (B' := w.heap.size) (by omega)) ht (fun _ _ x => x)) ts (fun b hb e => by have := (o1.lt b hb).1; omega)
      show World.ownsRow _ _ _ _ _ ((L i).map Int.toNat).length (((L i).map Int.toNat).map iv)
      rw [map_iv _ (fun x hx => ((all i hi).2.2.1 x hx).1), List.length_map]
      exact this
    · simp only [Value.ownBlock, ne_eq, Option.some.injEq]; omega
    · intro x hx b hb
      obtain ⟨i, hi, rfl⟩ := hcfg x hx
      have := (own i hi).lt b hb
      refine ⟨by omega, by simp [Value.ownBlock], ?_⟩
      simp only [Value.ownBlock, ne_eq, Option.some.injEq]; omega
set_option maxRecDepth 100000 in
set_option maxHeartbeats 4000000 in
theorem rnew_any (X : Nat → Value) (L : Nat → List Int) (mg : Int) (w : World) (hX : ∀ i, i < 6 → IntsAt w (X i) (L i)) :
    Calls Tryz.prog 81 #[.agg #[X 0, X 1, X 2, X 3, X 4, X 5, .int .i64 mg]] w fun r w' => NewR w w' L mg r := by
  have HX : Hid (∀ i, i < 6 → IntsAt w (X i) (L i)) := hX
  clear hX
  go_enter Tryz.func81, Tryz.ntmps81
  go_wp2_with fail
  go_loopw [5] (fun i wr => ∃ (k : Nat) (V : Nat → Value), k ≤ 3 ∧ i = .int .i64 k ∧ Hid (NI w wr X L mg k V)) (fun i _ => 3 - (intOf i).toNat)
  case atStart =>
    refine ⟨0, fun _ => .slice none 0 0, by omega, rfl, ?_, ?_, fun i hi => by omega, fun i hi => by omega, ?_⟩
    · exact (Below.block ((Below.refl _ _).alloc (Nat.le_refl _) _) w.heap.size (by simp)).trans (heap_alloc_new w _)
    · exact heap_alloc2_new w _ _
    · exact ((Below.refl _ _).alloc (Nat.le_refl _) _).alloc (by simp) _
  case round =>
    obtain ⟨k, V, hk, rfl, HN⟩ := hrel
    by_cases hlt : k < 3
    · have hI : (k : Int) < 3 := by omega
      have x1 : wr.cell? ⟨w.heap.size, k, none⟩ = some (X k) := HN.out.x k (by omega)
      go_upto_region 6 with fail
      refine (isList_any (X k) (L k) _ ((HX.out k (by omega)).below HN.out.bel)).mono ?_
      rintro e w1 ⟨rfl, n1, rfl⟩
      by_cases ha : IsL (L k)
      · have ea : isL (L k) = true := decide_eq_true ha
        rw [ea]
        have x2 : (wr.drewN n1).cell? ⟨w.heap.size, 3 + k, none⟩ = some (X (3 + k)) := HN.out.x (3 + k) (by omega)
        go_upto_region 7 with fail
        refine (isList_any (X (3 + k)) (L (3 + k)) _ ((HX.out (3 + k) (by omega)).below (below_drewN HN.out.bel n1))).mono ?_
        rintro e w1 ⟨rfl, n2, rfl⟩
        by_cases hb : IsL (L (3 + k))
        · have eb : isL (L (3 + k)) = true := decide_eq_true hb
          rw [eb]
          clear x1 x2 ea eb
          have HNW : Hid (NI w ((wr.drewN n1).drewN n2) X L mg k V) := HN.out.drew.drew
          clear HN
          have HAB : Hid (IsL (L k) ∧ IsL (L (3 + k))) := ⟨ha, hb⟩
          clear ha hb
          generalize (wr.drewN n1).drewN n2 = W at *
          have x1 : W.cell? ⟨w.heap.size, k, none⟩ = some (X k) := HNW.out.x k (by omega)
          have hcb : w.heap.size < W.heap.size := blk_lt HNW.out.cb
          have heb : w.heap.size + 1 < W.heap.size := blk_lt HNW.out.eb
          have ne1 : w.heap.size ≠ w.heap.size + 1 := by omega
          have HXW : Hid (∀ i, i < 6 → IntsAt W (X i) (L i)) := fun i hi => (HX.out i hi).below HNW.out.bel
          go_upto_region 9 with fail
          go_cut [] (fun wx => ∃ a, wx.heap[w.heap.size + 1]? = some (.cells ((nCells k V L).setIfInBounds k a) 129 (0, 0)) ∧ wx.ownsRow (w.heap.size + 2) 3 1 a (L k).length ((L k).map zv) ∧ Tch (fun b => b = w.heap.size + 1) W wx)
          case first =>
            obtain ⟨old, hold⟩ : ∃ old, (nCells k V L)[k]? = some old := by
              rcases (by omega : k = 0 ∨ k = 1 ∨ k = 2) with rfl | rfl | rfl <;> exact ⟨_, rfl⟩
            have HOLD : Hid (_) := hold
            clear hold
            go_region_held3 (fun w' => w'.cell? ⟨w.heap.size, k, none⟩ = some (X k)) (first | exact x1 | assumption | exact (set_ne2 ne1).trans xq) ((go_at_call 115; refine (copied_any (X k) (L k) _ (HXW.out k (by omega)).drew HAB.out.1.1 (by have := HAB.out.1.2.1; omega)).mono ?_; rintro e wq ⟨gq, cq, rfl, hoq, hbq⟩; have xq : wq.cell? ⟨w.heap.size, k, none⟩ = some (X k) := (hbq.cell (p := ⟨w.heap.size, k, none⟩) hcb).trans x1; have eq : wq.heap[w.heap.size + 1]? = some (.cells (nCells k V L) 129 (0, 0)) := (hbq.block _ heb).trans HNW.out.eb; have oq : wq.cell? ⟨w.heap.size + 1, k, none⟩ = some old := (blk_cell eq).trans HOLD.out; have fq : wq.frozen? ⟨w.heap.size + 1, k, none⟩ = false := blk_free eq))
            go_wp2_with fail
            go_meet
            refine ⟨_, blk_set (k := k) eq, ?_, (Tch.of_below (below_undrew hbq)).trans (tset wq (w.heap.size + 1) k _)⟩
            exact owns_tch (owns_mono hoq (by show _ ≤ W.heap.size; omega)) (tset wq (w.heap.size + 1) k _) (fun b hb e => by have := (hoq.lt b hb).1; have h2 : W.heap.size ≤ b := this; omega)
          case rest =>
            obtain ⟨a9, b9, o9, t9⟩ := hcut
            have B9 : Hid (wc.heap[w.heap.size + 1]? = some (.cells ((nCells k V L).setIfInBounds k a9) 129 (0, 0)) ∧ wc.ownsRow (w.heap.size + 2) 3 1 a9 (L k).length ((L k).map zv) ∧ Tch (fun b => b = w.heap.size + 1) W wc) := ⟨b9, o9, t9⟩
            have hcb9 : w.heap.size < wc.heap.size := Nat.lt_of_lt_of_le hcb t9.size
            have heb9 : w.heap.size + 1 < wc.heap.size := Nat.lt_of_lt_of_le heb t9.size
            have x2 : wc.cell? ⟨w.heap.size, 3 + k, none⟩ = some (X (3 + k)) := (World.cell?_of_block (w := W) (a := ⟨w.heap.size, 3 + k, none⟩) (t9.block _ hcb ne1)).trans (HNW.out.x (3 + k) (by omega))
            have HXC : Hid (∀ i, i < 6 → IntsAt wc (X i) (L i)) := fun i hi => (HX.out i hi).tch (hb := HNW.out.bel) t9
            clear b9 o9 t9 x1
            go_upto_region 10 with fail
            go_cut [] (fun wx => ∃ b, wx.heap[w.heap.size + 1]? = some (.cells (((nCells k V L).setIfInBounds k a9).setIfInBounds (3 + k) b) 129 (0, 0)) ∧ wx.ownsRow (w.heap.size + 2) 3 1 a9 (L k).length ((L k).map zv) ∧ wx.ownsRow (w.heap.size + 2) 3 1 b (L (3 + k)).length ((L (3 + k)).map zv) ∧ Tch (fun b => b = w.heap.size + 1) W wx)
            case first =>
              obtain ⟨old, hold⟩ : ∃ old, ((nCells k V L).setIfInBounds k a9)[3 + k]? = some old := by
                rcases (by omega : k = 0 ∨ k = 1 ∨ k = 2) with rfl | rfl | rfl <;> exact ⟨_, rfl⟩
              have HOLD : Hid (_) := hold
              clear hold
              go_region_held3 (fun w' => w'.cell? ⟨w.heap.size, 3 + k, none⟩ = some (X (3 + k))) (first | exact x2 | assumption | exact (set_ne2 ne1).trans xq) ((go_at_call 115; refine (copied_any (X (3 + k)) (L (3 + k)) _ (HXC.out (3 + k) (by omega)).drew HAB.out.2.1 (by have := HAB.out.2.2.1; omega)).mono ?_; rintro e wq ⟨gq, cq, rfl, hoq, hbq⟩; have xq : wq.cell? ⟨w.heap.size, 3 + k, none⟩ = some (X (3 + k)) := (hbq.cell (p := ⟨w.heap.size, 3 + k, none⟩) hcb9).trans x2; have eq : wq.heap[w.heap.size + 1]? = some (.cells ((nCells k V L).setIfInBounds k a9) 129 (0, 0)) := (hbq.block _ heb9).trans B9.out.1; have oq : wq.cell? ⟨w.heap.size + 1, 3 + k, none⟩ = some old := (blk_cell eq).trans HOLD.out; have fq : wq.frozen? ⟨w.heap.size + 1, 3 + k, none⟩ = false := blk_free eq))
              go_wp2_with fail
              go_meet
              have hbq' := below_undrew hbq
              refine ⟨_, blk_set (k := 3 + k) eq, ?_, ?_, (B9.out.2.2.trans (Tch.of_below hbq')).trans (tset wq (w.heap.size + 1) (3 + k) _)⟩
              · exact owns_tch (owns_below B9.out.2.1 hbq') (tset wq (w.heap.size + 1) (3 + k) _) (fun b hb e => by have := (B9.out.2.1.lt b hb).1; omega)
              · exact owns_tch (owns_mono hoq (by show _ ≤ wc.heap.size; omega)) (tset wq (w.heap.size + 1) (3 + k) _) (fun b hb e => by have := (hoq.lt b hb).1; have h2 : wc.heap.size ≤ b := this; omega)
            case rest =>
              obtain ⟨b10, e10, o9, o10, t10⟩ := hcut
              clear x2 HXC B9 hcb9 heb9
              obtain ⟨aX, capX, gX, offX, hXk, haX, hcX⟩ := HX.out k (by omega)
              have hpos : 0 < (L k).length := HAB.out.1.1
              obtain ⟨rfl, hgX⟩ := haX hpos
              obtain ⟨q, hq⟩ : ∃ q, (L k).length = q + 1 := ⟨(L k).length - 1, by omega⟩
              have hd : (L k).headD 0 = (L k)[0] := headD_get _ hpos
              have tall : ∀ b, b ≤ w.heap.size → wc.heap[b]? = W.heap[b]? := fun b hb => t10.block b (by omega) (by omega)
              have y1 : wc.cell? ⟨w.heap.size, k, none⟩ = some (.slice (some ⟨gX, offX, none⟩) (q + 1) capX) := by
                rw [← hq, ← hXk]; exact (World.cell?_of_block (w := W) (a := ⟨w.heap.size, k, none⟩) (tall _ (Nat.le_refl _))).trans (HNW.out.x k (by omega))
              have y2 : wc.cell? ⟨gX, offX, none⟩ = some (.int .i64 ((L k).headD 0)) := by
                rw [hd]
                exact (World.cell?_of_block (w := W) (a := ⟨gX, offX, none⟩) (tall gX (by omega))).trans ((HNW.out.bel.cell (p := ⟨gX, offX, none⟩) hgX).trans (hcX 0 hpos))
              obtain ⟨old, hold⟩ : ∃ old, (((nCells k V L).setIfInBounds k a9).setIfInBounds (3 + k) b10)[22 + k]? = some old := by
                rcases (by omega : k = 0 ∨ k = 1 ∨ k = 2) with rfl | rfl | rfl <;> exact ⟨_, rfl⟩
              have y3 : wc.cell? ⟨w.heap.size + 1, 22 + k, none⟩ = some old := (blk_cell e10).trans hold
              have y4 : wc.frozen? ⟨w.heap.size + 1, 22 + k, none⟩ = false := blk_free e10
              have B10 : Hid (wc.heap[w.heap.size + 1]? = some (.cells (((nCells k V L).setIfInBounds k a9).setIfInBounds (3 + k) b10) 129 (0, 0)) ∧ wc.ownsRow (w.heap.size + 2) 3 1 a9 (L k).length ((L k).map zv) ∧ wc.ownsRow (w.heap.size + 2) 3 1 b10 (L (3 + k)).length ((L (3 + k)).map zv) ∧ Tch (fun b => b = w.heap.size + 1) W wc) := ⟨e10, o9, o10, t10⟩
              have hq0 : (0 : Int) < ((q + 1 : Nat) : Int) := by omega
              have hq1 : (0 : Int) < (q : Int) + 1 := by omega
              clear e10 o9 o10 t10 hold tall hXk hcX hq hd haX
              generalize hH : (L k).headD 0 = hH0 at *
              have HH : Hid ((L k).headD 0 = hH0) := hH
              clear hH
              have ne2 : gX ≠ w.heap.size + 1 := by omega
              clear hgX
              go_wp2_with fail
              go_region_held3 (fun w' => w'.cell? ⟨w.heap.size, k, none⟩ = some (.slice (some ⟨gX, offX, none⟩) (q + 1) capX) ∧ w'.cell? ⟨gX, offX, none⟩ = some (.int .i64 hH0)) (first | exact ⟨y1, y2⟩ | assumption | exact ⟨(set_ne2 ne1).trans y1, (set_ne2 ne2).trans y2⟩ | exact ⟨(set_ne ne1).trans y1, (set_ne ne2).trans y2⟩) (fail)
              go_wp2_with fail
              have hnx : NI w (wc.setCell ⟨w.heap.size + 1, 22 + k, none⟩ (.int .i64 hH0)).drew X L mg (k + 1) (fun i => if i = k then a9 else if i = 3 + k then b10 else V i) := by
                rw [← HH.out]
                exact HNW.out.next hlt HAB.out B10.out.1 B10.out.2.1 B10.out.2.2.1 B10.out.2.2.2
              exact ⟨⟨k + 1, _, by omega, by go_num, hnx⟩, by simp [intOf]; omega⟩
        · have eb : isL (L (3 + k)) = false := decide_eq_false hb
          rw [eb]
          have HNO : Hid (¬ IsL (L (3 + k))) := hb
          clear hb ha ea eb x1 x2
          go_wp2_with fail
          go_ret2
          exact ⟨below_drewN HN.out.bel (n1 + n2), .inr ⟨fun h => HNO.out (h.1 (3 + k) (by omega)), rfl⟩⟩
      · have ea : isL (L k) = false := decide_eq_false ha
        rw [ea]
        have HNO : Hid (¬ IsL (L k)) := ha
        have x2 : (wr.drewN n1).cell? ⟨w.heap.size, 3 + k, none⟩ = some (X (3 + k)) := HN.out.x (3 + k) (by omega)
        go_upto_region 7 with fail
        refine (isList_any (X (3 + k)) (L (3 + k)) _ ((HX.out (3 + k) (by omega)).below (below_drewN HN.out.bel n1))).mono ?_
        rintro e w1 ⟨rfl, n2, rfl⟩
        clear ha ea x1 x2
        go_wp2_with fail
        go_ret2
        exact ⟨below_drewN HN.out.bel (n1 + n2), .inr ⟨fun h => HNO.out (h.1 k (by omega)), rfl⟩⟩
    · have hk3 : k = 3 := by omega
      subst hk3
      have c6 : wr.cell? ⟨w.heap.size, 6, none⟩ = some (.int .i64 mg) := blk_cell HN.out.cb
      by_cases hm1 : mg < 1
      · go_wp2_with fail
        go_ret2
        exact ⟨HN.out.bel, .inr ⟨fun h => by have := h.2.1; omega, rfl⟩⟩
      · by_cases hm2 : 65535 < mg
        · go_wp2_with fail
          go_ret2
          exact ⟨HN.out.bel, .inr ⟨fun h => by have := h.2.2; omega, rfl⟩⟩
        · obtain ⟨j0, hj, hy0, hy1, hy2⟩ := info_parts Tryz.infoI
          have c28 : wr.cell? ⟨w.heap.size + 1, 28, none⟩ = some (.slice none 0 0) := blk_cell HN.out.eb
          have hcb : w.heap.size < wr.heap.size := blk_lt HN.out.cb
          have heb : w.heap.size + 1 < wr.heap.size := blk_lt HN.out.eb
          have ne1 : w.heap.size ≠ w.heap.size + 1 := by omega
          have c28a : ∀ o, (wr.alloc o).cell? ⟨w.heap.size + 1, 28, none⟩ = some (.slice none 0 0) := fun o => (World.cell?_alloc_lt wr o ⟨w.heap.size + 1, 28, none⟩ heb).trans c28
          go_wp2_with fail
          go_region_law ((refine step_append_lies _ (by rfl) (.tmp 75) (.tmp 78) 28 (by rfl) wr.heap.size 3 j0 (.int .i64 0) 1 8 Tryz.underlying28 hj hy0 hy1 hy2 (by rfl) (by decide) _ 0 [] (by rfl) (World.ownsRow_nil _ _ _ _) ⟨wr.heap.size, 0, none⟩ 1 1 [.int .i64 mg] (by rfl) (by rfl) (cell_one_i _ _ _) (by intro u hu; simp at hu; subst hu; rfl) (by omega) (by unfold maxLen; omega) (by omega) (by simp) (wr.heap.size + 1) (by simp) ?_; intro gv capv w1 hown1 hgrow1 hat1 hlt1; have ht1 := tch_grownD (W0 := wr) hgrow1; have eb1 := (ht1.block _ heb (by simp [Value.ownBlock])).trans HN.out.eb; have hS : w1.cell? ⟨w.heap.size, 6, none⟩ = some (.int .i64 mg) := blk_cell ((ht1.block _ hcb (by simp [Value.ownBlock])).trans HN.out.cb); have c28' : w1.cell? ⟨w.heap.size + 1, 28, none⟩ = some (.slice none 0 0) := blk_cell eb1; have f28 : w1.frozen? ⟨w.heap.size + 1, 28, none⟩ = false := blk_free eb1))
          all_goals
            go_wp2_with fail
            go_ret2
            exact HN.out.finish (by omega) (by omega) (ht1.mono (fun b x => by simp [Value.ownBlock] at x)) hown1
end Go.Proofs.YtoeihlgidakjbaaGreatDoor

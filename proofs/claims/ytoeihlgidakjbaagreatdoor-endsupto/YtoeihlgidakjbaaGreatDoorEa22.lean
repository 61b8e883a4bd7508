/- The laws' plain: the document's example's configuration. The laws' example, for the kinds 1 and 2. -/
import Derived.Test.YtoeihlgidakjbaaGreatDoorEa21
namespace Go.Proofs.YtoeihlgidakjbaaGreatDoor
open Go.RowKit Go.Lib
def Nums (w : World) (v : Value) (l : List Int) : Prop := ∃ g, v = .slice (some ⟨g, 0, none⟩) l.length l.length ∧ g < w.heap.size ∧ ∀ (j : Nat) (x : Int), l[j]? = some x → w.cell? ⟨g, j, none⟩ = some (.int .i64 x)
theorem Nums.below {w w' : World} {v : Value} {l : List Int} (h : Nums w v l) (hb : Below w.heap.size w w') : Nums w' v l := by
  obtain ⟨g, rfl, hg, hc⟩ := h
  exact ⟨g, rfl, Nat.lt_of_lt_of_le hg hb.size, fun j x hx => (hb.cell (p := ⟨g, j, none⟩) hg).trans (hc j x hx)⟩
def NumsN (w : World) (c r : Nat) (v : Value) (l : List Int) : Prop := ∃ g, v = .slice (some ⟨g, 0, none⟩) l.length l.length ∧ g ≠ c ∧ g ≠ r ∧ g < w.heap.size ∧ ∀ (j : Nat) (x : Int), l[j]? = some x → w.cell? ⟨g, j, none⟩ = some (.int .i64 x)
theorem NumsN.nums {w : World} {c r : Nat} {v : Value} {l : List Int} (h : NumsN w c r v l) : Nums w v l := by
  obtain ⟨g, h1, _, _, h2, h3⟩ := h
  exact ⟨g, h1, h2, h3⟩
theorem NumsN.tch {w w' : World} {c r : Nat} {v : Value} {l : List Int} (h : NumsN w c r v l) (ht : Tch (fun b => b = c ∨ b = r) w w') : NumsN w' c r v l := by
  obtain ⟨g, rfl, h1, h2, hg, hc⟩ := h
  refine ⟨g, rfl, h1, h2, Nat.lt_of_lt_of_le hg ht.size, fun j x hx => (World.cell?_of_block (w := w) (a := ⟨g, j, none⟩) (ht.block g hg ?_)).trans (hc j x hx)⟩
  rintro (h | h)
  · exact h1 h
  · exact h2 h
structure PlI (w wr : World) (c r : Nat) (m : Int) (k : Nat) (X : Nat → Value) : Prop where
  cell : ∀ j, j < 6 → wr.cell? ⟨c, j, none⟩ = some (X j)
  mc : wr.cell? ⟨c, 6, none⟩ = some (.int .i64 m)
  frz : ∀ j, j < 6 → wr.frozen? ⟨c, j, none⟩ = false
  a : ∀ j, j < k → NumsN wr c r (X j) [5]
  b : ∀ j, j < k → NumsN wr c r (X (3 + j)) [5, 6]
  lt : c < wr.heap.size
  rc : ∀ j, j < 7 → (∃ v, wr.cell? ⟨r, j, none⟩ = some v) ∧ wr.frozen? ⟨r, j, none⟩ = false
  rl : r < wr.heap.size
  ne : r ≠ c
  ge : w.heap.size ≤ c
  bel : Below w.heap.size w wr
theorem put_new {w w2 : World} {c k T : Nat} {cs : Array Value} {S v : Value} (hlt : c < w.heap.size) (hc : w.cell? ⟨c, k, none⟩ = some v) (e2 : w2 = (w.setCell ⟨c, k, none⟩ S).alloc (.cells cs T)) :
    Tch (fun b => b = c) w w2 ∧ w2.heap.size = w.heap.size + 1 ∧ (∀ j, w2.cell? ⟨c, j, none⟩ = if j = k then some S else w.cell? ⟨c, j, none⟩) ∧ (∀ j, w2.frozen? ⟨c, j, none⟩ = w.frozen? ⟨c, j, none⟩) ∧ ∀ j, w2.cell? ⟨w.heap.size, j, none⟩ = cs[j]? := by
  have hz : (w.setCell ⟨c, k, none⟩ S).heap.size = w.heap.size := by simp
  have hl : c < (w.setCell ⟨c, k, none⟩ S).heap.size := by omega
  refine ⟨?_, by rw [e2]; simp, ?_, ?_, ?_⟩
  · rw [e2]; exact (Tch.set (fun b => b = c) w ⟨c, k, none⟩ S rfl).trans (Tch.of_below ((Below.refl _ _).alloc (Nat.le_refl _) _))
  · intro j
    rw [e2, World.cell?_alloc_lt _ _ ⟨c, j, none⟩ hl]
    split
    · rename_i hj
      subst hj
      exact World.cell?_setCell_same' w _ _ (by rw [hc]; rfl)
    · rename_i hj
      refine World.cell?_setCell_other _ _ _ _ ?_
      intro h
      exact hj (by simpa using (congrArg Addr.off h).symm)
  · intro j
    rw [e2]
    exact (World.frozen?_of_block (w := w.setCell ⟨c, k, none⟩ S) (a := ⟨c, j, none⟩) (Below.heap_alloc _ _ c hl)).trans (World.frozen?_setCell _ _ _ _)
  · intro j
    rw [e2]
    exact World.cell?_alloc_at cs T _ j hz.symm
theorem PlI.next {w wr w2 w4 : World} {c r : Nat} {m : Int} {k : Nat} {X : Nat → Value} (h : PlI w wr c r m k X) (hk : k < 3) {T : Nat}
    (e2 : w2 = (wr.setCell ⟨c, k, none⟩ (.slice (some ⟨wr.heap.size, 0, none⟩) 1 1)).alloc (.cells #[.int .i64 5] T)) (e4 : w4 = (w2.setCell ⟨c, 3 + k, none⟩ (.slice (some ⟨w2.heap.size, 0, none⟩) 2 2)).alloc (.cells #[.int .i64 5, .int .i64 6] T)) :
    PlI w w4 c r m (k + 1) (fun j => if j = k then .slice (some ⟨wr.heap.size, 0, none⟩) 1 1 else if j = 3 + k then .slice (some ⟨w2.heap.size, 0, none⟩) 2 2 else X j) := by
  have hlt := h.lt
  have hrl := h.rl
  obtain ⟨t2, s2, c2, f2, n2⟩ := put_new hlt (h.cell k (by omega)) e2
  obtain ⟨t4, s4, c4', f4', n4⟩ := put_new (by omega) (by rw [c2, if_neg (by omega)]; exact h.cell (3 + k) (by omega)) e4
  clear e2 e4
  have T04c := t2.trans t4
  have T04 : Tch (fun b => b = c ∨ b = r) wr w4 := T04c.mono (fun _ h => .inl h)
  have n1 : w2.cell? ⟨wr.heap.size, 0, none⟩ = some (.int .i64 5) := (n2 0).trans rfl
  have c4 : ∀ j, w4.cell? ⟨c, j, none⟩ = if j = k then some (.slice (some ⟨wr.heap.size, 0, none⟩) 1 1) else if j = 3 + k then some (.slice (some ⟨w2.heap.size, 0, none⟩) 2 2) else wr.cell? ⟨c, j, none⟩ := by
    intro j
    rw [c4', c2]
    by_cases hj : j = 3 + k
    · rw [if_pos hj, if_pos hj, if_neg (show ¬ j = k by omega)]
    · rw [if_neg hj, if_neg hj]
  have f4 : ∀ j, w4.frozen? ⟨c, j, none⟩ = wr.frozen? ⟨c, j, none⟩ := fun j => (f4' j).trans (f2 j)
  have r4 : w4.heap[r]? = wr.heap[r]? := T04c.block r hrl h.ne
  have hge := h.ge
  refine ⟨?_, ?_, ?_, ?_, ?_, by omega, ?_, by omega, h.ne, hge, ?_⟩
  · intro j hj
    rw [c4]
    split
    · rfl
    · split
      · rfl
      · exact h.cell j hj
  · rw [c4, if_neg (by omega), if_neg (by omega)]; exact h.mc
  · intro j hj; rw [f4 j]; exact h.frz j hj
  · intro j hj
    by_cases hjk : j = k
    · simp only [hjk, if_true]
      refine ⟨wr.heap.size, rfl, by omega, by omega, by omega, ?_⟩
      intro i x hx
      have hi : i = 0 := by
        rcases i with _ | i
        · rfl
        · simp at hx
      subst hi
      simp at hx
      subst hx
      refine (World.cell?_of_block (w := w2) (a := ⟨wr.heap.size, 0, none⟩) (t4.block wr.heap.size (by omega) ?_)).trans n1
      intro h; omega
    · simp only [if_neg hjk, if_neg (show ¬ j = 3 + k by omega)]
      exact (h.a j (by omega)).tch T04
  · intro j hj
    by_cases hjk : j = k
    · simp only [hjk, if_neg (show ¬ 3 + k = k by omega), if_true]
      refine ⟨w2.heap.size, rfl, by omega, by omega, by omega, ?_⟩
      intro i x hx
      rcases i with _ | _ | i
      · simp at hx
        subst hx
        exact (n4 0).trans rfl
      · simp at hx
        subst hx
        exact (n4 1).trans rfl
      · simp at hx
    · simp only [if_neg (show ¬ 3 + j = k by omega), if_neg (show ¬ 3 + j = 3 + k by omega)]
      exact (h.b j (by omega)).tch T04
  · intro j hj
    obtain ⟨⟨v, hv⟩, hf⟩ := h.rc j hj
    exact ⟨⟨v, (World.cell?_of_block (w := wr) (a := ⟨r, j, none⟩) r4).trans hv⟩, (World.frozen?_of_block (w := wr) (a := ⟨r, j, none⟩) r4).trans hf⟩
  · refine h.bel.trans (T04c.below h.bel.size ?_)
    intro b hb; omega
set_option maxRecDepth 100000 in
set_option maxHeartbeats 2000000 in
theorem plain_any (m : Int) (w : World) :
    Calls Tryz.prog 32 #[.int .i64 m] w fun r w' => ∃ x0 x1 x2 x3 x4 x5, r = .returned (.agg #[x0, x1, x2, x3, x4, x5, .int .i64 m]) ∧ Below w.heap.size w w' ∧ Nums w' x0 [5] ∧ Nums w' x1 [5] ∧ Nums w' x2 [5] ∧ Nums w' x3 [5, 6] ∧ Nums w' x4 [5, 6] ∧ Nums w' x5 [5, 6] := by
  go_enter Tryz.func32, Tryz.ntmps32
  go_wp2_with fail
  go_loopw [4] (fun i wr => ∃ (k : Nat) (X : Nat → Value), k ≤ 3 ∧ i = .int .i64 k ∧ Hid (PlI w wr (w.heap.size + 1) w.heap.size m k X)) (fun i _ => 3 - (intOf i).toNat)
  case atStart =>
    refine ⟨0, fun _ => .slice none 0 0, by omega, rfl, ?_⟩
    have hb1 : Below w.heap.size w (w.alloc (Obj.cells #[Value.slice none 0 0, Value.slice none 0 0, Value.slice none 0 0, Value.slice none 0 0, Value.slice none 0 0, Value.slice none 0 0, Value.int IntKind.i64 0] 31)) := (Below.refl _ _).alloc (Nat.le_refl _) _
    refine ⟨?_, by simp, ?_, fun j hj => absurd hj (Nat.not_lt_zero _), fun j hj => absurd hj (Nat.not_lt_zero _), by simp, ?_, by simp; omega, by omega, by omega, hb1.alloc (by simp) _⟩
    · intro j hj
      rcases (by omega : j = 0 ∨ j = 1 ∨ j = 2 ∨ j = 3 ∨ j = 4 ∨ j = 5) with rfl | rfl | rfl | rfl | rfl | rfl <;> simp
    · intro j hj
      simp
    · intro j hj
      rcases (by omega : j = 0 ∨ j = 1 ∨ j = 2 ∨ j = 3 ∨ j = 4 ∨ j = 5 ∨ j = 6) with rfl | rfl | rfl | rfl | rfl | rfl | rfl <;> simp
  case round =>
    obtain ⟨k, X, hk, rfl, HP⟩ := hrel
    by_cases hlt : k < 3
    · have hI : (k : Int) < 3 := by omega
      have h := HP.out
      have ck := h.cell k (by omega)
      have cf := h.frz k (by omega)
      have hl := h.lt
      clear h
      go_upto_region 6 with fail
      obtain ⟨w2, e2⟩ : ∃ w2, w2 = (wr.setCell ⟨w.heap.size + 1, k, none⟩ (.slice (some ⟨wr.heap.size, 0, none⟩) 1 1)).alloc (.cells #[.int .i64 5] 3) := ⟨_, rfl⟩
      obtain ⟨t2, s2, c2, f2, n2⟩ := put_new hl ck e2
      have ck3 := (c2 (3 + k)).trans ((if_neg (by omega)).trans (HP.out.cell (3 + k) (by omega)))
      have cf3 := (f2 (3 + k)).trans (HP.out.frz (3 + k) (by omega))
      have hl2 : w.heap.size + 1 < w2.heap.size := by omega
      rw [← e2]
      have E2 : Hid (_) := e2
      clear e2 t2 c2 f2 n2 ck cf s2
      go_wp2_with fail
      have hnx := HP.out.next hlt E2.out rfl
      exact ⟨⟨k + 1, _, by omega, by go_num, hnx⟩, by simp [intOf]; omega⟩
    · have h := HP.out
      have hk3 : k = 3 := by omega
      subst hk3
      have k0 := h.cell 0 (by omega)
      have k1 := h.cell 1 (by omega)
      have k2 := h.cell 2 (by omega)
      have k3 := h.cell 3 (by omega)
      have k4 := h.cell 4 (by omega)
      have k5 := h.cell 5 (by omega)
      have k6 := h.mc
      obtain ⟨⟨v0, r0⟩, g0⟩ := h.rc 0 (by omega)
      obtain ⟨⟨v1, r1⟩, g1⟩ := h.rc 1 (by omega)
      obtain ⟨⟨v2, r2⟩, g2⟩ := h.rc 2 (by omega)
      obtain ⟨⟨v3, r3⟩, g3⟩ := h.rc 3 (by omega)
      obtain ⟨⟨v4, r4⟩, g4⟩ := h.rc 4 (by omega)
      obtain ⟨⟨v5, r5⟩, g5⟩ := h.rc 5 (by omega)
      obtain ⟨⟨v6, r6⟩, g6⟩ := h.rc 6 (by omega)
      obtain ⟨b0, e0, _⟩ := h.a 0 (by omega)
      obtain ⟨b1, e1, _⟩ := h.a 1 (by omega)
      obtain ⟨b2, e2, _⟩ := h.a 2 (by omega)
      obtain ⟨b3, e3, _⟩ := h.b 0 (by omega)
      obtain ⟨b4, e4, _⟩ := h.b 1 (by omega)
      obtain ⟨b5, e5, _⟩ := h.b 2 (by omega)
      simp only [Nat.add_zero, Nat.reduceAdd] at e3 e4 e5
      rw [e0] at k0
      rw [e1] at k1
      rw [e2] at k2
      rw [e3] at k3
      rw [e4] at k4
      rw [e5] at k5
      clear h
      have A0 := HP.out.a 0 (by omega)
      have A1 := HP.out.a 1 (by omega)
      have A2 := HP.out.a 2 (by omega)
      have B0 := HP.out.b 0 (by omega)
      have B1 := HP.out.b 1 (by omega)
      have B2 := HP.out.b 2 (by omega)
      simp only [Nat.add_zero, Nat.reduceAdd] at B0 B1 B2
      rw [e0] at A0
      rw [e1] at A1
      rw [e2] at A2
      rw [e3] at B0
      rw [e4] at B1
      rw [e5] at B2
      have HA : Hid (_ ∧ _ ∧ _ ∧ _ ∧ _ ∧ _) := ⟨A0, A1, A2, B0, B1, B2⟩
      clear A0 A1 A2 B0 B1 B2 e0 e1 e2 e3 e4 e5
      go_wp2_with fail
      refine bodyPost_ret (v := .agg #[.slice (some ⟨b0, 0, none⟩) 1 1, .slice (some ⟨b1, 0, none⟩) 1 1, .slice (some ⟨b2, 0, none⟩) 1 1, .slice (some ⟨b3, 0, none⟩) 2 2, .slice (some ⟨b4, 0, none⟩) 2 2, .slice (some ⟨b5, 0, none⟩) 2 2, .int .i64 m]) (by simp [results, Tryz.results32, go_sem, r0, r1, r2, r3, r4, r5, r6]) rfl ⟨_, _, _, _, _, _, rfl, ?_⟩
      obtain ⟨A0, A1, A2, B0, B1, B2⟩ := HA.out
      have st : ∀ (wx : World) (i : Nat) (v : Value), Tch (fun b => b = w.heap.size + 1 ∨ b = w.heap.size) wx (wx.setCell ⟨w.heap.size, i, none⟩ v) := fun wx i v => Tch.set _ wx ⟨w.heap.size, i, none⟩ v (.inr rfl)
      have T := ((((((st wr 0 (.slice (some ⟨b0, 0, none⟩) 1 1)).trans (st _ 1 (.slice (some ⟨b1, 0, none⟩) 1 1))).trans (st _ 2 (.slice (some ⟨b2, 0, none⟩) 1 1))).trans (st _ 3 (.slice (some ⟨b3, 0, none⟩) 2 2))).trans (st _ 4 (.slice (some ⟨b4, 0, none⟩) 2 2))).trans (st _ 5 (.slice (some ⟨b5, 0, none⟩) 2 2))).trans (st _ 6 (.int .i64 m))
      refine ⟨HP.out.bel.trans (T.below HP.out.bel.size ?_), (A0.tch T).nums, (A1.tch T).nums, (A2.tch T).nums, (B0.tch T).nums, (B1.tch T).nums, (B2.tch T).nums⟩
      rintro b (h | h) <;> omega
end Go.Proofs.YtoeihlgidakjbaaGreatDoor
namespace Go.Proofs.YtoeihlgidakjbaaGreatDoor
open Go.RowKit Go.Lib
theorem ex_line (code id : Int) (s : ByteArray) (h1 : 0 ≤ code) (h2 : code ≤ 255) (h3 : 0 ≤ id) (h4 : id ≤ 255) (hs : s.size ≤ 40) : ∃ S : ByteArray, S = ⟨(encl (content (UInt8.ofNat code.toNat) (UInt8.ofNat id.toNat) s.data.toList)).toArray⟩ ∧ S.size ≤ 1000 ∧ ∀ w, Calls Tryz.prog 33 #[.agg #[.int .i64 code, .int .i64 id, .string s]] w fun e w' => e = .returned (.string S) ∧ Below w.heap.size w w' := by
  have e1 : ((UInt8.ofNat code.toNat).toNat : Int) = code := by rw [UInt8.toNat_ofNat']; omega
  have e2 : ((UInt8.ofNat id.toNat).toNat : Int) = id := by rw [UInt8.toNat_ofNat']; omega
  refine ⟨_, rfl, ?_, fun w => ?_⟩
  · have := (escL_len (content (UInt8.ofNat code.toNat) (UInt8.ofNat id.toNat) s.data.toList)).2
    have h7 : (content (UInt8.ofNat code.toNat) (UInt8.ofNat id.toNat) s.data.toList).length = s.size + 4 := by simp [content, headOf]
    show (encl _).toArray.size ≤ _
    rw [List.size_toArray, encl_len]
    omega
  · have := line_any (UInt8.ofNat code.toNat) (UInt8.ofNat id.toNat) s w (by omega)
    rw [e1, e2] at this
    exact this
theorem px_below {b0 b1 b2 : Nat} {R A : ByteArray} {w w' : World} {B : Nat}
    (h : w.cell? ⟨b0, 0, none⟩ = some (.int .i64 5) ∧ w.cell? ⟨b0, 1, none⟩ = some (.int .i64 1) ∧ w.cell? ⟨b0, 2, none⟩ = some (.string ⟨#[]⟩) ∧ w.cell? ⟨b1, 0, none⟩ = some (.int .i64 1) ∧ w.cell? ⟨b1, 1, none⟩ = some (.int .i64 1) ∧ w.cell? ⟨b1, 2, none⟩ = some (.string R) ∧ w.cell? ⟨b2, 0, none⟩ = some (.int .i64 2) ∧ w.cell? ⟨b2, 1, none⟩ = some (.int .i64 1) ∧ w.cell? ⟨b2, 2, none⟩ = some (.string A))
    (hb : Below B w w') (h0 : b0 < B) (h1 : b1 < B) (h2 : b2 < B) :
    w'.cell? ⟨b0, 0, none⟩ = some (.int .i64 5) ∧ w'.cell? ⟨b0, 1, none⟩ = some (.int .i64 1) ∧ w'.cell? ⟨b0, 2, none⟩ = some (.string ⟨#[]⟩) ∧ w'.cell? ⟨b1, 0, none⟩ = some (.int .i64 1) ∧ w'.cell? ⟨b1, 1, none⟩ = some (.int .i64 1) ∧ w'.cell? ⟨b1, 2, none⟩ = some (.string R) ∧ w'.cell? ⟨b2, 0, none⟩ = some (.int .i64 2) ∧ w'.cell? ⟨b2, 1, none⟩ = some (.int .i64 1) ∧ w'.cell? ⟨b2, 2, none⟩ = some (.string A) := by
  obtain ⟨c0, c1, c2, c3, c4, c5, c6, c7, c8⟩ := h
  exact ⟨(hb.cell (p := ⟨b0, 0, none⟩) h0).trans c0, (hb.cell (p := ⟨b0, 1, none⟩) h0).trans c1, (hb.cell (p := ⟨b0, 2, none⟩) h0).trans c2,
    (hb.cell (p := ⟨b1, 0, none⟩) h1).trans c3, (hb.cell (p := ⟨b1, 1, none⟩) h1).trans c4, (hb.cell (p := ⟨b1, 2, none⟩) h1).trans c5,
    (hb.cell (p := ⟨b2, 0, none⟩) h2).trans c6, (hb.cell (p := ⟨b2, 1, none⟩) h2).trans c7, (hb.cell (p := ⟨b2, 2, none⟩) h2).trans c8⟩
def exCells (x0 x1 x2 x3 x4 x5 : Value) (LL : ByteArray) : Array Value := #[.int .i64 1, .int .i64 0, .int .i64 5, .int .i64 1, .string ⟨#[]⟩, .string ⟨#[]⟩, .slice none 0 0, .slice none 0 0, .slice none 0 0, .slice none 0 0, .slice none 0 0, .slice none 0 0, .int .i64 0, .int .i64 0, .int .i64 2, .int .i64 0, .int .i64 0, .int .i64 0, .string ⟨#[]⟩, .string ⟨#[5, 1, 119, 1]⟩, .slice none 0 0, .slice none 0 0, .slice none 0 0, .slice none 0 0, .slice none 0 0, .slice none 0 0, .int .i64 0, .int .i64 0, .int .i64 3, .int .i64 0, .int .i64 0, .int .i64 0, .string ⟨#[]⟩, .string ⟨#[]⟩, x0, x1, x2, x3, x4, x5, .int .i64 7, .int .i64 0, .int .i64 4, .int .i64 0, .int .i64 0, .int .i64 0, .string ⟨#[]⟩, .string ⟨#[]⟩, .slice none 0 0, .slice none 0 0, .slice none 0 0, .slice none 0 0, .slice none 0 0, .slice none 0 0, .int .i64 0, .int .i64 3, .int .i64 4, .int .i64 0, .int .i64 0, .int .i64 0, .string ⟨#[]⟩, .string ⟨#[]⟩, .slice none 0 0, .slice none 0 0, .slice none 0 0, .slice none 0 0, .slice none 0 0, .slice none 0 0, .int .i64 0, .int .i64 1, .int .i64 5, .int .i64 0, .int .i64 0, .int .i64 0, .string ⟨#[]⟩, .string LL, .slice none 0 0, .slice none 0 0, .slice none 0 0, .slice none 0 0, .slice none 0 0, .slice none 0 0, .int .i64 0, .int .i64 0, .int .i64 6, .int .i64 0, .int .i64 0, .int .i64 0, .string ⟨#[]⟩, .string ⟨#[]⟩, .slice none 0 0, .slice none 0 0, .slice none 0 0, .slice none 0 0, .slice none 0 0, .slice none 0 0, .int .i64 0, .int .i64 0]
end Go.Proofs.YtoeihlgidakjbaaGreatDoor

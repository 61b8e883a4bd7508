/- The laws' lent, still and sign. The laws' holds: what a hold is in memory; marked. The laws' world of holds; looks; marks. The laws' marks: every place of a hold's lists is written. -/
import Derived.Test.YtoeihlgidakjbaaGreatDoorEa9
import Derived.Lib.BufferWrite
import Derived.Laws.CopyOwn
import Derived.Deep.DeepCutAuto
import Derived.Deep.RegionHeld3
namespace Go.Proofs.YtoeihlgidakjbaaGreatDoor
open Go.RowKit Go.Lib
def signN (m i : Int) : Int := wrap64 (m + wrap64 (i * wrap64 (1 + wrap64 (m.tdiv 256)))) % 256
set_option maxHeartbeats 1000000 in
theorem sign_any (m i : Int) (w : World) :
    Calls Tryz.prog 87 #[.int .i64 m, .int .i64 i] w fun e w' => e = .returned (.int .u8 (signN m i)) ∧ w = w' := by
  go_enter Tryz.func87, Tryz.ntmps87
  go_wp2
  go_ret
  exact ⟨rfl, rfl⟩
def lentL (l : List UInt8) (j : Nat) : List UInt8 := l ++ (List.replicate j 201 ++ List.replicate (8 - j) 0)
theorem lentL_len (l : List UInt8) (j : Nat) (h : j ≤ 8) : (lentL l j).length = l.length + 8 := by simp [lentL]; omega
theorem lentL_set (l : List UInt8) (j : Nat) (h : j < 8) : (lentL l j).set (l.length + j) 201 = lentL l (j + 1) := by
  unfold lentL
  rw [List.set_append, if_neg (by omega), show l.length + j - l.length = j from by omega, List.set_append, if_neg (by simp)]
  have : 8 - j = (8 - (j + 1)) + 1 := by omega
  rw [this, List.replicate_succ]
  simp [List.replicate_succ']
theorem owns_heap {w : World} {B e g n cap : Nat} {xs : List Value} (h : w.ownsRow B e 1 (.slice (some ⟨g, 0, none⟩) n cap) n xs) (hc : n = cap) : w.heap[g]? = some (.cells xs.toArray e (0, 0)) ∧ B ≤ g := by
  obtain ⟨_, h2⟩ := h
  rcases h2 with ⟨h', _⟩ | ⟨g', cap', cur, h', hb, hg, hnc, hcm, hcs, htake⟩
  · simp at h'
  · simp only [Value.slice.injEq, Option.some.injEq, Addr.mk.injEq, and_true, true_and] at h'
    obtain ⟨rfl, rfl⟩ := h'
    refine ⟨?_, hb⟩
    rw [hg, ← htake, List.take_of_length_le (by simp; omega)]
theorem heap_owns {w : World} {B e g : Nat} {xs : List Value} (h : w.heap[g]? = some (.cells xs.toArray e (0, 0))) (hB : B ≤ g) (hm : xs.length ≤ maxLen) : w.ownsRow B e 1 (.slice (some ⟨g, 0, none⟩) xs.length xs.length) xs.length xs :=
  ⟨by simp, .inr ⟨g, xs.length, xs.toArray, rfl, hB, h, Nat.le_refl _, hm, by simp, by simp⟩⟩
theorem lent_copy {w1 : World} {B g : Nat} {s : ByteArray} (h : w1.ownsRow B 5 1 (.slice (some ⟨g, 0, none⟩) (s.size + 8) (s.size + 8)) (s.size + 8) (madeCells (Value.int .u8 0).cells ((s.size + 8) * 1)).toList) (hm : s.size + 8 ≤ maxLen) :
    ∃ W2, (∀ ty, (Builtin.copy_ #[52, 9] ty #[.slice (some ⟨g, 0, none⟩) (s.size + 8) (s.size + 8), .string s]).run Tryz.prog w1 = .ok (goInt s.size) W2) ∧ W2.ownsRow B 5 1 (.slice (some ⟨g, 0, none⟩) (s.size + 8) (s.size + 8)) (s.size + 8) ((lentL s.data.toList 0).map bv) ∧ (∀ w0, Below B w0 w1 → Below B w0 W2) := by
  obtain ⟨hh1, hB⟩ := owns_heap h rfl
  refine ⟨_, fun ty => run_copy_row_string (P := Tryz.prog) w1 52 9 ty 5 g 0 (s.size + 8) (s.size + 8) s _ 5 Tryz.underlying52 (by kernel_rfl) hh1 (by omega) (by simp [madeCells]), ?_, fun w0 hb => below_setRow hb hB _⟩
  have hl := setRow_heap w1 g _ (List.take 0 (madeCells (Value.int .u8 0).cells ((s.size + 8) * 1)).toList.toArray.toList ++ byteCells s.data.toList ++ List.drop (0 + s.size) (madeCells (Value.int .u8 0).cells ((s.size + 8) * 1)).toList.toArray.toList).toArray 5 (0, 0) hh1
  have e : (List.take 0 (madeCells (Value.int .u8 0).cells ((s.size + 8) * 1)).toList.toArray.toList ++ byteCells s.data.toList ++ List.drop (0 + s.size) (madeCells (Value.int .u8 0).cells ((s.size + 8) * 1)).toList.toArray.toList) = (lentL s.data.toList 0).map bv := by
    have e1 : (madeCells (Value.int .u8 0).cells ((s.size + 8) * 1)).toList = List.replicate (s.size + 8) (Value.int .u8 0) := by
      rw [Nat.mul_one]; exact toList_madeCells_one _ _
    simp only [e1]
    simp [lentL, byteCells, bv]
  rw [e] at hl ⊢
  have hlen : ((lentL s.data.toList 0).map bv).length = s.size + 8 := by rw [List.length_map, lentL_len _ _ (by omega)]; simp
  have := heap_owns hl hB (by rw [hlen]; exact hm)
  rw [hlen] at this
  exact this
set_option maxRecDepth 20000 in
set_option maxHeartbeats 1000000 in
theorem lent_any (s : ByteArray) (w : World) (hn : s.size ≤ 140737488351232) :
    Calls Tryz.prog 54 #[.string s] w fun e w' => e = .returned (.slice (some ⟨w.heap.size, 0, none⟩) (s.size + 8) (s.size + 8)) ∧ w'.ownsRow w.heap.size 5 1 (.slice (some ⟨w.heap.size, 0, none⟩) (s.size + 8) (s.size + 8)) (s.size + 8) ((lentL s.data.toList 8).map bv) ∧ Below w.heap.size w w' := by
  obtain ⟨i0, hi, hz0, hz1, hz2⟩ := info_parts Tryz.infoB
  have hml : s.size + 8 ≤ maxLen := by unfold maxLen; omega
  go_enter Tryz.func54, Tryz.ntmps54
  go_upto_region 2 with (at_make; refine wpList_make_full _ rfl _ _ 52 rfl w.heap.size 5 i0 (.int .u8 0) 1 Tryz.underlying52 hi hz0 hz1 .i64 .i64 _ _ (s.size + 8) rfl rfl (by omega) (by omega) (by rw [hz2]; omega) hml (Nat.le_refl _) ?_; intro w1 hown1 hgrow1)
  have hb1 : Below w.heap.size w w1 := (Below.refl _ _).grown hgrow1 (Nat.le_refl _) (fun k hk => by cases hk)
  obtain ⟨W2, hcp, hown2, hb2⟩ := lent_copy hown1 hml
  have hb2' := hb2 _ hb1
  clear hown1 hgrow1 hb1 hb2
  go_wp2_with fail
  go_loopw [4] (fun i wr => ∃ k : Nat, s.size ≤ k ∧ k ≤ s.size + 8 ∧ i = .int .i64 (k : Int) ∧ wr.ownsRow w.heap.size 5 1 (.slice (some ⟨w.heap.size, 0, none⟩) (s.size + 8) (s.size + 8)) (s.size + 8) ((lentL s.data.toList (k - s.size)).map bv) ∧ Below w.heap.size w wr) (fun i _ => s.size + 8 - (intOf i).toNat)
  case atStart => exact ⟨s.size, by omega, by omega, rfl, by rw [Nat.sub_self]; exact hown2, hb2'⟩
  case round =>
    obtain ⟨k, hk1, hk2, rfl, hown, hbr⟩ := hrel
    clear hown2 hb2' hcp
    by_cases hlt : k < s.size + 8
    · have zj := hown.frozenAt k
      have hlen : (lentL s.data.toList (k - s.size)).length = s.size + 8 := by rw [lentL_len _ _ (by omega)]; simp
      have cj : ∃ v, wr.cell? ⟨w.heap.size, k, none⟩ = some v := by
        have := hown.cellAt k (by omega)
        rw [this]
        exact ⟨_, List.getElem?_eq_getElem (by simp; omega)⟩
      obtain ⟨vj, cj⟩ := cj
      have HW : Hid (((wr.setCell ⟨w.heap.size, k, none⟩ (.int .u8 201)).ownsRow w.heap.size 5 1 (.slice (some ⟨w.heap.size, 0, none⟩) (s.size + 8) (s.size + 8)) (s.size + 8) ((lentL s.data.toList (k + 1 - s.size)).map bv)) ∧ Below w.heap.size w (wr.setCell ⟨w.heap.size, k, none⟩ (.int .u8 201))) := by
        refine ⟨?_, hbr.setCell (by simp) _⟩
        have h1 := (hown.stored k (.int .u8 201)).1
        have e : (.int .u8 201 : Value) = bv 201 := rfl
        have hs := lentL_set s.data.toList (k - s.size) (by omega)
        rw [show s.data.toList.length + (k - s.size) = k from by simp; omega, show k - s.size + 1 = k + 1 - s.size from by omega] at hs
        rw [e, ← List.map_set, hs] at h1
        exact h1
      have hI : (k : Int) < (s.size : Int) + 8 := by omega
      clear hlen
      go_wp2_with fail
      exact ⟨⟨k + 1, by omega, by omega, by go_num, HW.out.1, HW.out.2⟩, by simp [intOf]; omega⟩
    · have e8 : k - s.size = 8 := by omega
      rw [e8] at hown
      clear e8
      go_wp2_with fail
      go_ret
      exact ⟨rfl, hown, hbr⟩
set_option maxHeartbeats 1000000 in
theorem still_any (s : ByteArray) (g cap : Nat) (w : World) (hn : s.size ≤ 140737488351232) (hr : Rd w g 0 (lentL s.data.toList 8)) :
    Calls Tryz.prog 56 #[.slice (some ⟨g, 0, none⟩) (s.size + 8) cap, .string s] w fun e w' => e = .returned (.bool true) ∧ Below w.heap.size w w' := by
  have hlen : (lentL s.data.toList 8).length = s.size + 8 := by rw [lentL_len _ _ (by omega)]; simp
  have c1 : ∀ k (h : k < s.size), w.cell? ⟨g, k, none⟩ = some (.int .u8 ((s[k]).toNat : Int)) := by
    intro k h
    have := hr k (by omega)
    rw [Nat.zero_add] at this
    rw [this]
    have e : (lentL s.data.toList 8)[k]'(by omega) = s[k] := by
      simp only [lentL]
      rw [List.getElem_append_left (by simpa using h)]
      rfl
    rw [e]
  have c2 : ∀ k, s.size ≤ k → k < s.size + 8 → w.cell? ⟨g, k, none⟩ = some (.int .u8 201) := by
    intro k h1 h2
    have := hr k (by omega)
    rw [Nat.zero_add] at this
    rw [this]
    have e : (lentL s.data.toList 8)[k]'(by omega) = 201 := by
      simp only [lentL]
      rw [List.getElem_append_right (by simpa using h1), List.getElem_append_left (by simp; omega), List.getElem_replicate]
    rw [e]; rfl
  have HC1 : Hid (∀ k (h : k < s.size), w.cell? ⟨g, k, none⟩ = some (.int .u8 ((s[k]).toNat : Int))) := c1
  have HC2 : Hid (∀ k, s.size ≤ k → k < s.size + 8 → w.cell? ⟨g, k, none⟩ = some (.int .u8 201)) := c2
  clear c1 c2 hlen
  go_enter Tryz.func56, Tryz.ntmps56
  go_wp2_with fail
  go_loopw [5] (fun i wr => ∃ k : Nat, k ≤ s.size + 8 ∧ i = .int .i64 (k : Int) ∧ ∃ n, wr = w.drewN n) (fun i _ => s.size + 8 - (intOf i).toNat)
  case atStart => exact ⟨0, by omega, rfl, 0, rfl⟩
  case round =>
    obtain ⟨k, hk, rfl, n, rfl⟩ := hrel
    by_cases hlt : k < s.size + 8
    · have hI : (k : Int) < (s.size : Int) + 8 := by omega
      by_cases hs : k < s.size
      · have ck := HC1.out k hs
        have hJ : (k : Int) < (s.size : Int) := by omega
        have hd : decide (s.size ≤ k) = false := by simp; omega
        go_wp2_with fail
        go_quiet (fail)
        go_wp2_with fail
        exact ⟨⟨k + 1, by omega, by go_num, n + nq, rfl⟩, by simp [intOf]; omega⟩
      · have ck := HC2.out k (by omega) hlt
        have hJ : decide ((k : Int) < (s.size : Int)) = false := by simp; omega
        have hd : (s.size : Int) ≤ (k : Int) := by omega
        go_wp2_with fail
        go_quiet (fail)
        go_wp2_with fail
        exact ⟨⟨k + 1, by omega, by go_num, n + nq, rfl⟩, by simp [intOf]; omega⟩
    · go_wp2_with fail
      go_ret
      exact ⟨rfl, below_drewN (Below.refl _ _) _⟩
end Go.Proofs.YtoeihlgidakjbaaGreatDoor
namespace Go.Proofs.YtoeihlgidakjbaaGreatDoor
open Go.RowKit Go.Lib
def BR (w : World) (v : Value) (n : Nat) (m : Int) : Prop := ∃ a cap g, v = .slice a n cap ∧ n ≤ 140737488355000 ∧ (0 < n → a = some ⟨g, 0, none⟩) ∧ ∀ j, j < n → w.cell? ⟨g, j, none⟩ = some (.int .u8 (signN m (j : Int)))
def NR (w : World) (v : Value) (n : Nat) (m : Int) : Prop := ∃ a cap g, v = .slice a n cap ∧ n ≤ 140737488355000 ∧ (0 < n → a = some ⟨g, 0, none⟩) ∧ ∀ j, j < n → w.cell? ⟨g, j, none⟩ = some (.int .i64 (-m))
structure HE where
  hb : Nat
  vb : Value
  nb : Nat
  vn : Value
  nn : Nat
  m : Int
structure HI (w : World) (e : HE) : Prop where
  c0 : w.cell? ⟨e.hb, 0, none⟩ = some e.vb
  c1 : w.cell? ⟨e.hb, 1, none⟩ = some e.vn
  c2 : w.cell? ⟨e.hb, 2, none⟩ = some (.int .i64 e.m)
  b : BR w e.vb e.nb e.m
  n : NR w e.vn e.nn e.m
  m0 : 0 < e.m
  m1 : e.m ≤ 4611686018427387904
theorem sign_q (m i : Int) (w : World) : Calls Tryz.prog 87 #[.int .i64 m, .int .i64 i] w fun e w' => e = .returned (.int .u8 (signN m i)) ∧ w' = w :=
  (sign_any m i w).mono (by rintro e w' ⟨rfl, rfl⟩; exact ⟨rfl, rfl⟩)
set_option maxHeartbeats 1000000 in
theorem marked_any (e : HE) (w : World) (h : HI w e) :
    Calls Tryz.prog 63 #[.pointer (some ⟨e.hb, 0, none⟩)] w fun r w' => r = .returned (.bool true) ∧ ∃ n, w' = w.drewN n := by
  obtain ⟨hb, vb, nb, vn, nn, m⟩ := e
  obtain ⟨c0, c1, c2, hb1, hn1, m0, m1⟩ := h
  simp only at c0 c1 c2 hb1 hn1 m0 m1
  obtain ⟨ab, capb, gb, rfl, hnb, hab, hcb⟩ := hb1
  obtain ⟨an, capn, gn, rfl, hnn, han, hcn⟩ := hn1
  have HCB : Hid (∀ j, j < nb → w.cell? ⟨gb, j, none⟩ = some (.int .u8 (signN m (j : Int)))) := hcb
  have HCN : Hid (∀ j, j < nn → w.cell? ⟨gn, j, none⟩ = some (.int .i64 (-m))) := hcn
  have HAB : Hid (0 < nb → ab = some ⟨gb, 0, none⟩) := hab
  have HAN : Hid (0 < nn → an = some ⟨gn, 0, none⟩) := han
  clear hcb hcn hab han
  show Calls Tryz.prog 63 #[.pointer (some ⟨hb, 0, none⟩)] w _
  go_enter Tryz.func63, Tryz.ntmps63
  go_wp2_with fail
  go_loopw [3] (fun i wr => ∃ k : Nat, k ≤ nb ∧ i = .int .i64 (k : Int) ∧ ∃ n, wr = w.drewN n) (fun i _ => nb - (intOf i).toNat)
  case atStart => exact ⟨0, by omega, rfl, 0, rfl⟩
  case round =>
    obtain ⟨k, hk, rfl, n, rfl⟩ := hrel
    by_cases hlt : k < nb
    · obtain rfl := HAB.out (by omega)
      have ck : (w.drewN n).cell? ⟨gb, k, none⟩ = some (.int .u8 (signN m (k : Int))) := HCB.out k hlt
      have hI : (k : Int) < (nb : Int) := by omega
      have d0 : (w.drewN n).cell? ⟨hb, 0, none⟩ = _ := c0
      have d2 : (w.drewN n).cell? ⟨hb, 2, none⟩ = _ := c2
      clear c0 c1 c2 HCB HCN HAB HAN
      generalize hwr : w.drewN n = wr at *
      have HWR : Hid (wr = w.drewN n) := hwr.symm
      clear hwr
      go_wp2_with fail
      go_quiet ((go_at_call 87; exact Calls.quiet_of_same (sign_q _ _ _)))
      go_wp2_with fail
      exact ⟨⟨k + 1, by omega, by go_num, n + nq, by rw [HWR.out]; simp⟩, by simp [intOf]; omega⟩
    · go_wp2_with fail
      go_loopw [4] (fun i wr => ∃ k : Nat, k ≤ nn ∧ i = .int .i64 (k : Int) ∧ ∃ n, wr = w.drewN n) (fun i _ => nn - (intOf i).toNat)
      case atStart => exact ⟨0, by omega, rfl, n, rfl⟩
      case round =>
        obtain ⟨k2, hk2, rfl, n2, rfl⟩ := hrel
        by_cases hlt2 : k2 < nn
        · obtain rfl := HAN.out (by omega)
          have ck := HCN.out k2 hlt2
          have hI : (k2 : Int) < (nn : Int) := by omega
          go_wp2_with fail
          go_quiet (fail)
          go_wp2_with fail
          exact ⟨⟨k2 + 1, by omega, by go_num, n2 + nq, rfl⟩, by simp [intOf]; omega⟩
        · go_wp2_with fail
          go_ret
          exact ⟨rfl, _, rfl⟩
end Go.Proofs.YtoeihlgidakjbaaGreatDoor
namespace Go.Proofs.YtoeihlgidakjbaaGreatDoor
open Go.RowKit Go.Lib
def HE.in_ (e : HE) (b : Nat) : Prop := b = e.hb ∨ e.vb.ownBlock = some b ∨ e.vn.ownBlock = some b
theorem br_of {w w' : World} {v : Value} {n : Nat} {m : Int} (h : BR w v n m) (hb : ∀ b, v.ownBlock = some b → w'.heap[b]? = w.heap[b]?) : BR w' v n m := by
  obtain ⟨a, cap, g, rfl, h1, h2, h3⟩ := h
  refine ⟨a, cap, g, rfl, h1, h2, fun j hj => ?_⟩
  have ha := h2 (by omega)
  subst ha
  exact (World.cell?_of_block (w := w) (a := ⟨g, j, none⟩) (hb g rfl)).trans (h3 j hj)
theorem nr_of {w w' : World} {v : Value} {n : Nat} {m : Int} (h : NR w v n m) (hb : ∀ b, v.ownBlock = some b → w'.heap[b]? = w.heap[b]?) : NR w' v n m := by
  obtain ⟨a, cap, g, rfl, h1, h2, h3⟩ := h
  refine ⟨a, cap, g, rfl, h1, h2, fun j hj => ?_⟩
  have ha := h2 (by omega)
  subst ha
  exact (World.cell?_of_block (w := w) (a := ⟨g, j, none⟩) (hb g rfl)).trans (h3 j hj)
theorem hi_of {w w' : World} {e : HE} (h : HI w e) (hb : ∀ b, e.in_ b → w'.heap[b]? = w.heap[b]?) : HI w' e :=
  ⟨(World.cell?_of_block (w := w) (a := ⟨e.hb, 0, none⟩) (hb _ (.inl rfl))).trans h.c0, (World.cell?_of_block (w := w) (a := ⟨e.hb, 1, none⟩) (hb _ (.inl rfl))).trans h.c1, (World.cell?_of_block (w := w) (a := ⟨e.hb, 2, none⟩) (hb _ (.inl rfl))).trans h.c2,
   br_of h.b (fun b hb' => hb b (.inr (.inl hb'))), nr_of h.n (fun b hb' => hb b (.inr (.inr hb'))), h.m0, h.m1⟩
structure WI (w : World) (B wb : Nat) (vp vh : Value) (es : List HE) : Prop where
  p : w.cell? ⟨wb, 0, none⟩ = some vp
  h : w.cell? ⟨wb, 1, none⟩ = some vh
  f : w.frozen? ⟨wb, 1, none⟩ = false
  f0 : w.frozen? ⟨wb, 0, none⟩ = false
  own : w.ownsRow B 104 1 vh es.length (es.map fun e => .pointer (some ⟨e.hb, 0, none⟩))
  all : ∀ e ∈ es, HI w e
  lt : wb < w.heap.size
  ge : B ≤ wb
  ne : vh.ownBlock ≠ some wb
  sep : ∀ e ∈ es, ∀ b, e.in_ b → B ≤ b ∧ b < w.heap.size ∧ b ≠ wb ∧ vh.ownBlock ≠ some b
set_option maxHeartbeats 1000000 in
theorem looks_any {B wb : Nat} {vp vh : Value} {es : List HE} (w : World) (hw : WI w B wb vp vh es) (hn : es.length ≤ 1000000000000000) :
    Calls Tryz.prog 35 #[.pointer (some ⟨wb, 0, none⟩)] w fun r w' => r = .returned (.bool true) ∧ ∃ n, w' = w.drewN n := by
  obtain ⟨a, cap, g, rfl, ha, _, hc⟩ := own_shape hw.own
  have HA : Hid (0 < es.length → a = some ⟨g, 0, none⟩) := ha
  have HC : Hid (∀ j (hj : j < es.length), w.cell? ⟨g, j, none⟩ = some (.pointer (some ⟨(es[j]).hb, 0, none⟩))) := by
    intro j hj
    rw [hc j hj, List.getElem?_map, List.getElem?_eq_getElem hj]; rfl
  have HH : Hid (∀ j (hj : j < es.length), HI w es[j]) := fun j hj => hw.all _ (List.getElem_mem hj)
  have c1 := hw.h
  clear ha hc hw
  go_enter Tryz.func35, Tryz.ntmps35
  go_wp2_with fail
  go_loopw [3] (fun i wr => ∃ k : Nat, k ≤ es.length ∧ i = .int .i64 (k : Int) ∧ ∃ n, wr = w.drewN n) (fun i _ => es.length - (intOf i).toNat)
  case atStart => exact ⟨0, by omega, rfl, 0, rfl⟩
  case round =>
    obtain ⟨k, hk, rfl, n, rfl⟩ := hrel
    have d1 : (w.drewN n).cell? ⟨wb, 1, none⟩ = some (.slice a es.length cap) := c1
    by_cases hlt : k < es.length
    · obtain rfl := HA.out (by omega)
      have ck : (w.drewN n).cell? ⟨g, k, none⟩ = some (.pointer (some ⟨(es[k]).hb, 0, none⟩)) := HC.out k hlt
      have hI : (k : Int) < (es.length : Int) := by omega
      have hHI : HI (w.drewN n) es[k] := hi_of (HH.out k hlt) (fun _ _ => rfl)
      clear c1
      generalize hwr : w.drewN n = wr at *
      have HWR : Hid (wr = w.drewN n) := hwr.symm
      clear hwr
      go_wp2_with fail
      refine (marked_any es[k] wr hHI).mono ?_
      rintro e w2 ⟨rfl, n2, rfl⟩
      go_wp2_with fail
      exact ⟨⟨k + 1, by omega, by go_num, n + n2, by rw [HWR.out]; simp⟩, by simp [intOf]; omega⟩
    · go_wp2_with fail
      go_ret
      exact ⟨rfl, _, rfl⟩
end Go.Proofs.YtoeihlgidakjbaaGreatDoor
namespace Go.Proofs.YtoeihlgidakjbaaGreatDoor
open Go.RowKit Go.Lib
def marksB (m : Int) (n : Nat) : List Value := (List.range n).map fun (j : Nat) => Value.int .u8 (signN m (j : Int))
theorem marksB_len (m : Int) (n : Nat) : (marksB m n).length = n := by simp [marksB]
theorem marks_set (m : Int) (xs : List Value) (k : Nat) (h : k < xs.length) : (marksB m k ++ xs.drop k).set k (.int .u8 (signN m (k : Int))) = marksB m (k + 1) ++ xs.drop (k + 1) := by
  rw [List.set_append, if_neg (by rw [marksB_len]; omega), marksB_len, Nat.sub_self, List.drop_eq_getElem_cons h, List.set_cons_zero]
  rw [marksB, marksB, List.range_succ, List.map_append, List.append_assoc]
  rfl
theorem nums_set (m : Int) (xs : List Value) (k : Nat) (h : k < xs.length) : (List.replicate k (Value.int .i64 (-m)) ++ xs.drop k).set k (.int .i64 (-m)) = List.replicate (k + 1) (Value.int .i64 (-m)) ++ xs.drop (k + 1) := by
  rw [List.set_append, if_neg (by simp), List.length_replicate, Nat.sub_self, List.drop_eq_getElem_cons h, List.set_cons_zero]
  rw [List.replicate_succ', List.append_assoc]
  rfl
set_option maxHeartbeats 2000000 in
theorem marks_any (hb B : Nat) (vb vn : Value) (nb nn : Nat) (xs ys : List Value) (m : Int) (w : World) (c0 : w.cell? ⟨hb, 0, none⟩ = some vb) (c1 : w.cell? ⟨hb, 1, none⟩ = some vn) (c2 : w.cell? ⟨hb, 2, none⟩ = some (.int .i64 m))
    (ob : w.ownsRow B 5 1 vb nb xs) (on : w.ownsRow B 3 1 vn nn ys) (hbl : hb < w.heap.size) (h1 : vb.ownBlock ≠ some hb) (h2 : vn.ownBlock ≠ some hb) (h3 : vb.ownBlock = none ∨ vb.ownBlock ≠ vn.ownBlock) (m0 : 0 < m) (m1 : m ≤ 4611686018427387904) (hnb : nb ≤ 140737488355000) (hnn : nn ≤ 140737488355000) :
    Calls Tryz.prog 78 #[.pointer (some ⟨hb, 0, none⟩)] w fun r w' => r = .returned (.tuple #[]) ∧ w'.ownsRow B 5 1 vb nb (marksB m nb) ∧ w'.ownsRow B 3 1 vn nn (List.replicate nn (.int .i64 (-m))) ∧ Tch (fun b => vb.ownBlock = some b ∨ vn.ownBlock = some b) w w' := by
  have hxl : xs.length = nb := by simpa using ob.1
  have hyl : ys.length = nn := by simpa using on.1
  obtain ⟨ab, capb, gb, rfl, hab, _, _⟩ := own_shape ob
  obtain ⟨an, capn, gn, rfl, han, _, _⟩ := own_shape on
  have HAB : Hid (0 < nb → ab = some ⟨gb, 0, none⟩) := hab
  have HAN : Hid (0 < nn → an = some ⟨gn, 0, none⟩) := han
  have HXL : Hid (xs.length = nb) := hxl
  have HYL : Hid (ys.length = nn) := hyl
  have H1 : Hid ((Value.slice ab nb capb).ownBlock ≠ some hb) := h1
  have H2 : Hid ((Value.slice an nn capn).ownBlock ≠ some hb) := h2
  have H3 : Hid ((Value.slice ab nb capb).ownBlock = none ∨ (Value.slice ab nb capb).ownBlock ≠ (Value.slice an nn capn).ownBlock) := h3
  clear hab han hxl hyl h1 h2 h3
  go_enter Tryz.func78, Tryz.ntmps78
  go_wp2_with fail
  go_loopw [2] (fun i wr => ∃ k : Nat, k ≤ nb ∧ i = .int .i64 (k : Int) ∧ wr.ownsRow B 5 1 (.slice ab nb capb) nb (marksB m k ++ xs.drop k) ∧ Tch (fun b => (Value.slice ab nb capb).ownBlock = some b) w wr) (fun i _ => nb - (intOf i).toNat)
  case atStart => exact ⟨0, by omega, rfl, by simpa [marksB] using ob, Tch.refl _ _⟩
  case round =>
    obtain ⟨k, hk, rfl, obr, ht⟩ := hrel
    have d0 : wr.cell? ⟨hb, 0, none⟩ = some (.slice ab nb capb) := (World.cell?_of_block (w := w) (a := ⟨hb, 0, none⟩) (ht.block hb hbl H1.out)).trans c0
    have d2 : wr.cell? ⟨hb, 2, none⟩ = some (.int .i64 m) := (World.cell?_of_block (w := w) (a := ⟨hb, 2, none⟩) (ht.block hb hbl H1.out)).trans c2
    by_cases hlt : k < nb
    · obtain rfl := HAB.out (by omega)
      have zk := obr.frozenAt k
      have hne : hb ≠ gb := fun e => H1.out (by rw [e]; rfl)
      have ck : ∃ v, wr.cell? ⟨gb, k, none⟩ = some v := by
        have hx := HXL.out
        rw [obr.cellAt k (by omega)]
        exact ⟨_, List.getElem?_eq_getElem (by rw [List.length_append, marksB_len, List.length_drop]; omega)⟩
      obtain ⟨vk, ck⟩ := ck
      have HW : Hid ((wr.setCell ⟨gb, k, none⟩ (.int .u8 (signN m (k : Int)))).ownsRow B 5 1 (.slice (some ⟨gb, 0, none⟩) nb capb) nb (marksB m (k + 1) ++ xs.drop (k + 1)) ∧ Tch (fun b => (Value.slice (some ⟨gb, 0, none⟩) nb capb).ownBlock = some b) w (wr.setCell ⟨gb, k, none⟩ (.int .u8 (signN m (k : Int))))) := by
        refine ⟨?_, ht.trans (Tch.set _ _ _ _ rfl)⟩
        have h := (obr.stored k (.int .u8 (signN m (k : Int)))).1
        rw [marks_set m xs k (by have := HXL.out; omega)] at h
        exact h
      have hI : (k : Int) < (nb : Int) := by omega
      clear ht obr
      go_wp2_with fail
      go_region_held3 (fun w' => w'.cell? ⟨hb, 0, none⟩ = some (.slice (some ⟨gb, 0, none⟩) nb capb) ∧ w'.cell? ⟨hb, 2, none⟩ = some (.int .i64 m)) (first | exact ⟨d0, d2⟩ | assumption | exact ⟨(set_ne hne).trans d0, (set_ne hne).trans d2⟩) (first | (go_at_call 87; refine (sign_any _ _ _).mono ?_; rintro e wq ⟨rfl, rfl⟩))
      go_wp2_with fail
      exact ⟨⟨k + 1, by omega, by go_num, HW.out.1.drew, HW.out.2.drew⟩, by simp [intOf]; omega⟩
    · obtain ⟨w1, hw1⟩ : ∃ w1, w1 = wr := ⟨_, rfl⟩
      subst hw1
      have e1 : marksB m k ++ xs.drop k = marksB m nb := by
        have e2 : k = nb := by omega
        rw [e2, List.drop_eq_nil_of_le (by have := HXL.out; omega), List.append_nil]
      rw [e1] at obr
      clear e1
      have onr : w1.ownsRow B 3 1 (.slice an nn capn) nn ys := owns_tch on ht (fun b hb1 hb2 => by
        rcases H3.out with h | h
        · rw [h] at hb2; cases hb2
        · exact h (hb2.trans hb1.symm))
      have d1 : w1.cell? ⟨hb, 1, none⟩ = some (.slice an nn capn) := (World.cell?_of_block (w := w) (a := ⟨hb, 1, none⟩) (ht.block hb hbl H1.out)).trans c1
      have hbl2 : hb < w1.heap.size := Nat.lt_of_lt_of_le hbl ht.size
      clear ob on c0 c1 c2
      go_wp2_with fail
      go_loopw [3] (fun i wx => ∃ k : Nat, k ≤ nn ∧ i = .int .i64 (k : Int) ∧ wx.ownsRow B 3 1 (.slice an nn capn) nn (List.replicate k (Value.int .i64 (-m)) ++ ys.drop k) ∧ Tch (fun b => (Value.slice an nn capn).ownBlock = some b) w1 wx) (fun i _ => nn - (intOf i).toNat)
      case atStart => exact ⟨0, by omega, rfl, by simpa using onr, Tch.refl _ _⟩
      case round =>
        obtain ⟨k2, hk2, rfl, onx, htx⟩ := hrel
        have x1 : wr.cell? ⟨hb, 1, none⟩ = some (.slice an nn capn) := (World.cell?_of_block (w := w1) (a := ⟨hb, 1, none⟩) (htx.block hb hbl2 H2.out)).trans d1
        have x2 : wr.cell? ⟨hb, 2, none⟩ = some (.int .i64 m) := (World.cell?_of_block (w := w1) (a := ⟨hb, 2, none⟩) (htx.block hb hbl2 H2.out)).trans d2
        clear d0 d1 d2
        by_cases hlt2 : k2 < nn
        · obtain rfl := HAN.out (by omega)
          have zk := onx.frozenAt k2
          have hne : hb ≠ gn := fun e => H2.out (by rw [e]; rfl)
          have ck : ∃ v, wr.cell? ⟨gn, k2, none⟩ = some v := by
            have hy := HYL.out
            rw [onx.cellAt k2 (by omega)]
            exact ⟨_, List.getElem?_eq_getElem (by rw [List.length_append, List.length_replicate, List.length_drop]; omega)⟩
          obtain ⟨vk, ck⟩ := ck
          have HW : Hid ((wr.setCell ⟨gn, k2, none⟩ (.int .i64 (-m))).ownsRow B 3 1 (.slice (some ⟨gn, 0, none⟩) nn capn) nn (List.replicate (k2 + 1) (Value.int .i64 (-m)) ++ ys.drop (k2 + 1)) ∧ Tch (fun b => (Value.slice (some ⟨gn, 0, none⟩) nn capn).ownBlock = some b) w1 (wr.setCell ⟨gn, k2, none⟩ (.int .i64 (-m)))) := by
            refine ⟨?_, htx.trans (Tch.set _ _ _ _ rfl)⟩
            have h := (onx.stored k2 (.int .i64 (-m))).1
            rw [nums_set m ys k2 (by have := HYL.out; omega)] at h
            exact h
          have hI : (k2 : Int) < (nn : Int) := by omega
          clear htx onx ht obr onr
          go_wp2_with fail
          go_region_held3 (fun w' => w'.cell? ⟨hb, 1, none⟩ = some (.slice (some ⟨gn, 0, none⟩) nn capn) ∧ w'.cell? ⟨hb, 2, none⟩ = some (.int .i64 m)) (first | exact ⟨x1, x2⟩ | assumption | exact ⟨(set_ne hne).trans x1, (set_ne hne).trans x2⟩) (fail)
          go_wp2_with fail
          exact ⟨⟨k2 + 1, by omega, by go_num, HW.out.1.drew, HW.out.2.drew⟩, by simp [intOf]; omega⟩
        · have e1 : List.replicate k2 (Value.int .i64 (-m)) ++ ys.drop k2 = List.replicate nn (Value.int .i64 (-m)) := by
            have e2 : k2 = nn := by omega
            rw [e2, List.drop_eq_nil_of_le (by have := HYL.out; omega), List.append_nil]
          rw [e1] at onx
          have obx : wr.ownsRow B 5 1 (.slice ab nb capb) nb (marksB m nb) := owns_tch obr htx (fun b hb1 hb2 => by
            rcases H3.out with h | h
            · rw [h] at hb1; cases hb1
            · exact h (hb1.trans hb2.symm))
          clear e1
          go_wp2_with fail
          go_end0
          exact ⟨rfl, obx, onx, (ht.mono (fun _ h => .inl h)).trans (htx.mono (fun _ h => .inr h))⟩
end Go.Proofs.YtoeihlgidakjbaaGreatDoor

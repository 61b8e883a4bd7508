/- The laws' lent, still and sign. -/
import Derived.Test.YtoeihlgidakjbaaGreatDoorRef3
import Derived.Lib.BufferWrite
import Derived.Laws.CopyOwn
import Derived.Deep.DeepCutAuto
namespace Go.Proofs.YtoeihlgidakjbaaGreatDoor
open Go.RowKit Go.Lib

/-- What a mark looks like in a place: a number below 256. -/
def signN (m i : Int) : Int := wrap64 (m + wrap64 (i * wrap64 (1 + wrap64 (m.tdiv 256)))) % 256
set_option maxHeartbeats 1000000 in
theorem sign_any (m i : Int) (w : World) :
    Calls Tryz.prog 87 #[.int .i64 m, .int .i64 i] w fun e w' => e = .returned (.int .u8 (signN m i)) ∧ w = w' := by
  go_enter Tryz.func87, Tryz.ntmps87
  go_wp2
  go_ret
  exact ⟨rfl, rfl⟩

/-- What is lent: the bytes, and eight places behind them. -/
def lentL (l : List UInt8) (j : Nat) : List UInt8 := l ++ (List.replicate j 201 ++ List.replicate (8 - j) 0)
theorem lentL_len (l : List UInt8) (j : Nat) (h : j ≤ 8) : (lentL l j).length = l.length + 8 := by simp [lentL]; omega
theorem lentL_set (l : List UInt8) (j : Nat) (h : j < 8) : (lentL l j).set (l.length + j) 201 = lentL l (j + 1) := by
  unfold lentL
  rw [List.set_append, if_neg (by omega), show l.length + j - l.length = j from by omega, List.set_append, if_neg (by simp)]
  have : 8 - j = (8 - (j + 1)) + 1 := by omega
  rw [this, List.replicate_succ]
  simp [List.replicate_succ']
theorem owns_heap {w : World} {B e g n cap : Nat} {xs : List Value} (h : w.ownsRow B e 1 (.slice (some ⟨g, 0, none⟩) n cap) n xs) (hc : n = cap) : w.heap[g]? = some (.cells xs.toArray e (0, 0)) ∧ B ≤ g := by
  obtain ⟨_, h2⟩ := h
  rcases h2 with ⟨h', _⟩ | ⟨g', cap', cur, h', hb, hg, hnc, hcm, hcs, htake⟩
  · simp at h'
  · simp only [Value.slice.injEq, Option.some.injEq, Addr.mk.injEq, and_true, true_and] at h'
    obtain ⟨rfl, rfl⟩ := h'
    refine ⟨?_, hb⟩
    rw [hg, ← htake, List.take_of_length_le (by simp; omega)]
theorem heap_owns {w : World} {B e g : Nat} {xs : List Value} (h : w.heap[g]? = some (.cells xs.toArray e (0, 0))) (hB : B ≤ g) (hm : xs.length ≤ maxLen) : w.ownsRow B e 1 (.slice (some ⟨g, 0, none⟩) xs.length xs.length) xs.length xs :=
  ⟨by simp, .inr ⟨g, xs.length, xs.toArray, rfl, hB, h, Nat.le_refl _, hm, by simp, by simp⟩⟩

theorem lent_copy {w1 : World} {B g : Nat} {s : ByteArray} (h : w1.ownsRow B 5 1 (.slice (some ⟨g, 0, none⟩) (s.size + 8) (s.size + 8)) (s.size + 8) (madeCells (Value.int .u8 0).cells ((s.size + 8) * 1)).toList) (hm : s.size + 8 ≤ maxLen) :
    ∃ W2, (∀ ty, (Builtin.copy_ #[52, 9] ty #[.slice (some ⟨g, 0, none⟩) (s.size + 8) (s.size + 8), .string s]).run Tryz.prog w1 = .ok (goInt s.size) W2) ∧ W2.ownsRow B 5 1 (.slice (some ⟨g, 0, none⟩) (s.size + 8) (s.size + 8)) (s.size + 8) ((lentL s.data.toList 0).map bv) ∧ (∀ w0, Below B w0 w1 → Below B w0 W2) := by
  obtain ⟨hh1, hB⟩ := owns_heap h rfl
  refine ⟨_, fun ty => run_copy_row_string (P := Tryz.prog) w1 52 9 ty 5 g 0 (s.size + 8) (s.size + 8) s _ 5 Tryz.underlying52 (by kernel_rfl) hh1 (by omega) (by simp [madeCells]), ?_, fun w0 hb => below_setRow hb hB _⟩
  have hl := setRow_heap w1 g _ (List.take 0 (madeCells (Value.int .u8 0).cells ((s.size + 8) * 1)).toList.toArray.toList ++ byteCells s.data.toList ++ List.drop (0 + s.size) (madeCells (Value.int .u8 0).cells ((s.size + 8) * 1)).toList.toArray.toList).toArray 5 (0, 0) hh1
  have e : (List.take 0 (madeCells (Value.int .u8 0).cells ((s.size + 8) * 1)).toList.toArray.toList ++ byteCells s.data.toList ++ List.drop (0 + s.size) (madeCells (Value.int .u8 0).cells ((s.size + 8) * 1)).toList.toArray.toList) = (lentL s.data.toList 0).map bv := by
    have e1 : (madeCells (Value.int .u8 0).cells ((s.size + 8) * 1)).toList = List.replicate (s.size + 8) (Value.int .u8 0) := by
      rw [Nat.mul_one]; exact toList_madeCells_one _ _
    simp only [e1]
    simp [lentL, byteCells, bv]
  rw [e] at hl ⊢
  have hlen : ((lentL s.data.toList 0).map bv).length = s.size + 8 := by rw [List.length_map, lentL_len _ _ (by omega)]; simp
  have := heap_owns hl hB (by rw [hlen]; exact hm)
  rw [hlen] at this
  exact this
set_option maxRecDepth 20000 in
set_option maxHeartbeats 1000000 in
theorem lent_any (s : ByteArray) (w : World) (hn : s.size ≤ 140737488351232) :
    Calls Tryz.prog 54 #[.string s] w fun e w' => e = .returned (.slice (some ⟨w.heap.size, 0, none⟩) (s.size + 8) (s.size + 8)) ∧ w'.ownsRow w.heap.size 5 1 (.slice (some ⟨w.heap.size, 0, none⟩) (s.size + 8) (s.size + 8)) (s.size + 8) ((lentL s.data.toList 8).map bv) ∧ Below w.heap.size w w' := by
  obtain ⟨i0, hi, hz0, hz1, hz2⟩ := info_parts Tryz.infoB
  have hml : s.size + 8 ≤ maxLen := by unfold maxLen; omega
  go_enter Tryz.func54, Tryz.ntmps54
  go_upto_region 2 with (at_make; refine wpList_make_full _ rfl _ _ 52 rfl w.heap.size 5 i0 (.int .u8 0) 1 Tryz.underlying52 hi hz0 hz1 .i64 .i64 _ _ (s.size + 8) rfl rfl (by omega) (by omega) (by rw [hz2]; omega) hml (Nat.le_refl _) ?_; intro w1 hown1 hgrow1)
  have hb1 : Below w.heap.size w w1 := (Below.refl _ _).grown hgrow1 (Nat.le_refl _) (fun k hk => by cases hk)
  obtain ⟨W2, hcp, hown2, hb2⟩ := lent_copy hown1 hml
  have hb2' := hb2 _ hb1
  clear hown1 hgrow1 hb1 hb2
  go_wp2_with fail
  go_loopw [4] (fun i wr => ∃ k : Nat, s.size ≤ k ∧ k ≤ s.size + 8 ∧ i = .int .i64 (k : Int) ∧ wr.ownsRow w.heap.size 5 1 (.slice (some ⟨w.heap.size, 0, none⟩) (s.size + 8) (s.size + 8)) (s.size + 8) ((lentL s.data.toList (k - s.size)).map bv) ∧ Below w.heap.size w wr) (fun i _ => s.size + 8 - (intOf i).toNat)
  case atStart => exact ⟨s.size, by omega, by omega, rfl, by rw [Nat.sub_self]; exact hown2, hb2'⟩
  case round =>
    obtain ⟨k, hk1, hk2, rfl, hown, hbr⟩ := hrel
    clear hown2 hb2' hcp
    by_cases hlt : k < s.size + 8
    · have zj := hown.frozenAt k
      have hlen : (lentL s.data.toList (k - s.size)).length = s.size + 8 := by rw [lentL_len _ _ (by omega)]; simp
      have cj : ∃ v, wr.cell? ⟨w.heap.size, k, none⟩ = some v := by
        have := hown.cellAt k (by omega)
        rw [this]
        exact ⟨_, List.getElem?_eq_getElem (by simp; omega)⟩
      obtain ⟨vj, cj⟩ := cj
      have HW : Hid (((wr.setCell ⟨w.heap.size, k, none⟩ (.int .u8 201)).ownsRow w.heap.size 5 1 (.slice (some ⟨w.heap.size, 0, none⟩) (s.size + 8) (s.size + 8)) (s.size + 8) ((lentL s.data.toList (k + 1 - s.size)).map bv)) ∧ Below w.heap.size w (wr.setCell ⟨w.heap.size, k, none⟩ (.int .u8 201))) := by
        refine ⟨?_, hbr.setCell (by simp) _⟩
        have h1 := (hown.stored k (.int .u8 201)).1
        have e : (.int .u8 201 : Value) = bv 201 := rfl
        have hs := lentL_set s.data.toList (k - s.size) (by omega)
        rw [show s.data.toList.length + (k - s.size) = k from by simp; omega, show k - s.size + 1 = k + 1 - s.size from by omega] at hs
        rw [e, ← List.map_set, hs] at h1
        exact h1
      have hI : (k : Int) < (s.size : Int) + 8 := by omega
      clear hlen
      go_wp2_with fail
      exact ⟨⟨k + 1, by omega, by omega, by go_num, HW.out.1, HW.out.2⟩, by simp [intOf]; omega⟩
    · have e8 : k - s.size = 8 := by omega
      rw [e8] at hown
      clear e8
      go_wp2_with fail
      go_ret
      exact ⟨rfl, hown, hbr⟩

set_option maxHeartbeats 1000000 in
theorem still_any (s : ByteArray) (g cap : Nat) (w : World) (hn : s.size ≤ 140737488351232) (hr : Rd w g 0 (lentL s.data.toList 8)) :
    Calls Tryz.prog 56 #[.slice (some ⟨g, 0, none⟩) (s.size + 8) cap, .string s] w fun e w' => e = .returned (.bool true) ∧ Below w.heap.size w w' := by
  have hlen : (lentL s.data.toList 8).length = s.size + 8 := by rw [lentL_len _ _ (by omega)]; simp
  have c1 : ∀ k (h : k < s.size), w.cell? ⟨g, k, none⟩ = some (.int .u8 ((s[k]).toNat : Int)) := by
    intro k h
    have := hr k (by omega)
    rw [Nat.zero_add] at this
    rw [this]
    have e : (lentL s.data.toList 8)[k]'(by omega) = s[k] := by
      simp only [lentL]
      rw [List.getElem_append_left (by simpa using h)]
      rfl
    rw [e]
  have c2 : ∀ k, s.size ≤ k → k < s.size + 8 → w.cell? ⟨g, k, none⟩ = some (.int .u8 201) := by
    intro k h1 h2
    have := hr k (by omega)
    rw [Nat.zero_add] at this
    rw [this]
    have e : (lentL s.data.toList 8)[k]'(by omega) = 201 := by
      simp only [lentL]
      rw [List.getElem_append_right (by simpa using h1), List.getElem_append_left (by simp; omega), List.getElem_replicate]
    rw [e]; rfl
  have HC1 : Hid (∀ k (h : k < s.size), w.cell? ⟨g, k, none⟩ = some (.int .u8 ((s[k]).toNat : Int))) := c1
  have HC2 : Hid (∀ k, s.size ≤ k → k < s.size + 8 → w.cell? ⟨g, k, none⟩ = some (.int .u8 201)) := c2
  clear c1 c2 hlen
  go_enter Tryz.func56, Tryz.ntmps56
  go_wp2_with fail
  go_loopw [5] (fun i wr => ∃ k : Nat, k ≤ s.size + 8 ∧ i = .int .i64 (k : Int) ∧ ∃ n, wr = w.drewN n) (fun i _ => s.size + 8 - (intOf i).toNat)
  case atStart => exact ⟨0, by omega, rfl, 0, rfl⟩
  case round =>
    obtain ⟨k, hk, rfl, n, rfl⟩ := hrel
    by_cases hlt : k < s.size + 8
    · have hI : (k : Int) < (s.size : Int) + 8 := by omega
      by_cases hs : k < s.size
      · have ck := HC1.out k hs
        have hJ : (k : Int) < (s.size : Int) := by omega
        have hd : decide (s.size ≤ k) = false := by simp; omega
        go_wp2_with fail
        go_quiet (fail)
        go_wp2_with fail
        exact ⟨⟨k + 1, by omega, by go_num, n + nq, rfl⟩, by simp [intOf]; omega⟩
      · have ck := HC2.out k (by omega) hlt
        have hJ : decide ((k : Int) < (s.size : Int)) = false := by simp; omega
        have hd : (s.size : Int) ≤ (k : Int) := by omega
        go_wp2_with fail
        go_quiet (fail)
        go_wp2_with fail
        exact ⟨⟨k + 1, by omega, by go_num, n + nq, rfl⟩, by simp [intOf]; omega⟩
    · go_wp2_with fail
      go_ret
      exact ⟨rfl, below_drewN (Below.refl _ _) _⟩
end Go.Proofs.YtoeihlgidakjbaaGreatDoor

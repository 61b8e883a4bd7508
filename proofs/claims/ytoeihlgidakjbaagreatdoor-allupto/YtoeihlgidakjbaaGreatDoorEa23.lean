/- The laws' example, for any kinds. The laws' example, of the kinds 3 and 4, over any program's ends. -/
import Derived.Test.YtoeihlgidakjbaaGreatDoorEa22
import Derived.Test.YtoeihlgidakjbaaGreatDoorEa21
namespace Go.Proofs.YtoeihlgidakjbaaGreatDoor
open Go.RowKit Go.Lib
theorem nums6 {w w' : World} {x0 x1 x2 x3 x4 x5 : Value} (h : Nums w x0 [5] ∧ Nums w x1 [5] ∧ Nums w x2 [5] ∧ Nums w x3 [5, 6] ∧ Nums w x4 [5, 6] ∧ Nums w x5 [5, 6]) (hb : Below w.heap.size w w') : Nums w' x0 [5] ∧ Nums w' x1 [5] ∧ Nums w' x2 [5] ∧ Nums w' x3 [5, 6] ∧ Nums w' x4 [5, 6] ∧ Nums w' x5 [5, 6] :=
  ⟨h.1.below hb, h.2.1.below hb, h.2.2.1.below hb, h.2.2.2.1.below hb, h.2.2.2.2.1.below hb, h.2.2.2.2.2.below hb⟩
set_option maxRecDepth 100000 in
set_option maxHeartbeats 2000000 in
theorem example_of (least last : Int) (w : World)
    (hup : ∀ (wm : World) (x0 x1 x2 x3 x4 x5 : Value) (LL : ByteArray), LL.size ≤ 2000 → Below w.heap.size w wm → (Nums wm x0 [5] ∧ Nums wm x1 [5] ∧ Nums wm x2 [5] ∧ Nums wm x3 [5, 6] ∧ Nums wm x4 [5, 6] ∧ Nums wm x5 [5, 6]) →
      Calls Tryz.prog 14 #[.slice (some ⟨wm.heap.size, 0, none⟩) 7 7, .int .i64 least, .int .i64 last] (wm.alloc (.cells (exCells x0 x1 x2 x3 x4 x5 LL) 33)) fun r w' => r = .returned (.int .i64 (-1)) ∧ Below (wm.alloc (.cells (exCells x0 x1 x2 x3 x4 x5 LL) 33)).heap.size (wm.alloc (.cells (exCells x0 x1 x2 x3 x4 x5 LL) 33)) w') :
    Calls Tryz.prog 13 #[.int .i64 least, .int .i64 last] w fun r w' => r = .returned (.bool true) ∧ Below w.heap.size w w' := by
  obtain ⟨R, hR⟩ : ∃ R : ByteArray, R = ⟨#[1, 5, 0, 2, 5, 0, 3, 5, 0, 4, 8, 0]⟩ := ⟨_, rfl⟩
  obtain ⟨A, hA⟩ : ∃ A : ByteArray, A = ⟨#[1, 5, 0, 2, 5, 0, 3, 5, 0, 4, 7, 0]⟩ := ⟨_, rfl⟩
  obtain ⟨L1, hd1, hz1, hl1⟩ := ex_line 1 1 R (by decide) (by decide) (by decide) (by decide) (by rw [hR]; decide)
  obtain ⟨L2, hd2, hz2, hl2⟩ := ex_line 2 1 A (by decide) (by decide) (by decide) (by decide) (by rw [hA]; decide)
  have HUP : Hid (_) := hup
  clear hup
  go_enter Tryz.func13, Tryz.ntmps13
  go_upto_region 9 with fail
  obtain ⟨W, hW⟩ : ∃ W, W = (((w.alloc (Obj.cells #[Value.int IntKind.i64 5, Value.int IntKind.i64 1, Value.string ⟨#[]⟩] 27)).alloc (Obj.cells #[Value.int IntKind.i64 1, Value.int IntKind.i64 1, Value.string ⟨#[1, 5, 0, 2, 5, 0, 3, 5, 0, 4, 8, 0]⟩] 27)).alloc (Obj.cells #[Value.int IntKind.i64 2, Value.int IntKind.i64 1, Value.string ⟨#[1, 5, 0, 2, 5, 0, 3, 5, 0, 4, 7, 0]⟩] 27)) := ⟨_, rfl⟩
  have hz : W.heap.size = w.heap.size + 3 := by rw [hW]; simp
  have hbW : Below w.heap.size w W := by rw [hW]; exact (((Below.refl _ _).alloc (Nat.le_refl _) _).alloc (by simp) _).alloc (by simp; omega) _
  obtain ⟨b0, hb0⟩ : ∃ b0, b0 = w.heap.size := ⟨_, rfl⟩
  obtain ⟨b1, hb1⟩ : ∃ b1, b1 = w.heap.size + 1 := ⟨_, rfl⟩
  obtain ⟨b2, hb2⟩ : ∃ b2, b2 = w.heap.size + 1 + 1 := ⟨_, rfl⟩
  have hpx : W.cell? ⟨b0, 0, none⟩ = some (.int .i64 5) ∧ W.cell? ⟨b0, 1, none⟩ = some (.int .i64 1) ∧ W.cell? ⟨b0, 2, none⟩ = some (.string ⟨#[]⟩) ∧ W.cell? ⟨b1, 0, none⟩ = some (.int .i64 1) ∧ W.cell? ⟨b1, 1, none⟩ = some (.int .i64 1) ∧ W.cell? ⟨b1, 2, none⟩ = some (.string R) ∧ W.cell? ⟨b2, 0, none⟩ = some (.int .i64 2) ∧ W.cell? ⟨b2, 1, none⟩ = some (.int .i64 1) ∧ W.cell? ⟨b2, 2, none⟩ = some (.string A) := by
    rw [hW, hb0, hb1, hb2, hR, hA]
    go_simp
  have l0 : b0 < W.heap.size := by omega
  have l1 : b1 < W.heap.size := by omega
  have l2 : b2 < W.heap.size := by omega
  rw [← hW, ← hb2, ← hb1, ← hb0, ← hR]
  have HBW : Hid (Below w.heap.size w W) := hbW
  have HL1 : Hid (∀ w, Calls Tryz.prog 33 #[.agg #[.int .i64 1, .int .i64 1, .string R]] w fun e w' => e = .returned (.string L1) ∧ Below w.heap.size w w') := hl1
  have HL2 : Hid (∀ w, Calls Tryz.prog 33 #[.agg #[.int .i64 2, .int .i64 1, .string A]] w fun e w' => e = .returned (.string L2) ∧ Below w.heap.size w w') := hl2
  have hgt : (9223372036854775807 < L1.size + L2.size) = False := by simp; omega
  have hgt2 : ((9223372036854775807 : Int) < (L1.size : Int) + (L2.size : Int)) = False := by simp; omega
  have hLz : (L1 ++ L2).size ≤ 2000 := by rw [ByteArray.size_append]; omega
  clear hd1 hd2 hbW hl1 hl2 hW hR hA hz hb0 hb1 hb2 hz1 hz2
  go_region_held3 (fun w' => w'.cell? ⟨b0, 0, none⟩ = some (.int .i64 5) ∧ w'.cell? ⟨b0, 1, none⟩ = some (.int .i64 1) ∧ w'.cell? ⟨b0, 2, none⟩ = some (.string ⟨#[]⟩) ∧ w'.cell? ⟨b1, 0, none⟩ = some (.int .i64 1) ∧ w'.cell? ⟨b1, 1, none⟩ = some (.int .i64 1) ∧ w'.cell? ⟨b1, 2, none⟩ = some (.string R) ∧ w'.cell? ⟨b2, 0, none⟩ = some (.int .i64 2) ∧ w'.cell? ⟨b2, 1, none⟩ = some (.int .i64 1) ∧ w'.cell? ⟨b2, 2, none⟩ = some (.string A)) (first | exact hpx | assumption | exact px_below hSm ((Below.refl wm.heap.size wm).alloc (Nat.le_refl _) _) l0m l1m l2m) (first | (go_at_call 32; refine (plain_any _ _).mono ?_; rintro e wq ⟨x0, x1, x2, x3, x4, x5, rfl, hbq, hnum⟩; have hSq := px_below (by exact hpx) hbq (by exact l0) (by exact l1) (by exact l2); have l0q : b0 < wq.heap.size := Nat.lt_of_lt_of_le l0 hbq.size; have l1q : b1 < wq.heap.size := Nat.lt_of_lt_of_le l1 hbq.size; have l2q : b2 < wq.heap.size := Nat.lt_of_lt_of_le l2 hbq.size; have HBq : Hid (Below w.heap.size w wq) := (by first | exact HBW.out.trans (hbq.mono HBW.out.size) | exact HBW.out.drew.trans (hbq.mono HBW.out.size)); have HNq : Hid (Nums wq x0 [5] ∧ Nums wq x1 [5] ∧ Nums wq x2 [5] ∧ Nums wq x3 [5, 6] ∧ Nums wq x4 [5, 6] ∧ Nums wq x5 [5, 6]) := hnum; clear hnum) | (go_at_call_of 33 R; refine (HL1.out _).mono ?_; rintro e wl ⟨rfl, hbl⟩; have hSl := px_below (by exact hSq) hbl (by exact l0q) (by exact l1q) (by exact l2q); have l0l : b0 < wl.heap.size := Nat.lt_of_lt_of_le l0q hbl.size; have l1l : b1 < wl.heap.size := Nat.lt_of_lt_of_le l1q hbl.size; have l2l : b2 < wl.heap.size := Nat.lt_of_lt_of_le l2q hbl.size; have HBl : Hid (Below w.heap.size w wl) := (by first | exact HBq.out.trans (hbl.mono HBq.out.size) | exact HBq.out.drew.trans (hbl.mono HBq.out.size)); have HNl : Hid (Nums wl x0 [5] ∧ Nums wl x1 [5] ∧ Nums wl x2 [5] ∧ Nums wl x3 [5, 6] ∧ Nums wl x4 [5, 6] ∧ Nums wl x5 [5, 6]) := nums6 HNq.out ⟨hbl.os, hbl.tape, hbl.output, hbl.size, hbl.block⟩) | (go_at_call_of 33 A; refine (HL2.out _).mono ?_; rintro e wm ⟨rfl, hbm⟩; have hSm := px_below (by exact hSl) hbm (by exact l0l) (by exact l1l) (by exact l2l); have l0m : b0 < wm.heap.size := Nat.lt_of_lt_of_le l0l hbm.size; have l1m : b1 < wm.heap.size := Nat.lt_of_lt_of_le l1l hbm.size; have l2m : b2 < wm.heap.size := Nat.lt_of_lt_of_le l2l hbm.size; have HBm : Hid (Below w.heap.size w wm) := (by first | exact HBl.out.trans (hbm.mono HBl.out.size) | exact HBl.out.drew.trans (hbm.mono HBl.out.size)); have HNm : Hid (Nums wm x0 [5] ∧ Nums wm x1 [5] ∧ Nums wm x2 [5] ∧ Nums wm x3 [5, 6] ∧ Nums wm x4 [5, 6] ∧ Nums wm x5 [5, 6]) := nums6 HNl.out ⟨hbm.os, hbm.tape, hbm.output, hbm.size, hbm.block⟩))
  go_wp2_with fail
  have hba : Below wm.heap.size wm (wm.alloc (.cells (exCells x0 x1 x2 x3 x4 x5 (L1 ++ L2)) 33)) := (Below.refl _ _).alloc (Nat.le_refl _) _
  have hb4 : Below w.heap.size w (wm.alloc (.cells (exCells x0 x1 x2 x3 x4 x5 (L1 ++ L2)) 33)) := HBm.out.trans (hba.mono HBm.out.size)
  refine Calls.mono (HUP.out wm x0 x1 x2 x3 x4 x5 (L1 ++ L2) hLz HBm.out HNm.out) ?_
  rintro r w9 ⟨rfl, hb9⟩
  have HE : Hid (Below w.heap.size w w9) := hb4.trans (hb9.mono hb4.size)
  clear hb9 hb4 hba hSm hSl hSq hpx
  go_wp2_with fail
  go_ret
  exact ⟨rfl, HE.out⟩
end Go.Proofs.YtoeihlgidakjbaaGreatDoor
namespace Go.Proofs.YtoeihlgidakjbaaGreatDoor
open Go.RowKit Go.Lib
theorem Nums.ints {w : World} {v : Value} {l : List Int} (h : Nums w v l) : IntsAt w v l ∧ ∀ b, v.ownBlock = some b → b < w.heap.size := by
  obtain ⟨g, rfl, hg, hc⟩ := h
  refine ⟨⟨_, _, g, 0, rfl, fun _ => ⟨rfl, hg⟩, fun k hk => ?_⟩, fun b hb => ?_⟩
  · rw [Nat.zero_add]; exact hc k _ (List.getElem?_eq_getElem hk)
  · simp only [Value.ownBlock, Option.some.injEq] at hb; omega
def noX : Nat → Value := fun _ => .slice none 0 0
def noL : Nat → List Int := fun _ => []
def exX (x0 x1 x2 x3 x4 x5 : Value) : Nat → Value
  | 0 => x0
  | 1 => x1
  | 2 => x2
  | 3 => x3
  | 4 => x4
  | _ => x5
def exL (i : Nat) : List Int := if i < 3 then [5] else [5, 6]
def exT (x0 x1 x2 x3 x4 x5 : Value) (LL : ByteArray) : Nat → OpT
  | 0 => ⟨1, 0, 5, 1, ⟨#[]⟩, ⟨#[]⟩, noX, noL, 0, 0⟩
  | 1 => ⟨2, 0, 0, 0, ⟨#[]⟩, ⟨#[5, 1, 119, 1]⟩, noX, noL, 0, 0⟩
  | 2 => ⟨3, 0, 0, 0, ⟨#[]⟩, ⟨#[]⟩, exX x0 x1 x2 x3 x4 x5, exL, 7, 0⟩
  | 3 => ⟨4, 0, 0, 0, ⟨#[]⟩, ⟨#[]⟩, noX, noL, 0, 3⟩
  | 4 => ⟨4, 0, 0, 0, ⟨#[]⟩, ⟨#[]⟩, noX, noL, 0, 1⟩
  | 5 => ⟨5, 0, 0, 0, ⟨#[]⟩, LL, noX, noL, 0, 0⟩
  | _ => ⟨6, 0, 0, 0, ⟨#[]⟩, ⟨#[]⟩, noX, noL, 0, 0⟩
theorem noInts (w : World) (i : Nat) : IntsAt w (noX i) (noL i) := ⟨none, 0, 0, 0, rfl, (fun h => absurd h (Nat.lt_irrefl 0)), (fun k hk => absurd hk (Nat.not_lt_zero k))⟩
theorem exScrT (W : World) (x0 x1 x2 x3 x4 x5 : Value) (LL : ByteArray) (h : Nums W x0 [5] ∧ Nums W x1 [5] ∧ Nums W x2 [5] ∧ Nums W x3 [5, 6] ∧ Nums W x4 [5, 6] ∧ Nums W x5 [5, 6]) :
    ScrT (W.alloc (.cells (exCells x0 x1 x2 x3 x4 x5 LL) 33)) (W.alloc (.cells (exCells x0 x1 x2 x3 x4 x5 LL) 33)).heap.size W.heap.size 0 7 (exT x0 x1 x2 x3 x4 x5 LL) := by
  have hb : Below W.heap.size W (W.alloc (.cells (exCells x0 x1 x2 x3 x4 x5 LL) 33)) := (Below.refl _ _).alloc (Nat.le_refl _) _
  have hn := nums6 h hb
  have hc : ∀ j, (W.alloc (.cells (exCells x0 x1 x2 x3 x4 x5 LL) 33)).cell? ⟨W.heap.size, j, none⟩ = (exCells x0 x1 x2 x3 x4 x5 LL)[j]? := fun j => World.cell?_alloc_at _ _ _ j rfl
  have cells : ∀ (o : OpT) (p : Nat), (∀ t, t < 14 → (exCells x0 x1 x2 x3 x4 x5 LL)[0 + p * 14 + t]? = o.cells[t]?) → ∀ t, t < 14 → (W.alloc (.cells (exCells x0 x1 x2 x3 x4 x5 LL) 33)).cell? ⟨W.heap.size, 0 + p * 14 + t, none⟩ = o.cells[t]? := fun o p hp t ht => (hc _).trans (hp t ht)
  have fourteen : ∀ (Q : Nat → Prop), Q 0 → Q 1 → Q 2 → Q 3 → Q 4 → Q 5 → Q 6 → Q 7 → Q 8 → Q 9 → Q 10 → Q 11 → Q 12 → Q 13 → ∀ t, t < 14 → Q t := by
    intro Q q0 q1 q2 q3 q4 q5 q6 q7 q8 q9 q10 q11 q12 q13 t ht
    rcases (by omega : t = 0 ∨ t = 1 ∨ t = 2 ∨ t = 3 ∨ t = 4 ∨ t = 5 ∨ t = 6 ∨ t = 7 ∨ t = 8 ∨ t = 9 ∨ t = 10 ∨ t = 11 ∨ t = 12 ∨ t = 13) with rfl | rfl | rfl | rfl | rfl | rfl | rfl | rfl | rfl | rfl | rfl | rfl | rfl | rfl <;> assumption
  have plain : ∀ (kd n code id ev : Int) (d s : ByteArray) (p : Nat), (-9223372036854775808 ≤ n ∧ n < 9223372036854775808) → (∀ t, t < 14 → (exCells x0 x1 x2 x3 x4 x5 LL)[0 + p * 14 + t]? = (⟨kd, n, code, id, d, s, noX, noL, 0, ev⟩ : OpT).cells[t]?) → OpAt (W.alloc (.cells (exCells x0 x1 x2 x3 x4 x5 LL) 33)) (W.alloc (.cells (exCells x0 x1 x2 x3 x4 x5 LL) 33)).heap.size W.heap.size (0 + p * 14) ⟨kd, n, code, id, d, s, noX, noL, 0, ev⟩ := fun kd n code id ev d s p hn hp =>
    ⟨cells _ p hp, hn.1, hn.2, fun i _ => noInts _ i, (fun i _ h => absurd h (Nat.lt_irrefl 0)), fun i _ => Nat.zero_le _⟩
  intro i hi
  rcases (by omega : i = 0 ∨ i = 1 ∨ i = 2 ∨ i = 3 ∨ i = 4 ∨ i = 5 ∨ i = 6) with rfl | rfl | rfl | rfl | rfl | rfl | rfl
  · exact plain _ _ _ _ _ _ _ 0 (by decide) (fourteen _ rfl rfl rfl rfl rfl rfl rfl rfl rfl rfl rfl rfl rfl rfl)
  · exact plain _ _ _ _ _ _ _ 1 (by decide) (fourteen _ rfl rfl rfl rfl rfl rfl rfl rfl rfl rfl rfl rfl rfl rfl)
  · obtain ⟨h0, h1, h2, h3, h4, h5⟩ := hn
    refine ⟨cells _ 2 (fourteen _ rfl rfl rfl rfl rfl rfl rfl rfl rfl rfl rfl rfl rfl rfl), (by show (-9223372036854775808 : Int) ≤ 0; decide), (by show (0 : Int) < 9223372036854775808; decide), ?_, ?_, ?_⟩
    · intro j hj
      rcases (by omega : j = 0 ∨ j = 1 ∨ j = 2 ∨ j = 3 ∨ j = 4 ∨ j = 5) with rfl | rfl | rfl | rfl | rfl | rfl
      · exact h0.ints.1
      · exact h1.ints.1
      · exact h2.ints.1
      · exact h3.ints.1
      · exact h4.ints.1
      · exact h5.ints.1
    · intro j hj _ b hb
      rcases (by omega : j = 0 ∨ j = 1 ∨ j = 2 ∨ j = 3 ∨ j = 4 ∨ j = 5) with rfl | rfl | rfl | rfl | rfl | rfl
      · exact h0.ints.2 b hb
      · exact h1.ints.2 b hb
      · exact h2.ints.2 b hb
      · exact h3.ints.2 b hb
      · exact h4.ints.2 b hb
      · exact h5.ints.2 b hb
    · intro j hj
      show (exL j).length ≤ _
      unfold exL; split <;> decide
  · exact plain _ _ _ _ _ _ _ 3 (by decide) (fourteen _ rfl rfl rfl rfl rfl rfl rfl rfl rfl rfl rfl rfl rfl rfl)
  · exact plain _ _ _ _ _ _ _ 4 (by decide) (fourteen _ rfl rfl rfl rfl rfl rfl rfl rfl rfl rfl rfl rfl rfl rfl)
  · exact plain _ _ _ _ _ _ _ 5 (by decide) (fourteen _ rfl rfl rfl rfl rfl rfl rfl rfl rfl rfl rfl rfl rfl rfl)
  · exact plain _ _ _ _ _ _ _ 6 (by decide) (fourteen _ rfl rfl rfl rfl rfl rfl rfl rfl rfl rfl rfl rfl rfl rfl)
end Go.Proofs.YtoeihlgidakjbaaGreatDoor

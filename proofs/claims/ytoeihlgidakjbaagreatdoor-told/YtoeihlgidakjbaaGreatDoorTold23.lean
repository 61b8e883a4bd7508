/- The laws' example, for any kinds. The laws' example, of the kinds 3 and 4, over any program's ends. The law Told, walked, over any program's ends. -/
import Derived.Test.YtoeihlgidakjbaaGreatDoorTold22
import Derived.Test.YtoeihlgidakjbaaGreatDoorTold21
namespace Go.Proofs.YtoeihlgidakjbaaGreatDoor
open Go.RowKit Go.Lib

theorem nums6 {w w' : World} {x0 x1 x2 x3 x4 x5 : Value} (h : Nums w x0 [5] ∧ Nums w x1 [5] ∧ Nums w x2 [5] ∧ Nums w x3 [5, 6] ∧ Nums w x4 [5, 6] ∧ Nums w x5 [5, 6]) (hb : Below w.heap.size w w') : Nums w' x0 [5] ∧ Nums w' x1 [5] ∧ Nums w' x2 [5] ∧ Nums w' x3 [5, 6] ∧ Nums w' x4 [5, 6] ∧ Nums w' x5 [5, 6] :=
  ⟨h.1.below hb, h.2.1.below hb, h.2.2.1.below hb, h.2.2.2.1.below hb, h.2.2.2.2.1.below hb, h.2.2.2.2.2.below hb⟩
set_option maxRecDepth 100000 in
set_option maxHeartbeats 2000000 in
theorem example_of (least last : Int) (w : World)
    (hup : ∀ (wm : World) (x0 x1 x2 x3 x4 x5 : Value) (LL : ByteArray), LL.size ≤ 2000 → Below w.heap.size w wm → (Nums wm x0 [5] ∧ Nums wm x1 [5] ∧ Nums wm x2 [5] ∧ Nums wm x3 [5, 6] ∧ Nums wm x4 [5, 6] ∧ Nums wm x5 [5, 6]) →
      Calls Tryz.prog 14 #[.slice (some ⟨wm.heap.size, 0, none⟩) 7 7, .int .i64 least, .int .i64 last] (wm.alloc (.cells (exCells x0 x1 x2 x3 x4 x5 LL) 33)) fun r w' => r = .returned (.int .i64 (-1)) ∧ Below (wm.alloc (.cells (exCells x0 x1 x2 x3 x4 x5 LL) 33)).heap.size (wm.alloc (.cells (exCells x0 x1 x2 x3 x4 x5 LL) 33)) w') :
    Calls Tryz.prog 13 #[.int .i64 least, .int .i64 last] w fun r w' => r = .returned (.bool true) ∧ Below w.heap.size w w' := by
  obtain ⟨R, hR⟩ : ∃ R : ByteArray, R = ⟨#[1, 5, 0, 2, 5, 0, 3, 5, 0, 4, 8, 0]⟩ := ⟨_, rfl⟩
  obtain ⟨A, hA⟩ : ∃ A : ByteArray, A = ⟨#[1, 5, 0, 2, 5, 0, 3, 5, 0, 4, 7, 0]⟩ := ⟨_, rfl⟩
  obtain ⟨L1, hd1, hz1, hl1⟩ := ex_line 1 1 R (by decide) (by decide) (by decide) (by decide) (by rw [hR]; decide)
  obtain ⟨L2, hd2, hz2, hl2⟩ := ex_line 2 1 A (by decide) (by decide) (by decide) (by decide) (by rw [hA]; decide)
  have HUP : Hid (_) := hup
  clear hup
  go_enter Tryz.func13, Tryz.ntmps13
  go_upto_region 9 with fail
  obtain ⟨W, hW⟩ : ∃ W, W = (((w.alloc (Obj.cells #[Value.int IntKind.i64 5, Value.int IntKind.i64 1, Value.string ⟨#[]⟩] 27)).alloc (Obj.cells #[Value.int IntKind.i64 1, Value.int IntKind.i64 1, Value.string ⟨#[1, 5, 0, 2, 5, 0, 3, 5, 0, 4, 8, 0]⟩] 27)).alloc (Obj.cells #[Value.int IntKind.i64 2, Value.int IntKind.i64 1, Value.string ⟨#[1, 5, 0, 2, 5, 0, 3, 5, 0, 4, 7, 0]⟩] 27)) := ⟨_, rfl⟩
  have hz : W.heap.size = w.heap.size + 3 := by rw [hW]; simp
  have hbW : Below w.heap.size w W := by rw [hW]; exact (((Below.refl _ _).alloc (Nat.le_refl _) _).alloc (by simp) _).alloc (by simp; omega) _
  obtain ⟨b0, hb0⟩ : ∃ b0, b0 = w.heap.size := ⟨_, rfl⟩
  obtain ⟨b1, hb1⟩ : ∃ b1, b1 = w.heap.size + 1 := ⟨_, rfl⟩
  obtain ⟨b2, hb2⟩ : ∃ b2, b2 = w.heap.size + 1 + 1 := ⟨_, rfl⟩
  have hpx : W.cell? ⟨b0, 0, none⟩ = some (.int .i64 5) ∧ W.cell? ⟨b0, 1, none⟩ = some (.int .i64 1) ∧ W.cell? ⟨b0, 2, none⟩ = some (.string ⟨#[]⟩) ∧ W.cell? ⟨b1, 0, none⟩ = some (.int .i64 1) ∧ W.cell? ⟨b1, 1, none⟩ = some (.int .i64 1) ∧ W.cell? ⟨b1, 2, none⟩ = some (.string R) ∧ W.cell? ⟨b2, 0, none⟩ = some (.int .i64 2) ∧ W.cell? ⟨b2, 1, none⟩ = some (.int .i64 1) ∧ W.cell? ⟨b2, 2, none⟩ = some (.string A) := by
    rw [hW, hb0, hb1, hb2, hR, hA]
    go_simp
  have l0 : b0 < W.heap.size := by omega
  have l1 : b1 < W.heap.size := by omega
  have l2 : b2 < W.heap.size := by omega
  rw [← hW, ← hb2, ← hb1, ← hb0, ← hR]
  have HBW : Hid (Below w.heap.size w W) := hbW
  have HL1 : Hid (∀ w, Calls Tryz.prog 33 #[.agg #[.int .i64 1, .int .i64 1, .string R]] w fun e w' => e = .returned (.string L1) ∧ Below w.heap.size w w') := hl1
  have HL2 : Hid (∀ w, Calls Tryz.prog 33 #[.agg #[.int .i64 2, .int .i64 1, .string A]] w fun e w' => e = .returned (.string L2) ∧ Below w.heap.size w w') := hl2
  have hgt : (9223372036854775807 < L1.size + L2.size) = False := by simp; omega
  have hgt2 : ((9223372036854775807 : Int) < (L1.size : Int) + (L2.size : Int)) = False := by simp; omega
  have hLz : (L1 ++ L2).size ≤ 2000 := by rw [ByteArray.size_append]; omega
  clear hd1 hd2 hbW hl1 hl2 hW hR hA hz hb0 hb1 hb2 hz1 hz2
  go_region_held3 (fun w' => w'.cell? ⟨b0, 0, none⟩ = some (.int .i64 5) ∧ w'.cell? ⟨b0, 1, none⟩ = some (.int .i64 1) ∧ w'.cell? ⟨b0, 2, none⟩ = some (.string ⟨#[]⟩) ∧ w'.cell? ⟨b1, 0, none⟩ = some (.int .i64 1) ∧ w'.cell? ⟨b1, 1, none⟩ = some (.int .i64 1) ∧ w'.cell? ⟨b1, 2, none⟩ = some (.string R) ∧ w'.cell? ⟨b2, 0, none⟩ = some (.int .i64 2) ∧ w'.cell? ⟨b2, 1, none⟩ = some (.int .i64 1) ∧ w'.cell? ⟨b2, 2, none⟩ = some (.string A)) (first | exact hpx | assumption | exact px_below hSm ((Below.refl wm.heap.size wm).alloc (Nat.le_refl _) _) l0m l1m l2m) (first | (go_at_call 32; refine (plain_any _ _).mono ?_; rintro e wq ⟨x0, x1, x2, x3, x4, x5, rfl, hbq, hnum⟩; have hSq := px_below (by exact hpx) hbq (by exact l0) (by exact l1) (by exact l2); have l0q : b0 < wq.heap.size := Nat.lt_of_lt_of_le l0 hbq.size; have l1q : b1 < wq.heap.size := Nat.lt_of_lt_of_le l1 hbq.size; have l2q : b2 < wq.heap.size := Nat.lt_of_lt_of_le l2 hbq.size; have HBq : Hid (Below w.heap.size w wq) := (by first | exact HBW.out.trans (hbq.mono HBW.out.size) | exact HBW.out.drew.trans (hbq.mono HBW.out.size)); have HNq : Hid (Nums wq x0 [5] ∧ Nums wq x1 [5] ∧ Nums wq x2 [5] ∧ Nums wq x3 [5, 6] ∧ Nums wq x4 [5, 6] ∧ Nums wq x5 [5, 6]) := hnum; clear hnum) | (go_at_call_of 33 R; refine (HL1.out _).mono ?_; rintro e wl ⟨rfl, hbl⟩; have hSl := px_below (by exact hSq) hbl (by exact l0q) (by exact l1q) (by exact l2q); have l0l : b0 < wl.heap.size := Nat.lt_of_lt_of_le l0q hbl.size; have l1l : b1 < wl.heap.size := Nat.lt_of_lt_of_le l1q hbl.size; have l2l : b2 < wl.heap.size := Nat.lt_of_lt_of_le l2q hbl.size; have HBl : Hid (Below w.heap.size w wl) := (by first | exact HBq.out.trans (hbl.mono HBq.out.size) | exact HBq.out.drew.trans (hbl.mono HBq.out.size)); have HNl : Hid (Nums wl x0 [5] ∧ Nums wl x1 [5] ∧ Nums wl x2 [5] ∧ Nums wl x3 [5, 6] ∧ Nums wl x4 [5, 6] ∧ Nums wl x5 [5, 6]) := nums6 HNq.out ⟨hbl.os, hbl.tape, hbl.output, hbl.size, hbl.block⟩) | (go_at_call_of 33 A; refine (HL2.out _).mono ?_; rintro e wm ⟨rfl, hbm⟩; have hSm := px_below (by exact hSl) hbm (by exact l0l) (by exact l1l) (by exact l2l); have l0m : b0 < wm.heap.size := Nat.lt_of_lt_of_le l0l hbm.size; have l1m : b1 < wm.heap.size := Nat.lt_of_lt_of_le l1l hbm.size; have l2m : b2 < wm.heap.size := Nat.lt_of_lt_of_le l2l hbm.size; have HBm : Hid (Below w.heap.size w wm) := (by first | exact HBl.out.trans (hbm.mono HBl.out.size) | exact HBl.out.drew.trans (hbm.mono HBl.out.size)); have HNm : Hid (Nums wm x0 [5] ∧ Nums wm x1 [5] ∧ Nums wm x2 [5] ∧ Nums wm x3 [5, 6] ∧ Nums wm x4 [5, 6] ∧ Nums wm x5 [5, 6]) := nums6 HNl.out ⟨hbm.os, hbm.tape, hbm.output, hbm.size, hbm.block⟩))
  go_wp2_with fail
  have hba : Below wm.heap.size wm (wm.alloc (.cells (exCells x0 x1 x2 x3 x4 x5 (L1 ++ L2)) 33)) := (Below.refl _ _).alloc (Nat.le_refl _) _
  have hb4 : Below w.heap.size w (wm.alloc (.cells (exCells x0 x1 x2 x3 x4 x5 (L1 ++ L2)) 33)) := HBm.out.trans (hba.mono HBm.out.size)
  refine Calls.mono (HUP.out wm x0 x1 x2 x3 x4 x5 (L1 ++ L2) hLz HBm.out HNm.out) ?_
  rintro r w9 ⟨rfl, hb9⟩
  have HE : Hid (Below w.heap.size w w9) := hb4.trans (hb9.mono hb4.size)
  clear hb9 hb4 hba hSm hSl hSq hpx
  go_wp2_with fail
  go_ret
  exact ⟨rfl, HE.out⟩
end Go.Proofs.YtoeihlgidakjbaaGreatDoor

namespace Go.Proofs.YtoeihlgidakjbaaGreatDoor
open Go.RowKit Go.Lib

theorem Nums.ints {w : World} {v : Value} {l : List Int} (h : Nums w v l) : IntsAt w v l ∧ ∀ b, v.ownBlock = some b → b < w.heap.size := by
  obtain ⟨g, rfl, hg, hc⟩ := h
  refine ⟨⟨_, _, g, 0, rfl, fun _ => ⟨rfl, hg⟩, fun k hk => ?_⟩, fun b hb => ?_⟩
  · rw [Nat.zero_add]; exact hc k _ (List.getElem?_eq_getElem hk)
  · simp only [Value.ownBlock, Option.some.injEq] at hb; omega
def noX : Nat → Value := fun _ => .slice none 0 0
def noL : Nat → List Int := fun _ => []
def exX (x0 x1 x2 x3 x4 x5 : Value) : Nat → Value
  | 0 => x0
  | 1 => x1
  | 2 => x2
  | 3 => x3
  | 4 => x4
  | _ => x5
def exL (i : Nat) : List Int := if i < 3 then [5] else [5, 6]
def exT (x0 x1 x2 x3 x4 x5 : Value) (LL : ByteArray) : Nat → OpT
  | 0 => ⟨1, 0, 5, 1, ⟨#[]⟩, ⟨#[]⟩, noX, noL, 0, 0⟩
  | 1 => ⟨2, 0, 0, 0, ⟨#[]⟩, ⟨#[5, 1, 119, 1]⟩, noX, noL, 0, 0⟩
  | 2 => ⟨3, 0, 0, 0, ⟨#[]⟩, ⟨#[]⟩, exX x0 x1 x2 x3 x4 x5, exL, 7, 0⟩
  | 3 => ⟨4, 0, 0, 0, ⟨#[]⟩, ⟨#[]⟩, noX, noL, 0, 3⟩
  | 4 => ⟨4, 0, 0, 0, ⟨#[]⟩, ⟨#[]⟩, noX, noL, 0, 1⟩
  | 5 => ⟨5, 0, 0, 0, ⟨#[]⟩, LL, noX, noL, 0, 0⟩
  | _ => ⟨6, 0, 0, 0, ⟨#[]⟩, ⟨#[]⟩, noX, noL, 0, 0⟩
theorem noInts (w : World) (i : Nat) : IntsAt w (noX i) (noL i) := ⟨none, 0, 0, 0, rfl, (fun h => absurd h (Nat.lt_irrefl 0)), (fun k hk => absurd hk (Nat.not_lt_zero k))⟩
theorem exScrT (W : World) (x0 x1 x2 x3 x4 x5 : Value) (LL : ByteArray) (h : Nums W x0 [5] ∧ Nums W x1 [5] ∧ Nums W x2 [5] ∧ Nums W x3 [5, 6] ∧ Nums W x4 [5, 6] ∧ Nums W x5 [5, 6]) :
    ScrT (W.alloc (.cells (exCells x0 x1 x2 x3 x4 x5 LL) 33)) (W.alloc (.cells (exCells x0 x1 x2 x3 x4 x5 LL) 33)).heap.size W.heap.size 0 7 (exT x0 x1 x2 x3 x4 x5 LL) := by
  have hb : Below W.heap.size W (W.alloc (.cells (exCells x0 x1 x2 x3 x4 x5 LL) 33)) := (Below.refl _ _).alloc (Nat.le_refl _) _
  have hn := nums6 h hb
  have hc : ∀ j, (W.alloc (.cells (exCells x0 x1 x2 x3 x4 x5 LL) 33)).cell? ⟨W.heap.size, j, none⟩ = (exCells x0 x1 x2 x3 x4 x5 LL)[j]? := fun j => World.cell?_alloc_at _ _ _ j rfl
  have cells : ∀ (o : OpT) (p : Nat), (∀ t, t < 14 → (exCells x0 x1 x2 x3 x4 x5 LL)[0 + p * 14 + t]? = o.cells[t]?) → ∀ t, t < 14 → (W.alloc (.cells (exCells x0 x1 x2 x3 x4 x5 LL) 33)).cell? ⟨W.heap.size, 0 + p * 14 + t, none⟩ = o.cells[t]? := fun o p hp t ht => (hc _).trans (hp t ht)
  have fourteen : ∀ (Q : Nat → Prop), Q 0 → Q 1 → Q 2 → Q 3 → Q 4 → Q 5 → Q 6 → Q 7 → Q 8 → Q 9 → Q 10 → Q 11 → Q 12 → Q 13 → ∀ t, t < 14 → Q t := by
    intro Q q0 q1 q2 q3 q4 q5 q6 q7 q8 q9 q10 q11 q12 q13 t ht
    rcases (by omega : t = 0 ∨ t = 1 ∨ t = 2 ∨ t = 3 ∨ t = 4 ∨ t = 5 ∨ t = 6 ∨ t = 7 ∨ t = 8 ∨ t = 9 ∨ t = 10 ∨ t = 11 ∨ t = 12 ∨ t = 13) with rfl | rfl | rfl | rfl | rfl | rfl | rfl | rfl | rfl | rfl | rfl | rfl | rfl | rfl <;> assumption
  have plain : ∀ (kd n code id ev : Int) (d s : ByteArray) (p : Nat), (-9223372036854775808 ≤ n ∧ n < 9223372036854775808) → (∀ t, t < 14 → (exCells x0 x1 x2 x3 x4 x5 LL)[0 + p * 14 + t]? = (⟨kd, n, code, id, d, s, noX, noL, 0, ev⟩ : OpT).cells[t]?) → OpAt (W.alloc (.cells (exCells x0 x1 x2 x3 x4 x5 LL) 33)) (W.alloc (.cells (exCells x0 x1 x2 x3 x4 x5 LL) 33)).heap.size W.heap.size (0 + p * 14) ⟨kd, n, code, id, d, s, noX, noL, 0, ev⟩ := fun kd n code id ev d s p hn hp =>
    ⟨cells _ p hp, hn.1, hn.2, fun i _ => noInts _ i, (fun i _ h => absurd h (Nat.lt_irrefl 0)), fun i _ => Nat.zero_le _⟩
  intro i hi
  rcases (by omega : i = 0 ∨ i = 1 ∨ i = 2 ∨ i = 3 ∨ i = 4 ∨ i = 5 ∨ i = 6) with rfl | rfl | rfl | rfl | rfl | rfl | rfl
  · exact plain _ _ _ _ _ _ _ 0 (by decide) (fourteen _ rfl rfl rfl rfl rfl rfl rfl rfl rfl rfl rfl rfl rfl rfl)
  · exact plain _ _ _ _ _ _ _ 1 (by decide) (fourteen _ rfl rfl rfl rfl rfl rfl rfl rfl rfl rfl rfl rfl rfl rfl)
  · obtain ⟨h0, h1, h2, h3, h4, h5⟩ := hn
    refine ⟨cells _ 2 (fourteen _ rfl rfl rfl rfl rfl rfl rfl rfl rfl rfl rfl rfl rfl rfl), (by show (-9223372036854775808 : Int) ≤ 0; decide), (by show (0 : Int) < 9223372036854775808; decide), ?_, ?_, ?_⟩
    · intro j hj
      rcases (by omega : j = 0 ∨ j = 1 ∨ j = 2 ∨ j = 3 ∨ j = 4 ∨ j = 5) with rfl | rfl | rfl | rfl | rfl | rfl
      · exact h0.ints.1
      · exact h1.ints.1
      · exact h2.ints.1
      · exact h3.ints.1
      · exact h4.ints.1
      · exact h5.ints.1
    · intro j hj _ b hb
      rcases (by omega : j = 0 ∨ j = 1 ∨ j = 2 ∨ j = 3 ∨ j = 4 ∨ j = 5) with rfl | rfl | rfl | rfl | rfl | rfl
      · exact h0.ints.2 b hb
      · exact h1.ints.2 b hb
      · exact h2.ints.2 b hb
      · exact h3.ints.2 b hb
      · exact h4.ints.2 b hb
      · exact h5.ints.2 b hb
    · intro j hj
      show (exL j).length ≤ _
      unfold exL; split <;> decide
  · exact plain _ _ _ _ _ _ _ 3 (by decide) (fourteen _ rfl rfl rfl rfl rfl rfl rfl rfl rfl rfl rfl rfl rfl rfl)
  · exact plain _ _ _ _ _ _ _ 4 (by decide) (fourteen _ rfl rfl rfl rfl rfl rfl rfl rfl rfl rfl rfl rfl rfl rfl)
  · exact plain _ _ _ _ _ _ _ 5 (by decide) (fourteen _ rfl rfl rfl rfl rfl rfl rfl rfl rfl rfl rfl rfl rfl rfl)
  · exact plain _ _ _ _ _ _ _ 6 (by decide) (fourteen _ rfl rfl rfl rfl rfl rfl rfl rfl rfl rfl rfl rfl rfl rfl)
theorem example_34 {aS aC aF aL aO aH : Addr} (P : Pg) (w : World) (hgl : Gl w aS aC aF aL aO aH) :
    Calls Tryz.prog 13 #[.int .i64 3, .int .i64 4] w fun r w' => r = .returned (.bool true) ∧ Below w.heap.size w w' := by
  refine example_of 3 4 w ?_
  intro wm x0 x1 x2 x3 x4 x5 LL _ hb hn
  have hba : Below w.heap.size w (wm.alloc (.cells (exCells x0 x1 x2 x3 x4 x5 LL) 33)) := hb.alloc hb.size _
  exact upto_e P 4 (.inl rfl) wm.heap.size 0 7 7 (exT x0 x1 x2 x3 x4 x5 LL) _ _ (hgl.below hba) (fun _ => rfl) (fun _ => by simp) (exScrT wm x0 x1 x2 x3 x4 x5 LL hn) (by decide) (fun _ _ _ => by decide)
end Go.Proofs.YtoeihlgidakjbaaGreatDoor

namespace Go.Proofs.YtoeihlgidakjbaaGreatDoor
open Go.RowKit Go.Lib

theorem Tryz.infoOp : (Tryz.prog.info? 33).map (fun i => (i.zero, i.size, i.bytes)) = some (some (.agg #[.int .i64 0, .int .i64 0, .int .i64 0, .int .i64 0, .string ⟨#[]⟩, .string ⟨#[]⟩, .slice none 0 0, .slice none 0 0, .slice none 0 0, .slice none 0 0, .slice none 0 0, .slice none 0 0, .int .i64 0, .int .i64 0]), 14, 224) := by kernel_rfl
theorem newsA (w : World) (A : Array Value) (T : Nat) : ∀ (j : Nat) (u : Value), A.toList[j]? = some u → (w.alloc (.cells A T)).cell? (Addr.add ⟨w.heap.size, 0, none⟩ j) = some u := by
  intro j u hu
  have hadd : (⟨w.heap.size, 0, none⟩ : Addr).add j = ⟨w.heap.size, j, none⟩ := by unfold Addr.add; split <;> simp_all
  rw [hadd, blk_cell (heap_alloc_new w _), ← hu, Array.getElem?_toList]
/-- The cells of steps, one behind the other. -/
def opsC (l : List OpT) : List Value := l.flatMap fun o => o.cells.toList
theorem opsC_len (l : List OpT) : (opsC l).length = l.length * 14 := by
  induction l with
  | nil => rfl
  | cons o l ih =>
    show (o.cells.toList ++ opsC l).length = _
    rw [List.length_append, ih, List.length_cons]
    show 14 + _ = _
    omega
theorem opsC_snoc (l : List OpT) (o : OpT) : opsC (l ++ [o]) = opsC l ++ o.cells.toList := by simp [opsC]
theorem opsC_get (l : List OpT) (i : Nat) (h : i < l.length) (t : Nat) (ht : t < 14) : (opsC l)[i * 14 + t]? = (l[i]).cells[t]? := by
  induction l generalizing i with
  | nil => simp at h
  | cons o l ih =>
    show (o.cells.toList ++ opsC l)[_]? = _
    have h14 : o.cells.toList.length = 14 := rfl
    cases i with
    | zero => rw [List.getElem?_append_left (by rw [h14]; omega)]; simp [Array.getElem?_toList]
    | succ i =>
      rw [List.getElem?_append_right (by rw [h14]; omega), h14, show (i + 1) * 14 + t - 14 = i * 14 + t by omega]
      simp only [List.length_cons] at h
      simpa using ih i (by omega)
theorem own_shapeN {w : World} {B e s : Nat} {v : Value} {n : Nat} {xs : List Value} (h : w.ownsRow B e s v n xs) (_hs : 0 < s) : ∃ a cap g, v = .slice a n cap ∧ (0 < n → a = some ⟨g, 0, none⟩ ∧ B ≤ g ∧ g < w.heap.size) ∧ ∀ j u, xs[j]? = some u → w.cell? ⟨g, j, none⟩ = some u := by
  have h0 := h
  rcases h.2 with ⟨rfl, hz⟩ | ⟨g, cap, cur, rfl, hb, hg, _⟩
  · have hl := h.1
    rw [hz] at hl
    have hx : xs = [] := List.eq_nil_of_length_eq_zero (by omega)
    subst hx
    exact ⟨none, 0, 0, by rw [hz], fun h => by omega, fun j u hu => by simp at hu⟩
  · refine ⟨_, cap, g, rfl, fun _ => ⟨rfl, hb, (Array.getElem?_eq_some_iff.1 hg).1⟩, fun j u hu => ?_⟩
    have hadd : (⟨g, 0, none⟩ : Addr).add j = ⟨g, j, none⟩ := by unfold Addr.add; split <;> simp_all
    rw [← hadd]; exact h0.cells (g := g) rfl j u hu
theorem opc_one {w : World} {B g p : Nat} {o : OpT} (h : OpAt w B g p o) : ∀ u ∈ o.cells.toList, u.oneCell' = true := by
  have hx : ∀ i, i < 6 → (o.X i).oneCell' = true := fun i hi => by
    obtain ⟨a, cap, _, _, e, _, _⟩ := h.x i hi
    rw [e]; rfl
  intro u hu
  simp only [OpT.cells, opA, List.mem_cons, List.not_mem_nil, or_false] at hu
  rcases hu with rfl | rfl | rfl | rfl | rfl | rfl | rfl | rfl | rfl | rfl | rfl | rfl | rfl | rfl
  all_goals first | rfl | exact hx _ (by omega)
/-- What has been chosen so far. -/
structure TS (w wr : World) (n k c : Nat) (O : Nat → OpT) (v : Value) (L : List OpT) : Prop where
  ck : c ≤ k
  len : L.length = c
  own : wr.ownsRow w.heap.size 33 14 v c (opsC L)
  mem : ∀ o ∈ L, o.kd ≠ 5 ∧ ∃ j, j < n ∧ o = O j
  bel : Below w.heap.size w wr
theorem TS.scr {w wr : World} {n k c : Nat} {O : Nat → OpT} {v : Value} {L : List OpT} {g off : Nat} (h : TS w wr n k c O v L) (hs : ScrT w w.heap.size g off n O) (d : OpT) :
    ∃ a cap g', v = .slice a c cap ∧ (0 < c → a = some ⟨g', 0, none⟩) ∧ (0 < c → g' < wr.heap.size) ∧ ScrT wr wr.heap.size g' 0 c (fun i => L.getD i d) := by
  obtain ⟨a, cap, g', rfl, h1, h2⟩ := own_shapeN h.own (by omega)
  refine ⟨a, cap, g', rfl, fun h => (h1 h).1, fun h => (h1 h).2.2, fun i hi => ?_⟩
  have hil : i < L.length := by rw [h.len]; exact hi
  have e : L.getD i d = L[i] := by simp [List.getD, hil]
  show OpAt wr wr.heap.size g' (0 + i * 14) (L.getD i d)
  rw [e]
  obtain ⟨_, j, hj, ej⟩ := h.mem L[i] (List.getElem_mem hil)
  have ho := hs j hj
  rw [← ej] at ho
  refine ⟨fun t ht => ?_, ho.n1, ho.n2, fun x hx => (ho.x x hx).bel (ho.b x hx) h.bel, fun x hx h0 b hb => Nat.lt_of_lt_of_le (ho.b x hx h0 b hb) h.bel.size, ho.l⟩
  have hg := opsC_get L i hil t ht
  have : ∃ u, (L[i]).cells[t]? = some u := by
    have : t < (L[i]).cells.size := ht
    exact ⟨_, Array.getElem?_eq_getElem this⟩
  obtain ⟨u, hu⟩ := this
  rw [hu] at hg
  rw [Nat.zero_add, hu]
  exact h2 _ u hg

set_option maxRecDepth 100000 in
set_option maxHeartbeats 2000000 in
theorem tld_any {aS aC aF aL aO aH : Addr} (P : Pg) (g off n cap : Nat) (O : Nat → OpT) (a : Option Addr) (w : World) (hgl : Gl w aS aC aF aL aO aH) (ha : 0 < n → a = some ⟨g, off, none⟩) (hg : 0 < n → g < w.heap.size) (hsc : ScrT w w.heap.size g off n O) (hn : n ≤ 628292358711) :
    Calls Tryz.prog 4 #[.slice a n cap] w fun r w' => r = .returned (.bool true) ∧ Below w.heap.size w w' := by
  obtain ⟨i0, hi, hz0, hz1, hz2⟩ := info_parts Tryz.infoOp
  have HG : Hid (Gl w aS aC aF aL aO aH) := hgl
  have HA : Hid (0 < n → a = some ⟨g, off, none⟩) := ha
  have HGL : Hid (0 < n → g < w.heap.size) := hg
  have HS : Hid (ScrT w w.heap.size g off n O) := hsc
  clear hgl ha hg hsc
  go_enter Tryz.func4, Tryz.ntmps4
  go_wp2_with fail
  refine Calls.mono (example_34 P w HG.out) ?_
  rintro r w1 ⟨rfl, hb1⟩
  have HB1 : Hid (Below w.heap.size w w1) := hb1
  clear hb1
  go_wp2_with fail
  go_loopw [4, 5] (fun v i wr => ∃ (k c : Nat) (L : List OpT) (a : Option Addr) (cap : Nat), k ≤ n ∧ i = .int .i64 k ∧ v = .slice a c cap ∧ Hid (TS w wr n k c O (.slice a c cap) L)) (fun _ i _ => n - (intOf i).toNat)
  case atStart => exact ⟨0, 0, [], none, 0, Nat.zero_le _, rfl, rfl, Nat.le_refl _, rfl, World.ownsRow_nil _ _ _ _, (fun o ho => by cases ho), HB1.out⟩
  case round =>
    obtain ⟨k, c, L, b, capb, hk, rfl, rfl, HT⟩ := hrel
    by_cases hlt : k < n
    · obtain rfl := HA.out (by omega)
      have hop := (HS.out k hlt).bel HT.out.bel (HGL.out (by omega))
      have HON : Hid (∀ u ∈ (O k).cells.toList, u.oneCell' = true) := opc_one hop
      have hI : (k : Int) < (n : Int) := by omega
      have HOO : Hid (∃ j, j < n ∧ O k = O j) := ⟨k, hlt, rfl⟩
      generalize hO : O k = o at *
      have c0 : wr.cell? ⟨g, off + k * 14, none⟩ = some (.int .i64 o.kd) := hop.c 0 (by omega)
      by_cases h5 : o.kd = 5
      · have hne : (o.kd != 5) = false := by simp [h5]
        clear hop
        go_wp2_with fail
        exact ⟨⟨k + 1, c, L, b, capb, by omega, by go_num, rfl, Nat.le_succ_of_le HT.out.ck, HT.out.len, HT.out.own, HT.out.mem, HT.out.bel⟩, by simp [intOf]; omega⟩
      · have hne : (o.kd != 5) = true := by simp [h5]
        have H5 : Hid (o.kd ≠ 5) := h5
        have c1 : wr.cell? ⟨g, off + k * 14 + 1, none⟩ = some (.int .i64 o.n) := hop.c 1 (by omega)
        have c2 : wr.cell? ⟨g, off + k * 14 + 2, none⟩ = some (.int .i64 o.code) := hop.c 2 (by omega)
        have c3 : wr.cell? ⟨g, off + k * 14 + 3, none⟩ = some (.int .i64 o.id) := hop.c 3 (by omega)
        have c4 : wr.cell? ⟨g, off + k * 14 + 4, none⟩ = some (.string o.d) := hop.c 4 (by omega)
        have c5 : wr.cell? ⟨g, off + k * 14 + 5, none⟩ = some (.string o.s) := hop.c 5 (by omega)
        have c6 : wr.cell? ⟨g, off + k * 14 + 6, none⟩ = some (o.X 0) := hop.c 6 (by omega)
        have c7 : wr.cell? ⟨g, off + k * 14 + 7, none⟩ = some (o.X 1) := hop.c 7 (by omega)
        have c8 : wr.cell? ⟨g, off + k * 14 + 8, none⟩ = some (o.X 2) := hop.c 8 (by omega)
        have c9 : wr.cell? ⟨g, off + k * 14 + 9, none⟩ = some (o.X 3) := hop.c 9 (by omega)
        have c10 : wr.cell? ⟨g, off + k * 14 + 10, none⟩ = some (o.X 4) := hop.c 10 (by omega)
        have c11 : wr.cell? ⟨g, off + k * 14 + 11, none⟩ = some (o.X 5) := hop.c 11 (by omega)
        have c12 : wr.cell? ⟨g, off + k * 14 + 12, none⟩ = some (.int .i64 o.mg) := hop.c 12 (by omega)
        have c13 : wr.cell? ⟨g, off + k * 14 + 13, none⟩ = some (.int .i64 o.ev) := hop.c 13 (by omega)
        have hB := HT.out.bel.size
        have hck := HT.out.ck
        clear hop
        go_wp2_with (at_builtin; go_must (refine wpList_append_lies _ rfl (.tmp 19) (.tmp 24) 22 rfl w.heap.size 33 i0 (.agg #[.int .i64 0, .int .i64 0, .int .i64 0, .int .i64 0, .string ⟨#[]⟩, .string ⟨#[]⟩, .slice none 0 0, .slice none 0 0, .slice none 0 0, .slice none 0 0, .slice none 0 0, .slice none 0 0, .int .i64 0, .int .i64 0]) 14 224 Tryz.underlying22 hi hz0 hz1 hz2 rfl (by decide) _ c (opsC L) rfl (HT.out.own.alloc _) ⟨wr.heap.size, 0, none⟩ 1 1 o.cells.toList rfl rfl (newsA _ _ _) HON.out (by omega) (by unfold maxLen; omega) (by omega) (by simp; omega) _ rfl ?_; intro gv capv w2 hown1 hgrow1 hat1 hlt1))
        have HT2 : Hid (TS w w2 n (k + 1) (c + 1) O (.slice (some ⟨gv, 0, none⟩) (c + 1) capv) (L ++ [o])) := by
          refine ⟨by omega, by rw [List.length_append, HT.out.len]; rfl, by rw [opsC_snoc]; exact hown1, ?_, ?_⟩
          · intro x hx
            rcases List.mem_append.1 hx with hx | hx
            · exact HT.out.mem x hx
            · obtain rfl := List.mem_singleton.1 hx
              exact ⟨H5.out, HOO.out⟩
          · refine (HT.out.bel.alloc HT.out.bel.size _).trans ⟨hgrow1.os, hgrow1.tape, hgrow1.output, hgrow1.size, fun b hb => hgrow1.block b (Nat.lt_of_lt_of_le hb (by simp; omega)) (fun e => ?_)⟩
            have := (HT.out.own.lt b e.symm).1
            omega
        clear hown1 hgrow1 hat1
        go_wp2_with fail
        exact ⟨⟨k + 1, c + 1, L ++ [o], some ⟨gv, 0, none⟩, capv, by omega, by go_num, rfl, HT2.out⟩, by simp [intOf]; omega⟩
    · obtain ⟨a', cap', g', e', h1, h2, h3⟩ := HT.out.scr HS.out ⟨0, 0, 0, 0, ⟨#[]⟩, ⟨#[]⟩, noX, noL, 0, 0⟩
      have hck := HT.out.ck
      have HU : Hid (_) := upto_e P 6 (.inr rfl) g' 0 c cap' _ a' wr (HG.out.below HT.out.bel) h1 h2 h3 (by omega) (fun i hi e5 => by
        have hil : i < L.length := by rw [HT.out.len]; exact hi
        have e : L.getD i ⟨0, 0, 0, 0, ⟨#[]⟩, ⟨#[]⟩, noX, noL, 0, 0⟩ = L[i] := by simp [List.getD, hil]
        exact absurd (e ▸ e5) (HT.out.mem _ (List.getElem_mem hil)).1)
      cases e'
      clear h1 h2 h3
      go_wp2_with fail
      refine Calls.mono HU.out ?_
      rintro r w2 ⟨rfl, hb2⟩
      have HB2 : Hid (Below w.heap.size w w2) := HT.out.bel.trans (hb2.mono HT.out.bel.size)
      clear hb2
      go_wp2_with fail
      go_ret
      exact ⟨rfl, HB2.out⟩
end Go.Proofs.YtoeihlgidakjbaaGreatDoor

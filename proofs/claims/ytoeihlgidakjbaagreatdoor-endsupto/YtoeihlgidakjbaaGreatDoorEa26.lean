/- A script that is handed in: its steps' cells, out of what the argument reads as. A script that is handed in: its steps with their lists, out of what the argument reads as. -/
import Derived.Test.YtoeihlgidakjbaaGreatDoorEa24
import Derived.Test.YtoeihlgidakjbaaGreatDoorEa25
import Derived.OpenShut
import Derived.Deep.Slices
import Derived.SizedLaws
import Derived.Carry
import Derived.Test.YtoeihlgidakjbaaGreatDoorEa23
import Derived.Lib.SmallJoins
namespace Go.Proofs.YtoeihlgidakjbaaGreatDoor
open Go.ChangeShapes Go.WideShapes Go.RowKit Go.Deep
theorem weightsAll_mem {H : Type} {P : Program} {e : TypeId} : ∀ {l : List (DataW H)} {d : DataW H}, d ∈ l → ∀ n ∈ d.weights P e, n ∈ DataW.weightsAll P e l
  | x :: l, d, hd, n, hn => by
    simp only [DataW.weightsAll, List.mem_append]
    rcases List.mem_cons.1 hd with rfl | h
    · exact .inl hn
    · exact .inr (weightsAll_mem h n hn)
  | [], _, hd, _, _ => by cases hd
theorem Tryz.cellsI : Tryz.prog.cellsOf 3 = 1 := by kernel_rfl
theorem Tryz.cellsS : Tryz.prog.cellsOf 9 = 1 := by kernel_rfl
theorem Tryz.cellsPk : Tryz.prog.cellsOf 27 = 3 := by kernel_rfl
theorem Tryz.cellsOp : Tryz.prog.cellsOf 33 = 14 := by kernel_rfl
theorem list14 {α : Type} (cs : List α) (h : cs.length = 14) : ∃ v0 v1 v2 v3 v4 v5 v6 v7 v8 v9 v10 v11 v12 v13, cs = [v0, v1, v2, v3, v4, v5, v6, v7, v8, v9, v10, v11, v12, v13] := by
  match cs, h with
  | [v0, v1, v2, v3, v4, v5, v6, v7, v8, v9, v10, v11, v12, v13], _ => exact ⟨_, _, _, _, _, _, _, _, _, _, _, _, _, _, rfl⟩
def OpC.cells (o : OpC) : List Value := [.int .i64 o.k, .int .i64 o.n, .int .i64 o.code, .int .i64 o.id, .string o.d, .string o.s, o.x0, o.x1, o.x2, o.x3, o.x4, o.x5, o.x6, .int .i64 o.ev]
theorem at_field {H : Type} {enc : TypeId × Value → H} {P : Program} {W : World} {base : Nat} {sp : Nat → Bool} {hd : Bool} {m : Nat} {cs : List Value} {xs : List (DataW H × List MemPlace)} {fs : Array Field}
    (hf : ∀ (i : Nat) (f : Field), fs[i]? = some f → DataW.trod enc P W base sp hd m f.type ((cs.drop f.offset).take (P.cellsOf f.type)) = xs[i]?) (i : Nat) (f : Field) (t o : Nat) (h1 : fs[i]? = some f) (h2 : f.type = t) (h3 : f.offset = o) :
    DataW.trod enc P W base sp hd m t ((cs.drop o).take (P.cellsOf t)) = xs[i]? := by
  subst h2 h3
  exact hf i f h1
end Go.Proofs.YtoeihlgidakjbaaGreatDoor
namespace Go.Proofs.YtoeihlgidakjbaaGreatDoor
open Go.ChangeShapes Go.WideShapes Go.RowKit Go.Deep Go.Joins
theorem Tryz.cellsSl : Tryz.prog.cellsOf 28 = 1 := by kernel_rfl
theorem Tryz.cellsAr : Tryz.prog.cellsOf 29 = 3 := by kernel_rfl
theorem Tryz.cellsCf : Tryz.prog.cellsOf 31 = 7 := by kernel_rfl
theorem Tryz.bytesI : Tryz.prog.bytesOf 3 = 8 := by kernel_rfl
def IntsH (W : World) (v : Value) (l : List Int) : Prop := IntsAt W v l ∧ ∀ b, 0 < l.length → v.ownBlock = some b → b < W.heap.size
theorem ints_of {H : Type} {enc : TypeId × Value → H} {W : World} {sp : Nat → Bool} {hd : Bool} {fuel : Nat} {v : Value} {x : DataW H × List MemPlace} (h : DataW.trod enc Tryz.prog W 0 sp hd fuel 28 [v] = some x) :
    ∃ l : List Int, IntsH W v l ∧ ∀ B, (∀ n ∈ x.1.weights Tryz.prog 28, n ≤ B) → l.length * 8 ≤ B := by
  rcases open_ints Tryz.underlying28 Tryz.underlying3 Tryz.cellsI h with ⟨hcs, hx⟩ | ⟨a, len, cap, zs, hcs, _, hl, _, hz, hx, hcell, _⟩
  · simp only [List.cons.injEq, and_true] at hcs
    subst hcs
    exact ⟨[], ⟨⟨none, 0, 0, 0, rfl, (fun h => absurd h (Nat.lt_irrefl 0)), (fun k hk => absurd hk (Nat.not_lt_zero k))⟩, fun b h => absurd h (Nat.lt_irrefl 0)⟩, fun B _ => Nat.zero_le _⟩
  · simp only [List.cons.injEq, and_true] at hcs
    subst hcs
    obtain ⟨b, off, spot⟩ := a
    have hlz : len ≤ zs.length := by rw [hz]; split <;> omega
    have hlt : (zs.take len).length = len := by rw [List.length_take]; omega
    refine ⟨zs.take len, ?_, ?_⟩
    · by_cases h0 : len = 0
      · subst h0
        exact ⟨⟨_, cap, 0, 0, rfl, (fun h => absurd h (Nat.lt_irrefl 0)), (fun k hk => absurd hk (Nat.not_lt_zero k))⟩, fun b h => absurd h (Nat.lt_irrefl 0)⟩
      · have c0 : W.cell? ⟨b, off, spot⟩ = some (.int .i64 (zs.getD 0 0)) := by
          have := hcell 0 (by omega)
          simp only [Addr.add, if_true] at this
          exact this
        have hspot : spot = none := World.cell?_spot c0
        subst hspot
        have hb : b < W.heap.size := glob_size rfl c0
        refine ⟨⟨some ⟨b, off, none⟩, cap, b, off, by rw [hlt], fun _ => ⟨rfl, hb⟩, fun k hk => ?_⟩, fun b' _ e => ?_⟩
        · rw [hlt] at hk
          have := hcell k (by omega)
          rw [add_plain] at this
          rw [this, List.getElem_take, List.getD, List.getElem?_eq_getElem (by omega)]; rfl
        · simp only [Value.ownBlock, Option.some.injEq] at e; omega
    · intro B hB
      have hm := hB (((lits (H := H) .i64 (zs.take len)).length + (lits (H := H) .i64 (zs.drop len)).length) * Tryz.prog.bytesOf 3) (by rw [hx]; simp [DataW.weights, Tryz.underlying28])
      rw [Tryz.bytesI] at hm
      simp only [lits, List.length_map] at hm
      omega
theorem three_of {H : Type} {enc : TypeId × Value → H} {W : World} {sp : Nat → Bool} {hd : Bool} {fuel : Nat} {v0 v1 v2 : Value} {x : DataW H × List MemPlace} (h : DataW.trod enc Tryz.prog W 0 sp hd fuel 29 [v0, v1, v2] = some x) :
    ∃ l0 l1 l2 : List Int, (IntsH W v0 l0 ∧ IntsH W v1 l1 ∧ IntsH W v2 l2) ∧ ∀ B, (∀ n ∈ x.1.weights Tryz.prog 29, n ≤ B) → l0.length * 8 ≤ B ∧ l1.length * 8 ≤ B ∧ l2.length * 8 ≤ B := by
  obtain ⟨xs, m, _, hx, _, hxl, hf⟩ := DataW.trod_array Tryz.underlying29 h
  have get : ∀ i, i < 3 → ∃ y, xs[i]? = some y := fun i hi => ⟨_, List.getElem?_eq_getElem (by omega)⟩
  obtain ⟨y0, g0⟩ := get 0 (by omega)
  obtain ⟨y1, g1⟩ := get 1 (by omega)
  obtain ⟨y2, g2⟩ := get 2 (by omega)
  have f0 := (hf 0 (by omega)).trans g0
  have f1 := (hf 1 (by omega)).trans g1
  have f2 := (hf 2 (by omega)).trans g2
  simp only [Tryz.cellsSl, List.drop, List.take, Nat.mul_one] at f0 f1 f2
  obtain ⟨l0, i0, w0⟩ := ints_of f0
  obtain ⟨l1, i1, w1⟩ := ints_of f1
  obtain ⟨l2, i2, w2⟩ := ints_of f2
  refine ⟨l0, l1, l2, ⟨i0, i1, i2⟩, fun B hB => ?_⟩
  have sub : ∀ y ∈ xs, ∀ n ∈ y.1.weights Tryz.prog 28, n ≤ B := fun y hy n hn => hB n (by
    rw [hx]
    simp only [DataW.weights, Tryz.underlying29]
    exact weightsAll_mem (List.mem_map.2 ⟨y, hy, rfl⟩) n hn)
  exact ⟨w0 B (sub y0 (List.mem_of_getElem? g0)), w1 B (sub y1 (List.mem_of_getElem? g1)), w2 B (sub y2 (List.mem_of_getElem? g2))⟩
def six {α : Type} (a b c d e f : α) : Nat → α
  | 0 => a
  | 1 => b
  | 2 => c
  | 3 => d
  | 4 => e
  | _ => f
theorem opT_of {H : Type} {enc : TypeId × Value → H} {W : World} {sp : Nat → Bool} {hd : Bool} {fuel : Nat} {cs : List Value} {x : DataW H × List MemPlace} (h : DataW.trod enc Tryz.prog W 0 sp hd fuel 33 cs = some x) :
    ∃ o : OpT, cs = o.cells.toList ∧ (-9223372036854775808 ≤ o.n ∧ o.n < 9223372036854775808) ∧ (∀ i, i < 6 → IntsH W (o.X i) (o.L i)) ∧ ∀ B, (∀ n ∈ x.1.weights Tryz.prog 33, n ≤ B) → ∀ i, i < 6 → (o.L i).length * 8 ≤ B := by
  obtain ⟨xs, m, _, hx, hl, hxl, hf⟩ := DataW.trod_struct Tryz.underlying33 h
  rw [Tryz.cellsOp] at hl
  obtain ⟨v0, v1, v2, v3, v4, v5, v6, v7, v8, v9, v10, v11, v12, v13, rfl⟩ := list14 cs hl
  have hxl' : xs.length = 6 := hxl
  have get : ∀ i, i < 6 → ∃ y, xs[i]? = some y := fun i hi => ⟨_, List.getElem?_eq_getElem (by omega)⟩
  obtain ⟨y0, g0⟩ := get 0 (by omega)
  obtain ⟨y1, g1⟩ := get 1 (by omega)
  obtain ⟨y2, g2⟩ := get 2 (by omega)
  obtain ⟨y3, g3⟩ := get 3 (by omega)
  obtain ⟨y4, g4⟩ := get 4 (by omega)
  obtain ⟨y5, g5⟩ := get 5 (by omega)
  have f0 := (at_field hf 0 _ 3 0 rfl rfl rfl).trans g0
  have f1 := (at_field hf 1 _ 3 1 rfl rfl rfl).trans g1
  have f2 := (at_field hf 2 _ 27 2 rfl rfl rfl).trans g2
  have f3 := (at_field hf 3 _ 9 5 rfl rfl rfl).trans g3
  have f4 := (at_field hf 4 _ 31 6 rfl rfl rfl).trans g4
  have f5 := (at_field hf 5 _ 3 13 rfl rfl rfl).trans g5
  simp only [Tryz.cellsI, Tryz.cellsS, Tryz.cellsPk, Tryz.cellsCf, List.drop, List.take] at f0 f1 f2 f3 f4 f5
  obtain ⟨k, e0, _, _⟩ := DataW.trod_int Tryz.underlying3 f0
  obtain ⟨n, e1, _, wn⟩ := DataW.trod_int Tryz.underlying3 f1
  obtain ⟨ev, e5, _, _⟩ := DataW.trod_int Tryz.underlying3 f5
  obtain ⟨s, e3, _, _⟩ := DataW.trod_string Tryz.underlying9 f3
  obtain ⟨zs, m2, _, _, _, hzl, hg⟩ := DataW.trod_struct Tryz.underlying27 f2
  have hzl' : zs.length = 3 := hzl
  have getz : ∀ i, i < 3 → ∃ y, zs[i]? = some y := fun i hi => ⟨_, List.getElem?_eq_getElem (by omega)⟩
  obtain ⟨z0, k0⟩ := getz 0 (by omega)
  obtain ⟨z1, k1⟩ := getz 1 (by omega)
  obtain ⟨z2, k2⟩ := getz 2 (by omega)
  have p0 := (at_field hg 0 _ 3 0 rfl rfl rfl).trans k0
  have p1 := (at_field hg 1 _ 3 1 rfl rfl rfl).trans k1
  have p2 := (at_field hg 2 _ 9 2 rfl rfl rfl).trans k2
  simp only [Tryz.cellsI, Tryz.cellsS, List.drop, List.take] at p0 p1 p2
  obtain ⟨code, r0, _, _⟩ := DataW.trod_int Tryz.underlying3 p0
  obtain ⟨id, r1, _, _⟩ := DataW.trod_int Tryz.underlying3 p1
  obtain ⟨d, r2, _, _⟩ := DataW.trod_string Tryz.underlying9 p2
  obtain ⟨us, m3, _, hu, _, hul, hh⟩ := DataW.trod_struct Tryz.underlying31 f4
  have hul' : us.length = 3 := hul
  have getu : ∀ i, i < 3 → ∃ y, us[i]? = some y := fun i hi => ⟨_, List.getElem?_eq_getElem (by omega)⟩
  obtain ⟨u0, j0⟩ := getu 0 (by omega)
  obtain ⟨u1, j1⟩ := getu 1 (by omega)
  obtain ⟨u2, j2⟩ := getu 2 (by omega)
  have q0 := (at_field hh 0 _ 29 0 rfl rfl rfl).trans j0
  have q1 := (at_field hh 1 _ 29 3 rfl rfl rfl).trans j1
  have q2 := (at_field hh 2 _ 3 6 rfl rfl rfl).trans j2
  simp only [Tryz.cellsI, Tryz.cellsAr, List.drop, List.take] at q0 q1 q2
  obtain ⟨mg, e12, _, _⟩ := DataW.trod_int Tryz.underlying3 q2
  obtain ⟨l0, l1, l2, ⟨i0, i1, i2⟩, wA⟩ := three_of q0
  obtain ⟨l3, l4, l5, ⟨i3, i4, i5⟩, wB⟩ := three_of q1
  simp only [List.cons.injEq, and_true] at e0 e1 e3 e5 r0 r1 r2 e12
  refine ⟨⟨k, n, code, id, d, s, six v6 v7 v8 v9 v10 v11, six l0 l1 l2 l3 l4 l5, mg, ev⟩, ?_, ?_, ?_, ?_⟩
  · rw [e0, e1, e3, e5, r0, r1, r2, e12]; rfl
  · have := bounds_i64 wn; exact ⟨by show _ ≤ n; omega, by show n < _; omega⟩
  · intro i hi
    rcases (by omega : i = 0 ∨ i = 1 ∨ i = 2 ∨ i = 3 ∨ i = 4 ∨ i = 5) with rfl | rfl | rfl | rfl | rfl | rfl
    · exact i0
    · exact i1
    · exact i2
    · exact i3
    · exact i4
    · exact i5
  · intro B hB i hi
    have subC : ∀ n ∈ y4.1.weights Tryz.prog 31, n ≤ B := fun n hn => hB n (by
      rw [hx]
      simp only [DataW.weights, Tryz.underlying33]
      refine DataW.weights_mem_each (j := 4) (t := 31) (d := y4.1) rfl ?_ n hn
      rw [List.getElem?_map, g4]; rfl)
    have subA : ∀ n ∈ u0.1.weights Tryz.prog 29, n ≤ B := fun n hn => subC n (by
      rw [hu]
      simp only [DataW.weights, Tryz.underlying31]
      refine DataW.weights_mem_each (j := 0) (t := 29) (d := u0.1) rfl ?_ n hn
      rw [List.getElem?_map, j0]; rfl)
    have subB : ∀ n ∈ u1.1.weights Tryz.prog 29, n ≤ B := fun n hn => subC n (by
      rw [hu]
      simp only [DataW.weights, Tryz.underlying31]
      refine DataW.weights_mem_each (j := 1) (t := 29) (d := u1.1) rfl ?_ n hn
      rw [List.getElem?_map, j1]; rfl)
    obtain ⟨a0, a1, a2⟩ := wA B subA
    obtain ⟨a3, a4, a5⟩ := wB B subB
    rcases (by omega : i = 0 ∨ i = 1 ∨ i = 2 ∨ i = 3 ∨ i = 4 ∨ i = 5) with rfl | rfl | rfl | rfl | rfl | rfl
    · exact a0
    · exact a1
    · exact a2
    · exact a3
    · exact a4
    · exact a5
instance : Inhabited OpT := ⟨⟨0, 0, 0, 0, ⟨#[]⟩, ⟨#[]⟩, noX, noL, 0, 0⟩⟩
end Go.Proofs.YtoeihlgidakjbaaGreatDoor

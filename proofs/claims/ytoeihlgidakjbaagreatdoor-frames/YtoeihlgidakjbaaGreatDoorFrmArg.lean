/- A script that is handed in: its steps' cells, out of what the argument reads as. -/
import Derived.Test.YtoeihlgidakjbaaGreatDoorFrames
import Derived.Test.YtoeihlgidakjbaaGreatDoorGlob
import Derived.OpenShut
import Derived.Deep.Slices
import Derived.SizedLaws
import Derived.Carry
namespace Go.Proofs.YtoeihlgidakjbaaGreatDoor
open Go.ChangeShapes Go.WideShapes Go.RowKit Go.Deep

theorem weightsAll_mem {H : Type} {P : Program} {e : TypeId} : ∀ {l : List (DataW H)} {d : DataW H}, d ∈ l → ∀ n ∈ d.weights P e, n ∈ DataW.weightsAll P e l
  | x :: l, d, hd, n, hn => by
    simp only [DataW.weightsAll, List.mem_append]
    rcases List.mem_cons.1 hd with rfl | h
    · exact .inl hn
    · exact .inr (weightsAll_mem h n hn)
  | [], _, hd, _, _ => by cases hd
theorem Tryz.cellsI : Tryz.prog.cellsOf 3 = 1 := by kernel_rfl
theorem Tryz.cellsS : Tryz.prog.cellsOf 9 = 1 := by kernel_rfl
theorem Tryz.cellsPk : Tryz.prog.cellsOf 27 = 3 := by kernel_rfl
theorem Tryz.cellsOp : Tryz.prog.cellsOf 33 = 14 := by kernel_rfl
theorem Tryz.bytesOp : Tryz.prog.bytesOf 33 = 224 := by kernel_rfl
theorem list14 {α : Type} (cs : List α) (h : cs.length = 14) : ∃ v0 v1 v2 v3 v4 v5 v6 v7 v8 v9 v10 v11 v12 v13, cs = [v0, v1, v2, v3, v4, v5, v6, v7, v8, v9, v10, v11, v12, v13] := by
  match cs, h with
  | [v0, v1, v2, v3, v4, v5, v6, v7, v8, v9, v10, v11, v12, v13], _ => exact ⟨_, _, _, _, _, _, _, _, _, _, _, _, _, _, rfl⟩
def OpC.cells (o : OpC) : List Value := [.int .i64 o.k, .int .i64 o.n, .int .i64 o.code, .int .i64 o.id, .string o.d, .string o.s, o.x0, o.x1, o.x2, o.x3, o.x4, o.x5, o.x6, .int .i64 o.ev]
theorem at_field {H : Type} {enc : TypeId × Value → H} {P : Program} {W : World} {base : Nat} {sp : Nat → Bool} {hd : Bool} {m : Nat} {cs : List Value} {xs : List (DataW H × List MemPlace)} {fs : Array Field}
    (hf : ∀ (i : Nat) (f : Field), fs[i]? = some f → DataW.trod enc P W base sp hd m f.type ((cs.drop f.offset).take (P.cellsOf f.type)) = xs[i]?) (i : Nat) (f : Field) (t o : Nat) (h1 : fs[i]? = some f) (h2 : f.type = t) (h3 : f.offset = o) :
    DataW.trod enc P W base sp hd m t ((cs.drop o).take (P.cellsOf t)) = xs[i]? := by
  subst h2 h3
  exact hf i f h1
theorem op_of {H : Type} {enc : TypeId × Value → H} {W : World} {base : Nat} {sp : Nat → Bool} {hd : Bool} {fuel : Nat} {cs : List Value} {x : DataW H × List MemPlace} (h : DataW.trod enc Tryz.prog W base sp hd fuel 33 cs = some x) :
    ∃ o : OpC, cs = o.cells ∧ o.d.size ≤ maxLen ∧ ∀ B, (∀ n ∈ x.1.weights Tryz.prog 33, n ≤ B) → o.s.size ≤ B := by
  obtain ⟨xs, m, _, hx, hl, hxl, hf⟩ := DataW.trod_struct Tryz.underlying33 h
  rw [Tryz.cellsOp] at hl
  obtain ⟨v0, v1, v2, v3, v4, v5, v6, v7, v8, v9, v10, v11, v12, v13, rfl⟩ := list14 cs hl
  have hxl' : xs.length = 6 := hxl
  have get : ∀ i, i < 6 → ∃ y, xs[i]? = some y := fun i hi => ⟨_, List.getElem?_eq_getElem (by omega)⟩
  obtain ⟨y0, g0⟩ := get 0 (by omega)
  obtain ⟨y1, g1⟩ := get 1 (by omega)
  obtain ⟨y2, g2⟩ := get 2 (by omega)
  obtain ⟨y3, g3⟩ := get 3 (by omega)
  obtain ⟨y5, g5⟩ := get 5 (by omega)
  have f0 := (at_field hf 0 _ 3 0 rfl rfl rfl).trans g0
  have f1 := (at_field hf 1 _ 3 1 rfl rfl rfl).trans g1
  have f2 := (at_field hf 2 _ 27 2 rfl rfl rfl).trans g2
  have f3 := (at_field hf 3 _ 9 5 rfl rfl rfl).trans g3
  have f5 := (at_field hf 5 _ 3 13 rfl rfl rfl).trans g5
  simp only [Tryz.cellsI, Tryz.cellsS, Tryz.cellsPk, List.drop, List.take] at f0 f1 f2 f3 f5
  obtain ⟨k, e0, _, _⟩ := DataW.trod_int Tryz.underlying3 f0
  obtain ⟨n, e1, _, _⟩ := DataW.trod_int Tryz.underlying3 f1
  obtain ⟨ev, e5, _, _⟩ := DataW.trod_int Tryz.underlying3 f5
  obtain ⟨s, e3, hy3, _⟩ := DataW.trod_string Tryz.underlying9 f3
  obtain ⟨zs, m2, _, _, _, hzl, hg⟩ := DataW.trod_struct Tryz.underlying27 f2
  have hzl' : zs.length = 3 := hzl
  have getz : ∀ i, i < 3 → ∃ y, zs[i]? = some y := fun i hi => ⟨_, List.getElem?_eq_getElem (by omega)⟩
  obtain ⟨z0, k0⟩ := getz 0 (by omega)
  obtain ⟨z1, k1⟩ := getz 1 (by omega)
  obtain ⟨z2, k2⟩ := getz 2 (by omega)
  have p0 := (at_field hg 0 _ 3 0 rfl rfl rfl).trans k0
  have p1 := (at_field hg 1 _ 3 1 rfl rfl rfl).trans k1
  have p2 := (at_field hg 2 _ 9 2 rfl rfl rfl).trans k2
  simp only [Tryz.cellsI, Tryz.cellsS, List.drop, List.take] at p0 p1 p2
  obtain ⟨code, r0, _, _⟩ := DataW.trod_int Tryz.underlying3 p0
  obtain ⟨id, r1, _, _⟩ := DataW.trod_int Tryz.underlying3 p1
  obtain ⟨d, r2, _, hdz⟩ := DataW.trod_string Tryz.underlying9 p2
  simp only [List.cons.injEq, and_true] at e0 e1 e3 e5 r0 r1 r2
  refine ⟨⟨k, n, code, id, d, s, v6, v7, v8, v9, v10, v11, v12, ev⟩, ?_, hdz, ?_⟩
  · rw [e0, e1, e3, e5, r0, r1, r2]; rfl
  · intro B hB
    have hm : s.data.toList.length ∈ x.1.weights Tryz.prog 33 := by
      rw [hx]
      simp only [DataW.weights, Tryz.underlying33]
      refine DataW.weights_mem_each (j := 3) (t := 9) (d := .lit (.string s.data.toList)) rfl ?_ _ (by simp [DataW.weights])
      rw [List.getElem?_map, g3, hy3]; rfl
    have := hB _ hm
    simpa using this
end Go.Proofs.YtoeihlgidakjbaaGreatDoor

/- What the row's list gives: the cells of the package-level variables; and a start that meets it. What the keeps' arguments read as: numbers, acts, their bulk. -/
import Derived.Test.YtoeihlgidakjbaaGreatDoorRows
import Derived.Test.YtoeihlgidakjbaaGreatDoorCm2
import Derived.Test.YtoeihlgidakjbaaGreatDoorCm8
import Derived.ProofKit
import Derived.LaidMore
import Derived.LaidLaws
import Derived.LaidHandle
import Derived.Stop.LaidTwo
import Derived.Test.YtoeihlgidakjbaaGreatDoorCm33
import Derived.OpenShut
import Derived.Deep.Slices
import Derived.SizedLaws
import Derived.Carry
import Derived.Lib.SmallJoins
namespace Go.Proofs.YtoeihlgidakjbaaGreatDoor
open Go.ChangeShapes Go.WideShapes Go.RowKit
theorem Tryz.own : ownKnob Tryz.prog.godebug = none := by kernel_rfl
theorem Tryz.gF : Tryz.prog.globalNamed "concord/line.ErrFlag" = some 1 := by kernel_rfl
theorem Tryz.gO : Tryz.prog.globalNamed "concord/line.ErrLoose" = some 3 := by kernel_rfl
theorem Tryz.gH : Tryz.prog.globalNamed "concord/line.ErrShort" = some 4 := by kernel_rfl
theorem Tryz.gL : Tryz.prog.globalNamed "concord/line.ErrLong" = some 2 := by kernel_rfl
theorem Tryz.gS : Tryz.prog.globalNamed "concord/line.ErrSum" = some 0 := by kernel_rfl
theorem Tryz.gC : Tryz.prog.globalNamed "concord/line.ErrCode" = some 5 := by kernel_rfl
theorem Tryz.tF : (Tryz.prog.globals[1]?).map (·.type) = some 118 := by kernel_rfl
theorem Tryz.tO : (Tryz.prog.globals[3]?).map (·.type) = some 118 := by kernel_rfl
theorem Tryz.tH : (Tryz.prog.globals[4]?).map (·.type) = some 118 := by kernel_rfl
theorem Tryz.tL : (Tryz.prog.globals[2]?).map (·.type) = some 118 := by kernel_rfl
theorem Tryz.tS : (Tryz.prog.globals[0]?).map (·.type) = some 118 := by kernel_rfl
theorem Tryz.tC : (Tryz.prog.globals[5]?).map (·.type) = some 118 := by kernel_rfl
theorem Tryz.cellsE : Tryz.prog.cellsOf 236 = 1 := by kernel_rfl
theorem Tryz.cells9 : Tryz.prog.cellsOf 9 = 1 := by kernel_rfl
theorem Tryz.star : "*" ++ "errors.errorString" = "*errors.errorString" := by decide
theorem Tryz.rowE (u : TypeId) (h : Tryz.prog.typeName? 3 u = some "*errors.errorString") : u = 216 :=
  typeName_ptr_named (nm := "errors.errorString") (by rw [Tryz.star]; kernel_rfl) (by kernel_rfl) (by decide) u (by rw [Tryz.star]; exact h)
theorem Tryz.size : Tryz.prog.types.size = 247 := by kernel_rfl
theorem glob_size {W : World} {a : Addr} {v : Value} {n : Nat} (hn : n = a.block) (h : W.cell? a = some v) : n < W.heap.size := by
  subst hn
  rcases Nat.lt_or_ge a.block W.heap.size with h' | h'
  · exact h'
  · simp [World.cell?, Array.getElem?_eq_none h'] at h
theorem Tryz.gN2 : Tryz.prog.globalNamed "concord/terms.ErrNone" = some 8 := by kernel_rfl
theorem Tryz.tN2 : (Tryz.prog.globals[8]?).map (·.type) = some 118 := by kernel_rfl
theorem Tryz.gP2 : Tryz.prog.globalNamed "concord/terms.ErrPart" = some 9 := by kernel_rfl
theorem Tryz.tP2 : (Tryz.prog.globals[9]?).map (·.type) = some 118 := by kernel_rfl
theorem Tryz.gR2 : Tryz.prog.globalNamed "concord/terms.ErrOrder" = some 10 := by kernel_rfl
theorem Tryz.tR2 : (Tryz.prog.globals[10]?).map (·.type) = some 118 := by kernel_rfl
theorem Tryz.gM2 : Tryz.prog.globalNamed "concord/terms.ErrMissing" = some 7 := by kernel_rfl
theorem Tryz.tM2 : (Tryz.prog.globals[7]?).map (·.type) = some 118 := by kernel_rfl
theorem gr_of_laid {W : World} (hL : laidMet Tryz.prog [("concord/line.ErrFlag", Rows.laid_concord_line_ErrFlag), ("concord/line.ErrLoose", Rows.laid_concord_line_ErrLoose), ("concord/line.ErrShort", Rows.laid_concord_line_ErrShort), ("concord/line.ErrLong", Rows.laid_concord_line_ErrLong), ("concord/line.ErrSum", Rows.laid_concord_line_ErrSum), ("concord/line.ErrCode", Rows.laid_concord_line_ErrCode), ("concord/terms.ErrNone", Rows.laid_concord_terms_ErrNone), ("concord/terms.ErrPart", Rows.laid_concord_terms_ErrPart), ("concord/terms.ErrOrder", Rows.laid_concord_terms_ErrOrder), ("concord/terms.ErrMissing", Rows.laid_concord_terms_ErrMissing)] W) : ∃ aS aC aF aL aO aH, Gr W aS aC aF aL aO aH ∧ Gt W := by
  obtain ⟨aF, sF, vF, _, _, _⟩ := laid_sentinel hL Tryz.gF Tryz.tF Tryz.underlying118 Tryz.rowE Tryz.underlying216 Tryz.underlying236 rfl rfl Tryz.underlying9 Tryz.cellsE Tryz.cells9
  have hL1 := laidMet.tail hL
  obtain ⟨aO, sO, vO, _, _, _⟩ := laid_sentinel hL1 Tryz.gO Tryz.tO Tryz.underlying118 Tryz.rowE Tryz.underlying216 Tryz.underlying236 rfl rfl Tryz.underlying9 Tryz.cellsE Tryz.cells9
  have hL2 := laidMet.tail hL1
  obtain ⟨aH, sH, vH, _, _, _⟩ := laid_sentinel hL2 Tryz.gH Tryz.tH Tryz.underlying118 Tryz.rowE Tryz.underlying216 Tryz.underlying236 rfl rfl Tryz.underlying9 Tryz.cellsE Tryz.cells9
  have hL3 := laidMet.tail hL2
  obtain ⟨aL, sL, vL, _, _, _⟩ := laid_sentinel hL3 Tryz.gL Tryz.tL Tryz.underlying118 Tryz.rowE Tryz.underlying216 Tryz.underlying236 rfl rfl Tryz.underlying9 Tryz.cellsE Tryz.cells9
  have hL4 := laidMet.tail hL3
  obtain ⟨aS, aC, sS, sC, cS, cC, tS, tC, vS, vC, _, _, _, _, _, _, hne, bS, bC⟩ := laid_sentinels2 hL4 Tryz.gS Tryz.tS Tryz.gC Tryz.tC Tryz.underlying118 Tryz.rowE Tryz.underlying216 Tryz.underlying236 rfl rfl Tryz.underlying9 Tryz.cellsE Tryz.cells9
  have hL5 := laidMet.tail (laidMet.tail hL4)
  obtain ⟨aN, sN, vN, _, _, _⟩ := laid_sentinel hL5 Tryz.gN2 Tryz.tN2 Tryz.underlying118 Tryz.rowE Tryz.underlying216 Tryz.underlying236 rfl rfl Tryz.underlying9 Tryz.cellsE Tryz.cells9
  have hL6 := laidMet.tail hL5
  obtain ⟨aP, sP, vP, _, _, _⟩ := laid_sentinel hL6 Tryz.gP2 Tryz.tP2 Tryz.underlying118 Tryz.rowE Tryz.underlying216 Tryz.underlying236 rfl rfl Tryz.underlying9 Tryz.cellsE Tryz.cells9
  have hL7 := laidMet.tail hL6
  obtain ⟨aR, sR, vR, _, _, _⟩ := laid_sentinel hL7 Tryz.gR2 Tryz.tR2 Tryz.underlying118 Tryz.rowE Tryz.underlying216 Tryz.underlying236 rfl rfl Tryz.underlying9 Tryz.cellsE Tryz.cells9
  have hL8 := laidMet.tail hL7
  obtain ⟨aM, sM, vM, _, _, _⟩ := laid_sentinel hL8 Tryz.gM2 Tryz.tM2 Tryz.underlying118 Tryz.rowE Tryz.underlying216 Tryz.underlying236 rfl rfl Tryz.underlying9 Tryz.cellsE Tryz.cells9
  have cR : W.cell? ⟨10, 0, none⟩ = some (.iface 216 (.pointer (some aR))) := by simpa using World.var?_cell Tryz.gR2 vR 0
  have z := glob_size (n := 10) rfl cR
  exact ⟨aS, aC, aF, aL, aO, aH, ⟨by simpa using World.var?_cell Tryz.gS vS 0, by simpa using World.var?_cell Tryz.gF vF 0, by simpa using World.var?_cell Tryz.gL vL 0, by simpa using World.var?_cell Tryz.gO vO 0, by simpa using World.var?_cell Tryz.gH vH 0, by simpa using World.var?_cell Tryz.gC vC 0, hne, ⟨cS, tS, bS⟩, ⟨cC, tC, bC⟩, z⟩, ⟨⟨aM, by simpa using World.var?_cell Tryz.gM2 vM 0⟩, ⟨aN, by simpa using World.var?_cell Tryz.gN2 vN 0⟩, ⟨aP, by simpa using World.var?_cell Tryz.gP2 vP 0⟩, ⟨aR, cR⟩⟩⟩
end Go.Proofs.YtoeihlgidakjbaaGreatDoor
namespace Go.Proofs.YtoeihlgidakjbaaGreatDoor
open Go.ChangeShapes Go.WideShapes Go.RowKit Go.Deep Go.Joins
theorem Tryz.kcellsI : Tryz.prog.cellsOf 3 = 1 := by kernel_rfl
theorem Tryz.kcellsB : Tryz.prog.cellsOf 4 = 1 := by kernel_rfl
theorem Tryz.kcellsAct : Tryz.prog.cellsOf 44 = 2 := by kernel_rfl
theorem kbulk_one {H : Type} (d : DataW H) : 1 ≤ Rows.uptoBulk d := by
  cases d with
  | lit l => cases l <;> simp [Rows.uptoBulk]
  | nil => simp [Rows.uptoBulk]
  | ptr d => simp [Rows.uptoBulk]
  | slice elems spare => simp [Rows.uptoBulk]
  | agg parts => simp [Rows.uptoBulk]
  | iface t d => simp [Rows.uptoBulk]
  | map entries => simp [Rows.uptoBulk]
  | held h => simp [Rows.uptoBulk]
theorem kbulk_len {H : Type} (l : List (DataW H)) : l.length ≤ Rows.uptoBulkAll l := by
  induction l with
  | nil => simp [Rows.uptoBulkAll]
  | cons x r ih =>
    have := kbulk_one x
    simp only [Rows.uptoBulkAll, List.length_cons]; omega
theorem kints_of {H : Type} {enc : TypeId × Value → H} {W : World} {v : Value} {d : DataW H} {ps : List MemPlace} (h : DataW.Trod enc Tryz.prog W 0 (fun _ => true) true 28 v d ps) (hs : ∃ a n c, v = .slice a n c) :
    ∃ l : List Int, IntsAt W v l ∧ Raw l ∧ l.length ≤ Rows.uptoBulk d := by
  obtain ⟨fuel, hf⟩ := h
  obtain ⟨va, vn, vc, rfl⟩ := hs
  rcases open_ints Tryz.underlying28 Tryz.underlying3 Tryz.kcellsI hf with ⟨hcs, _⟩ | ⟨a, len, cap, zs, hcs, _, hl, _, hz, hx, hcell, hwf⟩
  · simp [Value.cells] at hcs
    obtain ⟨rfl, rfl, rfl⟩ := hcs
    exact ⟨[], ints_nil W, fun _ q => (nomatch q), Nat.zero_le _⟩
  · simp [Value.cells] at hcs
    obtain ⟨rfl, rfl, rfl⟩ := hcs
    simp only [Prod.mk.injEq] at hx
    obtain ⟨rfl, _⟩ := hx
    obtain ⟨b, off, spot⟩ := a
    have hlz : vn ≤ zs.length := by rw [hz]; split <;> omega
    have hlt : (zs.take vn).length = vn := by rw [List.length_take]; omega
    refine ⟨zs.take vn, ?_, fun x hx => ?_, ?_⟩
    · by_cases h0 : vn = 0
      · subst h0
        exact ⟨_, vc, 0, 0, by rw [hlt], (fun h => by rw [hlt] at h; omega), (fun k hk => by rw [hlt] at hk; omega)⟩
      · have c0 : W.cell? ⟨b, off, spot⟩ = some (.int .i64 (zs.getD 0 0)) := by
          have := hcell 0 (by omega)
          simp only [Addr.add, if_true] at this
          exact this
        have hspot : spot = none := World.cell?_spot c0
        subst hspot
        have hb : b < W.heap.size := glob_size rfl c0
        refine ⟨some ⟨b, off, none⟩, vc, b, off, by rw [hlt], fun _ => ⟨rfl, hb⟩, fun k hk => ?_⟩
        rw [hlt] at hk
        have := hcell k (by omega)
        rw [add_plain] at this
        rw [this, List.getElem_take, List.getD, List.getElem?_eq_getElem (by omega)]; rfl
    · have := bounds_i64 (hwf x (List.mem_of_mem_take hx))
      omega
    · have h1 := kbulk_len (lits (H := H) .i64 (zs.take vn))
      simp only [lits, List.length_map] at h1
      simp only [Rows.uptoBulk, lits]
      omega
theorem list2 {α : Type} (cs : List α) (h : cs.length = 2) : ∃ a b, cs = [a, b] := by
  match cs, h with
  | [a, b], _ => exact ⟨_, _, rfl⟩
theorem kat_field {H : Type} {enc : TypeId × Value → H} {P : Program} {W : World} {base : Nat} {sp : Nat → Bool} {hd : Bool} {m : Nat} {cs : List Value} {xs : List (DataW H × List MemPlace)} {fs : Array Field}
    (hf : ∀ (i : Nat) (f : Field), fs[i]? = some f → DataW.trod enc P W base sp hd m f.type ((cs.drop f.offset).take (P.cellsOf f.type)) = xs[i]?) (i : Nat) (f : Field) (t o : Nat) (h1 : fs[i]? = some f) (h2 : f.type = t) (h3 : f.offset = o) :
    DataW.trod enc P W base sp hd m t ((cs.drop o).take (P.cellsOf t)) = xs[i]? := by
  subst h2 h3
  exact hf i f h1
theorem act_of {H : Type} {enc : TypeId × Value → H} {W : World} {base : Nat} {sp : Nat → Bool} {hd : Bool} {fuel : Nat} {cs : List Value} {x : DataW H × List MemPlace} (h : DataW.trod enc Tryz.prog W base sp hd fuel 44 cs = some x) :
    ∃ (o : Int × Bool), cs = [.int .i64 o.1, .bool o.2] ∧ -9223372036854775808 ≤ o.1 ∧ o.1 < 9223372036854775808 := by
  obtain ⟨xs, m, _, hx, hl, hxl, hf⟩ := DataW.trod_struct Tryz.underlying44 h
  rw [Tryz.kcellsAct] at hl
  obtain ⟨v0, v1, rfl⟩ := list2 cs hl
  have hxl' : xs.length = 2 := hxl
  have get : ∀ i, i < 2 → ∃ y, xs[i]? = some y := fun i hi => ⟨_, List.getElem?_eq_getElem (by omega)⟩
  obtain ⟨y0, g0⟩ := get 0 (by omega)
  obtain ⟨y1, g1⟩ := get 1 (by omega)
  have f0 := (kat_field hf 0 _ 3 0 rfl rfl rfl).trans g0
  have f1 := (kat_field hf 1 _ 4 1 rfl rfl rfl).trans g1
  simp only [Tryz.kcellsI, Tryz.kcellsB, List.drop, List.take] at f0 f1
  obtain ⟨k, e0, _, wk⟩ := DataW.trod_int Tryz.underlying3 f0
  obtain ⟨b, e1, _⟩ := DataW.trod_bool Tryz.underlying4 f1
  have := bounds_i64 wk
  simp only [List.cons.injEq, and_true] at e0 e1
  subst e0 e1
  exact ⟨(k, b), rfl, by show _ ≤ k; omega, by show k < _; omega⟩
theorem kacts_of {H : Type} {enc : TypeId × Value → H} {W : World} {v : Value} {d : DataW H} {ps : List MemPlace} (h : DataW.Trod enc Tryz.prog W 0 (fun _ => true) true 34 v d ps) (hs : ∃ a n c, v = .slice a n c) :
    ∃ n K F, ActsAt W v n K F ∧ n ≤ Rows.uptoBulk d := by
  obtain ⟨fuel, hf⟩ := h
  obtain ⟨va, vn, vc, rfl⟩ := hs
  rcases open_slice Tryz.underlying34 hf with ⟨hcs, _⟩ | ⟨a, len, cap, m, n, D, Pl, hcs, _, hl, _, hm, hx, hel⟩
  · simp [Value.cells] at hcs
    obtain ⟨rfl, rfl, rfl⟩ := hcs
    exact ⟨0, fun _ => 0, fun _ => false, ⟨none, 0, 0, 0, rfl, fun h => by omega, fun i hi => by omega⟩, Nat.zero_le _⟩
  · simp [Value.cells] at hcs
    obtain ⟨rfl, rfl, rfl⟩ := hcs
    simp only [if_true] at hm
    subst hm
    simp only [Prod.mk.injEq] at hx
    obtain ⟨rfl, _⟩ := hx
    rw [Tryz.kcellsAct] at hel
    obtain ⟨O, hO⟩ := choose_lt (n := vn) (p := fun i (o : Int × Bool) => W.cells? 0 (a.add (i * 2)) 2 = some [.int .i64 o.1, .bool o.2] ∧ -9223372036854775808 ≤ o.1 ∧ o.1 < 9223372036854775808) (fun i hi => by
      obtain ⟨cs', h1, h2⟩ := hel i (by omega)
      obtain ⟨o, rfl, hd⟩ := act_of h2
      exact ⟨o, h1, hd⟩)
    obtain ⟨b, off, spot⟩ := a
    have hbk : vn ≤ Rows.uptoBulk (DataW.slice ((List.range vn).map D) ((List.range (m - vn)).map fun j => D (vn + j))) := by
      have h1 := kbulk_len ((List.range vn).map D)
      simp only [List.length_map, List.length_range] at h1
      simp only [Rows.uptoBulk]
      omega
    refine ⟨vn, fun i => (O i).1, fun i => (O i).2, ?_, hbk⟩
    by_cases hz : vn = 0
    · subst hz
      exact ⟨_, _, 0, 0, rfl, fun h => by omega, fun i hi => by omega⟩
    have c0 : W.cell? ⟨b, off, spot⟩ = some (.int .i64 (O 0).1) := by
      obtain ⟨_, _, hc⟩ := World.cells?_some (hO 0 (by omega)).1
      have := hc 0 (by omega)
      simp only [Addr.add, if_true, Nat.zero_mul] at this
      exact this
    have hspot : spot = none := World.cell?_spot c0
    subst hspot
    refine ⟨some ⟨b, off, none⟩, _, b, off, rfl, fun _ => ⟨rfl, glob_size rfl c0⟩, fun i hi => ?_⟩
    obtain ⟨h1, h2, h3⟩ := hO i hi
    rw [add_plain] at h1
    obtain ⟨_, _, hc⟩ := World.cells?_some h1
    have k0 := hc 0 (by omega)
    have k1 := hc 1 (by omega)
    rw [add_plain] at k0 k1
    exact ⟨k0, k1, h2, h3⟩
end Go.Proofs.YtoeihlgidakjbaaGreatDoor

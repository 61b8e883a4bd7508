/- What the row's list gives: the cells of the package-level variables; and a start that meets it. -/
import Derived.Test.YtoeihlgidakjbaaDoorRows
import Derived.Test.YtoeihlgidakjbaaDoorUnesc
import Derived.ProofKit
import Derived.LaidMore
import Derived.LaidLaws
import Derived.LaidHandle
import Derived.Stop.LaidTwo
namespace Go.Proofs.YtoeihlgidakjbaaDoor
open Go.ChangeShapes Go.WideShapes Go.RowKit

theorem Tryd.own : ownKnob Tryd.prog.godebug = none := by kernel_rfl
theorem Tryd.gF : Tryd.prog.globalNamed "concord/line.ErrFlag" = some 1 := by kernel_rfl
theorem Tryd.gO : Tryd.prog.globalNamed "concord/line.ErrLoose" = some 3 := by kernel_rfl
theorem Tryd.gH : Tryd.prog.globalNamed "concord/line.ErrShort" = some 4 := by kernel_rfl
theorem Tryd.gL : Tryd.prog.globalNamed "concord/line.ErrLong" = some 2 := by kernel_rfl
theorem Tryd.gS : Tryd.prog.globalNamed "concord/line.ErrSum" = some 0 := by kernel_rfl
theorem Tryd.gC : Tryd.prog.globalNamed "concord/line.ErrCode" = some 5 := by kernel_rfl
theorem Tryd.gT : Tryd.prog.globalNamed "errors.errorType" = some 6 := by kernel_rfl
theorem Tryd.tF : (Tryd.prog.globals[1]?).map (·.type) = some 35 := by kernel_rfl
theorem Tryd.tO : (Tryd.prog.globals[3]?).map (·.type) = some 35 := by kernel_rfl
theorem Tryd.tH : (Tryd.prog.globals[4]?).map (·.type) = some 35 := by kernel_rfl
theorem Tryd.tL : (Tryd.prog.globals[2]?).map (·.type) = some 35 := by kernel_rfl
theorem Tryd.tS : (Tryd.prog.globals[0]?).map (·.type) = some 35 := by kernel_rfl
theorem Tryd.tC : (Tryd.prog.globals[5]?).map (·.type) = some 35 := by kernel_rfl
theorem Tryd.cellsE : Tryd.prog.cellsOf 107 = 1 := by kernel_rfl
theorem Tryd.cells9 : Tryd.prog.cellsOf 9 = 1 := by kernel_rfl
theorem Tryd.star : "*" ++ "errors.errorString" = "*errors.errorString" := by decide
theorem Tryd.rowE (u : TypeId) (h : Tryd.prog.typeName? 3 u = some "*errors.errorString") : u = 85 :=
  typeName_ptr_named (nm := "errors.errorString") (by rw [Tryd.star]; kernel_rfl) (by kernel_rfl) (by decide) u (by rw [Tryd.star]; exact h)
theorem Tryd.rt : (Tryd.prog.cutTypes.find? (·.1 == "internal/reflectlite.rtype")).map (·.2) = some 70 := by kernel_rfl
theorem Tryd.oneRow : ((List.range 118).filter fun t => Tryd.prog.rowNamed t [101, 114, 114, 111, 114]) = [35] := by kernel_rfl
theorem Tryd.size : Tryd.prog.types.size = 118 := by kernel_rfl
theorem Tryd.typeH : typeHandle Tryd.prog 35 = .pointer (some ⟨7, 35, none⟩) := by kernel_rfl

theorem glob_size {W : World} {a : Addr} {v : Value} {n : Nat} (hn : n = a.block) (h : W.cell? a = some v) : n < W.heap.size := by
  subst hn
  rcases Nat.lt_or_ge a.block W.heap.size with h' | h'
  · exact h'
  · simp [World.cell?, Array.getElem?_eq_none h'] at h

/-- WHAT THE ROW's LIST GIVES THE WALKS. -/
theorem glob_of_laid {W : World} (h : laidMetH Tryd.prog Rows.linedRow.laid W) : ∃ aS aC aF aL aO aH, Gl W aS aC aF aL aO aH := by
  have h' : laidMet Tryd.prog [("concord/line.ErrFlag", Rows.laid_concord_line_ErrFlag), ("concord/line.ErrLoose", Rows.laid_concord_line_ErrLoose), ("concord/line.ErrShort", Rows.laid_concord_line_ErrShort), ("concord/line.ErrLong", Rows.laid_concord_line_ErrLong), ("concord/line.ErrSum", Rows.laid_concord_line_ErrSum), ("concord/line.ErrCode", Rows.laid_concord_line_ErrCode)] W ∧ handlesMet Tryd.prog [("errors.errorType", Rows.laid_errors_errorType)] W := h
  obtain ⟨hL, hH⟩ := h'
  obtain ⟨aF, sF, vF, _, _, _⟩ := laid_sentinel hL Tryd.gF Tryd.tF Tryd.underlying35 Tryd.rowE Tryd.underlying85 Tryd.underlying107 rfl rfl Tryd.underlying9 Tryd.cellsE Tryd.cells9
  have hL1 := laidMet.tail hL
  obtain ⟨aO, sO, vO, _, _, _⟩ := laid_sentinel hL1 Tryd.gO Tryd.tO Tryd.underlying35 Tryd.rowE Tryd.underlying85 Tryd.underlying107 rfl rfl Tryd.underlying9 Tryd.cellsE Tryd.cells9
  have hL2 := laidMet.tail hL1
  obtain ⟨aH, sH, vH, _, _, _⟩ := laid_sentinel hL2 Tryd.gH Tryd.tH Tryd.underlying35 Tryd.rowE Tryd.underlying85 Tryd.underlying107 rfl rfl Tryd.underlying9 Tryd.cellsE Tryd.cells9
  have hL3 := laidMet.tail hL2
  obtain ⟨aL, sL, vL, _, _, _⟩ := laid_sentinel hL3 Tryd.gL Tryd.tL Tryd.underlying35 Tryd.rowE Tryd.underlying85 Tryd.underlying107 rfl rfl Tryd.underlying9 Tryd.cellsE Tryd.cells9
  have hL4 := laidMet.tail hL3
  obtain ⟨aS, aC, sS, sC, cS, cC, tS, tC, vS, vC, _, _, _, _, _, _, hne, bS, bC⟩ := laid_sentinels2 hL4 Tryd.gS Tryd.tS Tryd.gC Tryd.tC Tryd.underlying35 Tryd.rowE Tryd.underlying85 Tryd.underlying107 rfl rfl Tryd.underlying9 Tryd.cellsE Tryd.cells9
  obtain ⟨name, u, ty, e1, e2, e3, e4, e5⟩ := hH _ (List.mem_singleton.2 rfl)
  have en : name = [101, 114, 114, 111, 114] := (Option.some.inj e1).symm
  subst en
  obtain rfl := Option.some.inj (Tryd.rt.symm.trans e2)
  have hm : ty ∈ (List.range 118).filter fun t => Tryd.prog.rowNamed t [101, 114, 114, 111, 114] := List.mem_filter.2 ⟨List.mem_range.2 (by rw [← Tryd.size]; exact e3), e4⟩
  rw [Tryd.oneRow] at hm
  obtain rfl := List.mem_singleton.1 hm
  rw [Tryd.typeH] at e5
  have cT : W.cell? ⟨6, 0, none⟩ = some (.iface 70 (.agg #[.pointer (some ⟨7, 35, none⟩)])) := by simpa using World.var?_cell Tryd.gT e5 0
  have z := glob_size (n := 6) rfl cT
  exact ⟨aS, aC, aF, aL, aO, aH, by simpa using World.var?_cell Tryd.gS vS 0, by simpa using World.var?_cell Tryd.gF vF 0, by simpa using World.var?_cell Tryd.gL vL 0, by simpa using World.var?_cell Tryd.gO vO 0, by simpa using World.var?_cell Tryd.gH vH 0, by simpa using World.var?_cell Tryd.gC vC 0, cT, hne, ⟨cS, tS, bS⟩, ⟨cC, tC, bC⟩, z⟩

/-- The door's own heap meets the condition. -/
theorem door_met (os : Os) (args : Array Value) : laidMetH Tryd.prog Rows.linedRow.laid ((World.doorLaid Tryd.prog 400 os).forCall (fun _ _ => 0) ⟨#[], args, []⟩).memory :=
  laidMetH_of_parts3 (fuel := 8) (laidMet_of_run' 8 (by kernel_rfl) (by kernel_rfl)) (by kernel_rfl) (by kernel_rfl)
end Go.Proofs.YtoeihlgidakjbaaDoor

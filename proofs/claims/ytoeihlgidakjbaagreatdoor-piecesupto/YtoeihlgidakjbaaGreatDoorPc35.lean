/- What the row's list gives: the cells of the package-level variables; and a start that meets it. What the keeps' arguments read as: numbers, acts, their bulk. What Pieces' strings read as. -/
import Derived.Test.YtoeihlgidakjbaaGreatDoorRows
import Derived.Test.YtoeihlgidakjbaaGreatDoorPc2
import Derived.Test.YtoeihlgidakjbaaGreatDoorPc7
import Derived.ProofKit
import Derived.LaidMore
import Derived.LaidLaws
import Derived.LaidHandle
import Derived.Stop.LaidTwo
import Derived.Test.YtoeihlgidakjbaaGreatDoorPc32
import Derived.OpenShut
import Derived.Deep.Slices
import Derived.SizedLaws
import Derived.Carry
import Derived.Lib.SmallJoins
import Derived.Test.YtoeihlgidakjbaaGreatDoorPc34
import Derived.SliceStrings
namespace Go.Proofs.YtoeihlgidakjbaaGreatDoor
open Go.ChangeShapes Go.WideShapes Go.RowKit
theorem Tryz.own : ownKnob Tryz.prog.godebug = none := by kernel_rfl
theorem Tryz.gF : Tryz.prog.globalNamed "concord/line.ErrFlag" = some 1 := by kernel_rfl
theorem Tryz.gO : Tryz.prog.globalNamed "concord/line.ErrLoose" = some 3 := by kernel_rfl
theorem Tryz.gH : Tryz.prog.globalNamed "concord/line.ErrShort" = some 4 := by kernel_rfl
theorem Tryz.gL : Tryz.prog.globalNamed "concord/line.ErrLong" = some 2 := by kernel_rfl
theorem Tryz.gS : Tryz.prog.globalNamed "concord/line.ErrSum" = some 0 := by kernel_rfl
theorem Tryz.gC : Tryz.prog.globalNamed "concord/line.ErrCode" = some 5 := by kernel_rfl
theorem Tryz.gT : Tryz.prog.globalNamed "errors.errorType" = some 6 := by kernel_rfl
theorem Tryz.tF : (Tryz.prog.globals[1]?).map (·.type) = some 118 := by kernel_rfl
theorem Tryz.tO : (Tryz.prog.globals[3]?).map (·.type) = some 118 := by kernel_rfl
theorem Tryz.tH : (Tryz.prog.globals[4]?).map (·.type) = some 118 := by kernel_rfl
theorem Tryz.tL : (Tryz.prog.globals[2]?).map (·.type) = some 118 := by kernel_rfl
theorem Tryz.tS : (Tryz.prog.globals[0]?).map (·.type) = some 118 := by kernel_rfl
theorem Tryz.tC : (Tryz.prog.globals[5]?).map (·.type) = some 118 := by kernel_rfl
theorem Tryz.cellsE : Tryz.prog.cellsOf 236 = 1 := by kernel_rfl
theorem Tryz.cells9 : Tryz.prog.cellsOf 9 = 1 := by kernel_rfl
theorem Tryz.star : "*" ++ "errors.errorString" = "*errors.errorString" := by decide
theorem Tryz.rowE (u : TypeId) (h : Tryz.prog.typeName? 3 u = some "*errors.errorString") : u = 216 :=
  typeName_ptr_named (nm := "errors.errorString") (by rw [Tryz.star]; kernel_rfl) (by kernel_rfl) (by decide) u (by rw [Tryz.star]; exact h)
theorem Tryz.rt : (Tryz.prog.cutTypes.find? (·.1 == "internal/reflectlite.rtype")).map (·.2) = some 198 := by kernel_rfl
theorem Tryz.oneRow : ((List.range 247).filter fun t => Tryz.prog.rowNamed t [101, 114, 114, 111, 114]) = [118] := by kernel_rfl
theorem Tryz.size : Tryz.prog.types.size = 247 := by kernel_rfl
theorem Tryz.typeH : typeHandle Tryz.prog 118 = .pointer (some ⟨11, 118, none⟩) := by kernel_rfl
theorem glob_size {W : World} {a : Addr} {v : Value} {n : Nat} (hn : n = a.block) (h : W.cell? a = some v) : n < W.heap.size := by
  subst hn
  rcases Nat.lt_or_ge a.block W.heap.size with h' | h'
  · exact h'
  · simp [World.cell?, Array.getElem?_eq_none h'] at h
theorem Tryz.gN2 : Tryz.prog.globalNamed "concord/terms.ErrNone" = some 8 := by kernel_rfl
theorem Tryz.tN2 : (Tryz.prog.globals[8]?).map (·.type) = some 118 := by kernel_rfl
theorem Tryz.gP2 : Tryz.prog.globalNamed "concord/terms.ErrPart" = some 9 := by kernel_rfl
theorem Tryz.tP2 : (Tryz.prog.globals[9]?).map (·.type) = some 118 := by kernel_rfl
theorem Tryz.gR2 : Tryz.prog.globalNamed "concord/terms.ErrOrder" = some 10 := by kernel_rfl
theorem Tryz.tR2 : (Tryz.prog.globals[10]?).map (·.type) = some 118 := by kernel_rfl
theorem Tryz.gM2 : Tryz.prog.globalNamed "concord/terms.ErrMissing" = some 7 := by kernel_rfl
theorem Tryz.tM2 : (Tryz.prog.globals[7]?).map (·.type) = some 118 := by kernel_rfl
theorem gr_of_laid {W : World} (hL : laidMet Tryz.prog [("concord/line.ErrFlag", Rows.laid_concord_line_ErrFlag), ("concord/line.ErrLoose", Rows.laid_concord_line_ErrLoose), ("concord/line.ErrShort", Rows.laid_concord_line_ErrShort), ("concord/line.ErrLong", Rows.laid_concord_line_ErrLong), ("concord/line.ErrSum", Rows.laid_concord_line_ErrSum), ("concord/line.ErrCode", Rows.laid_concord_line_ErrCode), ("concord/terms.ErrNone", Rows.laid_concord_terms_ErrNone), ("concord/terms.ErrPart", Rows.laid_concord_terms_ErrPart), ("concord/terms.ErrOrder", Rows.laid_concord_terms_ErrOrder), ("concord/terms.ErrMissing", Rows.laid_concord_terms_ErrMissing)] W) : ∃ aS aC aF aL aO aH, Gr W aS aC aF aL aO aH ∧ Gt W := by
  obtain ⟨aF, sF, vF, _, _, _⟩ := laid_sentinel hL Tryz.gF Tryz.tF Tryz.underlying118 Tryz.rowE Tryz.underlying216 Tryz.underlying236 rfl rfl Tryz.underlying9 Tryz.cellsE Tryz.cells9
  have hL1 := laidMet.tail hL
  obtain ⟨aO, sO, vO, _, _, _⟩ := laid_sentinel hL1 Tryz.gO Tryz.tO Tryz.underlying118 Tryz.rowE Tryz.underlying216 Tryz.underlying236 rfl rfl Tryz.underlying9 Tryz.cellsE Tryz.cells9
  have hL2 := laidMet.tail hL1
  obtain ⟨aH, sH, vH, _, _, _⟩ := laid_sentinel hL2 Tryz.gH Tryz.tH Tryz.underlying118 Tryz.rowE Tryz.underlying216 Tryz.underlying236 rfl rfl Tryz.underlying9 Tryz.cellsE Tryz.cells9
  have hL3 := laidMet.tail hL2
  obtain ⟨aL, sL, vL, _, _, _⟩ := laid_sentinel hL3 Tryz.gL Tryz.tL Tryz.underlying118 Tryz.rowE Tryz.underlying216 Tryz.underlying236 rfl rfl Tryz.underlying9 Tryz.cellsE Tryz.cells9
  have hL4 := laidMet.tail hL3
  obtain ⟨aS, aC, sS, sC, cS, cC, tS, tC, vS, vC, _, _, _, _, _, _, hne, bS, bC⟩ := laid_sentinels2 hL4 Tryz.gS Tryz.tS Tryz.gC Tryz.tC Tryz.underlying118 Tryz.rowE Tryz.underlying216 Tryz.underlying236 rfl rfl Tryz.underlying9 Tryz.cellsE Tryz.cells9
  have hL5 := laidMet.tail (laidMet.tail hL4)
  obtain ⟨aN, sN, vN, _, _, _⟩ := laid_sentinel hL5 Tryz.gN2 Tryz.tN2 Tryz.underlying118 Tryz.rowE Tryz.underlying216 Tryz.underlying236 rfl rfl Tryz.underlying9 Tryz.cellsE Tryz.cells9
  have hL6 := laidMet.tail hL5
  obtain ⟨aP, sP, vP, _, _, _⟩ := laid_sentinel hL6 Tryz.gP2 Tryz.tP2 Tryz.underlying118 Tryz.rowE Tryz.underlying216 Tryz.underlying236 rfl rfl Tryz.underlying9 Tryz.cellsE Tryz.cells9
  have hL7 := laidMet.tail hL6
  obtain ⟨aR, sR, vR, _, _, _⟩ := laid_sentinel hL7 Tryz.gR2 Tryz.tR2 Tryz.underlying118 Tryz.rowE Tryz.underlying216 Tryz.underlying236 rfl rfl Tryz.underlying9 Tryz.cellsE Tryz.cells9
  have hL8 := laidMet.tail hL7
  obtain ⟨aM, sM, vM, _, _, _⟩ := laid_sentinel hL8 Tryz.gM2 Tryz.tM2 Tryz.underlying118 Tryz.rowE Tryz.underlying216 Tryz.underlying236 rfl rfl Tryz.underlying9 Tryz.cellsE Tryz.cells9
  have cR : W.cell? ⟨10, 0, none⟩ = some (.iface 216 (.pointer (some aR))) := by simpa using World.var?_cell Tryz.gR2 vR 0
  have z := glob_size (n := 10) rfl cR
  exact ⟨aS, aC, aF, aL, aO, aH, ⟨by simpa using World.var?_cell Tryz.gS vS 0, by simpa using World.var?_cell Tryz.gF vF 0, by simpa using World.var?_cell Tryz.gL vL 0, by simpa using World.var?_cell Tryz.gO vO 0, by simpa using World.var?_cell Tryz.gH vH 0, by simpa using World.var?_cell Tryz.gC vC 0, hne, ⟨cS, tS, bS⟩, ⟨cC, tC, bC⟩, z⟩, ⟨⟨aM, by simpa using World.var?_cell Tryz.gM2 vM 0⟩, ⟨aN, by simpa using World.var?_cell Tryz.gN2 vN 0⟩, ⟨aP, by simpa using World.var?_cell Tryz.gP2 vP 0⟩, ⟨aR, cR⟩⟩⟩
theorem gl_of_laid {W : World} (h : laidMetH Tryz.prog Rows.framesRow.laid W) : ∃ aS aC aF aL aO aH, Gl W aS aC aF aL aO aH ∧ Gt W := by
  have h' : laidMet Tryz.prog [("concord/line.ErrFlag", Rows.laid_concord_line_ErrFlag), ("concord/line.ErrLoose", Rows.laid_concord_line_ErrLoose), ("concord/line.ErrShort", Rows.laid_concord_line_ErrShort), ("concord/line.ErrLong", Rows.laid_concord_line_ErrLong), ("concord/line.ErrSum", Rows.laid_concord_line_ErrSum), ("concord/line.ErrCode", Rows.laid_concord_line_ErrCode), ("concord/terms.ErrNone", Rows.laid_concord_terms_ErrNone), ("concord/terms.ErrPart", Rows.laid_concord_terms_ErrPart), ("concord/terms.ErrOrder", Rows.laid_concord_terms_ErrOrder), ("concord/terms.ErrMissing", Rows.laid_concord_terms_ErrMissing)] W ∧ handlesMet Tryz.prog [("errors.errorType", Rows.laid_errors_errorType)] W := h
  obtain ⟨hL, hH⟩ := h'
  obtain ⟨aS, aC, aF, aL, aO, aH, hr, ht⟩ := gr_of_laid hL
  obtain ⟨name, u, ty, e1, e2, e3, e4, e5⟩ := hH _ (List.mem_singleton.2 rfl)
  have en : name = [101, 114, 114, 111, 114] := (Option.some.inj e1).symm
  subst en
  obtain rfl := Option.some.inj (Tryz.rt.symm.trans e2)
  have hm : ty ∈ (List.range 247).filter fun t => Tryz.prog.rowNamed t [101, 114, 114, 111, 114] := List.mem_filter.2 ⟨List.mem_range.2 (by rw [← Tryz.size]; exact e3), e4⟩
  rw [Tryz.oneRow] at hm
  obtain rfl := List.mem_singleton.1 hm
  rw [Tryz.typeH] at e5
  have cT : W.cell? ⟨6, 0, none⟩ = some (.iface 198 (.agg #[.pointer (some ⟨11, 118, none⟩)])) := by simpa using World.var?_cell Tryz.gT e5 0
  exact ⟨aS, aC, aF, aL, aO, aH, ⟨hr, cT⟩, ht⟩
end Go.Proofs.YtoeihlgidakjbaaGreatDoor
namespace Go.Proofs.YtoeihlgidakjbaaGreatDoor
open Go.ChangeShapes Go.WideShapes Go.RowKit Go.Deep Go.Joins
theorem Tryz.kcellsI : Tryz.prog.cellsOf 3 = 1 := by kernel_rfl
theorem kbulk_one {H : Type} (d : DataW H) : 1 ≤ Rows.uptoBulk d := by
  cases d with
  | lit l => cases l <;> simp [Rows.uptoBulk]
  | nil => simp [Rows.uptoBulk]
  | ptr d => simp [Rows.uptoBulk]
  | slice elems spare => simp [Rows.uptoBulk]
  | agg parts => simp [Rows.uptoBulk]
  | iface t d => simp [Rows.uptoBulk]
  | map entries => simp [Rows.uptoBulk]
  | held h => simp [Rows.uptoBulk]
theorem kbulk_len {H : Type} (l : List (DataW H)) : l.length ≤ Rows.uptoBulkAll l := by
  induction l with
  | nil => simp [Rows.uptoBulkAll]
  | cons x r ih =>
    have := kbulk_one x
    simp only [Rows.uptoBulkAll, List.length_cons]; omega
theorem kints_of {H : Type} {enc : TypeId × Value → H} {W : World} {v : Value} {d : DataW H} {ps : List MemPlace} (h : DataW.Trod enc Tryz.prog W 0 (fun _ => true) true 28 v d ps) (hs : ∃ a n c, v = .slice a n c) :
    ∃ l : List Int, IntsAt W v l ∧ Raw l ∧ l.length ≤ Rows.uptoBulk d := by
  obtain ⟨fuel, hf⟩ := h
  obtain ⟨va, vn, vc, rfl⟩ := hs
  rcases open_ints Tryz.underlying28 Tryz.underlying3 Tryz.kcellsI hf with ⟨hcs, _⟩ | ⟨a, len, cap, zs, hcs, _, hl, _, hz, hx, hcell, hwf⟩
  · simp [Value.cells] at hcs
    obtain ⟨rfl, rfl, rfl⟩ := hcs
    exact ⟨[], ints_nil W, fun _ q => (nomatch q), Nat.zero_le _⟩
  · simp [Value.cells] at hcs
    obtain ⟨rfl, rfl, rfl⟩ := hcs
    simp only [Prod.mk.injEq] at hx
    obtain ⟨rfl, _⟩ := hx
    obtain ⟨b, off, spot⟩ := a
    have hlz : vn ≤ zs.length := by rw [hz]; split <;> omega
    have hlt : (zs.take vn).length = vn := by rw [List.length_take]; omega
    refine ⟨zs.take vn, ?_, fun x hx => ?_, ?_⟩
    · by_cases h0 : vn = 0
      · subst h0
        exact ⟨_, vc, 0, 0, by rw [hlt], (fun h => by rw [hlt] at h; omega), (fun k hk => by rw [hlt] at hk; omega)⟩
      · have c0 : W.cell? ⟨b, off, spot⟩ = some (.int .i64 (zs.getD 0 0)) := by
          have := hcell 0 (by omega)
          simp only [Addr.add, if_true] at this
          exact this
        have hspot : spot = none := World.cell?_spot c0
        subst hspot
        have hb : b < W.heap.size := glob_size rfl c0
        refine ⟨some ⟨b, off, none⟩, vc, b, off, by rw [hlt], fun _ => ⟨rfl, hb⟩, fun k hk => ?_⟩
        rw [hlt] at hk
        have := hcell k (by omega)
        rw [add_plain] at this
        rw [this, List.getElem_take, List.getD, List.getElem?_eq_getElem (by omega)]; rfl
    · have := bounds_i64 (hwf x (List.mem_of_mem_take hx))
      omega
    · have h1 := kbulk_len (lits (H := H) .i64 (zs.take vn))
      simp only [lits, List.length_map] at h1
      simp only [Rows.uptoBulk, lits]
      omega
end Go.Proofs.YtoeihlgidakjbaaGreatDoor
namespace Go.Proofs.YtoeihlgidakjbaaGreatDoor
open Go.ChangeShapes Go.WideShapes Go.RowKit Go.Deep Go.Joins
theorem Tryz.kcellsS : Tryz.prog.cellsOf 9 = 1 := by kernel_rfl
theorem kbulk_part {H : Type} {d : DataW H} {l : List (DataW H)} (h : d ∈ l) : Rows.uptoBulk d ≤ Rows.uptoBulkAll l := by
  induction l with
  | nil => exact (nomatch h)
  | cons x r ih =>
    simp only [Rows.uptoBulkAll]
    rcases List.mem_cons.1 h with rfl | q
    · omega
    · have := ih q; omega
theorem kstrs_of {H : Type} {enc : TypeId × Value → H} {W : World} {v : Value} {d : DataW H} {ps : List MemPlace} (h : DataW.Trod enc Tryz.prog W 0 (fun _ => true) true 47 v d ps) (hs : ∃ a n c, v = .slice a n c) :
    ∃ l : List ByteArray, StrsAt W v l ∧ l.length ≤ Rows.uptoBulk d ∧ ∀ s ∈ l, s.size ≤ Rows.uptoBulk d := by
  obtain ⟨fuel, hf⟩ := h
  obtain ⟨va, vn, vc, rfl⟩ := hs
  rcases open_strings Tryz.underlying47 Tryz.underlying9 Tryz.kcellsS hf with ⟨hcs, _⟩ | ⟨a, len, cap, zs, hcs, _, hl, _, hz, hx, hcell, hwf⟩
  · simp [Value.cells] at hcs
    obtain ⟨rfl, rfl, rfl⟩ := hcs
    exact ⟨[], ⟨none, 0, 0, 0, rfl, fun h => absurd h (Nat.lt_irrefl _), fun k h => absurd h (Nat.not_lt_zero _)⟩, Nat.zero_le _, fun _ q => (nomatch q)⟩
  · simp [Value.cells] at hcs
    obtain ⟨rfl, rfl, rfl⟩ := hcs
    simp only [Prod.mk.injEq] at hx
    obtain ⟨rfl, _⟩ := hx
    obtain ⟨b, off, spot⟩ := a
    have hlz : vn ≤ zs.length := by rw [hz]; split <;> omega
    have hlt : (zs.take vn).length = vn := by rw [List.length_take]; omega
    refine ⟨zs.take vn, ?_, ?_, fun s hs => ?_⟩
    · by_cases h0 : vn = 0
      · subst h0
        exact ⟨_, vc, 0, 0, by rw [hlt], (fun h => by rw [hlt] at h; omega), (fun k hk => by rw [hlt] at hk; omega)⟩
      · have c0 : W.cell? ⟨b, off, spot⟩ = some (.string (zs.getD 0 ByteArray.empty)) := by
          have := hcell 0 (by omega)
          simp only [Addr.add, if_true] at this
          exact this
        have hspot : spot = none := World.cell?_spot c0
        subst hspot
        have hb : b < W.heap.size := glob_size rfl c0
        refine ⟨some ⟨b, off, none⟩, vc, b, off, by rw [hlt], fun _ => ⟨rfl, hb⟩, fun k hk => ?_⟩
        rw [hlt] at hk
        have := hcell k (by omega)
        rw [add_plain] at this
        rw [this, List.getElem_take, List.getD, List.getElem?_eq_getElem (by omega)]; rfl
    · have h1 := kbulk_len (strs (H := H) (zs.take vn))
      simp only [strs, List.length_map] at h1
      simp only [Rows.uptoBulk, strs]
      omega
    · have h1 : Rows.uptoBulk (DataW.lit (H := H) (.string s.data.toList)) ≤ Rows.uptoBulkAll (strs (H := H) (zs.take vn)) := kbulk_part (List.mem_map.2 ⟨s, hs, rfl⟩)
      have h2 : Rows.uptoBulk (DataW.lit (H := H) (.string s.data.toList)) = s.data.toList.length + 1 := by simp [Rows.uptoBulk]
      have h3 : s.data.toList.length = s.size := by simp
      simp only [Rows.uptoBulk]
      omega
end Go.Proofs.YtoeihlgidakjbaaGreatDoor

/- The reference's row: the table. -/
import Derived.Test.YtoeihlgidakjbaaGreatDoorEa12
namespace Go.Proofs.YtoeihlgidakjbaaGreatDoor
open Go.RowKit Go.Lib
def rowS (l : List Nat) : ByteArray := ⟨(l.map UInt8.ofNat).toArray⟩
def rowV (ev : Nat) : Array Value := ((rowT ev).map fun l => Value.string (rowS l)).toArray
theorem Tryz.size10 : (Tryz.prog.info? 142).map (·.size) = some 10 := by kernel_rfl
set_option maxRecDepth 100000 in
set_option maxHeartbeats 4000000 in
theorem row_1 (w : World) : Calls Tryz.prog 116 #[.int .i64 1] w fun r w' => r = .returned (.agg (rowV 1)) ∧ Below w.heap.size w w' := by
  go_enter Tryz.func116, Tryz.ntmps116
  go_wp2_with fail
  exact ⟨rfl, _, results_cell_row (p := 2) (ty := 142) rfl _ _ w.heap.size 142 _ (0, 0) _ rfl (heap_alloc_new w _) Tryz.underlying142 rfl Tryz.size10, rfl, (Below.refl _ _).alloc (Nat.le_refl _) _⟩
set_option maxRecDepth 100000 in
set_option maxHeartbeats 4000000 in
theorem row_2 (w : World) : Calls Tryz.prog 116 #[.int .i64 2] w fun r w' => r = .returned (.agg (rowV 2)) ∧ Below w.heap.size w w' := by
  go_enter Tryz.func116, Tryz.ntmps116
  go_wp2_with fail
  exact ⟨rfl, _, results_cell_row (p := 2) (ty := 142) rfl _ _ w.heap.size 142 _ (0, 0) _ rfl (heap_alloc_new w _) Tryz.underlying142 rfl Tryz.size10, rfl, (Below.refl _ _).alloc (Nat.le_refl _) _⟩
set_option maxRecDepth 100000 in
set_option maxHeartbeats 4000000 in
theorem row_3 (w : World) : Calls Tryz.prog 116 #[.int .i64 3] w fun r w' => r = .returned (.agg (rowV 3)) ∧ Below w.heap.size w w' := by
  go_enter Tryz.func116, Tryz.ntmps116
  go_wp2_with fail
  exact ⟨rfl, _, results_cell_row (p := 2) (ty := 142) rfl _ _ w.heap.size 142 _ (0, 0) _ rfl (heap_alloc_new w _) Tryz.underlying142 rfl Tryz.size10, rfl, (Below.refl _ _).alloc (Nat.le_refl _) _⟩
set_option maxRecDepth 100000 in
set_option maxHeartbeats 4000000 in
theorem row_4 (w : World) : Calls Tryz.prog 116 #[.int .i64 4] w fun r w' => r = .returned (.agg (rowV 4)) ∧ Below w.heap.size w w' := by
  go_enter Tryz.func116, Tryz.ntmps116
  go_wp2_with fail
  exact ⟨rfl, _, results_cell_row (p := 2) (ty := 142) rfl _ _ w.heap.size 142 _ (0, 0) _ rfl (heap_alloc_new w _) Tryz.underlying142 rfl Tryz.size10, rfl, (Below.refl _ _).alloc (Nat.le_refl _) _⟩
set_option maxRecDepth 100000 in
set_option maxHeartbeats 4000000 in
theorem row_6 (w : World) : Calls Tryz.prog 116 #[.int .i64 6] w fun r w' => r = .returned (.agg (rowV 6)) ∧ Below w.heap.size w w' := by
  go_enter Tryz.func116, Tryz.ntmps116
  go_wp2_with fail
  exact ⟨rfl, _, results_cell_row (p := 2) (ty := 142) rfl _ _ w.heap.size 142 _ (0, 0) _ rfl (heap_alloc_new w _) Tryz.underlying142 rfl Tryz.size10, rfl, (Below.refl _ _).alloc (Nat.le_refl _) _⟩
set_option maxRecDepth 100000 in
set_option maxHeartbeats 4000000 in
theorem row_7 (w : World) : Calls Tryz.prog 116 #[.int .i64 7] w fun r w' => r = .returned (.agg (rowV 7)) ∧ Below w.heap.size w w' := by
  go_enter Tryz.func116, Tryz.ntmps116
  go_wp2_with fail
  exact ⟨rfl, _, results_cell_row (p := 2) (ty := 142) rfl _ _ w.heap.size 142 _ (0, 0) _ rfl (heap_alloc_new w _) Tryz.underlying142 rfl Tryz.size10, rfl, (Below.refl _ _).alloc (Nat.le_refl _) _⟩
set_option maxRecDepth 100000 in
set_option maxHeartbeats 4000000 in
theorem row_8 (w : World) : Calls Tryz.prog 116 #[.int .i64 8] w fun r w' => r = .returned (.agg (rowV 8)) ∧ Below w.heap.size w w' := by
  go_enter Tryz.func116, Tryz.ntmps116
  go_wp2_with fail
  exact ⟨rfl, _, results_cell_row (p := 2) (ty := 142) rfl _ _ w.heap.size 142 _ (0, 0) _ rfl (heap_alloc_new w _) Tryz.underlying142 rfl Tryz.size10, rfl, (Below.refl _ _).alloc (Nat.le_refl _) _⟩
set_option maxRecDepth 100000 in
set_option maxHeartbeats 4000000 in
theorem row_9 (w : World) : Calls Tryz.prog 116 #[.int .i64 9] w fun r w' => r = .returned (.agg (rowV 9)) ∧ Below w.heap.size w w' := by
  go_enter Tryz.func116, Tryz.ntmps116
  go_wp2_with fail
  exact ⟨rfl, _, results_cell_row (p := 2) (ty := 142) rfl _ _ w.heap.size 142 _ (0, 0) _ rfl (heap_alloc_new w _) Tryz.underlying142 rfl Tryz.size10, rfl, (Below.refl _ _).alloc (Nat.le_refl _) _⟩
set_option maxRecDepth 100000 in
set_option maxHeartbeats 4000000 in
theorem row_10 (w : World) : Calls Tryz.prog 116 #[.int .i64 10] w fun r w' => r = .returned (.agg (rowV 10)) ∧ Below w.heap.size w w' := by
  go_enter Tryz.func116, Tryz.ntmps116
  go_wp2_with fail
  exact ⟨rfl, _, results_cell_row (p := 2) (ty := 142) rfl _ _ w.heap.size 142 _ (0, 0) _ rfl (heap_alloc_new w _) Tryz.underlying142 rfl Tryz.size10, rfl, (Below.refl _ _).alloc (Nat.le_refl _) _⟩
set_option maxRecDepth 100000 in
set_option maxHeartbeats 4000000 in
theorem row_11 (w : World) : Calls Tryz.prog 116 #[.int .i64 11] w fun r w' => r = .returned (.agg (rowV 11)) ∧ Below w.heap.size w w' := by
  go_enter Tryz.func116, Tryz.ntmps116
  go_wp2_with fail
  exact ⟨rfl, _, results_cell_row (p := 2) (ty := 142) rfl _ _ w.heap.size 142 _ (0, 0) _ rfl (heap_alloc_new w _) Tryz.underlying142 rfl Tryz.size10, rfl, (Below.refl _ _).alloc (Nat.le_refl _) _⟩
set_option maxRecDepth 100000 in
set_option maxHeartbeats 4000000 in
theorem row_12 (w : World) : Calls Tryz.prog 116 #[.int .i64 12] w fun r w' => r = .returned (.agg (rowV 12)) ∧ Below w.heap.size w w' := by
  go_enter Tryz.func116, Tryz.ntmps116
  go_wp2_with fail
  exact ⟨rfl, _, results_cell_row (p := 2) (ty := 142) rfl _ _ w.heap.size 142 _ (0, 0) _ rfl (heap_alloc_new w _) Tryz.underlying142 rfl Tryz.size10, rfl, (Below.refl _ _).alloc (Nat.le_refl _) _⟩
set_option maxRecDepth 100000 in
set_option maxHeartbeats 4000000 in
theorem row_13 (w : World) : Calls Tryz.prog 116 #[.int .i64 13] w fun r w' => r = .returned (.agg (rowV 13)) ∧ Below w.heap.size w w' := by
  go_enter Tryz.func116, Tryz.ntmps116
  go_wp2_with fail
  exact ⟨rfl, _, results_cell_row (p := 2) (ty := 142) rfl _ _ w.heap.size 142 _ (0, 0) _ rfl (heap_alloc_new w _) Tryz.underlying142 rfl Tryz.size10, rfl, (Below.refl _ _).alloc (Nat.le_refl _) _⟩
set_option maxRecDepth 100000 in
set_option maxHeartbeats 4000000 in
theorem row_14 (w : World) : Calls Tryz.prog 116 #[.int .i64 14] w fun r w' => r = .returned (.agg (rowV 14)) ∧ Below w.heap.size w w' := by
  go_enter Tryz.func116, Tryz.ntmps116
  go_wp2_with fail
  exact ⟨rfl, _, results_cell_row (p := 2) (ty := 142) rfl _ _ w.heap.size 142 _ (0, 0) _ rfl (heap_alloc_new w _) Tryz.underlying142 rfl Tryz.size10, rfl, (Below.refl _ _).alloc (Nat.le_refl _) _⟩
set_option maxRecDepth 100000 in
set_option maxHeartbeats 4000000 in
theorem row_15 (w : World) : Calls Tryz.prog 116 #[.int .i64 15] w fun r w' => r = .returned (.agg (rowV 15)) ∧ Below w.heap.size w w' := by
  go_enter Tryz.func116, Tryz.ntmps116
  go_wp2_with fail
  exact ⟨rfl, _, results_cell_row (p := 2) (ty := 142) rfl _ _ w.heap.size 142 _ (0, 0) _ rfl (heap_alloc_new w _) Tryz.underlying142 rfl Tryz.size10, rfl, (Below.refl _ _).alloc (Nat.le_refl _) _⟩
set_option maxRecDepth 100000 in
set_option maxHeartbeats 4000000 in
theorem row_16 (w : World) : Calls Tryz.prog 116 #[.int .i64 16] w fun r w' => r = .returned (.agg (rowV 16)) ∧ Below w.heap.size w w' := by
  go_enter Tryz.func116, Tryz.ntmps116
  go_wp2_with fail
  exact ⟨rfl, _, results_cell_row (p := 2) (ty := 142) rfl _ _ w.heap.size 142 _ (0, 0) _ rfl (heap_alloc_new w _) Tryz.underlying142 rfl Tryz.size10, rfl, (Below.refl _ _).alloc (Nat.le_refl _) _⟩
set_option maxRecDepth 100000 in
set_option maxHeartbeats 4000000 in
theorem row_17 (w : World) : Calls Tryz.prog 116 #[.int .i64 17] w fun r w' => r = .returned (.agg (rowV 17)) ∧ Below w.heap.size w w' := by
  go_enter Tryz.func116, Tryz.ntmps116
  go_wp2_with fail
  exact ⟨rfl, _, results_cell_row (p := 2) (ty := 142) rfl _ _ w.heap.size 142 _ (0, 0) _ rfl (heap_alloc_new w _) Tryz.underlying142 rfl Tryz.size10, rfl, (Below.refl _ _).alloc (Nat.le_refl _) _⟩
theorem row_any (ev : Nat) (w : World) (h1 : 1 ≤ ev) (h2 : ev ≤ 17) (h3 : ev ≠ 5) : Calls Tryz.prog 116 #[.int .i64 (ev : Int)] w fun r w' => r = .returned (.agg (rowV ev)) ∧ Below w.heap.size w w' := by
  rcases (by omega : ev = 1 ∨ ev = 2 ∨ ev = 3 ∨ ev = 4 ∨ ev = 6 ∨ ev = 7 ∨ ev = 8 ∨ ev = 9 ∨ ev = 10 ∨ ev = 11 ∨ ev = 12 ∨ ev = 13 ∨ ev = 14 ∨ ev = 15 ∨ ev = 16 ∨ ev = 17) with rfl | rfl | rfl | rfl | rfl | rfl | rfl | rfl | rfl | rfl | rfl | rfl | rfl | rfl | rfl | rfl
  · exact row_1 w
  · exact row_2 w
  · exact row_3 w
  · exact row_4 w
  · exact row_6 w
  · exact row_7 w
  · exact row_8 w
  · exact row_9 w
  · exact row_10 w
  · exact row_11 w
  · exact row_12 w
  · exact row_13 w
  · exact row_14 w
  · exact row_15 w
  · exact row_16 w
  · exact row_17 w
end Go.Proofs.YtoeihlgidakjbaaGreatDoor

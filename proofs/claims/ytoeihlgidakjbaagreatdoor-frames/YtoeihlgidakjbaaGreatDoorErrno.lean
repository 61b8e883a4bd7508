/- errnoOf: OK of nil, ErrFrame of a FrameError, ErrSum of a ContentError that wraps the sum's error, ErrPacket of one that wraps the code's; nothing old turns. -/
import Derived.Test.YtoeihlgidakjbaaGreatDoorErrs3
namespace Go.Proofs.YtoeihlgidakjbaaGreatDoor
open Go.RowKit

set_option maxHeartbeats 1000000 in
theorem errnoOf_nil (w : World) : Calls Tryz.prog 75 #[.nilIface] w fun e w' => e = .returned (.int .i64 0) ∧ Below w.heap.size w w' := by
  go_enter Tryz.func75, Tryz.ntmps75
  go_wp2
  go_ret
  exact ⟨rfl, (Below.refl _ _).alloc (Nat.le_refl _) _⟩

set_option maxHeartbeats 1000000 in
theorem errnoOf_frame {aS aC aF aL aO aH : Addr} (a : Addr) (w : World) (hgl : Gl w aS aC aF aL aO aH) :
    Calls Tryz.prog 75 #[.iface 138 (.pointer (some a))] w fun e w' => e = .returned (.int .i64 3) ∧ Below w.heap.size w w' := by
  have hz := hgl.size
  have hb : ∀ o, Below w.heap.size w (w.alloc o) := fun o => (Below.refl _ _).alloc (Nat.le_refl _) o
  have ht := fun o => (hgl.below (hb o)).t
  go_enter Tryz.func75, Tryz.ntmps75
  go_wp2_with fail
  refine (as_hit a ⟨w.heap.size, 0, none⟩ (.pointer none) _ (ht _) (by simp) (by simp)).mono ?_
  rintro e w' ⟨rfl, o1, o2, o3, o4, rfl⟩
  go_wp2_with fail
  go_ret
  exact ⟨rfl, ((((hb _).alloc (by simp) _).alloc (by simp; omega) _).alloc (by simp; omega) _).alloc (by simp; omega) _⟩

set_option maxHeartbeats 1000000 in
theorem errnoOf_sum {aS aC aF aL aO aH : Addr} (g : Nat) (w : World) (hgl : Gl w aS aC aF aL aO aH) (hgb : g < w.heap.size) (hw : w.cell? ⟨g, 1, none⟩ = some (.iface 216 (.pointer (some aS)))) :
    Calls Tryz.prog 75 #[.iface 160 (.pointer (some ⟨g, 0, none⟩))] w fun e w' => e = .returned (.int .i64 4) ∧ Below w.heap.size w w' := by
  have hz := hgl.size
  have hb : ∀ o, Below w.heap.size w (w.alloc o) := fun o => (Below.refl _ _).alloc (Nat.le_refl _) o
  have ht := fun o => (hgl.below (hb o)).t
  go_enter Tryz.func75, Tryz.ntmps75
  go_wp2_with fail
  refine (as_miss g ⟨w.heap.size, 0, none⟩ aS _ (ht _) (by simp; omega) ((World.cell?_alloc_lt _ _ ⟨g, 1, none⟩ hgb).trans hw)).mono ?_
  rintro e w' ⟨rfl, o1, o2, o3, rfl⟩
  have hbb := ((((hb (.cells #[.pointer none] 138)).alloc (by simp) o1).alloc (by simp; omega) o2).alloc (by simp; omega) o3)
  have gs := (hgl.below hbb).s
  have gw := (hbb.cell (p := ⟨g, 1, none⟩) hgb).trans hw
  generalize (((w.alloc (.cells #[.pointer none] 138)).alloc o1).alloc o2).alloc o3 = W at *
  go_wp2_with fail
  refine (is_wrap_same g aS W gw).mono ?_
  rintro e w' ⟨rfl, rfl⟩
  go_wp2_with fail
  go_ret
  exact ⟨rfl, hbb⟩

set_option maxHeartbeats 1000000 in
theorem errnoOf_code {aS aC aF aL aO aH : Addr} (g : Nat) (w : World) (hgl : Gl w aS aC aF aL aO aH) (hgb : g < w.heap.size) (hw : w.cell? ⟨g, 1, none⟩ = some (.iface 216 (.pointer (some aC)))) :
    Calls Tryz.prog 75 #[.iface 160 (.pointer (some ⟨g, 0, none⟩))] w fun e w' => e = .returned (.int .i64 2) ∧ Below w.heap.size w w' := by
  have hz := hgl.size
  have hb : ∀ o, Below w.heap.size w (w.alloc o) := fun o => (Below.refl _ _).alloc (Nat.le_refl _) o
  have ht := fun o => (hgl.below (hb o)).t
  go_enter Tryz.func75, Tryz.ntmps75
  go_wp2_with fail
  refine (as_miss g ⟨w.heap.size, 0, none⟩ aC _ (ht _) (by simp; omega) ((World.cell?_alloc_lt _ _ ⟨g, 1, none⟩ hgb).trans hw)).mono ?_
  rintro e w' ⟨rfl, o1, o2, o3, rfl⟩
  have hbb := ((((hb (.cells #[.pointer none] 138)).alloc (by simp) o1).alloc (by simp; omega) o2).alloc (by simp; omega) o3)
  have hgg := hgl.below hbb
  have gs := hgg.s
  have gw := (hbb.cell (p := ⟨g, 1, none⟩) hgb).trans hw
  generalize (((w.alloc (.cells #[.pointer none] 138)).alloc o1).alloc o2).alloc o3 = W at *
  obtain ⟨c1, t1, b1⟩ := hgg.bs
  obtain ⟨c2, t2, b2⟩ := hgg.bc
  go_wp2_with fail
  refine (is_wrap_other g aS aC c2 c1 t2 t1 W gw (Ne.symm hgg.ne) b2 b1).mono ?_
  rintro e w' ⟨rfl, rfl⟩
  go_wp2_with fail
  go_ret
  exact ⟨rfl, hbb⟩
end Go.Proofs.YtoeihlgidakjbaaGreatDoor

/- errnoOf: OK of nil, ErrFrame of a FrameError, ErrSum of a ContentError that wraps the sum's error, ErrPacket of one that wraps the code's; nothing old turns. Unframe: the packet, or the error's number. -/
import Derived.Test.YtoeihlgidakjbaaGreatDoorEa5
import Derived.Test.YtoeihlgidakjbaaGreatDoorEa2
import Derived.Deep.RegionWith
namespace Go.Proofs.YtoeihlgidakjbaaGreatDoor
open Go.RowKit
set_option maxHeartbeats 1000000 in
theorem errnoOf_nil (w : World) : Calls Tryz.prog 75 #[.nilIface] w fun e w' => e = .returned (.int .i64 0) ∧ Below w.heap.size w w' := by
  go_enter Tryz.func75, Tryz.ntmps75
  go_wp2
  go_ret
  exact ⟨rfl, (Below.refl _ _).alloc (Nat.le_refl _) _⟩
set_option maxHeartbeats 1000000 in
theorem errnoOf_frame {aS aC aF aL aO aH : Addr} (a : Addr) (w : World) (hgl : Gl w aS aC aF aL aO aH) :
    Calls Tryz.prog 75 #[.iface 138 (.pointer (some a))] w fun e w' => e = .returned (.int .i64 3) ∧ Below w.heap.size w w' := by
  have hz := hgl.size
  have hb : ∀ o, Below w.heap.size w (w.alloc o) := fun o => (Below.refl _ _).alloc (Nat.le_refl _) o
  have ht := fun o => (hgl.below (hb o)).t
  go_enter Tryz.func75, Tryz.ntmps75
  go_wp2_with fail
  refine (as_hit a ⟨w.heap.size, 0, none⟩ (.pointer none) _ (ht _) (by simp) (by simp)).mono ?_
  rintro e w' ⟨rfl, o1, o2, o3, o4, rfl⟩
  go_wp2_with fail
  go_ret
  exact ⟨rfl, ((((hb _).alloc (by simp) _).alloc (by simp; omega) _).alloc (by simp; omega) _).alloc (by simp; omega) _⟩
set_option maxHeartbeats 1000000 in
theorem errnoOf_sum {aS aC aF aL aO aH : Addr} (g : Nat) (w : World) (hgl : Gl w aS aC aF aL aO aH) (hgb : g < w.heap.size) (hw : w.cell? ⟨g, 1, none⟩ = some (.iface 216 (.pointer (some aS)))) :
    Calls Tryz.prog 75 #[.iface 160 (.pointer (some ⟨g, 0, none⟩))] w fun e w' => e = .returned (.int .i64 4) ∧ Below w.heap.size w w' := by
  have hz := hgl.size
  have hb : ∀ o, Below w.heap.size w (w.alloc o) := fun o => (Below.refl _ _).alloc (Nat.le_refl _) o
  have ht := fun o => (hgl.below (hb o)).t
  go_enter Tryz.func75, Tryz.ntmps75
  go_wp2_with fail
  refine (as_miss g ⟨w.heap.size, 0, none⟩ aS _ (ht _) (by simp; omega) ((World.cell?_alloc_lt _ _ ⟨g, 1, none⟩ hgb).trans hw)).mono ?_
  rintro e w' ⟨rfl, o1, o2, o3, rfl⟩
  have hbb := ((((hb (.cells #[.pointer none] 138)).alloc (by simp) o1).alloc (by simp; omega) o2).alloc (by simp; omega) o3)
  have gs := (hgl.below hbb).s
  have gw := (hbb.cell (p := ⟨g, 1, none⟩) hgb).trans hw
  generalize (((w.alloc (.cells #[.pointer none] 138)).alloc o1).alloc o2).alloc o3 = W at *
  go_wp2_with fail
  refine (is_wrap_same g aS W gw).mono ?_
  rintro e w' ⟨rfl, rfl⟩
  go_wp2_with fail
  go_ret
  exact ⟨rfl, hbb⟩
set_option maxHeartbeats 1000000 in
theorem errnoOf_code {aS aC aF aL aO aH : Addr} (g : Nat) (w : World) (hgl : Gl w aS aC aF aL aO aH) (hgb : g < w.heap.size) (hw : w.cell? ⟨g, 1, none⟩ = some (.iface 216 (.pointer (some aC)))) :
    Calls Tryz.prog 75 #[.iface 160 (.pointer (some ⟨g, 0, none⟩))] w fun e w' => e = .returned (.int .i64 2) ∧ Below w.heap.size w w' := by
  have hz := hgl.size
  have hb : ∀ o, Below w.heap.size w (w.alloc o) := fun o => (Below.refl _ _).alloc (Nat.le_refl _) o
  have ht := fun o => (hgl.below (hb o)).t
  go_enter Tryz.func75, Tryz.ntmps75
  go_wp2_with fail
  refine (as_miss g ⟨w.heap.size, 0, none⟩ aC _ (ht _) (by simp; omega) ((World.cell?_alloc_lt _ _ ⟨g, 1, none⟩ hgb).trans hw)).mono ?_
  rintro e w' ⟨rfl, o1, o2, o3, rfl⟩
  have hbb := ((((hb (.cells #[.pointer none] 138)).alloc (by simp) o1).alloc (by simp; omega) o2).alloc (by simp; omega) o3)
  have hgg := hgl.below hbb
  have gs := hgg.s
  have gw := (hbb.cell (p := ⟨g, 1, none⟩) hgb).trans hw
  generalize (((w.alloc (.cells #[.pointer none] 138)).alloc o1).alloc o2).alloc o3 = W at *
  obtain ⟨c1, t1, b1⟩ := hgg.bs
  obtain ⟨c2, t2, b2⟩ := hgg.bc
  go_wp2_with fail
  refine (is_wrap_other g aS aC c2 c1 t2 t1 W gw (Ne.symm hgg.ne) b2 b1).mono ?_
  rintro e w' ⟨rfl, rfl⟩
  go_wp2_with fail
  go_ret
  exact ⟨rfl, hbb⟩
end Go.Proofs.YtoeihlgidakjbaaGreatDoor
namespace Go.Proofs.YtoeihlgidakjbaaGreatDoor
open Go.RowKit
def UnfR (l : List UInt8) (v : Value) (n : Int) : Prop :=
  (unesc l = none ∧ v = zeroP ∧ n = 3) ∨
  (∃ c d t x y, unesc l = some ((c :: d :: t) ++ [x, y]) ∧
    ((¬ le16 x y = sumL (c :: d :: t) ∧ v = zeroP ∧ n = 4) ∨ (le16 x y = sumL (c :: d :: t) ∧ c.toNat = 0 ∧ v = zeroP ∧ n = 2) ∨ (le16 x y = sumL (c :: d :: t) ∧ ¬ c.toNat = 0 ∧ v = pktV c d t ∧ n = 0)))
theorem after_call {w w1 w2 : World} {p0 p1 p2 q0 q1 q2 : Value} {T : Nat} (hz : w.heap.size + 1 ≤ w1.heap.size)
    (f0 : w1.cell? ⟨w.heap.size, 0, none⟩ = some q0) (f1 : w1.cell? ⟨w.heap.size, 1, none⟩ = some q1) (f2 : w1.cell? ⟨w.heap.size, 2, none⟩ = some q2)
    (z0 : w1.frozen? ⟨w.heap.size, 0, none⟩ = false) (z1 : w1.frozen? ⟨w.heap.size, 1, none⟩ = false) (z2 : w1.frozen? ⟨w.heap.size, 2, none⟩ = false)
    (hb : Below (w1.heap.size + 1) (w1.alloc (.cells #[p0, p1, p2] T)).drew w2) :
    (w2.cell? ⟨w1.heap.size, 0, none⟩ = some p0 ∧ w2.cell? ⟨w1.heap.size, 1, none⟩ = some p1 ∧ w2.cell? ⟨w1.heap.size, 2, none⟩ = some p2) ∧
    (w2.cell? ⟨w.heap.size, 0, none⟩ = some q0 ∧ w2.cell? ⟨w.heap.size, 1, none⟩ = some q1 ∧ w2.cell? ⟨w.heap.size, 2, none⟩ = some q2) ∧
    (w2.frozen? ⟨w.heap.size, 0, none⟩ = false ∧ w2.frozen? ⟨w.heap.size, 1, none⟩ = false ∧ w2.frozen? ⟨w.heap.size, 2, none⟩ = false) := by
  have a : ∀ i, w2.cell? ⟨w1.heap.size, i, none⟩ = (w1.alloc (.cells #[p0, p1, p2] T)).cell? ⟨w1.heap.size, i, none⟩ := fun i => hb.cell (p := ⟨w1.heap.size, i, none⟩) (by simp)
  have b : ∀ i, w2.cell? ⟨w.heap.size, i, none⟩ = w1.cell? ⟨w.heap.size, i, none⟩ := fun i => (hb.cell (p := ⟨w.heap.size, i, none⟩) (by show w.heap.size < _; omega)).trans (World.cell?_alloc_lt _ _ ⟨w.heap.size, i, none⟩ (by show w.heap.size < _; omega))
  have c : ∀ i, w2.frozen? ⟨w.heap.size, i, none⟩ = w1.frozen? ⟨w.heap.size, i, none⟩ := fun i => (hb.frozen (p := ⟨w.heap.size, i, none⟩) (by show w.heap.size < _; omega)).trans (World.frozen?_alloc_old _ _ ⟨w.heap.size, i, none⟩ (by show w.heap.size ≠ _; omega))
  refine ⟨⟨(a 0).trans (by simp), (a 1).trans (by simp), (a 2).trans (by simp)⟩, ⟨(b 0).trans f0, (b 1).trans f1, (b 2).trans f2⟩, ⟨(c 0).trans z0, (c 1).trans z1, (c 2).trans z2⟩⟩
set_option maxHeartbeats 1000000 in
theorem unframe_any {aS aC aF aL aO aH : Addr} (b off cap : Nat) (l : List UInt8) (w : World) (hgl : Gl w aS aC aF aL aO aH) (hr : Rd w b off l) (hbl : b < w.heap.size) (hn : l.length ≤ 140737488351232) :
    Calls Tryz.prog 47 #[.slice (some ⟨b, off, none⟩) l.length cap] w fun e w' => Below w.heap.size w w' ∧ ∃ v n, e = .returned (.tuple #[v, .int .i64 n]) ∧ UnfR l v n := by
  have hb0 : ∀ o, Below w.heap.size w (w.alloc o) := fun o => (Below.refl _ _).alloc (Nat.le_refl _) o
  go_enter Tryz.func47, Tryz.ntmps47
  go_wp2_with fail
  refine (read_any b off cap l _ (hgl.below (hb0 _)).toGr (rd_below hr (hb0 _) hbl) (by simp; omega) hn).mono ?_
  rintro e w1 ⟨hb1, hcase⟩
  have hb2 : Below (w.heap.size + 1) (w.alloc (.cells #[.int .i64 0, .int .i64 0, .string ⟨#[]⟩] 27)) w1 := by simpa using hb1
  have hbb := (hb0 _).trans (hb2.mono (Nat.le_succ _))
  have hz := hb2.size
  simp at hz
  have hgl1 := hgl.below hbb
  obtain ⟨f0, f1, f2⟩ := below_cell3 hb2
  have z0 := below_frz hb2 0
  have z1 := below_frz hb2 1
  have z2 := below_frz hb2 2
  clear hb1 hb2
  rcases hcase with ⟨hu, a, rfl⟩ | ⟨c, d, t, x, y, hu, ⟨h1, g2, rfl, h3, h4⟩ | ⟨h1, h1', g2, rfl, h3, h4⟩ | ⟨h1, h1', rfl⟩⟩
  · have HU : Hid (UnfR l zeroP 3) := .inl ⟨hu, rfl, rfl⟩
    have hglW := hgl1.below (((Below.refl _ _).alloc (Nat.le_refl _) (.cells #[.int .i64 0, .int .i64 0, .string ⟨#[]⟩] 27)).drew)
    clear hu
    unfold zeroP
    go_wp2_with fail
    go_region_with (go_at_call 75; refine (errnoOf_frame a _ hglW).mono ?_; rintro e w2 ⟨rfl, hb3⟩; obtain ⟨⟨k0, k1, k2⟩, ⟨m0, m1, m2⟩, n0, n1, n2⟩ := after_call hz f0 f1 f2 z0 z1 z2 (by simpa using hb3))
    all_goals go_wp2
    all_goals
      refine bodyPost_ret (v := .tuple #[zeroP, .int .i64 3]) (by simp [results, Tryz.results47, go_sem, m0, m1, m2, zeroP]) rfl ⟨?_, _, _, rfl, HU.out⟩
      exact (((((hbb.alloc hbb.size _).drew.trans (hb3.mono (by simp; omega))).setCell (by simp) _).setCell (by simp) _).setCell (by simp) _)
  · have HU : Hid (UnfR l zeroP 4) := .inr ⟨c, d, t, x, y, hu, .inl ⟨h1, rfl, rfl⟩⟩
    have hglW := hgl1.below (((Below.refl _ _).alloc (Nat.le_refl _) (.cells #[.int .i64 0, .int .i64 0, .string ⟨#[]⟩] 27)).drew)
    have hgg : g2 < (w1.alloc (.cells #[.int .i64 0, .int .i64 0, .string ⟨#[]⟩] 27)).drew.heap.size := by simp; omega
    have h5 : (w1.alloc (.cells #[.int .i64 0, .int .i64 0, .string ⟨#[]⟩] 27)).drew.cell? ⟨g2, 1, none⟩ = _ := (World.cell?_alloc_lt _ _ ⟨g2, 1, none⟩ h3).trans h4
    unfold zeroP
    go_wp2_with fail
    go_region_with (go_at_call 75; refine (errnoOf_sum g2 _ hglW hgg h5).mono ?_; rintro e w2 ⟨rfl, hb3⟩; obtain ⟨⟨k0, k1, k2⟩, ⟨m0, m1, m2⟩, n0, n1, n2⟩ := after_call hz f0 f1 f2 z0 z1 z2 (by simpa using hb3))
    all_goals go_wp2
    all_goals
      refine bodyPost_ret (v := .tuple #[zeroP, .int .i64 4]) (by simp [results, Tryz.results47, go_sem, m0, m1, m2, zeroP]) rfl ⟨?_, _, _, rfl, HU.out⟩
      exact (((((hbb.alloc hbb.size _).drew.trans (hb3.mono (by simp; omega))).setCell (by simp) _).setCell (by simp) _).setCell (by simp) _)
  · have HU : Hid (UnfR l zeroP 2) := .inr ⟨c, d, t, x, y, hu, .inr (.inl ⟨h1, h1', rfl, rfl⟩)⟩
    have hglW := hgl1.below (((Below.refl _ _).alloc (Nat.le_refl _) (.cells #[.int .i64 0, .int .i64 0, .string ⟨#[]⟩] 27)).drew)
    have hgg : g2 < (w1.alloc (.cells #[.int .i64 0, .int .i64 0, .string ⟨#[]⟩] 27)).drew.heap.size := by simp; omega
    have h5 : (w1.alloc (.cells #[.int .i64 0, .int .i64 0, .string ⟨#[]⟩] 27)).drew.cell? ⟨g2, 1, none⟩ = _ := (World.cell?_alloc_lt _ _ ⟨g2, 1, none⟩ h3).trans h4
    unfold zeroP
    go_wp2_with fail
    go_region_with (go_at_call 75; refine (errnoOf_code g2 _ hglW hgg h5).mono ?_; rintro e w2 ⟨rfl, hb3⟩; obtain ⟨⟨k0, k1, k2⟩, ⟨m0, m1, m2⟩, n0, n1, n2⟩ := after_call hz f0 f1 f2 z0 z1 z2 (by simpa using hb3))
    all_goals go_wp2
    all_goals
      refine bodyPost_ret (v := .tuple #[zeroP, .int .i64 2]) (by simp [results, Tryz.results47, go_sem, m0, m1, m2, zeroP]) rfl ⟨?_, _, _, rfl, HU.out⟩
      exact (((((hbb.alloc hbb.size _).drew.trans (hb3.mono (by simp; omega))).setCell (by simp) _).setCell (by simp) _).setCell (by simp) _)
  · have HU : Hid (UnfR l (pktV c d t) 0) := .inr ⟨c, d, t, x, y, hu, .inr (.inr ⟨h1, h1', rfl, rfl⟩)⟩
    have hglW := hgl1.below (((Below.refl _ _).alloc (Nat.le_refl _) (.cells #[.int .i64 (c.toNat : Int), .int .i64 (d.toNat : Int), .string ⟨t.toArray⟩] 27)).drew)
    unfold pktV
    go_wp2_with fail
    go_region_with (go_at_call 75; refine (errnoOf_nil _).mono ?_; rintro e w2 ⟨rfl, hb3⟩; obtain ⟨⟨k0, k1, k2⟩, ⟨m0, m1, m2⟩, n0, n1, n2⟩ := after_call hz f0 f1 f2 z0 z1 z2 (by simpa using hb3))
    all_goals go_wp2
    all_goals
      refine bodyPost_ret (v := .tuple #[pktV c d t, .int .i64 0]) (by simp [results, Tryz.results47, go_sem, m0, m1, m2, pktV]) rfl ⟨?_, _, _, rfl, HU.out⟩
      exact (((((hbb.alloc hbb.size _).drew.trans (hb3.mono (by simp; omega))).setCell (by simp) _).setCell (by simp) _).setCell (by simp) _)
end Go.Proofs.YtoeihlgidakjbaaGreatDoor

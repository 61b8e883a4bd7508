/- contentOf returns new memory that reads as the packet's content; nothing old turns. -/
import Derived.Test.YtoeihlgidakjbaaGreatDoorSum
import Derived.Test.YtoeihlgidakjbaaGreatDoorEncl
import Derived.Lib.AppendStr
namespace Go.Proofs.YtoeihlgidakjbaaGreatDoor
open Go.RowKit Go.Lib

theorem wrap_u8_byte (c : UInt8) : IntKind.u8.wrap (c.toNat : Int) = (c.toNat : Int) := by
  have := UInt8.toNat_lt c
  simp only [IntKind.wrap, IntKind.signed, IntKind.bits, Bool.false_and, Bool.false_eq_true, if_false]
  omega

theorem own_head {w : World} {B : Nat} {v : Value} {c d : UInt8} {s : ByteArray} (h : w.ownsRow B 5 1 v (2 + s.size) ([.int .u8 (c.toNat : Int), .int .u8 (d.toNat : Int)] ++ strCells s)) :
    ∃ g cap, v = .slice (some ⟨g, 0, none⟩) (headOf c d s.data.toList).length cap ∧ Rd w g 0 (headOf c d s.data.toList) ∧ w.ownsRow B 5 1 v (headOf c d s.data.toList).length ((headOf c d s.data.toList).map bv) := by
  have e : [.int .u8 (c.toNat : Int), .int .u8 (d.toNat : Int)] ++ strCells s = (headOf c d s.data.toList).map bv := by
    simp [headOf, strCells, bv]
  rw [e] at h
  obtain ⟨hn, g, cap, h1, _, _, _, _, h2⟩ := owns_rd h (by simp [headOf])
  rw [hn] at h
  exact ⟨g, cap, h1, h2, h⟩

theorem own_content {w3 : World} {B : Nat} {v : Value} {c d : UInt8} {s : List UInt8} (hs : sumL (headOf c d s) < 65536)
    (h : w3.ownsRow (B + 1) 5 1 v ((headOf c d s).length + 2) (List.map bv (headOf c d s) ++ [Value.int IntKind.u8 ((sumL (headOf c d s) : Int) % 256), Value.int IntKind.u8 ((sumL (headOf c d s) : Int) / 256)])) :
    w3.ownsRow B 5 1 v (content c d s).length ((content c d s).map bv) := by
  have e1 : (content c d s).length = (headOf c d s).length + 2 := by simp [content]
  have e2 : (content c d s).map bv = List.map bv (headOf c d s) ++ [Value.int IntKind.u8 ((sumL (headOf c d s) : Int) % 256), Value.int IntKind.u8 ((sumL (headOf c d s) : Int) / 256)] := by
    generalize hx : sumL (headOf c d s) = x at *
    have h1 : ((UInt8.ofNat (x % 256)).toNat : Int) = (x : Int) % 256 := by rw [UInt8.toNat_ofNat']; omega
    have h2 : ((UInt8.ofNat (x / 256)).toNat : Int) = (x : Int) / 256 := by rw [UInt8.toNat_ofNat']; omega
    simp only [content, hx, List.map_append, List.map_cons, List.map_nil, bv, h1, h2]
  rw [e1, e2]
  exact owns_mono h (Nat.le_succ _)
theorem below_box {w w3 : World} {o : Obj} (h : Below (w.heap.size + 1) (w.alloc o) w3) : Below w.heap.size w w3 :=
  ((Below.refl _ _).alloc (Nat.le_refl _) o).trans (h.mono (Nat.le_succ _))
set_option maxHeartbeats 1000000 in
theorem contentOf_any (c d : UInt8) (s : ByteArray) (w : World) (hn : s.size ≤ 1000000) :
    Calls Tryz.prog 113 #[.agg #[.int .i64 (c.toNat : Int), .int .i64 (d.toNat : Int), .string s]] w fun e w' => ∃ v, e = .returned v ∧ w'.ownsRow w.heap.size 5 1 v (content c d s.data.toList).length ((content c d s.data.toList).map bv) ∧ Below w.heap.size w w' := by
  obtain ⟨i0, hi, hz0, hz1, hz2⟩ := info_parts Tryz.infoB
  have hhl : (headOf c d s.data.toList).length ≤ 2000000 := by rw [headOf_len]; simp; omega
  have hsl := sumL_lt (headOf c d s.data.toList)
  have hwc := wrap_u8_byte c
  have hwd := wrap_u8_byte d
  go_enter Tryz.func113, Tryz.ntmps113
  go_wp2_with (first | (at_make; go_must (refine wpList_make_own _ rfl _ _ 52 rfl (w.heap.size + 1) 5 i0 (.int .u8 0) 1 Tryz.underlying52 hi hz0 hz1 .i64 .i64 _ (2 + s.size + 2) rfl rfl (by omega) (by rw [hz2]; omega) (by unfold maxLen; omega) (by simp) ?_; intro w0 hownX hgrow0; have hown0 : w0.ownsRow (w.heap.size + 1) 5 1 (.slice (some ⟨w.heap.size + 1, 0, none⟩) 0 (2 + s.size + 2)) 0 [] := (by simpa using hownX); clear hownX; have hb0 : Below (w.heap.size + 1) (w.alloc (.cells #[.int .i64 (c.toNat : Int), .int .i64 (d.toNat : Int), .string s] 27)) w0 := (Below.refl _ _).grown hgrow0 (by simp) (fun k hk => by cases hk); clear hgrow0; obtain ⟨f0, f1, f2⟩ := below_cell3 hb0; have z0 := hb0.size; simp at z0)) | (at_builtin; refine wpList_append_own _ rfl (.tmp 11) (.tmp 18) 52 rfl (w.heap.size + 1) 5 i0 (.int .u8 0) 1 1 Tryz.underlying52 hi hz0 hz1 hz2 rfl (by decide) _ 0 [] rfl (hown0.alloc _) ⟨w0.heap.size, 0, none⟩ 2 2 [.int .u8 (c.toNat : Int), .int .u8 (d.toNat : Int)] rfl rfl (cell_two_new _ _ _ _) (by intro u hu; simp at hu; rcases hu with rfl | rfl <;> rfl) (by unfold maxLen; omega) (by omega) (by simp; omega) ?_; intro v1 w1 hown1 hgrow1 _; have hb1 := below_own hb0 z0 hown0 _ hgrow1; clear hgrow1; obtain ⟨g0, g1, g2⟩ := below_cell3 hb1; have z1 := hb1.size; simp at z1) | (at_builtin; refine wpList_append_own_string _ rfl (.tmp 20) (.tmp 22) 52 9 rfl (w.heap.size + 1) 5 i0 Tryz.underlying52 Tryz.underlying9 hi hz0 hz1 hz2 _ 2 [.int .u8 (c.toNat : Int), .int .u8 (d.toNat : Int)] rfl hown1 s rfl (by unfold maxLen; omega) (by omega) (by omega) ?_; intro v2 w2 hown2 hgrow2 _; have hb2 : Below (w.heap.size + 1) (w.alloc (.cells #[.int .i64 (c.toNat : Int), .int .i64 (d.toNat : Int), .string s] 27)) w2 := hb1.grown hgrow2 z1 (fun k hk => (hown1.lt k hk).1); clear hgrow2; have z2 := hb2.size; simp at z2; obtain ⟨g, cap, hv, hrd, hown4⟩ := own_head hown2; clear hown2; subst hv)  | (go_at_call 126; refine (sumOf_any g 0 cap (headOf c d s.data.toList) _ hrd hhl).mono ?_; rintro e w' ⟨rfl, rfl⟩) | (at_builtin; refine wpList_append_own _ rfl (.tmp 26) (.tmp 32) 52 rfl (w.heap.size + 1) 5 i0 (.int .u8 0) 1 1 Tryz.underlying52 hi hz0 hz1 hz2 rfl (by decide) _ (headOf c d s.data.toList).length _ rfl (hown4.alloc _) ⟨w2.heap.size, 0, none⟩ 2 2 _ rfl rfl (cell_two_new _ _ _ _) (by intro u hu; simp at hu; rcases hu with rfl | rfl <;> rfl) (by unfold maxLen; omega) (by omega) (by simp; omega) ?_; intro v3 w3 hown3 hgrow3 _))
  go_ret
  exact ⟨_, rfl, own_content hsl hown3, below_box (below_own hb2 z2 hown4 _ hgrow3)⟩
end Go.Proofs.YtoeihlgidakjbaaGreatDoor

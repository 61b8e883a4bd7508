/- The laws' example, for the kinds 1 and 2. -/
import Derived.Test.YtoeihlgidakjbaaGreatDoorPlain
namespace Go.Proofs.YtoeihlgidakjbaaGreatDoor
open Go.RowKit Go.Lib

theorem ex_line (code id : Int) (s : ByteArray) (h1 : 0 ≤ code) (h2 : code ≤ 255) (h3 : 0 ≤ id) (h4 : id ≤ 255) (hs : s.size ≤ 40) : ∃ S : ByteArray, S = ⟨(encl (content (UInt8.ofNat code.toNat) (UInt8.ofNat id.toNat) s.data.toList)).toArray⟩ ∧ S.size ≤ 1000 ∧ ∀ w, Calls Tryz.prog 33 #[.agg #[.int .i64 code, .int .i64 id, .string s]] w fun e w' => e = .returned (.string S) ∧ Below w.heap.size w w' := by
  have e1 : ((UInt8.ofNat code.toNat).toNat : Int) = code := by rw [UInt8.toNat_ofNat']; omega
  have e2 : ((UInt8.ofNat id.toNat).toNat : Int) = id := by rw [UInt8.toNat_ofNat']; omega
  refine ⟨_, rfl, ?_, fun w => ?_⟩
  · have := (escL_len (content (UInt8.ofNat code.toNat) (UInt8.ofNat id.toNat) s.data.toList)).2
    have h7 : (content (UInt8.ofNat code.toNat) (UInt8.ofNat id.toNat) s.data.toList).length = s.size + 4 := by simp [content, headOf]
    show (encl _).toArray.size ≤ _
    rw [List.size_toArray, encl_len]
    omega
  · have := line_any (UInt8.ofNat code.toNat) (UInt8.ofNat id.toNat) s w (by omega)
    rw [e1, e2] at this
    exact this
/-- What the example's three packets are, in three blocks. -/
theorem px_below {b0 b1 b2 : Nat} {R A : ByteArray} {w w' : World} {B : Nat}
    (h : w.cell? ⟨b0, 0, none⟩ = some (.int .i64 5) ∧ w.cell? ⟨b0, 1, none⟩ = some (.int .i64 1) ∧ w.cell? ⟨b0, 2, none⟩ = some (.string ⟨#[]⟩) ∧ w.cell? ⟨b1, 0, none⟩ = some (.int .i64 1) ∧ w.cell? ⟨b1, 1, none⟩ = some (.int .i64 1) ∧ w.cell? ⟨b1, 2, none⟩ = some (.string R) ∧ w.cell? ⟨b2, 0, none⟩ = some (.int .i64 2) ∧ w.cell? ⟨b2, 1, none⟩ = some (.int .i64 1) ∧ w.cell? ⟨b2, 2, none⟩ = some (.string A))
    (hb : Below B w w') (h0 : b0 < B) (h1 : b1 < B) (h2 : b2 < B) :
    w'.cell? ⟨b0, 0, none⟩ = some (.int .i64 5) ∧ w'.cell? ⟨b0, 1, none⟩ = some (.int .i64 1) ∧ w'.cell? ⟨b0, 2, none⟩ = some (.string ⟨#[]⟩) ∧ w'.cell? ⟨b1, 0, none⟩ = some (.int .i64 1) ∧ w'.cell? ⟨b1, 1, none⟩ = some (.int .i64 1) ∧ w'.cell? ⟨b1, 2, none⟩ = some (.string R) ∧ w'.cell? ⟨b2, 0, none⟩ = some (.int .i64 2) ∧ w'.cell? ⟨b2, 1, none⟩ = some (.int .i64 1) ∧ w'.cell? ⟨b2, 2, none⟩ = some (.string A) := by
  obtain ⟨c0, c1, c2, c3, c4, c5, c6, c7, c8⟩ := h
  exact ⟨(hb.cell (p := ⟨b0, 0, none⟩) h0).trans c0, (hb.cell (p := ⟨b0, 1, none⟩) h0).trans c1, (hb.cell (p := ⟨b0, 2, none⟩) h0).trans c2,
    (hb.cell (p := ⟨b1, 0, none⟩) h1).trans c3, (hb.cell (p := ⟨b1, 1, none⟩) h1).trans c4, (hb.cell (p := ⟨b1, 2, none⟩) h1).trans c5,
    (hb.cell (p := ⟨b2, 0, none⟩) h2).trans c6, (hb.cell (p := ⟨b2, 1, none⟩) h2).trans c7, (hb.cell (p := ⟨b2, 2, none⟩) h2).trans c8⟩
/-- The example's script: its seven steps, and their cells. -/
def exO (x0 x1 x2 x3 x4 x5 : Value) (LL : ByteArray) : Nat → OpC
  | 0 => ⟨1, 0, 5, 1, ⟨#[]⟩, ⟨#[]⟩, .slice none 0 0, .slice none 0 0, .slice none 0 0, .slice none 0 0, .slice none 0 0, .slice none 0 0, .int .i64 0, 0⟩
  | 1 => ⟨2, 0, 0, 0, ⟨#[]⟩, ⟨#[5, 1, 119, 1]⟩, .slice none 0 0, .slice none 0 0, .slice none 0 0, .slice none 0 0, .slice none 0 0, .slice none 0 0, .int .i64 0, 0⟩
  | 2 => ⟨3, 0, 0, 0, ⟨#[]⟩, ⟨#[]⟩, x0, x1, x2, x3, x4, x5, .int .i64 7, 0⟩
  | 3 => ⟨4, 0, 0, 0, ⟨#[]⟩, ⟨#[]⟩, .slice none 0 0, .slice none 0 0, .slice none 0 0, .slice none 0 0, .slice none 0 0, .slice none 0 0, .int .i64 0, 3⟩
  | 4 => ⟨4, 0, 0, 0, ⟨#[]⟩, ⟨#[]⟩, .slice none 0 0, .slice none 0 0, .slice none 0 0, .slice none 0 0, .slice none 0 0, .slice none 0 0, .int .i64 0, 1⟩
  | 5 => ⟨5, 0, 0, 0, ⟨#[]⟩, LL, .slice none 0 0, .slice none 0 0, .slice none 0 0, .slice none 0 0, .slice none 0 0, .slice none 0 0, .int .i64 0, 0⟩
  | _ => ⟨6, 0, 0, 0, ⟨#[]⟩, ⟨#[]⟩, .slice none 0 0, .slice none 0 0, .slice none 0 0, .slice none 0 0, .slice none 0 0, .slice none 0 0, .int .i64 0, 0⟩
def exCells (x0 x1 x2 x3 x4 x5 : Value) (LL : ByteArray) : Array Value := #[.int .i64 1, .int .i64 0, .int .i64 5, .int .i64 1, .string ⟨#[]⟩, .string ⟨#[]⟩, .slice none 0 0, .slice none 0 0, .slice none 0 0, .slice none 0 0, .slice none 0 0, .slice none 0 0, .int .i64 0, .int .i64 0, .int .i64 2, .int .i64 0, .int .i64 0, .int .i64 0, .string ⟨#[]⟩, .string ⟨#[5, 1, 119, 1]⟩, .slice none 0 0, .slice none 0 0, .slice none 0 0, .slice none 0 0, .slice none 0 0, .slice none 0 0, .int .i64 0, .int .i64 0, .int .i64 3, .int .i64 0, .int .i64 0, .int .i64 0, .string ⟨#[]⟩, .string ⟨#[]⟩, x0, x1, x2, x3, x4, x5, .int .i64 7, .int .i64 0, .int .i64 4, .int .i64 0, .int .i64 0, .int .i64 0, .string ⟨#[]⟩, .string ⟨#[]⟩, .slice none 0 0, .slice none 0 0, .slice none 0 0, .slice none 0 0, .slice none 0 0, .slice none 0 0, .int .i64 0, .int .i64 3, .int .i64 4, .int .i64 0, .int .i64 0, .int .i64 0, .string ⟨#[]⟩, .string ⟨#[]⟩, .slice none 0 0, .slice none 0 0, .slice none 0 0, .slice none 0 0, .slice none 0 0, .slice none 0 0, .int .i64 0, .int .i64 1, .int .i64 5, .int .i64 0, .int .i64 0, .int .i64 0, .string ⟨#[]⟩, .string LL, .slice none 0 0, .slice none 0 0, .slice none 0 0, .slice none 0 0, .slice none 0 0, .slice none 0 0, .int .i64 0, .int .i64 0, .int .i64 6, .int .i64 0, .int .i64 0, .int .i64 0, .string ⟨#[]⟩, .string ⟨#[]⟩, .slice none 0 0, .slice none 0 0, .slice none 0 0, .slice none 0 0, .slice none 0 0, .slice none 0 0, .int .i64 0, .int .i64 0]
theorem exScr (W : World) (x0 x1 x2 x3 x4 x5 : Value) (LL : ByteArray) (T : Nat) (hL : LL.size ≤ 2000) : Scr (W.alloc (.cells (exCells x0 x1 x2 x3 x4 x5 LL) T)) W.heap.size 0 7 (exO x0 x1 x2 x3 x4 x5 LL) := by
  intro i hi
  have hc : ∀ j, (W.alloc (.cells (exCells x0 x1 x2 x3 x4 x5 LL) T)).cell? ⟨W.heap.size, j, none⟩ = (exCells x0 x1 x2 x3 x4 x5 LL)[j]? := fun j => World.cell?_alloc_at _ T _ j rfl
  have h4 : (⟨#[5, 1, 119, 1]⟩ : ByteArray).size ≤ 140737488351232 := by decide
  have h0 : (⟨#[]⟩ : ByteArray).size ≤ 140737488351232 := by decide
  have h1 : (⟨#[]⟩ : ByteArray).size ≤ maxLen := by decide
  rcases (by omega : i = 0 ∨ i = 1 ∨ i = 2 ∨ i = 3 ∨ i = 4 ∨ i = 5 ∨ i = 6) with rfl | rfl | rfl | rfl | rfl | rfl | rfl
  · exact ⟨⟨(hc _).trans rfl, (hc _).trans rfl, (hc _).trans rfl, (hc _).trans rfl, (hc _).trans rfl, (hc _).trans rfl, (hc _).trans rfl, (hc _).trans rfl, (hc _).trans rfl, (hc _).trans rfl, (hc _).trans rfl, (hc _).trans rfl, (hc _).trans rfl, (hc _).trans rfl⟩, h1, h0⟩
  · exact ⟨⟨(hc _).trans rfl, (hc _).trans rfl, (hc _).trans rfl, (hc _).trans rfl, (hc _).trans rfl, (hc _).trans rfl, (hc _).trans rfl, (hc _).trans rfl, (hc _).trans rfl, (hc _).trans rfl, (hc _).trans rfl, (hc _).trans rfl, (hc _).trans rfl, (hc _).trans rfl⟩, h1, h4⟩
  · exact ⟨⟨(hc _).trans rfl, (hc _).trans rfl, (hc _).trans rfl, (hc _).trans rfl, (hc _).trans rfl, (hc _).trans rfl, (hc _).trans rfl, (hc _).trans rfl, (hc _).trans rfl, (hc _).trans rfl, (hc _).trans rfl, (hc _).trans rfl, (hc _).trans rfl, (hc _).trans rfl⟩, h1, h0⟩
  · exact ⟨⟨(hc _).trans rfl, (hc _).trans rfl, (hc _).trans rfl, (hc _).trans rfl, (hc _).trans rfl, (hc _).trans rfl, (hc _).trans rfl, (hc _).trans rfl, (hc _).trans rfl, (hc _).trans rfl, (hc _).trans rfl, (hc _).trans rfl, (hc _).trans rfl, (hc _).trans rfl⟩, h1, h0⟩
  · exact ⟨⟨(hc _).trans rfl, (hc _).trans rfl, (hc _).trans rfl, (hc _).trans rfl, (hc _).trans rfl, (hc _).trans rfl, (hc _).trans rfl, (hc _).trans rfl, (hc _).trans rfl, (hc _).trans rfl, (hc _).trans rfl, (hc _).trans rfl, (hc _).trans rfl, (hc _).trans rfl⟩, h1, h0⟩
  · exact ⟨⟨(hc _).trans rfl, (hc _).trans rfl, (hc _).trans rfl, (hc _).trans rfl, (hc _).trans rfl, (hc _).trans rfl, (hc _).trans rfl, (hc _).trans rfl, (hc _).trans rfl, (hc _).trans rfl, (hc _).trans rfl, (hc _).trans rfl, (hc _).trans rfl, (hc _).trans rfl⟩, h1, (Nat.le_trans hL (by decide))⟩
  · exact ⟨⟨(hc _).trans rfl, (hc _).trans rfl, (hc _).trans rfl, (hc _).trans rfl, (hc _).trans rfl, (hc _).trans rfl, (hc _).trans rfl, (hc _).trans rfl, (hc _).trans rfl, (hc _).trans rfl, (hc _).trans rfl, (hc _).trans rfl, (hc _).trans rfl, (hc _).trans rfl⟩, h1, h0⟩
set_option maxRecDepth 100000 in
set_option maxHeartbeats 2000000 in
theorem example_12 {aS aC aF aL aO aH : Addr} (w : World) (hgl : Gl w aS aC aF aL aO aH) :
    Calls Tryz.prog 13 #[.int .i64 1, .int .i64 2] w fun r w' => r = .returned (.bool true) ∧ Below w.heap.size w w' := by
  obtain ⟨R, hR⟩ : ∃ R : ByteArray, R = ⟨#[1, 5, 0, 2, 5, 0, 3, 5, 0, 4, 8, 0]⟩ := ⟨_, rfl⟩
  obtain ⟨A, hA⟩ : ∃ A : ByteArray, A = ⟨#[1, 5, 0, 2, 5, 0, 3, 5, 0, 4, 7, 0]⟩ := ⟨_, rfl⟩
  obtain ⟨L1, hd1, hz1, hl1⟩ := ex_line 1 1 R (by decide) (by decide) (by decide) (by decide) (by rw [hR]; decide)
  obtain ⟨L2, hd2, hz2, hl2⟩ := ex_line 2 1 A (by decide) (by decide) (by decide) (by decide) (by rw [hA]; decide)
  go_enter Tryz.func13, Tryz.ntmps13
  go_upto_region 9 with fail
  obtain ⟨W, hW⟩ : ∃ W, W = (((w.alloc (Obj.cells #[Value.int IntKind.i64 5, Value.int IntKind.i64 1, Value.string ⟨#[]⟩] 27)).alloc (Obj.cells #[Value.int IntKind.i64 1, Value.int IntKind.i64 1, Value.string ⟨#[1, 5, 0, 2, 5, 0, 3, 5, 0, 4, 8, 0]⟩] 27)).alloc (Obj.cells #[Value.int IntKind.i64 2, Value.int IntKind.i64 1, Value.string ⟨#[1, 5, 0, 2, 5, 0, 3, 5, 0, 4, 7, 0]⟩] 27)) := ⟨_, rfl⟩
  have hz : W.heap.size = w.heap.size + 3 := by rw [hW]; simp
  have hbW : Below w.heap.size w W := by rw [hW]; exact (((Below.refl _ _).alloc (Nat.le_refl _) _).alloc (by simp) _).alloc (by simp; omega) _
  obtain ⟨b0, hb0⟩ : ∃ b0, b0 = w.heap.size := ⟨_, rfl⟩
  obtain ⟨b1, hb1⟩ : ∃ b1, b1 = w.heap.size + 1 := ⟨_, rfl⟩
  obtain ⟨b2, hb2⟩ : ∃ b2, b2 = w.heap.size + 1 + 1 := ⟨_, rfl⟩
  have hpx : W.cell? ⟨b0, 0, none⟩ = some (.int .i64 5) ∧ W.cell? ⟨b0, 1, none⟩ = some (.int .i64 1) ∧ W.cell? ⟨b0, 2, none⟩ = some (.string ⟨#[]⟩) ∧ W.cell? ⟨b1, 0, none⟩ = some (.int .i64 1) ∧ W.cell? ⟨b1, 1, none⟩ = some (.int .i64 1) ∧ W.cell? ⟨b1, 2, none⟩ = some (.string R) ∧ W.cell? ⟨b2, 0, none⟩ = some (.int .i64 2) ∧ W.cell? ⟨b2, 1, none⟩ = some (.int .i64 1) ∧ W.cell? ⟨b2, 2, none⟩ = some (.string A) := by
    rw [hW, hb0, hb1, hb2, hR, hA]
    go_simp
  have l0 : b0 < W.heap.size := by omega
  have l1 : b1 < W.heap.size := by omega
  have l2 : b2 < W.heap.size := by omega
  rw [← hW, ← hb2, ← hb1, ← hb0, ← hR]
  have HG : Hid (Gl w aS aC aF aL aO aH) := hgl
  have HBW : Hid (Below w.heap.size w W) := hbW
  have HL1 : Hid (∀ w, Calls Tryz.prog 33 #[.agg #[.int .i64 1, .int .i64 1, .string R]] w fun e w' => e = .returned (.string L1) ∧ Below w.heap.size w w') := hl1
  have HL2 : Hid (∀ w, Calls Tryz.prog 33 #[.agg #[.int .i64 2, .int .i64 1, .string A]] w fun e w' => e = .returned (.string L2) ∧ Below w.heap.size w w') := hl2
  have hgt : (9223372036854775807 < L1.size + L2.size) = False := by simp; omega
  have hgt2 : ((9223372036854775807 : Int) < (L1.size : Int) + (L2.size : Int)) = False := by simp; omega
  have hLz : (L1 ++ L2).size ≤ 2000 := by rw [ByteArray.size_append]; omega
  clear hd1 hd2 hgl hbW hl1 hl2 hW hR hA hz hb0 hb1 hb2 hz1 hz2
  go_region_held3 (fun w' => w'.cell? ⟨b0, 0, none⟩ = some (.int .i64 5) ∧ w'.cell? ⟨b0, 1, none⟩ = some (.int .i64 1) ∧ w'.cell? ⟨b0, 2, none⟩ = some (.string ⟨#[]⟩) ∧ w'.cell? ⟨b1, 0, none⟩ = some (.int .i64 1) ∧ w'.cell? ⟨b1, 1, none⟩ = some (.int .i64 1) ∧ w'.cell? ⟨b1, 2, none⟩ = some (.string R) ∧ w'.cell? ⟨b2, 0, none⟩ = some (.int .i64 2) ∧ w'.cell? ⟨b2, 1, none⟩ = some (.int .i64 1) ∧ w'.cell? ⟨b2, 2, none⟩ = some (.string A)) (first | exact hpx | assumption | exact px_below hSm ((Below.refl wm.heap.size wm).alloc (Nat.le_refl _) _) l0m l1m l2m) (first | (go_at_call 32; refine (plain_any _ _).mono ?_; rintro e wq ⟨x0, x1, x2, x3, x4, x5, rfl, hbq, hnum⟩; have hSq := px_below (by exact hpx) hbq (by exact l0) (by exact l1) (by exact l2); have l0q : b0 < wq.heap.size := Nat.lt_of_lt_of_le l0 hbq.size; have l1q : b1 < wq.heap.size := Nat.lt_of_lt_of_le l1 hbq.size; have l2q : b2 < wq.heap.size := Nat.lt_of_lt_of_le l2 hbq.size; have HBq : Hid (Below w.heap.size w wq) := by first | exact HBW.out.trans (hbq.mono HBW.out.size) | exact HBW.out.drew.trans (hbq.mono HBW.out.size)) | (go_at_call_of 33 R; refine (HL1.out _).mono ?_; rintro e wl ⟨rfl, hbl⟩; have hSl := px_below (by exact hSq) hbl (by exact l0q) (by exact l1q) (by exact l2q); have l0l : b0 < wl.heap.size := Nat.lt_of_lt_of_le l0q hbl.size; have l1l : b1 < wl.heap.size := Nat.lt_of_lt_of_le l1q hbl.size; have l2l : b2 < wl.heap.size := Nat.lt_of_lt_of_le l2q hbl.size; have HBl : Hid (Below w.heap.size w wl) := by first | exact HBq.out.trans (hbl.mono HBq.out.size) | exact HBq.out.drew.trans (hbl.mono HBq.out.size)) | (go_at_call_of 33 A; refine (HL2.out _).mono ?_; rintro e wm ⟨rfl, hbm⟩; have hSm := px_below (by exact hSl) hbm (by exact l0l) (by exact l1l) (by exact l2l); have l0m : b0 < wm.heap.size := Nat.lt_of_lt_of_le l0l hbm.size; have l1m : b1 < wm.heap.size := Nat.lt_of_lt_of_le l1l hbm.size; have l2m : b2 < wm.heap.size := Nat.lt_of_lt_of_le l2l hbm.size; have HBm : Hid (Below w.heap.size w wm) := by first | exact HBl.out.trans (hbm.mono HBl.out.size) | exact HBl.out.drew.trans (hbm.mono HBl.out.size)))
  go_wp2_with fail
  have hba : Below wm.heap.size wm (wm.alloc (.cells (exCells x0 x1 x2 x3 x4 x5 (L1 ++ L2)) 33)) := (Below.refl _ _).alloc (Nat.le_refl _) _
  have hb4 : Below w.heap.size w (wm.alloc (.cells (exCells x0 x1 x2 x3 x4 x5 (L1 ++ L2)) 33)) := HBm.out.trans (hba.mono HBm.out.size)
  refine Calls.mono (upto_12 wm.heap.size 0 7 7 (exO x0 x1 x2 x3 x4 x5 (L1 ++ L2)) (some ⟨wm.heap.size, 0, none⟩) (wm.alloc (.cells (exCells x0 x1 x2 x3 x4 x5 (L1 ++ L2)) 33)) (HG.out.below hb4) (fun _ => rfl) (fun _ => by simp) (exScr wm x0 x1 x2 x3 x4 x5 (L1 ++ L2) _ hLz) (by decide)) ?_
  rintro r w9 ⟨rfl, hb9⟩
  have HE : Hid (Below w.heap.size w w9) := hb4.trans (hb9.mono hb4.size)
  clear hb9 hb4 hba hSm hSl hSq hpx
  go_wp2_with fail
  go_ret
  exact ⟨rfl, HE.out⟩
end Go.Proofs.YtoeihlgidakjbaaGreatDoor

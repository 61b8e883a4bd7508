/- packetOf: the packet of a content, or an error value that wraps the sum's or the code's; nothing old turns. -/
import Derived.Test.YtoeihlgidakjbaaGreatDoorUnesc
import Derived.Deep.QuietTactic
import Derived.BigQuiet
import Derived.Laws.ResultCell
import Derived.Laws.BytesString
namespace Go.Proofs.YtoeihlgidakjbaaGreatDoor
open Go.RowKit

/-- Two bytes as a number, the lower one first. -/
def le16 (x y : UInt8) : Nat := x.toNat + 256 * y.toNat
theorem le16_bits (x y : UInt8) : bits BinOp.or IntKind.u16 (IntKind.u16.wrap (x.toNat : Int)) (IntKind.u16.wrap (IntKind.u16.wrap (y.toNat : Int) * 256)) = (le16 x y : Int) := by
  have hx := UInt8.toNat_lt x
  have hy := UInt8.toNat_lt y
  have e1 : IntKind.u16.wrap (x.toNat : Int) = (x.toNat : Int) := by
    simp only [IntKind.wrap, IntKind.signed, IntKind.bits, Bool.false_and, Bool.false_eq_true, if_false]; omega
  have e2 : IntKind.u16.wrap (IntKind.u16.wrap (y.toNat : Int) * 256) = ((2 ^ 8 * y.toNat : Nat) : Int) := by
    simp only [IntKind.wrap, IntKind.signed, IntKind.bits, Bool.false_and, Bool.false_eq_true, if_false]; omega
  rw [e1, e2, u16_or_nat _ _ (by omega) (by omega), Nat.or_comm, ← Nat.two_pow_add_eq_or_of_lt (by omega)]
  unfold le16; omega
theorem push_all : ∀ (t : List UInt8) (s : ByteArray), (t.map fun c => (c.toNat : Int)).foldl (fun r n => r.push (UInt8.ofNat n.toNat)) s = ⟨s.data ++ t.toArray⟩ := by
  intro t
  induction t with
  | nil => intro s; simp
  | cons c r ih =>
    intro s
    simp only [List.map_cons, List.foldl_cons, ih]
    simp [ByteArray.push]
theorem addr_add (b off j : Nat) : (⟨b, off, none⟩ : Addr).add j = ⟨b, off + j, none⟩ := by unfold Addr.add; split <;> simp_all
/-- 'string(b)' of a slice of bytes. -/
theorem conv_bytes (w : World) (b off cap : Nat) (t : List UInt8) (hr : Rd w b off t) :
    (convert 52 9 (.slice (some ⟨b, off, none⟩) t.length cap)).run Tryz.prog w = .ok (.string ⟨t.toArray⟩) w := by
  rw [run_convert_bytes_string w 52 9 5 _ _ _ Tryz.underlying52 Tryz.underlying5 Tryz.underlying9]
  rw [run_bytesToString w ⟨b, off, none⟩ t.length cap (t.map fun c => (c.toNat : Int))]
  · rw [push_all]; simp
  · have := run_loadCells_list (P := Tryz.prog) w ⟨b, off, none⟩ ((t.map fun c => (c.toNat : Int)).map (Value.int .u8)) (by
      intro j v hj
      have hlt : j < t.length := by
        rcases Nat.lt_or_ge j t.length with h | h
        · exact h
        · simp [List.getElem?_eq_none h] at hj
      have := hr j hlt
      simp [List.getElem?_eq_getElem hlt] at hj
      rw [← hj, addr_add]; exact this)
    simpa using this

theorem w64b (c : UInt8) : wrap64 (c.toNat : Int) = (c.toNat : Int) := by
  have := UInt8.toNat_lt c
  unfold wrap64; omega
set_option maxHeartbeats 1000000 in
theorem packetOf_any {aS aC aF aL aO aH : Addr} (b cap : Nat) (c d : UInt8) (t : List UInt8) (x y : UInt8) (w : World) (hgl : Gr w aS aC aF aL aO aH) (hr : Rd w b 0 ((c :: d :: t) ++ [x, y])) (hbl : b < w.heap.size) (hn : t.length ≤ 40) (hcap : t.length + 2 + 2 ≤ cap) :
    Calls Tryz.prog 101 #[.slice (some ⟨b, 0, none⟩) (t.length + 2 + 2) cap] w fun e w' => Below w.heap.size w w' ∧
      ((¬ le16 x y = sumL (c :: d :: t) ∧ ∃ g, e = .returned (.tuple #[.agg #[.int .i64 0, .int .i64 0, .string ⟨#[]⟩], .iface 160 (.pointer (some ⟨g, 0, none⟩))]) ∧ w.heap.size ≤ g ∧ g < w'.heap.size ∧ w'.cell? ⟨g, 1, none⟩ = some (.iface 216 (.pointer (some aS)))) ∨
       (le16 x y = sumL (c :: d :: t) ∧ c.toNat = 0 ∧ ∃ g, e = .returned (.tuple #[.agg #[.int .i64 0, .int .i64 0, .string ⟨#[]⟩], .iface 160 (.pointer (some ⟨g, 0, none⟩))]) ∧ w.heap.size ≤ g ∧ g < w'.heap.size ∧ w'.cell? ⟨g, 1, none⟩ = some (.iface 216 (.pointer (some aC)))) ∨
       (le16 x y = sumL (c :: d :: t) ∧ ¬ c.toNat = 0 ∧ e = .returned (.tuple #[.agg #[.int .i64 (c.toNat : Int), .int .i64 (d.toNat : Int), .string ⟨t.toArray⟩], .nilIface]))) := by
  have c0 : w.cell? ⟨b, 0, none⟩ = some (.int .u8 (c.toNat : Int)) := by simpa using hr 0 (by simp)
  have c1 : w.cell? ⟨b, 1, none⟩ = some (.int .u8 (d.toNat : Int)) := by simpa using hr 1 (by simp)
  have c2 : w.cell? ⟨b, t.length + 2, none⟩ = some (.int .u8 (x.toNat : Int)) := by simpa using hr (t.length + 2) (by simp)
  have c3 : w.cell? ⟨b, t.length + 2 + 1, none⟩ = some (.int .u8 (y.toNat : Int)) := by simpa using hr (t.length + 2 + 1) (by simp)
  have hrh : Rd (w.alloc (.cells #[.int .i64 0, .int .i64 0, .string ⟨#[]⟩] 27)) b 0 (c :: d :: t) := by
    intro k hk
    rw [World.cell?_alloc_lt _ _ ⟨b, 0 + k, none⟩ hbl, hr k (by simp at hk ⊢; omega)]
    rw [List.getElem_append_left hk]
  have hrt : ∀ m, Rd ((w.alloc (.cells #[.int .i64 0, .int .i64 0, .string ⟨#[]⟩] 27)).drewN m) b 2 t := by
    intro m k hk
    have := hrh (k + 2) (by simp; omega)
    rw [show 2 + k = 0 + (k + 2) from by omega]
    simpa using this
  have hcv := fun m => conv_bytes _ b 2 (cap - 2) t (hrt m)
  clear hrt
  have gz := hgl.size
  have gz0 : 0 < w.heap.size := by omega
  have gz5 : 5 < w.heap.size := by omega
  have g0 : (w.alloc (.cells #[.int .i64 0, .int .i64 0, .string ⟨#[]⟩] 27)).cell? ⟨0, 0, none⟩ = some (.iface 216 (.pointer (some aS))) := by rw [World.cell?_alloc_lt _ _ ⟨0, 0, none⟩ gz0]; exact hgl.s
  have g5 : (w.alloc (.cells #[.int .i64 0, .int .i64 0, .string ⟨#[]⟩] 27)).cell? ⟨5, 0, none⟩ = some (.iface 216 (.pointer (some aC))) := by rw [World.cell?_alloc_lt _ _ ⟨5, 0, none⟩ gz5]; exact hgl.c
  go_enter Tryz.func101, Tryz.ntmps101
  go_wp2_with fail
  go_quiet (fail)
  go_wp2_with fail
  rw [le16_bits]
  refine (sumOf_any b 0 cap (c :: d :: t) _ (by exact hrh) (by simp; omega)).mono ?_
  rintro e w' ⟨rfl, rfl⟩
  by_cases hs : le16 x y = sumL (c :: d :: t)
  · by_cases hc0 : c.toNat = 0
    · have hs' : ((le16 x y : Int) != (sumL (c :: d :: t) : Int)) = false := by simp; omega
      have HS : Hid (le16 x y = sumL (c :: d :: t)) := hs
      have HC : Hid (c.toNat = 0) := hc0
      have hc' : ((c.toNat : Int) == 0) = true := by simp; omega
      clear hs hc0
      go_wp2_with fail
      go_region
      go_wp2
      refine bodyPost_ret (v := .tuple #[.agg #[.int .i64 0, .int .i64 0, .string ⟨#[]⟩], .iface 160 (.pointer (some ⟨w.heap.size + 1, 0, none⟩))]) (by simp [results, Tryz.results101, go_sem]) rfl ⟨?_, .inr (.inl ⟨HS.out, HC.out, w.heap.size + 1, rfl, ?_, ?_, ?_⟩)⟩
      · exact (((((below_drewN ((Below.refl _ _).alloc (Nat.le_refl _) _) _).setCell (by simp) _).setCell (by simp) _).setCell (by simp) _).alloc (by simp) _)
      · omega
      · simp
      · rw [World.cell?_alloc_at _ _ _ _ (by simp)]; rfl
    · have hs' : ((le16 x y : Int) != (sumL (c :: d :: t) : Int)) = false := by simp; omega
      have HS : Hid (le16 x y = sumL (c :: d :: t)) := hs
      have HC : Hid (¬ c.toNat = 0) := hc0
      have hc' : ((c.toNat : Int) == 0) = false := by simp; omega
      clear hs hc0
      go_wp2_with fail
      go_region
      go_wp2
      rw [w64b, w64b]
      refine bodyPost_ret (v := .tuple #[.agg #[.int .i64 (c.toNat : Int), .int .i64 (d.toNat : Int), .string ⟨t.toArray⟩], .nilIface]) (by simp [results, Tryz.results101, go_sem]) rfl ⟨?_, .inr (.inr ⟨HS.out, HC.out, rfl⟩)⟩
      exact ((((below_drewN ((Below.refl _ _).alloc (Nat.le_refl _) _) _).setCell (by simp) _).setCell (by simp) _).setCell (by simp) _)
  · have hs' : ((le16 x y : Int) != (sumL (c :: d :: t) : Int)) = true := by simp; omega
    have HS : Hid (¬ le16 x y = sumL (c :: d :: t)) := hs
    clear hs
    go_wp2_with fail
    go_region
    go_wp2
    refine bodyPost_ret (v := .tuple #[.agg #[.int .i64 0, .int .i64 0, .string ⟨#[]⟩], .iface 160 (.pointer (some ⟨w.heap.size + 1, 0, none⟩))]) (by simp [results, Tryz.results101, go_sem]) rfl ⟨?_, .inl ⟨HS.out, w.heap.size + 1, rfl, ?_, ?_, ?_⟩⟩
    · exact (((((below_drewN ((Below.refl _ _).alloc (Nat.le_refl _) _) _).setCell (by simp) _).setCell (by simp) _).setCell (by simp) _).alloc (by simp) _)
    · omega
    · simp
    · rw [World.cell?_alloc_at _ _ _ _ (by simp)]; rfl
end Go.Proofs.YtoeihlgidakjbaaGreatDoor

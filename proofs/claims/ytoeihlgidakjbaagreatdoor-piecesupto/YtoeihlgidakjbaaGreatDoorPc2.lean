/- unescape: the content that stands between two flags in new memory, or an error value of the frame's own kind; nothing old turns. packetOf: the packet of a content, or an error value that wraps the sum's or the code's; nothing old turns. Lined's mathematics: escapes read back give the content; a byte less, or a bit turned, never does. Read: what stands between two flags as a packet, or the error value. -/
import Derived.Test.YtoeihlgidakjbaaGreatDoorPc1
import Derived.RegionTactic
import Derived.ChangeAlike
import Derived.Deep.QuietTactic
import Derived.BigQuiet
import Derived.Laws.ResultCell
import Derived.Laws.BytesString
namespace Go.Proofs.YtoeihlgidakjbaaGreatDoor
open Go.RowKit
structure Gr (w : World) (aS aC aF aL aO aH : Addr) : Prop where
  s : w.cell? ⟨0, 0, none⟩ = some (.iface 216 (.pointer (some aS)))
  f : w.cell? ⟨1, 0, none⟩ = some (.iface 216 (.pointer (some aF)))
  l : w.cell? ⟨2, 0, none⟩ = some (.iface 216 (.pointer (some aL)))
  o : w.cell? ⟨3, 0, none⟩ = some (.iface 216 (.pointer (some aO)))
  h : w.cell? ⟨4, 0, none⟩ = some (.iface 216 (.pointer (some aH)))
  c : w.cell? ⟨5, 0, none⟩ = some (.iface 216 (.pointer (some aC)))
  ne : aS ≠ aC
  bs : ∃ c t, w.heap[aS.block]? = some (.cells c t (0, 0))
  bc : ∃ c t, w.heap[aC.block]? = some (.cells c t (0, 0))
  size : 11 ≤ w.heap.size
structure Gl (w : World) (aS aC aF aL aO aH : Addr) : Prop extends Gr w aS aC aF aL aO aH where
  t : w.cell? ⟨6, 0, none⟩ = some (.iface 198 (.agg #[.pointer (some ⟨11, 118, none⟩)]))
theorem lt_of_block {w : World} {k : Nat} {o : Obj} (h : w.heap[k]? = some o) : k < w.heap.size := by
  rcases Nat.lt_or_ge k w.heap.size with h' | h'
  · exact h'
  · simp [Array.getElem?_eq_none h'] at h
theorem Gr.below {w w' : World} {aS aC aF aL aO aH : Addr} (g : Gr w aS aC aF aL aO aH) (hb : Below w.heap.size w w') : Gr w' aS aC aF aL aO aH := by
  have hz := g.size
  obtain ⟨c1, t1, b1⟩ := g.bs
  obtain ⟨c2, t2, b2⟩ := g.bc
  exact ⟨(hb.cell (by show (0:Nat) < _; omega)).trans g.s, (hb.cell (by show (1:Nat) < _; omega)).trans g.f, (hb.cell (by show (2:Nat) < _; omega)).trans g.l, (hb.cell (by show (3:Nat) < _; omega)).trans g.o, (hb.cell (by show (4:Nat) < _; omega)).trans g.h, (hb.cell (by show (5:Nat) < _; omega)).trans g.c, g.ne, ⟨c1, t1, (hb.block _ (lt_of_block b1)).trans b1⟩, ⟨c2, t2, (hb.block _ (lt_of_block b2)).trans b2⟩, Nat.le_trans g.size hb.size⟩
theorem Gl.below {w w' : World} {aS aC aF aL aO aH : Addr} (g : Gl w aS aC aF aL aO aH) (hb : Below w.heap.size w w') : Gl w' aS aC aF aL aO aH := by
  have hz := g.size
  exact ⟨g.toGr.below hb, (hb.cell (by show (6:Nat) < _; omega)).trans g.t⟩
set_option maxHeartbeats 1000000 in
theorem unescape_any {aS aC aF aL aO aH : Addr} (b off cap : Nat) (l : List UInt8) (w : World) (hgl : Gr w aS aC aF aL aO aH) (hr : Rd w b off l) (hbl : b < w.heap.size) (hn : l.length ≤ 140737488351232) :
    Calls Tryz.prog 100 #[.slice (some ⟨b, off, none⟩) l.length cap] w fun e w' => Below w.heap.size w w' ∧
      ((unesc l = none ∧ ∃ a, e = .returned (.tuple #[.slice none 0 0, .iface 138 (.pointer (some a))])) ∨
       (∃ s v, unesc l = some s ∧ e = .returned (.tuple #[v, .nilIface]) ∧ w'.ownsRow w.heap.size 5 1 v s.length (s.map bv))) := by
  obtain ⟨i0, hi, hz0, hz1, hz2⟩ := info_parts Tryz.infoB
  go_enter Tryz.func100, Tryz.ntmps100
  go_wp2_with (first | (at_make; go_must (refine wpList_make_own _ rfl _ _ 52 rfl w.heap.size 5 i0 (.int .u8 0) 1 Tryz.underlying52 hi hz0 hz1 .i64 .i64 _ 44 rfl rfl (by omega) (by rw [hz2]; omega) (by unfold maxLen; omega) (Nat.le_refl _) ?_; intro w0 hown0 hgrow0)))
  have hb0 : Below w.heap.size w w0 := (Below.refl _ _).grown hgrow0 (Nat.le_refl _) (fun k hk => by cases hk)
  clear hgrow0
  go_loopw [4, 5, 11] (fun v ev i wr => ∃ (k : Nat) (acc : List UInt8) (e : Bool), k ≤ l.length ∧ i = .int .i64 k ∧ ev = .bool e ∧ acc.length ≤ 44 ∧ Hid (un l [] false = un (l.drop k) acc e) ∧ v = .slice (some ⟨w.heap.size, 0, none⟩) acc.length 44 ∧ wr.ownsRow w.heap.size 5 1 (.slice (some ⟨w.heap.size, 0, none⟩) acc.length 44) acc.length (acc.map bv) ∧ Below w.heap.size w wr) (fun _ _ i _ => l.length - (intOf i).toNat)
  case atStart => exact ⟨0, [], false, Nat.zero_le _, rfl, rfl, by simp, rfl, rfl, hown0, hb0⟩
  case round =>
    obtain ⟨k, acc, e, hk, rfl, rfl, ha, HU, rfl, hown, hnx⟩ := hrel
    have hg := hgl.below hnx
    have g1 := hg.f
    have g2 := hg.l
    have g3 := hg.o
    have g4 := hg.h
    clear hown0 hb0
    by_cases hlt : k < l.length
    · have hc : wr.cell? ⟨b, off + k, none⟩ = some (.int .u8 ((l[k]).toNat : Int)) := (hnx.cell hbl).trans (hr k hlt)
      have HD : Hid (un l [] false = un (l[k] :: l.drop (k + 1)) acc e) := by
        have := HU.out; rw [drop_cons' l k hlt] at this; exact this
      clear HU
      generalize l[k] = c at hc HD
      by_cases h6 : c.toNat = 126
      · have h1 : ((c.toNat : Int) == 126) = true := by simp; omega
        have HN : Hid (unesc l = none) := unesc_none (HD.out.trans (un_flag h6))
        clear h6
        go_wp2
        go_region
        go_wp2
        go_ret2
        exact ⟨(hnx.alloc hnx.size _).drew, .inl ⟨HN.out, _, rfl⟩⟩
      · have h1 : ((c.toNat : Int) == 126) = false := by simp; omega
        cases e with
        | false =>
          by_cases h5 : c.toNat = 125
          · have h2 : ((c.toNat : Int) == 125) = true := by simp; omega
            have HV : Hid (un l [] false = un (l.drop (k + 1)) acc true) := HD.out.trans (un_esc h5)
            clear h5 h6 HD
            go_wp2
            go_roundw
            case rel => exact ⟨k + 1, acc, true, by omega, by go_num, rfl, ha, HV, rfl, hown, hnx⟩
            case measure => simp [intOf]; omega
          · have h2 : ((c.toNat : Int) == 125) = false := by simp; omega
            by_cases h4 : acc.length = 44
            · have h3 : ((acc.length : Int) == 44) = true := by simp; omega
              have HN : Hid (unesc l = none) := unesc_long c (HD.out.trans (un_plain h6 h5)) h4
              clear h4 h5 h6 HD
              go_wp2
              go_region
              go_wp2
              go_ret2
              exact ⟨(hnx.alloc hnx.size _).drew, .inl ⟨HN.out, _, rfl⟩⟩
            · have h3 : ((acc.length : Int) == 44) = false := by simp; omega
              have HV : Hid (un l [] false = un (l.drop (k + 1)) (acc ++ [c]) false) := HD.out.trans (un_plain h6 h5)
              have HB := hnx
              have HR : Hid (∀ w2 : World, w2.ownsRow w.heap.size 5 1 (.slice (some ⟨w.heap.size, 0, none⟩) (acc.length + 1) 44) (acc.length + 1) (acc.map bv ++ [.int .u8 (c.toNat : Int)]) → w2.ownsRow w.heap.size 5 1 (.slice (some ⟨w.heap.size, 0, none⟩) (acc ++ [c]).length 44) (acc ++ [c]).length ((acc ++ [c]).map bv)) := by
                intro w2 h
                simpa [bv, byte_xor] using h
              clear h6 h5
              go_wp2_with (first | (at_builtin; refine wpList_append_fits _ rfl (.tmp 40) (.tmp 42) 52 rfl w.heap.size 5 i0 1 Tryz.underlying52 hi hz1 w.heap.size acc.length 44 (acc.map bv) rfl (hown.alloc _) ⟨wr.heap.size, 0, none⟩ 1 1 [.int .u8 (c.toNat : Int)] rfl rfl (cell_one_new _ _ _) (by intro u hu; simp at hu; subst hu; rfl) (by omega) ?_; intro w2 hown2 hgrow2))
              go_roundw
              case rel => exact ⟨k + 1, acc ++ [c], false, by omega, by go_num, rfl, by simp; omega, HV, by simp, HR.out _ hown2, below_own HB HB.size hown _ hgrow2⟩
              case measure => simp [intOf]; omega
        | true =>
          by_cases h4 : acc.length = 44
          · have h3 : ((acc.length : Int) == 44) = true := by simp; omega
            have HN : Hid (unesc l = none) := unesc_long (c ^^^ 32) (HD.out.trans (un_turn h6)) h4
            by_cases h5 : c.toNat = 125
            · have h2 : ((c.toNat : Int) == 125) = true := by simp; omega
              clear h4 h5 h6 HD
              go_wp2
              go_region
              go_wp2
              go_ret2
              exact ⟨(hnx.alloc hnx.size _).drew, .inl ⟨HN.out, _, rfl⟩⟩
            · have h2 : ((c.toNat : Int) == 125) = false := by simp; omega
              clear h4 h5 h6 HD
              go_wp2
              go_region
              go_wp2
              go_ret2
              exact ⟨(hnx.alloc hnx.size _).drew, .inl ⟨HN.out, _, rfl⟩⟩
          · have h3 : ((acc.length : Int) == 44) = false := by simp; omega
            by_cases h5 : c.toNat = 125
            · have h2 : ((c.toNat : Int) == 125) = true := by simp; omega
              have HV : Hid (un l [] false = un (l.drop (k + 1)) (acc ++ [c ^^^ 32]) false) := HD.out.trans (un_turn h6)
              have HB := hnx
              have HR : Hid (∀ w2 : World, w2.ownsRow w.heap.size 5 1 (.slice (some ⟨w.heap.size, 0, none⟩) (acc.length + 1) 44) (acc.length + 1) (acc.map bv ++ [.int .u8 (bits .xor .u8 (c.toNat : Int) 32)]) → w2.ownsRow w.heap.size 5 1 (.slice (some ⟨w.heap.size, 0, none⟩) (acc ++ [c ^^^ 32]).length 44) (acc ++ [c ^^^ 32]).length ((acc ++ [c ^^^ 32]).map bv)) := by
                intro w2 h
                simpa [bv, byte_xor] using h
              clear h6 h5
              go_wp2_with (first | (at_builtin; refine wpList_append_fits _ rfl (.tmp 40) (.tmp 42) 52 rfl w.heap.size 5 i0 1 Tryz.underlying52 hi hz1 w.heap.size acc.length 44 (acc.map bv) rfl (hown.alloc _) ⟨wr.heap.size, 0, none⟩ 1 1 [.int .u8 (bits .xor .u8 (c.toNat : Int) 32)] rfl rfl (cell_one_new _ _ _) (by intro u hu; simp at hu; subst hu; rfl) (by omega) ?_; intro w2 hown2 hgrow2))
              go_roundw
              case rel => exact ⟨k + 1, acc ++ [c ^^^ 32], false, by omega, by go_num, rfl, by simp; omega, HV, by simp, HR.out _ hown2, below_own HB HB.size hown _ hgrow2⟩
              case measure => simp [intOf]; omega
            · have h2 : ((c.toNat : Int) == 125) = false := by simp; omega
              have HV : Hid (un l [] false = un (l.drop (k + 1)) (acc ++ [c ^^^ 32]) false) := HD.out.trans (un_turn h6)
              have HB := hnx
              have HR : Hid (∀ w2 : World, w2.ownsRow w.heap.size 5 1 (.slice (some ⟨w.heap.size, 0, none⟩) (acc.length + 1) 44) (acc.length + 1) (acc.map bv ++ [.int .u8 (bits .xor .u8 (c.toNat : Int) 32)]) → w2.ownsRow w.heap.size 5 1 (.slice (some ⟨w.heap.size, 0, none⟩) (acc ++ [c ^^^ 32]).length 44) (acc ++ [c ^^^ 32]).length ((acc ++ [c ^^^ 32]).map bv)) := by
                intro w2 h
                simpa [bv, byte_xor] using h
              clear h6 h5
              go_wp2_with (first | (at_builtin; refine wpList_append_fits _ rfl (.tmp 40) (.tmp 42) 52 rfl w.heap.size 5 i0 1 Tryz.underlying52 hi hz1 w.heap.size acc.length 44 (acc.map bv) rfl (hown.alloc _) ⟨wr.heap.size, 0, none⟩ 1 1 [.int .u8 (bits .xor .u8 (c.toNat : Int) 32)] rfl rfl (cell_one_new _ _ _) (by intro u hu; simp at hu; subst hu; rfl) (by omega) ?_; intro w2 hown2 hgrow2))
              go_roundw
              case rel => exact ⟨k + 1, acc ++ [c ^^^ 32], false, by omega, by go_num, rfl, by simp; omega, HV, by simp, HR.out _ hown2, below_own HB HB.size hown _ hgrow2⟩
              case measure => simp [intOf]; omega
    · have hd : l.drop k = [] := List.drop_eq_nil_of_le (by omega)
      have HE : Hid (un l [] false = if e then none else some acc) := by
        have := HU.out; rw [hd] at this; exact this
      clear HU hd
      cases e with
      | true =>
        have HN : Hid (unesc l = none) := unesc_none HE.out
        go_wp2
        go_region
        go_wp2
        go_ret2
        exact ⟨(hnx.alloc hnx.size _).drew, .inl ⟨HN.out, _, rfl⟩⟩
      | false =>
        by_cases h4 : acc.length < 4
        · have HN : Hid (unesc l = none) := unesc_short HE.out h4
          have h3 : (acc.length : Int) < 4 := by omega
          clear h4 ha HE
          go_wp2
          go_region
          go_wp2
          go_ret2
          exact ⟨(hnx.alloc hnx.size _).drew, .inl ⟨HN.out, _, rfl⟩⟩
        · have HN : Hid (unesc l = some acc) := unesc_some HE.out (by omega) ha
          have h3 : ¬ (acc.length : Int) < 4 := by omega
          clear h4 ha HE
          go_wp2
          go_ret2
          refine ⟨hnx, .inr ?_⟩
          exact ⟨acc, HN.out, _, rfl, hown⟩
end Go.Proofs.YtoeihlgidakjbaaGreatDoor
namespace Go.Proofs.YtoeihlgidakjbaaGreatDoor
open Go.RowKit
def le16 (x y : UInt8) : Nat := x.toNat + 256 * y.toNat
theorem le16_bits (x y : UInt8) : bits BinOp.or IntKind.u16 (IntKind.u16.wrap (x.toNat : Int)) (IntKind.u16.wrap (IntKind.u16.wrap (y.toNat : Int) * 256)) = (le16 x y : Int) := by
  have hx := UInt8.toNat_lt x
  have hy := UInt8.toNat_lt y
  have e1 : IntKind.u16.wrap (x.toNat : Int) = (x.toNat : Int) := by
    simp only [IntKind.wrap, IntKind.signed, IntKind.bits, Bool.false_and, Bool.false_eq_true, if_false]; omega
  have e2 : IntKind.u16.wrap (IntKind.u16.wrap (y.toNat : Int) * 256) = ((2 ^ 8 * y.toNat : Nat) : Int) := by
    simp only [IntKind.wrap, IntKind.signed, IntKind.bits, Bool.false_and, Bool.false_eq_true, if_false]; omega
  rw [e1, e2, u16_or_nat _ _ (by omega) (by omega), Nat.or_comm, ← Nat.two_pow_add_eq_or_of_lt (by omega)]
  unfold le16; omega
theorem push_all : ∀ (t : List UInt8) (s : ByteArray), (t.map fun c => (c.toNat : Int)).foldl (fun r n => r.push (UInt8.ofNat n.toNat)) s = ⟨s.data ++ t.toArray⟩ := by
  intro t
  induction t with
  | nil => intro s; simp
  | cons c r ih =>
    intro s
    simp only [List.map_cons, List.foldl_cons, ih]
    simp [ByteArray.push]
theorem addr_add (b off j : Nat) : (⟨b, off, none⟩ : Addr).add j = ⟨b, off + j, none⟩ := by unfold Addr.add; split <;> simp_all
theorem conv_bytes (w : World) (b off cap : Nat) (t : List UInt8) (hr : Rd w b off t) :
    (convert 52 9 (.slice (some ⟨b, off, none⟩) t.length cap)).run Tryz.prog w = .ok (.string ⟨t.toArray⟩) w := by
  rw [run_convert_bytes_string w 52 9 5 _ _ _ Tryz.underlying52 Tryz.underlying5 Tryz.underlying9]
  rw [run_bytesToString w ⟨b, off, none⟩ t.length cap (t.map fun c => (c.toNat : Int))]
  · rw [push_all]; simp
  · have := run_loadCells_list (P := Tryz.prog) w ⟨b, off, none⟩ ((t.map fun c => (c.toNat : Int)).map (Value.int .u8)) (by
      intro j v hj
      have hlt : j < t.length := by
        rcases Nat.lt_or_ge j t.length with h | h
        · exact h
        · simp [List.getElem?_eq_none h] at hj
      have := hr j hlt
      simp [List.getElem?_eq_getElem hlt] at hj
      rw [← hj, addr_add]; exact this)
    simpa using this
theorem w64b (c : UInt8) : wrap64 (c.toNat : Int) = (c.toNat : Int) := by
  have := UInt8.toNat_lt c
  unfold wrap64; omega
set_option maxHeartbeats 1000000 in
theorem packetOf_any {aS aC aF aL aO aH : Addr} (b cap : Nat) (c d : UInt8) (t : List UInt8) (x y : UInt8) (w : World) (hgl : Gr w aS aC aF aL aO aH) (hr : Rd w b 0 ((c :: d :: t) ++ [x, y])) (hbl : b < w.heap.size) (hn : t.length ≤ 40) (hcap : t.length + 2 + 2 ≤ cap) :
    Calls Tryz.prog 101 #[.slice (some ⟨b, 0, none⟩) (t.length + 2 + 2) cap] w fun e w' => Below w.heap.size w w' ∧
      ((¬ le16 x y = sumL (c :: d :: t) ∧ ∃ g, e = .returned (.tuple #[.agg #[.int .i64 0, .int .i64 0, .string ⟨#[]⟩], .iface 160 (.pointer (some ⟨g, 0, none⟩))]) ∧ w.heap.size ≤ g ∧ g < w'.heap.size ∧ w'.cell? ⟨g, 1, none⟩ = some (.iface 216 (.pointer (some aS)))) ∨
       (le16 x y = sumL (c :: d :: t) ∧ c.toNat = 0 ∧ ∃ g, e = .returned (.tuple #[.agg #[.int .i64 0, .int .i64 0, .string ⟨#[]⟩], .iface 160 (.pointer (some ⟨g, 0, none⟩))]) ∧ w.heap.size ≤ g ∧ g < w'.heap.size ∧ w'.cell? ⟨g, 1, none⟩ = some (.iface 216 (.pointer (some aC)))) ∨
       (le16 x y = sumL (c :: d :: t) ∧ ¬ c.toNat = 0 ∧ e = .returned (.tuple #[.agg #[.int .i64 (c.toNat : Int), .int .i64 (d.toNat : Int), .string ⟨t.toArray⟩], .nilIface]))) := by
  have c0 : w.cell? ⟨b, 0, none⟩ = some (.int .u8 (c.toNat : Int)) := by simpa using hr 0 (by simp)
  have c1 : w.cell? ⟨b, 1, none⟩ = some (.int .u8 (d.toNat : Int)) := by simpa using hr 1 (by simp)
  have c2 : w.cell? ⟨b, t.length + 2, none⟩ = some (.int .u8 (x.toNat : Int)) := by simpa using hr (t.length + 2) (by simp)
  have c3 : w.cell? ⟨b, t.length + 2 + 1, none⟩ = some (.int .u8 (y.toNat : Int)) := by simpa using hr (t.length + 2 + 1) (by simp)
  have hrh : Rd (w.alloc (.cells #[.int .i64 0, .int .i64 0, .string ⟨#[]⟩] 27)) b 0 (c :: d :: t) := by
    intro k hk
    rw [World.cell?_alloc_lt _ _ ⟨b, 0 + k, none⟩ hbl, hr k (by simp at hk ⊢; omega)]
    rw [List.getElem_append_left hk]
  have hrt : ∀ m, Rd ((w.alloc (.cells #[.int .i64 0, .int .i64 0, .string ⟨#[]⟩] 27)).drewN m) b 2 t := by
    intro m k hk
    have := hrh (k + 2) (by simp; omega)
    rw [show 2 + k = 0 + (k + 2) from by omega]
    simpa using this
  have hcv := fun m => conv_bytes _ b 2 (cap - 2) t (hrt m)
  clear hrt
  have gz := hgl.size
  have gz0 : 0 < w.heap.size := by omega
  have gz5 : 5 < w.heap.size := by omega
  have g0 : (w.alloc (.cells #[.int .i64 0, .int .i64 0, .string ⟨#[]⟩] 27)).cell? ⟨0, 0, none⟩ = some (.iface 216 (.pointer (some aS))) := by rw [World.cell?_alloc_lt _ _ ⟨0, 0, none⟩ gz0]; exact hgl.s
  have g5 : (w.alloc (.cells #[.int .i64 0, .int .i64 0, .string ⟨#[]⟩] 27)).cell? ⟨5, 0, none⟩ = some (.iface 216 (.pointer (some aC))) := by rw [World.cell?_alloc_lt _ _ ⟨5, 0, none⟩ gz5]; exact hgl.c
  go_enter Tryz.func101, Tryz.ntmps101
  go_wp2_with fail
  go_quiet (fail)
  go_wp2_with fail
  rw [le16_bits]
  refine (sumOf_any b 0 cap (c :: d :: t) _ (by exact hrh) (by simp; omega)).mono ?_
  rintro e w' ⟨rfl, rfl⟩
  by_cases hs : le16 x y = sumL (c :: d :: t)
  · by_cases hc0 : c.toNat = 0
    · have hs' : ((le16 x y : Int) != (sumL (c :: d :: t) : Int)) = false := by simp; omega
      have HS : Hid (le16 x y = sumL (c :: d :: t)) := hs
      have HC : Hid (c.toNat = 0) := hc0
      have hc' : ((c.toNat : Int) == 0) = true := by simp; omega
      clear hs hc0
      go_wp2_with fail
      go_region
      go_wp2
      refine bodyPost_ret (v := .tuple #[.agg #[.int .i64 0, .int .i64 0, .string ⟨#[]⟩], .iface 160 (.pointer (some ⟨w.heap.size + 1, 0, none⟩))]) (by simp [results, Tryz.results101, go_sem]) rfl ⟨?_, .inr (.inl ⟨HS.out, HC.out, w.heap.size + 1, rfl, ?_, ?_, ?_⟩)⟩
      · exact (((((below_drewN ((Below.refl _ _).alloc (Nat.le_refl _) _) _).setCell (by simp) _).setCell (by simp) _).setCell (by simp) _).alloc (by simp) _)
      · omega
      · simp
      · rw [World.cell?_alloc_at _ _ _ _ (by simp)]; rfl
    · have hs' : ((le16 x y : Int) != (sumL (c :: d :: t) : Int)) = false := by simp; omega
      have HS : Hid (le16 x y = sumL (c :: d :: t)) := hs
      have HC : Hid (¬ c.toNat = 0) := hc0
      have hc' : ((c.toNat : Int) == 0) = false := by simp; omega
      clear hs hc0
      go_wp2_with fail
      go_region
      go_wp2
      rw [w64b, w64b]
      refine bodyPost_ret (v := .tuple #[.agg #[.int .i64 (c.toNat : Int), .int .i64 (d.toNat : Int), .string ⟨t.toArray⟩], .nilIface]) (by simp [results, Tryz.results101, go_sem]) rfl ⟨?_, .inr (.inr ⟨HS.out, HC.out, rfl⟩)⟩
      exact ((((below_drewN ((Below.refl _ _).alloc (Nat.le_refl _) _) _).setCell (by simp) _).setCell (by simp) _).setCell (by simp) _)
  · have hs' : ((le16 x y : Int) != (sumL (c :: d :: t) : Int)) = true := by simp; omega
    have HS : Hid (¬ le16 x y = sumL (c :: d :: t)) := hs
    clear hs
    go_wp2_with fail
    go_region
    go_wp2
    refine bodyPost_ret (v := .tuple #[.agg #[.int .i64 0, .int .i64 0, .string ⟨#[]⟩], .iface 160 (.pointer (some ⟨w.heap.size + 1, 0, none⟩))]) (by simp [results, Tryz.results101, go_sem]) rfl ⟨?_, .inl ⟨HS.out, w.heap.size + 1, rfl, ?_, ?_, ?_⟩⟩
    · exact (((((below_drewN ((Below.refl _ _).alloc (Nat.le_refl _) _) _).setCell (by simp) _).setCell (by simp) _).setCell (by simp) _).alloc (by simp) _)
    · omega
    · simp
    · rw [World.cell?_alloc_at _ _ _ _ (by simp)]; rfl
end Go.Proofs.YtoeihlgidakjbaaGreatDoor
namespace Go.Proofs.YtoeihlgidakjbaaGreatDoor
open Go.RowKit
theorem un_acc : ∀ (l acc : List UInt8) (e : Bool), un l acc e = (un l [] e).map (acc ++ ·) := by
  intro l
  induction l with
  | nil => intro acc e; cases e <;> simp [un]
  | cons c r ih =>
    intro acc e
    unfold un
    split
    · simp
    · split
      · exact ih _ _
      · rw [ih (acc ++ _), ih ([] ++ _)]
        cases un r [] false <;> simp
def rd (l : List UInt8) : Option (List UInt8) := un l [] false
theorem rd_nil : rd [] = some [] := rfl
theorem rd_esc {c d : UInt8} {r : List UInt8} (h : c.toNat = 125) (h2 : ¬ d.toNat = 126) : rd (c :: d :: r) = (rd r).map ((d ^^^ 32) :: ·) := by
  unfold rd; rw [un_esc h, un_turn h2, un_acc]; rfl
theorem rd_plain {c : UInt8} {r : List UInt8} (h1 : ¬ c.toNat = 126) (h2 : ¬ c.toNat = 125) : rd (c :: r) = (rd r).map (c :: ·) := by
  unfold rd; rw [un_plain h1 h2, un_acc]; rfl
theorem x32 (c : UInt8) : (c ^^^ 32) ^^^ 32 = c := by rw [UInt8.xor_assoc]; simp
theorem esc_cases (c : UInt8) : (esc c = [125, c ^^^ 32] ∧ (c = 126 ∨ c = 125)) ∨ (esc c = [c] ∧ ¬ c.toNat = 126 ∧ ¬ c.toNat = 125) := by
  by_cases h : c.toNat = 126 ∨ c.toNat = 125
  · refine .inl ⟨by unfold esc; rw [if_pos h], ?_⟩
    rcases h with h | h
    · exact .inl (UInt8.toNat_inj.1 h)
    · exact .inr (UInt8.toNat_inj.1 h)
  · exact .inr ⟨by unfold esc; rw [if_neg h], by omega, by omega⟩
theorem rd_escL (l r : List UInt8) : rd (escL l ++ r) = (rd r).map (l ++ ·) := by
  induction l with
  | nil => simp [escL]
  | cons c l ih =>
    rw [escL_cons, List.append_assoc]
    rcases esc_cases c with ⟨h, h2⟩ | ⟨h, h2, h3⟩
    · rw [h]
      show rd (125 :: (c ^^^ 32) :: (escL l ++ r)) = _
      rw [rd_esc (by rfl) (by rcases h2 with rfl | rfl <;> decide), ih, x32]
      cases rd r <;> simp
    · rw [h]
      show rd (c :: (escL l ++ r)) = _
      rw [rd_plain h2 h3, ih]
      cases rd r <;> simp
theorem rd_escL' (l : List UInt8) : rd (escL l) = some l := by
  have := rd_escL l []
  simpa [rd_nil] using this
theorem escL_noflag (l : List UInt8) : ∀ c ∈ escL l, ¬ c.toNat = 126 := by
  intro c hc
  simp only [escL, List.mem_flatMap] at hc
  obtain ⟨d, _, hd⟩ := hc
  rcases esc_cases d with ⟨h, h2⟩ | ⟨h, h2, h3⟩
  · rw [h] at hd
    simp at hd
    rcases hd with rfl | rfl
    · decide
    · rcases h2 with rfl | rfl <;> decide
  · rw [h] at hd; simp at hd; subst hd; exact h2
theorem unesc_rd {l s : List UInt8} (h : unesc l = some s) : rd l = some s ∧ 4 ≤ s.length ∧ s.length ≤ 44 := by
  unfold unesc at h
  cases hx : un l [] false with
  | none => rw [hx] at h; simp at h
  | some t =>
    rw [hx] at h
    simp only at h
    split at h
    · rename_i hh; cases h; exact ⟨hx, hh⟩
    · cases h
end Go.Proofs.YtoeihlgidakjbaaGreatDoor
namespace Go.Proofs.YtoeihlgidakjbaaGreatDoor
open Go.RowKit
theorem split4 (s : List UInt8) (h : 4 ≤ s.length) : ∃ c d t x y, s = (c :: d :: t) ++ [x, y] ∧ t.length + 4 = s.length := by
  match s, h with
  | c :: d :: r, h =>
    have hr : 2 ≤ r.length := by simp at h; omega
    have e := List.take_append_drop (r.length - 2) r
    have hl : (r.drop (r.length - 2)).length = 2 := by simp; omega
    match hq : r.drop (r.length - 2), hl with
    | [x, y], _ =>
      refine ⟨c, d, r.take (r.length - 2), x, y, ?_, ?_⟩
      · rw [hq] at e; simp [e]
      · simp; omega
def zeroP : Value := .agg #[.int .i64 0, .int .i64 0, .string ⟨#[]⟩]
def pktV (c d : UInt8) (t : List UInt8) : Value := .agg #[.int .i64 (c.toNat : Int), .int .i64 (d.toNat : Int), .string ⟨t.toArray⟩]
theorem below_frz {w w1 : World} {cs : Array Value} {T : Nat} (h : Below (w.heap.size + 1) (w.alloc (.cells cs T)) w1) (i : Nat) : w1.frozen? ⟨w.heap.size, i, none⟩ = false :=
  (h.frozen (p := ⟨w.heap.size, i, none⟩) (by simp)).trans (by simp)
theorem set_far {w : World} {b i g j : Nat} {v : Value} (h : b < g) : (w.setCell ⟨b, i, none⟩ v).cell? ⟨g, j, none⟩ = w.cell? ⟨g, j, none⟩ :=
  World.cell?_of_block (w := w) (a := ⟨g, j, none⟩) (Below.heap_setCell w ⟨b, i, none⟩ v g (by show g ≠ b; omega))
set_option maxHeartbeats 1000000 in
theorem read_any {aS aC aF aL aO aH : Addr} (b off cap : Nat) (l : List UInt8) (w : World) (hgl : Gr w aS aC aF aL aO aH) (hr : Rd w b off l) (hbl : b < w.heap.size) (hn : l.length ≤ 140737488351232) :
    Calls Tryz.prog 73 #[.slice (some ⟨b, off, none⟩) l.length cap] w fun e w' => Below w.heap.size w w' ∧
      ((unesc l = none ∧ ∃ a, e = .returned (.tuple #[zeroP, .iface 138 (.pointer (some a))])) ∨
       (∃ c d t x y, unesc l = some ((c :: d :: t) ++ [x, y]) ∧
         ((¬ le16 x y = sumL (c :: d :: t) ∧ ∃ g, e = .returned (.tuple #[zeroP, .iface 160 (.pointer (some ⟨g, 0, none⟩))]) ∧ g < w'.heap.size ∧ w'.cell? ⟨g, 1, none⟩ = some (.iface 216 (.pointer (some aS)))) ∨
          (le16 x y = sumL (c :: d :: t) ∧ c.toNat = 0 ∧ ∃ g, e = .returned (.tuple #[zeroP, .iface 160 (.pointer (some ⟨g, 0, none⟩))]) ∧ g < w'.heap.size ∧ w'.cell? ⟨g, 1, none⟩ = some (.iface 216 (.pointer (some aC)))) ∨
          (le16 x y = sumL (c :: d :: t) ∧ ¬ c.toNat = 0 ∧ e = .returned (.tuple #[pktV c d t, .nilIface]))))) := by
  have hb0 : ∀ o, Below w.heap.size w (w.alloc o) := fun o => (Below.refl _ _).alloc (Nat.le_refl _) o
  go_enter Tryz.func73, Tryz.ntmps73
  go_wp2_with fail
  refine (unescape_any b off cap l _ (hgl.below (hb0 _)) (rd_below hr (hb0 _) hbl) (by simp; omega) hn).mono ?_
  rintro e w1 ⟨hb1, h1 | ⟨s, v, hs, rfl, hown⟩⟩
  · obtain ⟨hu, a, rfl⟩ := h1
    have hb2 : Below (w.heap.size + 1) (w.alloc (.cells #[.int .i64 0, .int .i64 0, .string ⟨#[]⟩] 27)) w1 := by simpa using hb1
    have hbb := (hb0 _).trans (hb2.mono (Nat.le_succ _))
    have hz := hb2.size
    simp at hz
    obtain ⟨f0, f1, f2⟩ := below_cell3 hb2
    have z0 := below_frz hb2 0
    have z1 := below_frz hb2 1
    have z2 := below_frz hb2 2
    have HU : Hid (unesc l = none) := hu
    clear hu hb1 hb2
    go_wp2_with fail
    refine bodyPost_ret (v := .tuple #[zeroP, .iface 138 (.pointer (some a))]) (by simp [results, Tryz.results73, go_sem, f0, f1, f2, zeroP]) rfl ⟨?_, .inl ⟨HU.out, _, rfl⟩⟩
    exact ((hbb.setCell (by simp) _).setCell (by simp) _).setCell (by simp) _
  · obtain ⟨hs1, hs2, hs3⟩ := unesc_rd hs
    obtain ⟨c, d, t, x, y, rfl, hl⟩ := split4 s hs2
    obtain ⟨hn1, g, cap1, rfl, hg1, hg2, hc1, hc2, hrd⟩ := owns_rd hown (by simp)
    have hb2 : Below (w.heap.size + 1) (w.alloc (.cells #[.int .i64 0, .int .i64 0, .string ⟨#[]⟩] 27)) w1 := by simpa using hb1
    have hbb := (hb0 _).trans (hb2.mono (Nat.le_succ _))
    have hgl1 := hgl.below hbb
    have hz := hb2.size
    simp at hz
    have hl2 : (c :: d :: t ++ [x, y]).length = t.length + 2 + 2 := by simp
    rw [hl2] at hc1 ⊢
    have HS : Hid (unesc l = some ((c :: d :: t) ++ [x, y])) := hs
    have hs4 := hs3
    clear hs hn1 hs1 hs3 hs2 hl hl2 hown hb1
    go_wp2_with fail
    refine (packetOf_any g cap1 c d t x y w1 hgl1 hrd hg2 ?_ hc1).mono ?_
    · simp at hs4; omega
    rintro e w2 ⟨hb3, hcase⟩
    have hb4 : Below (w.heap.size + 1) (w.alloc (.cells #[.int .i64 0, .int .i64 0, .string ⟨#[]⟩] 27)) w2 := hb2.trans (hb3.mono hz)
    have hbb := (hb0 _).trans (hb4.mono (Nat.le_succ _))
    obtain ⟨f0, f1, f2⟩ := below_cell3 hb4
    have z0 := below_frz hb4 0
    have z1 := below_frz hb4 1
    have z2 := below_frz hb4 2
    clear hb4 hb3 hb2
    rcases hcase with ⟨h1, g2, rfl, h2, h3, h4⟩ | ⟨h1, h1', g2, rfl, h2, h3, h4⟩ | ⟨h1, h1', rfl⟩
    · have H1 : Hid (¬ le16 x y = sumL (c :: d :: t)) := h1
      have hne : w.heap.size < g2 := by omega
      clear h1
      go_wp2_with fail
      refine bodyPost_ret (v := .tuple #[zeroP, .iface 160 (.pointer (some ⟨g2, 0, none⟩))]) (by simp [results, Tryz.results73, go_sem, f0, f1, f2, zeroP]) rfl ⟨?_, .inr ⟨c, d, t, x, y, HS.out, .inl ⟨H1.out, g2, rfl, ?_, ?_⟩⟩⟩
      · exact ((hbb.setCell (by simp) _).setCell (by simp) _).setCell (by simp) _
      · simpa using h3
      · rw [set_far, set_far, set_far]; exact h4
        all_goals exact hne
    · have H1 : Hid (le16 x y = sumL (c :: d :: t)) := h1
      have H2 : Hid (c.toNat = 0) := h1'
      have hne : w.heap.size < g2 := by omega
      clear h1 h1'
      go_wp2_with fail
      refine bodyPost_ret (v := .tuple #[zeroP, .iface 160 (.pointer (some ⟨g2, 0, none⟩))]) (by simp [results, Tryz.results73, go_sem, f0, f1, f2, zeroP]) rfl ⟨?_, .inr ⟨c, d, t, x, y, HS.out, .inr (.inl ⟨H1.out, H2.out, g2, rfl, ?_, ?_⟩)⟩⟩
      · exact ((hbb.setCell (by simp) _).setCell (by simp) _).setCell (by simp) _
      · simpa using h3
      · rw [set_far, set_far, set_far]; exact h4
        all_goals exact hne
    · have H1 : Hid (le16 x y = sumL (c :: d :: t)) := h1
      have H2 : Hid (¬ c.toNat = 0) := h1'
      clear h1 h1'
      go_wp2_with fail
      refine bodyPost_ret (v := .tuple #[pktV c d t, .nilIface]) (by simp [results, Tryz.results73, go_sem, f0, f1, f2, pktV]) rfl ⟨?_, .inr ⟨c, d, t, x, y, HS.out, .inr (.inr ⟨H1.out, H2.out, rfl⟩)⟩⟩
      exact ((hbb.setCell (by simp) _).setCell (by simp) _).setCell (by simp) _
end Go.Proofs.YtoeihlgidakjbaaGreatDoor

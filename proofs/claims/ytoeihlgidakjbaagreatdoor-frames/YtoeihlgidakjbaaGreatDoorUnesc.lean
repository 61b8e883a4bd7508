/- unescape: the content that stands between two flags in new memory, or an error value of the frame's own kind; nothing old turns. -/
import Derived.Test.YtoeihlgidakjbaaGreatDoorFrm
import Derived.RegionTactic
import Derived.ChangeAlike
namespace Go.Proofs.YtoeihlgidakjbaaGreatDoor
open Go.RowKit

/-- What the package-level variables of the package line hold: errors made by errors.New, at addresses. -/
structure Gr (w : World) (aS aC aF aL aO aH : Addr) : Prop where
  s : w.cell? ⟨0, 0, none⟩ = some (.iface 216 (.pointer (some aS)))
  f : w.cell? ⟨1, 0, none⟩ = some (.iface 216 (.pointer (some aF)))
  l : w.cell? ⟨2, 0, none⟩ = some (.iface 216 (.pointer (some aL)))
  o : w.cell? ⟨3, 0, none⟩ = some (.iface 216 (.pointer (some aO)))
  h : w.cell? ⟨4, 0, none⟩ = some (.iface 216 (.pointer (some aH)))
  c : w.cell? ⟨5, 0, none⟩ = some (.iface 216 (.pointer (some aC)))
  ne : aS ≠ aC
  bs : ∃ c t, w.heap[aS.block]? = some (.cells c t (0, 0))
  bc : ∃ c t, w.heap[aC.block]? = some (.cells c t (0, 0))
  size : 11 ≤ w.heap.size
/-- And the handle of the type error. -/
structure Gl (w : World) (aS aC aF aL aO aH : Addr) : Prop extends Gr w aS aC aF aL aO aH where
  t : w.cell? ⟨6, 0, none⟩ = some (.iface 198 (.agg #[.pointer (some ⟨11, 118, none⟩)]))

theorem lt_of_block {w : World} {k : Nat} {o : Obj} (h : w.heap[k]? = some o) : k < w.heap.size := by
  rcases Nat.lt_or_ge k w.heap.size with h' | h'
  · exact h'
  · simp [Array.getElem?_eq_none h'] at h

theorem Gr.below {w w' : World} {aS aC aF aL aO aH : Addr} (g : Gr w aS aC aF aL aO aH) (hb : Below w.heap.size w w') : Gr w' aS aC aF aL aO aH := by
  have hz := g.size
  obtain ⟨c1, t1, b1⟩ := g.bs
  obtain ⟨c2, t2, b2⟩ := g.bc
  exact ⟨(hb.cell (by show (0:Nat) < _; omega)).trans g.s, (hb.cell (by show (1:Nat) < _; omega)).trans g.f, (hb.cell (by show (2:Nat) < _; omega)).trans g.l, (hb.cell (by show (3:Nat) < _; omega)).trans g.o, (hb.cell (by show (4:Nat) < _; omega)).trans g.h, (hb.cell (by show (5:Nat) < _; omega)).trans g.c, g.ne, ⟨c1, t1, (hb.block _ (lt_of_block b1)).trans b1⟩, ⟨c2, t2, (hb.block _ (lt_of_block b2)).trans b2⟩, Nat.le_trans g.size hb.size⟩
theorem Gl.below {w w' : World} {aS aC aF aL aO aH : Addr} (g : Gl w aS aC aF aL aO aH) (hb : Below w.heap.size w w') : Gl w' aS aC aF aL aO aH := by
  have hz := g.size
  exact ⟨g.toGr.below hb, (hb.cell (by show (6:Nat) < _; omega)).trans g.t⟩

set_option maxHeartbeats 1000000 in
theorem unescape_any {aS aC aF aL aO aH : Addr} (b off cap : Nat) (l : List UInt8) (w : World) (hgl : Gr w aS aC aF aL aO aH) (hr : Rd w b off l) (hbl : b < w.heap.size) (hn : l.length ≤ 140737488351232) :
    Calls Tryz.prog 100 #[.slice (some ⟨b, off, none⟩) l.length cap] w fun e w' => Below w.heap.size w w' ∧
      ((unesc l = none ∧ ∃ a, e = .returned (.tuple #[.slice none 0 0, .iface 138 (.pointer (some a))])) ∨
       (∃ s v, unesc l = some s ∧ e = .returned (.tuple #[v, .nilIface]) ∧ w'.ownsRow w.heap.size 5 1 v s.length (s.map bv))) := by
  obtain ⟨i0, hi, hz0, hz1, hz2⟩ := info_parts Tryz.infoB
  go_enter Tryz.func100, Tryz.ntmps100
  go_wp2_with (first | (at_make; go_must (refine wpList_make_own _ rfl _ _ 52 rfl w.heap.size 5 i0 (.int .u8 0) 1 Tryz.underlying52 hi hz0 hz1 .i64 .i64 _ 44 rfl rfl (by omega) (by rw [hz2]; omega) (by unfold maxLen; omega) (Nat.le_refl _) ?_; intro w0 hown0 hgrow0)))
  have hb0 : Below w.heap.size w w0 := (Below.refl _ _).grown hgrow0 (Nat.le_refl _) (fun k hk => by cases hk)
  clear hgrow0
  go_loopw [4, 5, 11] (fun v ev i wr => ∃ (k : Nat) (acc : List UInt8) (e : Bool), k ≤ l.length ∧ i = .int .i64 k ∧ ev = .bool e ∧ acc.length ≤ 44 ∧ Hid (un l [] false = un (l.drop k) acc e) ∧ v = .slice (some ⟨w.heap.size, 0, none⟩) acc.length 44 ∧ wr.ownsRow w.heap.size 5 1 (.slice (some ⟨w.heap.size, 0, none⟩) acc.length 44) acc.length (acc.map bv) ∧ Below w.heap.size w wr) (fun _ _ i _ => l.length - (intOf i).toNat)
  case atStart => exact ⟨0, [], false, Nat.zero_le _, rfl, rfl, by simp, rfl, rfl, hown0, hb0⟩
  case round =>
    obtain ⟨k, acc, e, hk, rfl, rfl, ha, HU, rfl, hown, hnx⟩ := hrel
    have hg := hgl.below hnx
    have g1 := hg.f
    have g2 := hg.l
    have g3 := hg.o
    have g4 := hg.h
    clear hown0 hb0
    by_cases hlt : k < l.length
    · have hc : wr.cell? ⟨b, off + k, none⟩ = some (.int .u8 ((l[k]).toNat : Int)) := (hnx.cell hbl).trans (hr k hlt)
      have HD : Hid (un l [] false = un (l[k] :: l.drop (k + 1)) acc e) := by
        have := HU.out; rw [drop_cons' l k hlt] at this; exact this
      clear HU
      generalize l[k] = c at hc HD
      by_cases h6 : c.toNat = 126
      · have h1 : ((c.toNat : Int) == 126) = true := by simp; omega
        have HN : Hid (unesc l = none) := unesc_none (HD.out.trans (un_flag h6))
        clear h6
        go_wp2
        go_region
        go_wp2
        go_ret2
        exact ⟨(hnx.alloc hnx.size _).drew, .inl ⟨HN.out, _, rfl⟩⟩
      · have h1 : ((c.toNat : Int) == 126) = false := by simp; omega
        cases e with
        | false =>
          by_cases h5 : c.toNat = 125
          · have h2 : ((c.toNat : Int) == 125) = true := by simp; omega
            have HV : Hid (un l [] false = un (l.drop (k + 1)) acc true) := HD.out.trans (un_esc h5)
            clear h5 h6 HD
            go_wp2
            go_roundw
            case rel => exact ⟨k + 1, acc, true, by omega, by go_num, rfl, ha, HV, rfl, hown, hnx⟩
            case measure => simp [intOf]; omega
          · have h2 : ((c.toNat : Int) == 125) = false := by simp; omega
            by_cases h4 : acc.length = 44
            · have h3 : ((acc.length : Int) == 44) = true := by simp; omega
              have HN : Hid (unesc l = none) := unesc_long c (HD.out.trans (un_plain h6 h5)) h4
              clear h4 h5 h6 HD
              go_wp2
              go_region
              go_wp2
              go_ret2
              exact ⟨(hnx.alloc hnx.size _).drew, .inl ⟨HN.out, _, rfl⟩⟩
            · have h3 : ((acc.length : Int) == 44) = false := by simp; omega
              have HV : Hid (un l [] false = un (l.drop (k + 1)) (acc ++ [c]) false) := HD.out.trans (un_plain h6 h5)
              have HB := hnx
              have HR : Hid (∀ w2 : World, w2.ownsRow w.heap.size 5 1 (.slice (some ⟨w.heap.size, 0, none⟩) (acc.length + 1) 44) (acc.length + 1) (acc.map bv ++ [.int .u8 (c.toNat : Int)]) → w2.ownsRow w.heap.size 5 1 (.slice (some ⟨w.heap.size, 0, none⟩) (acc ++ [c]).length 44) (acc ++ [c]).length ((acc ++ [c]).map bv)) := by
                intro w2 h
                simpa [bv, byte_xor] using h
              clear h6 h5
              go_wp2_with (first | (at_builtin; refine wpList_append_fits _ rfl (.tmp 40) (.tmp 42) 52 rfl w.heap.size 5 i0 1 Tryz.underlying52 hi hz1 w.heap.size acc.length 44 (acc.map bv) rfl (hown.alloc _) ⟨wr.heap.size, 0, none⟩ 1 1 [.int .u8 (c.toNat : Int)] rfl rfl (cell_one_new _ _ _) (by intro u hu; simp at hu; subst hu; rfl) (by omega) ?_; intro w2 hown2 hgrow2))
              go_roundw
              case rel => exact ⟨k + 1, acc ++ [c], false, by omega, by go_num, rfl, by simp; omega, HV, by simp, HR.out _ hown2, below_own HB HB.size hown _ hgrow2⟩
              case measure => simp [intOf]; omega

        | true =>
          by_cases h4 : acc.length = 44
          · have h3 : ((acc.length : Int) == 44) = true := by simp; omega
            have HN : Hid (unesc l = none) := unesc_long (c ^^^ 32) (HD.out.trans (un_turn h6)) h4
            by_cases h5 : c.toNat = 125
            · have h2 : ((c.toNat : Int) == 125) = true := by simp; omega
              clear h4 h5 h6 HD
              go_wp2
              go_region
              go_wp2
              go_ret2
              exact ⟨(hnx.alloc hnx.size _).drew, .inl ⟨HN.out, _, rfl⟩⟩
            · have h2 : ((c.toNat : Int) == 125) = false := by simp; omega
              clear h4 h5 h6 HD
              go_wp2
              go_region
              go_wp2
              go_ret2
              exact ⟨(hnx.alloc hnx.size _).drew, .inl ⟨HN.out, _, rfl⟩⟩
          · have h3 : ((acc.length : Int) == 44) = false := by simp; omega
            by_cases h5 : c.toNat = 125
            · have h2 : ((c.toNat : Int) == 125) = true := by simp; omega
              have HV : Hid (un l [] false = un (l.drop (k + 1)) (acc ++ [c ^^^ 32]) false) := HD.out.trans (un_turn h6)
              have HB := hnx
              have HR : Hid (∀ w2 : World, w2.ownsRow w.heap.size 5 1 (.slice (some ⟨w.heap.size, 0, none⟩) (acc.length + 1) 44) (acc.length + 1) (acc.map bv ++ [.int .u8 (bits .xor .u8 (c.toNat : Int) 32)]) → w2.ownsRow w.heap.size 5 1 (.slice (some ⟨w.heap.size, 0, none⟩) (acc ++ [c ^^^ 32]).length 44) (acc ++ [c ^^^ 32]).length ((acc ++ [c ^^^ 32]).map bv)) := by
                intro w2 h
                simpa [bv, byte_xor] using h
              clear h6 h5
              go_wp2_with (first | (at_builtin; refine wpList_append_fits _ rfl (.tmp 40) (.tmp 42) 52 rfl w.heap.size 5 i0 1 Tryz.underlying52 hi hz1 w.heap.size acc.length 44 (acc.map bv) rfl (hown.alloc _) ⟨wr.heap.size, 0, none⟩ 1 1 [.int .u8 (bits .xor .u8 (c.toNat : Int) 32)] rfl rfl (cell_one_new _ _ _) (by intro u hu; simp at hu; subst hu; rfl) (by omega) ?_; intro w2 hown2 hgrow2))
              go_roundw
              case rel => exact ⟨k + 1, acc ++ [c ^^^ 32], false, by omega, by go_num, rfl, by simp; omega, HV, by simp, HR.out _ hown2, below_own HB HB.size hown _ hgrow2⟩
              case measure => simp [intOf]; omega

            · have h2 : ((c.toNat : Int) == 125) = false := by simp; omega
              have HV : Hid (un l [] false = un (l.drop (k + 1)) (acc ++ [c ^^^ 32]) false) := HD.out.trans (un_turn h6)
              have HB := hnx
              have HR : Hid (∀ w2 : World, w2.ownsRow w.heap.size 5 1 (.slice (some ⟨w.heap.size, 0, none⟩) (acc.length + 1) 44) (acc.length + 1) (acc.map bv ++ [.int .u8 (bits .xor .u8 (c.toNat : Int) 32)]) → w2.ownsRow w.heap.size 5 1 (.slice (some ⟨w.heap.size, 0, none⟩) (acc ++ [c ^^^ 32]).length 44) (acc ++ [c ^^^ 32]).length ((acc ++ [c ^^^ 32]).map bv)) := by
                intro w2 h
                simpa [bv, byte_xor] using h
              clear h6 h5
              go_wp2_with (first | (at_builtin; refine wpList_append_fits _ rfl (.tmp 40) (.tmp 42) 52 rfl w.heap.size 5 i0 1 Tryz.underlying52 hi hz1 w.heap.size acc.length 44 (acc.map bv) rfl (hown.alloc _) ⟨wr.heap.size, 0, none⟩ 1 1 [.int .u8 (bits .xor .u8 (c.toNat : Int) 32)] rfl rfl (cell_one_new _ _ _) (by intro u hu; simp at hu; subst hu; rfl) (by omega) ?_; intro w2 hown2 hgrow2))
              go_roundw
              case rel => exact ⟨k + 1, acc ++ [c ^^^ 32], false, by omega, by go_num, rfl, by simp; omega, HV, by simp, HR.out _ hown2, below_own HB HB.size hown _ hgrow2⟩
              case measure => simp [intOf]; omega

    · have hd : l.drop k = [] := List.drop_eq_nil_of_le (by omega)
      have HE : Hid (un l [] false = if e then none else some acc) := by
        have := HU.out; rw [hd] at this; exact this
      clear HU hd
      cases e with
      | true =>
        have HN : Hid (unesc l = none) := unesc_none HE.out
        go_wp2
        go_region
        go_wp2
        go_ret2
        exact ⟨(hnx.alloc hnx.size _).drew, .inl ⟨HN.out, _, rfl⟩⟩
      | false =>
        by_cases h4 : acc.length < 4
        · have HN : Hid (unesc l = none) := unesc_short HE.out h4
          have h3 : (acc.length : Int) < 4 := by omega
          clear h4 ha HE
          go_wp2
          go_region
          go_wp2
          go_ret2
          exact ⟨(hnx.alloc hnx.size _).drew, .inl ⟨HN.out, _, rfl⟩⟩
        · have HN : Hid (unesc l = some acc) := unesc_some HE.out (by omega) ha
          have h3 : ¬ (acc.length : Int) < 4 := by omega
          clear h4 ha HE
          go_wp2
          go_ret2
          refine ⟨hnx, .inr ?_⟩
          exact ⟨acc, HN.out, _, rfl, hown⟩
end Go.Proofs.YtoeihlgidakjbaaGreatDoor

/- Read: what stands between two flags as a packet, or the error value. -/
import Derived.Test.YtoeihlgidakjbaaGreatDoorPkt
import Derived.Test.YtoeihlgidakjbaaGreatDoorLMath
namespace Go.Proofs.YtoeihlgidakjbaaGreatDoor
open Go.RowKit

theorem split4 (s : List UInt8) (h : 4 ≤ s.length) : ∃ c d t x y, s = (c :: d :: t) ++ [x, y] ∧ t.length + 4 = s.length := by
  match s, h with
  | c :: d :: r, h =>
    have hr : 2 ≤ r.length := by simp at h; omega
    have e := List.take_append_drop (r.length - 2) r
    have hl : (r.drop (r.length - 2)).length = 2 := by simp; omega
    match hq : r.drop (r.length - 2), hl with
    | [x, y], _ =>
      refine ⟨c, d, r.take (r.length - 2), x, y, ?_, ?_⟩
      · rw [hq] at e; simp [e]
      · simp; omega

/-- The zero packet; a packet. -/
def zeroP : Value := .agg #[.int .i64 0, .int .i64 0, .string ⟨#[]⟩]
def pktV (c d : UInt8) (t : List UInt8) : Value := .agg #[.int .i64 (c.toNat : Int), .int .i64 (d.toNat : Int), .string ⟨t.toArray⟩]

theorem below_frz {w w1 : World} {cs : Array Value} {T : Nat} (h : Below (w.heap.size + 1) (w.alloc (.cells cs T)) w1) (i : Nat) : w1.frozen? ⟨w.heap.size, i, none⟩ = false :=
  (h.frozen (p := ⟨w.heap.size, i, none⟩) (by simp)).trans (by simp)
theorem set_far {w : World} {b i g j : Nat} {v : Value} (h : b < g) : (w.setCell ⟨b, i, none⟩ v).cell? ⟨g, j, none⟩ = w.cell? ⟨g, j, none⟩ :=
  World.cell?_of_block (w := w) (a := ⟨g, j, none⟩) (Below.heap_setCell w ⟨b, i, none⟩ v g (by show g ≠ b; omega))
set_option maxHeartbeats 1000000 in
theorem read_any {aS aC aF aL aO aH : Addr} (b off cap : Nat) (l : List UInt8) (w : World) (hgl : Gr w aS aC aF aL aO aH) (hr : Rd w b off l) (hbl : b < w.heap.size) (hn : l.length ≤ 140737488351232) :
    Calls Tryz.prog 73 #[.slice (some ⟨b, off, none⟩) l.length cap] w fun e w' => Below w.heap.size w w' ∧
      ((unesc l = none ∧ ∃ a, e = .returned (.tuple #[zeroP, .iface 138 (.pointer (some a))])) ∨
       (∃ c d t x y, unesc l = some ((c :: d :: t) ++ [x, y]) ∧
         ((¬ le16 x y = sumL (c :: d :: t) ∧ ∃ g, e = .returned (.tuple #[zeroP, .iface 160 (.pointer (some ⟨g, 0, none⟩))]) ∧ g < w'.heap.size ∧ w'.cell? ⟨g, 1, none⟩ = some (.iface 216 (.pointer (some aS)))) ∨
          (le16 x y = sumL (c :: d :: t) ∧ c.toNat = 0 ∧ ∃ g, e = .returned (.tuple #[zeroP, .iface 160 (.pointer (some ⟨g, 0, none⟩))]) ∧ g < w'.heap.size ∧ w'.cell? ⟨g, 1, none⟩ = some (.iface 216 (.pointer (some aC)))) ∨
          (le16 x y = sumL (c :: d :: t) ∧ ¬ c.toNat = 0 ∧ e = .returned (.tuple #[pktV c d t, .nilIface]))))) := by
  have hb0 : ∀ o, Below w.heap.size w (w.alloc o) := fun o => (Below.refl _ _).alloc (Nat.le_refl _) o
  go_enter Tryz.func73, Tryz.ntmps73
  go_wp2_with fail
  refine (unescape_any b off cap l _ (hgl.below (hb0 _)) (rd_below hr (hb0 _) hbl) (by simp; omega) hn).mono ?_
  rintro e w1 ⟨hb1, h1 | ⟨s, v, hs, rfl, hown⟩⟩
  · obtain ⟨hu, a, rfl⟩ := h1
    have hb2 : Below (w.heap.size + 1) (w.alloc (.cells #[.int .i64 0, .int .i64 0, .string ⟨#[]⟩] 27)) w1 := by simpa using hb1
    have hbb := (hb0 _).trans (hb2.mono (Nat.le_succ _))
    have hz := hb2.size
    simp at hz
    obtain ⟨f0, f1, f2⟩ := below_cell3 hb2
    have z0 := below_frz hb2 0
    have z1 := below_frz hb2 1
    have z2 := below_frz hb2 2
    have HU : Hid (unesc l = none) := hu
    clear hu hb1 hb2
    go_wp2_with fail
    refine bodyPost_ret (v := .tuple #[zeroP, .iface 138 (.pointer (some a))]) (by simp [results, Tryz.results73, go_sem, f0, f1, f2, zeroP]) rfl ⟨?_, .inl ⟨HU.out, _, rfl⟩⟩
    exact ((hbb.setCell (by simp) _).setCell (by simp) _).setCell (by simp) _
  · obtain ⟨hs1, hs2, hs3⟩ := unesc_rd hs
    obtain ⟨c, d, t, x, y, rfl, hl⟩ := split4 s hs2
    obtain ⟨hn1, g, cap1, rfl, hg1, hg2, hc1, hc2, hrd⟩ := owns_rd hown (by simp)
    have hb2 : Below (w.heap.size + 1) (w.alloc (.cells #[.int .i64 0, .int .i64 0, .string ⟨#[]⟩] 27)) w1 := by simpa using hb1
    have hbb := (hb0 _).trans (hb2.mono (Nat.le_succ _))
    have hgl1 := hgl.below hbb
    have hz := hb2.size
    simp at hz
    have hl2 : (c :: d :: t ++ [x, y]).length = t.length + 2 + 2 := by simp
    rw [hl2] at hc1 ⊢
    have HS : Hid (unesc l = some ((c :: d :: t) ++ [x, y])) := hs
    have hs4 := hs3
    clear hs hn1 hs1 hs3 hs2 hl hl2 hown hb1
    go_wp2_with fail
    refine (packetOf_any g cap1 c d t x y w1 hgl1 hrd hg2 ?_ hc1).mono ?_
    · simp at hs4; omega
    rintro e w2 ⟨hb3, hcase⟩
    have hb4 : Below (w.heap.size + 1) (w.alloc (.cells #[.int .i64 0, .int .i64 0, .string ⟨#[]⟩] 27)) w2 := hb2.trans (hb3.mono hz)
    have hbb := (hb0 _).trans (hb4.mono (Nat.le_succ _))
    obtain ⟨f0, f1, f2⟩ := below_cell3 hb4
    have z0 := below_frz hb4 0
    have z1 := below_frz hb4 1
    have z2 := below_frz hb4 2
    clear hb4 hb3 hb2
    rcases hcase with ⟨h1, g2, rfl, h2, h3, h4⟩ | ⟨h1, h1', g2, rfl, h2, h3, h4⟩ | ⟨h1, h1', rfl⟩
    · have H1 : Hid (¬ le16 x y = sumL (c :: d :: t)) := h1
      have hne : w.heap.size < g2 := by omega
      clear h1
      go_wp2_with fail
      refine bodyPost_ret (v := .tuple #[zeroP, .iface 160 (.pointer (some ⟨g2, 0, none⟩))]) (by simp [results, Tryz.results73, go_sem, f0, f1, f2, zeroP]) rfl ⟨?_, .inr ⟨c, d, t, x, y, HS.out, .inl ⟨H1.out, g2, rfl, ?_, ?_⟩⟩⟩
      · exact ((hbb.setCell (by simp) _).setCell (by simp) _).setCell (by simp) _
      · simpa using h3
      · rw [set_far, set_far, set_far]; exact h4
        all_goals exact hne
    · have H1 : Hid (le16 x y = sumL (c :: d :: t)) := h1
      have H2 : Hid (c.toNat = 0) := h1'
      have hne : w.heap.size < g2 := by omega
      clear h1 h1'
      go_wp2_with fail
      refine bodyPost_ret (v := .tuple #[zeroP, .iface 160 (.pointer (some ⟨g2, 0, none⟩))]) (by simp [results, Tryz.results73, go_sem, f0, f1, f2, zeroP]) rfl ⟨?_, .inr ⟨c, d, t, x, y, HS.out, .inr (.inl ⟨H1.out, H2.out, g2, rfl, ?_, ?_⟩)⟩⟩
      · exact ((hbb.setCell (by simp) _).setCell (by simp) _).setCell (by simp) _
      · simpa using h3
      · rw [set_far, set_far, set_far]; exact h4
        all_goals exact hne
    · have H1 : Hid (le16 x y = sumL (c :: d :: t)) := h1
      have H2 : Hid (¬ c.toNat = 0) := h1'
      clear h1 h1'
      go_wp2_with fail
      refine bodyPost_ret (v := .tuple #[pktV c d t, .nilIface]) (by simp [results, Tryz.results73, go_sem, f0, f1, f2, pktV]) rfl ⟨?_, .inr ⟨c, d, t, x, y, HS.out, .inr (.inr ⟨H1.out, H2.out, rfl⟩)⟩⟩
      exact ((hbb.setCell (by simp) _).setCell (by simp) _).setCell (by simp) _
end Go.Proofs.YtoeihlgidakjbaaGreatDoor

/- Lined's walk, its first half: the packet of its own, what is no packet. -/
import Derived.Test.YtoeihlgidakjbaaDoorLnd0
import Derived.Test.YtoeihlgidakjbaaDoorPick
namespace Go.Proofs.YtoeihlgidakjbaaDoor
open Go.RowKit

/-- The packet that Lined begins with. -/
def exS : ByteArray := ⟨#[125, 126]⟩
theorem ex_frame (w : World) : Calls Tryd.prog 4 #[.agg #[.int .i64 9, .int .i64 126, .string ⟨#[125, 126]⟩]] w fun e w' => ∃ g cap m, e = .returned (.tuple #[.slice (some ⟨g, 0, none⟩) (m + 2) cap, .int .i64 0]) ∧ 6 ≤ m ∧ m ≤ 1000 ∧ m = (escL (content 9 126 [125, 126])).length ∧ Rd w' g 1 (escL (content 9 126 [125, 126])) ∧ g < w'.heap.size ∧ m + 2 ≤ cap ∧ cap ≤ maxLen ∧ Below w.heap.size w w' := by
  have h := frame_rd 9 126 ⟨#[125, 126]⟩ w (by decide) (by decide)
  rw [show (⟨#[125, 126]⟩ : ByteArray).data.toList = [125, 126] from rfl] at h
  refine Calls.mono h ?_
  rintro e w' ⟨g, cap, rfl, _, _, h3, _, h5, h6, h7, h8⟩
  have hl := escL_len (content 9 126 [125, 126])
  have hc : (content 9 126 [125, 126]).length = 6 := by rw [content_len]; rfl
  exact ⟨g, cap, _, rfl, by omega, by omega, rfl, h3, h5, h6, h7, h8⟩

set_option maxRecDepth 100000 in
set_option maxHeartbeats 4000000 in
theorem lined_no {aS aC aF aL aO aH : Addr} (code id place bit : Int) (s : ByteArray) (w : World) (hgl : Gl w aS aC aF aL aO aH) (hs : s.size ≤ maxLen) (hp : isPkt code id s.size = false) :
    Calls Tryd.prog 3 #[.agg #[.int .i64 code, .int .i64 id, .string s], .int .i64 place, .int .i64 bit] w fun e w' => e = .returned (.bool true) ∧ Below w.heap.size w w' := by
  have hb0 : Below (w.heap.size + 1) (w.alloc (.cells #[.int .i64 code, .int .i64 id, .string s] 23)) (w.alloc (.cells #[.int .i64 code, .int .i64 id, .string s] 23)) := Below.refl _ _
  go_enter Tryd.func3, Tryd.ntmps3
  go_wp2_with fail
  refine (ex_frame _).mono ?_
  rintro e w1 ⟨g, cap, m, rfl, hm1, hm2, hm3, hrd, hg, hc1, hc2, hb1⟩
  have hb1' : Below (w.heap.size + 1) (w.alloc (.cells #[.int .i64 code, .int .i64 id, .string s] 23)) w1 := by simpa using hb1
  have HM : Hid (m = (escL (content 9 126 [125, 126])).length) := hm3
  clear hm3 hb1 hb0
  unfold maxLen at hc2
  go_wp2_with fail
  have hgl1 := hgl.below (below_box hb1')
  rw [HM.out]
  refine (unframe_any g 1 (cap - 1) (escL (content 9 126 [125, 126])) w1 hgl1 hrd hg (by rw [← HM.out]; omega)).mono ?_
  rintro e w2 ⟨hb2, v, n, rfl, hU⟩
  obtain ⟨rfl, rfl⟩ := unf_self (by simp) (by decide) hU
  have hz1 := hb1'.size
  simp at hz1
  have hb2' := hb1'.trans (hb2.mono hz1)
  clear hb2 hU hrd hg HM hc1 hc2 hm1 hm2
  obtain ⟨f0, f1, f2⟩ := below_cell3 hb2'
  have hz2 := hb2'.size
  simp at hz2
  have hl2 : w.heap.size < w2.heap.size := by omega
  unfold pktV
  go_wp2_with fail
  refine (frame_no code id s _ hs hp).mono ?_
  rintro e w3 ⟨rfl, hb3⟩
  go_wp2_with fail
  go_ret
  exact ⟨rfl, (below_box hb2').trans ((((Below.refl _ _).alloc (Nat.le_refl _) _).trans (hb3.mono (by simp))).mono (by omega))⟩
end Go.Proofs.YtoeihlgidakjbaaDoor

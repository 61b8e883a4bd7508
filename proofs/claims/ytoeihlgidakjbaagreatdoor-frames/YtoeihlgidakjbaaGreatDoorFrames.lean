/- The law Frames, walked. -/
import Derived.Test.YtoeihlgidakjbaaGreatDoorExam
namespace Go.Proofs.YtoeihlgidakjbaaGreatDoor
open Go.RowKit Go.Lib

set_option maxRecDepth 100000 in
set_option maxHeartbeats 1000000 in
theorem frames_any {aS aC aF aL aO aH : Addr} (g off n cap : Nat) (O : Nat → OpC) (a : Option Addr) (w : World) (hgl : Gl w aS aC aF aL aO aH) (ha : 0 < n → a = some ⟨g, off, none⟩) (hg : 0 < n → g < w.heap.size) (hsc : Scr w g off n O) (hn : n ≤ 1000000000000) :
    Calls Tryz.prog 3 #[.slice a n cap] w fun r w' => r = .returned (.bool true) ∧ Below w.heap.size w w' := by
  have HG : Hid (Gl w aS aC aF aL aO aH) := hgl
  have HA : Hid (0 < n → a = some ⟨g, off, none⟩) := ha
  have HGL : Hid (0 < n → g < w.heap.size) := hg
  have HS : Hid (Scr w g off n O) := hsc
  clear hgl ha hg hsc
  go_enter Tryz.func3, Tryz.ntmps3
  go_wp2_with fail
  refine Calls.mono (example_12 w HG.out) ?_
  rintro r w1 ⟨rfl, hb1⟩
  have HB1 : Hid (Below w.heap.size w w1) := hb1
  clear hb1
  go_wp2_with fail
  refine Calls.mono (upto_12 g off n cap O a w1 (HG.out.below HB1.out) HA.out (fun h => Nat.lt_of_lt_of_le (HGL.out h) HB1.out.size) (fun i hi => ⟨(HS.out i hi).1.below HB1.out (HGL.out (by omega)), (HS.out i hi).2⟩) hn) ?_
  rintro r w2 ⟨rfl, hb2⟩
  have HB2 : Hid (Below w.heap.size w w2) := HB1.out.trans (hb2.mono HB1.out.size)
  clear hb2
  go_wp2_with fail
  go_ret
  exact ⟨rfl, HB2.out⟩
end Go.Proofs.YtoeihlgidakjbaaGreatDoor

/- The laws' step, of the kinds 1 (Frame) and 2 (Unframe). -/
import Derived.Test.YtoeihlgidakjbaaGreatDoorSame
namespace Go.Proofs.YtoeihlgidakjbaaGreatDoor
open Go.RowKit Go.Lib

/-- What Frame answers, and the document's: the same bytes, the same number. -/
theorem framed (code id : Int) (s : ByteArray) (hs : s.size ≤ maxLen) : ∃ (l : List UInt8) (e : Int), l.length ≤ 1000 ∧
    (∀ w, Calls Tryz.prog 51 #[.agg #[.int .i64 code, .int .i64 id, .string s]] w fun r w' => ∃ v, r = .returned (.tuple #[v, .int .i64 e]) ∧ w'.ownsRow w.heap.size 5 1 v l.length (l.map bv) ∧ Below w.heap.size w w') ∧
    (∀ w, Calls Tryz.prog 52 #[.agg #[.int .i64 code, .int .i64 id, .string s]] w fun r w' => r = .returned (.tuple #[.string ⟨l.toArray⟩, .int .i64 e]) ∧ Below w.heap.size w w') := by
  cases hp : isPkt code id s.size with
  | false =>
    refine ⟨[], 2, by simp, fun w => (frame_no code id s w hs hp).mono ?_, fun w => rframe_no code id s w hs hp⟩
    rintro r w' ⟨rfl, hb⟩
    exact ⟨_, rfl, World.ownsRow_nil _ _ _ _, hb⟩
  | true =>
    unfold isPkt at hp
    simp only [Bool.and_eq_true, decide_eq_true_eq] at hp
    obtain ⟨⟨⟨⟨h1, h2⟩, h3⟩, h4⟩, h5⟩ := hp
    have e1 : ((UInt8.ofNat code.toNat).toNat : Int) = code := by rw [UInt8.toNat_ofNat']; omega
    have e2 : ((UInt8.ofNat id.toNat).toNat : Int) = id := by rw [UInt8.toNat_ofNat']; omega
    refine ⟨encl (content (UInt8.ofNat code.toNat) (UInt8.ofNat id.toNat) s.data.toList), 0, ?_, fun w => ?_, fun w => ?_⟩
    · have := (escL_len (content (UInt8.ofNat code.toNat) (UInt8.ofNat id.toNat) s.data.toList)).2
      rw [encl_len]
      have h7 : (content (UInt8.ofNat code.toNat) (UInt8.ofNat id.toNat) s.data.toList).length = s.size + 4 := by simp [content, headOf]
      omega
    · have := frame_yes (UInt8.ofNat code.toNat) (UInt8.ofNat id.toNat) s w h5 (by omega)
      rw [e1, e2] at this
      exact this
    · have := rframe_yes (UInt8.ofNat code.toNat) (UInt8.ofNat id.toNat) s w h5 (by omega)
      rw [e1, e2] at this
      exact this

set_option maxRecDepth 100000 in
set_option maxHeartbeats 1000000 in
theorem step_frame {B wb : Nat} {vp vh : Value} {es : List HE} (w : World) (hw : WI w B wb vp vh es) (hes : es.length + 4 ≤ 17000000000000) (n code id ev : Int) (d s : ByteArray) (x0 x1 x2 x3 x4 x5 x6 : Value) (hd : d.size ≤ maxLen) :
    Calls Tryz.prog 34 #[.pointer (some ⟨wb, 0, none⟩), .agg #[.int .i64 1, .int .i64 n, .int .i64 code, .int .i64 id, .string d, .string s, x0, x1, x2, x3, x4, x5, x6, .int .i64 ev]] w fun r w' => r = .returned (.bool true) ∧ ∃ vh' es', es'.length = es.length + 4 ∧ WI w' B wb vp vh' es' ∧ Below B w w' := by
  obtain ⟨l, e, hl, h1, h2⟩ := framed code id d hd
  have H1 : Hid (∀ w, Calls Tryz.prog 51 #[.agg #[.int .i64 code, .int .i64 id, .string d]] w fun r w' => ∃ v, r = .returned (.tuple #[v, .int .i64 e]) ∧ w'.ownsRow w.heap.size 5 1 v l.length (l.map bv) ∧ Below w.heap.size w w') := h1
  have H2 : Hid (∀ w, Calls Tryz.prog 52 #[.agg #[.int .i64 code, .int .i64 id, .string d]] w fun r w' => r = .returned (.tuple #[.string ⟨l.toArray⟩, .int .i64 e]) ∧ Below w.heap.size w w') := h2
  have HW : Hid (WI w B wb vp vh es) := hw
  clear h1 h2 hw
  go_enter Tryz.func34, Tryz.ntmps34
  go_wp2_with fail
  refine (H1.out _).mono ?_
  rintro r w2 ⟨v, rfl, hown2, hb2⟩
  have hba : Below w.heap.size w (w.alloc (.cells #[.int .i64 1, .int .i64 n, .int .i64 code, .int .i64 id, .string d, .string s, x0, x1, x2, x3, x4, x5, x6, .int .i64 ev] 33)) := (Below.refl _ _).alloc (Nat.le_refl _) _
  have g2 : w2.cell? ⟨w.heap.size, 2, none⟩ = some (.int .i64 code) := (hb2.cell (p := ⟨w.heap.size, 2, none⟩) (by simp)).trans (by simp)
  have g3 : w2.cell? ⟨w.heap.size, 3, none⟩ = some (.int .i64 id) := (hb2.cell (p := ⟨w.heap.size, 3, none⟩) (by simp)).trans (by simp)
  have g4 : w2.cell? ⟨w.heap.size, 4, none⟩ = some (.string d) := (hb2.cell (p := ⟨w.heap.size, 4, none⟩) (by simp)).trans (by simp)
  have hb02 : Below w.heap.size w w2 := hba.trans (hb2.mono (by simp))
  have hv : ∀ b, v.ownBlock = some b → w.heap.size ≤ b := fun b hb => Nat.le_trans (by simp) (hown2.lt b hb).1
  have hown2' : w2.ownsRow w.heap.size 5 1 v l.length (l.map bv) := owns_mono hown2 (by simp)
  obtain ⟨a, cap, g, hvs, _, _, _⟩ := own_shape hown2
  subst hvs
  have OWN : Hid (_) := hown2'
  have HV : Hid (_) := hv
  have HB : Hid (Below w.heap.size w w2) := hb02
  clear hown2 hown2' hv hb02 hba hb2
  go_wp2_with fail
  refine (H2.out _).mono ?_
  rintro r w3 ⟨rfl, hb3⟩
  have hb03 : Below w.heap.size w w3 := HB.out.trans (hb3.mono HB.out.size)
  have hown3 := owns_below OWN.out hb3
  have hB : B ≤ w.heap.size := Nat.le_trans HW.out.ge (Nat.le_of_lt HW.out.lt)
  have hsame := same_any (l := l) w3 (HW.out.below hb03) (owns_mono hown3 hB) (by omega) hes (fun b hb => ⟨by have := HV.out b hb; have := HW.out.lt; omega, fun x => by have := HV.out b hb; have := (HW.out.vlt b x).2; omega, fun e he x => by have := HV.out b hb; have := (HW.out.sep e he b x).2.1; omega⟩)
  have HS : Hid (_) := hsame
  have HB3 : Hid (Below w.heap.size w w3) := hb03
  clear g2 g3 g4 hsame hb3 hb03 hown3
  go_wp2_with fail
  refine Calls.mono HS.out ?_
  rintro r w4 ⟨rfl, vh', es', h1, h2, h3⟩
  have HE : Hid (∃ vh' es', es'.length = es.length + 4 ∧ WI w4 B wb vp vh' es' ∧ Below B w w4) := by
    refine ⟨vh', es', h1, h2, (HB3.out.mono hB).trans (h3.below (Nat.le_trans hB HB3.out.size) ?_)⟩
    rintro b (h | h | h)
    · rw [h]; exact HW.out.ge
    · exact (HW.out.vlt b h).1
    · have := HV.out b h; omega
  clear h1 h2 h3 HS
  go_wp2_with fail
  go_ret
  exact ⟨rfl, HE.out⟩
end Go.Proofs.YtoeihlgidakjbaaGreatDoor

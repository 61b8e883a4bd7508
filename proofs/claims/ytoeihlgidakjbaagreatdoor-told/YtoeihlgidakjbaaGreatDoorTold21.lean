/- The laws' step, of the kinds 1 (Frame) and 2 (Unframe). The laws' step, of the kind 2 (Unframe). The laws' UpTo, for the kinds 1 and 2. The laws' UpTo, of the kinds 3 to 6 without 5, over any program's ends. -/
import Derived.Test.YtoeihlgidakjbaaGreatDoorTold17
import Derived.Test.YtoeihlgidakjbaaGreatDoorTold20
namespace Go.Proofs.YtoeihlgidakjbaaGreatDoor
open Go.RowKit Go.Lib

/-- What Frame answers, and the document's: the same bytes, the same number. -/
theorem framed (code id : Int) (s : ByteArray) (hs : s.size ≤ maxLen) : ∃ (l : List UInt8) (e : Int), l.length ≤ 1000 ∧
    (∀ w, Calls Tryz.prog 51 #[.agg #[.int .i64 code, .int .i64 id, .string s]] w fun r w' => ∃ v, r = .returned (.tuple #[v, .int .i64 e]) ∧ w'.ownsRow w.heap.size 5 1 v l.length (l.map bv) ∧ Below w.heap.size w w') ∧
    (∀ w, Calls Tryz.prog 52 #[.agg #[.int .i64 code, .int .i64 id, .string s]] w fun r w' => r = .returned (.tuple #[.string ⟨l.toArray⟩, .int .i64 e]) ∧ Below w.heap.size w w') := by
  cases hp : isPkt code id s.size with
  | false =>
    refine ⟨[], 2, by simp, fun w => (frame_no code id s w hs hp).mono ?_, fun w => rframe_no code id s w hs hp⟩
    rintro r w' ⟨rfl, hb⟩
    exact ⟨_, rfl, World.ownsRow_nil _ _ _ _, hb⟩
  | true =>
    unfold isPkt at hp
    simp only [Bool.and_eq_true, decide_eq_true_eq] at hp
    obtain ⟨⟨⟨⟨h1, h2⟩, h3⟩, h4⟩, h5⟩ := hp
    have e1 : ((UInt8.ofNat code.toNat).toNat : Int) = code := by rw [UInt8.toNat_ofNat']; omega
    have e2 : ((UInt8.ofNat id.toNat).toNat : Int) = id := by rw [UInt8.toNat_ofNat']; omega
    refine ⟨encl (content (UInt8.ofNat code.toNat) (UInt8.ofNat id.toNat) s.data.toList), 0, ?_, fun w => ?_, fun w => ?_⟩
    · have := (escL_len (content (UInt8.ofNat code.toNat) (UInt8.ofNat id.toNat) s.data.toList)).2
      rw [encl_len]
      have h7 : (content (UInt8.ofNat code.toNat) (UInt8.ofNat id.toNat) s.data.toList).length = s.size + 4 := by simp [content, headOf]
      omega
    · have := frame_yes (UInt8.ofNat code.toNat) (UInt8.ofNat id.toNat) s w h5 (by omega)
      rw [e1, e2] at this
      exact this
    · have := rframe_yes (UInt8.ofNat code.toNat) (UInt8.ofNat id.toNat) s w h5 (by omega)
      rw [e1, e2] at this
      exact this

set_option maxRecDepth 100000 in
set_option maxHeartbeats 1000000 in
theorem step_frame {B wb : Nat} {vp vh : Value} {es : List HE} (w : World) (hw : WI w B wb vp vh es) (hes : es.length + 4 ≤ 17000000000000) (n code id ev : Int) (d s : ByteArray) (x0 x1 x2 x3 x4 x5 x6 : Value) (hd : d.size ≤ maxLen) :
    Calls Tryz.prog 34 #[.pointer (some ⟨wb, 0, none⟩), .agg #[.int .i64 1, .int .i64 n, .int .i64 code, .int .i64 id, .string d, .string s, x0, x1, x2, x3, x4, x5, x6, .int .i64 ev]] w fun r w' => r = .returned (.bool true) ∧ ∃ vh' es', es'.length = es.length + 4 ∧ WI w' B wb vp vh' es' ∧ Below B w w' := by
  obtain ⟨l, e, hl, h1, h2⟩ := framed code id d hd
  have H1 : Hid (∀ w, Calls Tryz.prog 51 #[.agg #[.int .i64 code, .int .i64 id, .string d]] w fun r w' => ∃ v, r = .returned (.tuple #[v, .int .i64 e]) ∧ w'.ownsRow w.heap.size 5 1 v l.length (l.map bv) ∧ Below w.heap.size w w') := h1
  have H2 : Hid (∀ w, Calls Tryz.prog 52 #[.agg #[.int .i64 code, .int .i64 id, .string d]] w fun r w' => r = .returned (.tuple #[.string ⟨l.toArray⟩, .int .i64 e]) ∧ Below w.heap.size w w') := h2
  have HW : Hid (WI w B wb vp vh es) := hw
  clear h1 h2 hw
  go_enter Tryz.func34, Tryz.ntmps34
  go_wp2_with fail
  refine (H1.out _).mono ?_
  rintro r w2 ⟨v, rfl, hown2, hb2⟩
  have hba : Below w.heap.size w (w.alloc (.cells #[.int .i64 1, .int .i64 n, .int .i64 code, .int .i64 id, .string d, .string s, x0, x1, x2, x3, x4, x5, x6, .int .i64 ev] 33)) := (Below.refl _ _).alloc (Nat.le_refl _) _
  have g2 : w2.cell? ⟨w.heap.size, 2, none⟩ = some (.int .i64 code) := (hb2.cell (p := ⟨w.heap.size, 2, none⟩) (by simp)).trans (by simp)
  have g3 : w2.cell? ⟨w.heap.size, 3, none⟩ = some (.int .i64 id) := (hb2.cell (p := ⟨w.heap.size, 3, none⟩) (by simp)).trans (by simp)
  have g4 : w2.cell? ⟨w.heap.size, 4, none⟩ = some (.string d) := (hb2.cell (p := ⟨w.heap.size, 4, none⟩) (by simp)).trans (by simp)
  have hb02 : Below w.heap.size w w2 := hba.trans (hb2.mono (by simp))
  have hv : ∀ b, v.ownBlock = some b → w.heap.size ≤ b := fun b hb => Nat.le_trans (by simp) (hown2.lt b hb).1
  have hown2' : w2.ownsRow w.heap.size 5 1 v l.length (l.map bv) := owns_mono hown2 (by simp)
  obtain ⟨a, cap, g, hvs, _, _, _⟩ := own_shape hown2
  subst hvs
  have OWN : Hid (_) := hown2'
  have HV : Hid (_) := hv
  have HB : Hid (Below w.heap.size w w2) := hb02
  clear hown2 hown2' hv hb02 hba hb2
  go_wp2_with fail
  refine (H2.out _).mono ?_
  rintro r w3 ⟨rfl, hb3⟩
  have hb03 : Below w.heap.size w w3 := HB.out.trans (hb3.mono HB.out.size)
  have hown3 := owns_below OWN.out hb3
  have hB : B ≤ w.heap.size := Nat.le_trans HW.out.ge (Nat.le_of_lt HW.out.lt)
  have hsame := same_any (l := l) w3 (HW.out.below hb03) (owns_mono hown3 hB) (by omega) hes (fun b hb => ⟨by have := HV.out b hb; have := HW.out.lt; omega, fun x => by have := HV.out b hb; have := (HW.out.vlt b x).2; omega, fun e he x => by have := HV.out b hb; have := (HW.out.sep e he b x).2.1; omega⟩)
  have HS : Hid (_) := hsame
  have HB3 : Hid (Below w.heap.size w w3) := hb03
  clear g2 g3 g4 hsame hb3 hb03 hown3
  go_wp2_with fail
  refine Calls.mono HS.out ?_
  rintro r w4 ⟨rfl, vh', es', h1, h2, h3⟩
  have HE : Hid (∃ vh' es', es'.length = es.length + 4 ∧ WI w4 B wb vp vh' es' ∧ Below B w w4) := by
    refine ⟨vh', es', h1, h2, (HB3.out.mono hB).trans (h3.below (Nat.le_trans hB HB3.out.size) ?_)⟩
    rintro b (h | h | h)
    · rw [h]; exact HW.out.ge
    · exact (HW.out.vlt b h).1
    · have := HV.out b h; omega
  clear h1 h2 h3 HS
  go_wp2_with fail
  go_ret
  exact ⟨rfl, HE.out⟩
end Go.Proofs.YtoeihlgidakjbaaGreatDoor

namespace Go.Proofs.YtoeihlgidakjbaaGreatDoor
open Go.RowKit Go.Lib

theorem unfR_agg {l : List UInt8} {v : Value} {n : Int} (h : UnfR l v n) : ∃ (c d : Int) (t : ByteArray), v = .agg #[.int .i64 c, .int .i64 d, .string t] := by
  rcases h with ⟨_, rfl, _⟩ | ⟨c, d, t, x, y, _, ⟨_, rfl, _⟩ | ⟨_, _, rfl, _⟩ | ⟨_, _, rfl, _⟩⟩
  · exact ⟨_, _, _, rfl⟩
  · exact ⟨_, _, _, rfl⟩
  · exact ⟨_, _, _, rfl⟩
  · exact ⟨_, _, _, rfl⟩
theorem runframe_det (b : ByteArray) {v : Value} {n : Int} (h : UnfR b.data.toList v n) (w : World) (hn : b.size ≤ 140737488351232) :
    Calls Tryz.prog 55 #[.string b] w fun e w' => Below w.heap.size w w' ∧ e = .returned (.tuple #[v, .int .i64 n]) :=
  (runframe_any b w hn).mono (by
    rintro e w' ⟨hb, v', n', rfl, h'⟩
    obtain ⟨rfl, rfl⟩ := unfR_det h h'
    exact ⟨hb, rfl⟩)
theorem unframe_str {aS aC aF aL aO aH : Addr} (g cap : Nat) (s : ByteArray) (w : World) (hgl : Gl w aS aC aF aL aO aH) (hr : Rd w g 0 s.data.toList) (hbl : g < w.heap.size) (hn : s.size ≤ 140737488351232) :
    Calls Tryz.prog 47 #[.slice (some ⟨g, 0, none⟩) s.size cap] w fun e w' => Below w.heap.size w w' ∧ ∃ v n, e = .returned (.tuple #[v, .int .i64 n]) ∧ UnfR s.data.toList v n := by
  have e : s.data.toList.length = s.size := by simp
  have := unframe_any g 0 cap s.data.toList w hgl hr hbl (by omega)
  rw [e] at this
  exact this
set_option maxRecDepth 100000 in
set_option maxHeartbeats 2000000 in
theorem step_unframe {aS aC aF aL aO aH : Addr} {B wb : Nat} {vp vh : Value} {es : List HE} (w : World) (hgl : Gl w aS aC aF aL aO aH) (hw : WI w B wb vp vh es) (hes : es.length + 4 ≤ 17000000000000) (n code id ev : Int) (d s : ByteArray) (x0 x1 x2 x3 x4 x5 x6 : Value) (hs : s.size ≤ 140737488351232) :
    Calls Tryz.prog 34 #[.pointer (some ⟨wb, 0, none⟩), .agg #[.int .i64 2, .int .i64 n, .int .i64 code, .int .i64 id, .string d, .string s, x0, x1, x2, x3, x4, x5, x6, .int .i64 ev]] w fun r w' => r = .returned (.bool true) ∧ ∃ vh' es', es'.length = es.length + 4 ∧ WI w' B wb vp vh' es' ∧ Below B w w' := by
  have HW : Hid (WI w B wb vp vh es) := hw
  have HG : Hid (Gl w aS aC aF aL aO aH) := hgl
  clear hw hgl
  have hB : B ≤ w.heap.size := Nat.le_trans HW.out.ge (Nat.le_of_lt HW.out.lt)
  go_enter Tryz.func34, Tryz.ntmps34
  go_wp2_with fail
  refine (lent_any s _ hs).mono ?_
  rintro r w2 ⟨rfl, hown2, hb2⟩
  have hba : Below w.heap.size w (w.alloc (.cells #[.int .i64 2, .int .i64 n, .int .i64 code, .int .i64 id, .string d, .string s, x0, x1, x2, x3, x4, x5, x6, .int .i64 ev] 33)) := (Below.refl _ _).alloc (Nat.le_refl _) _
  have g5 : w2.cell? ⟨w.heap.size, 5, none⟩ = some (.string s) := (hb2.cell (p := ⟨w.heap.size, 5, none⟩) (by simp)).trans (by simp)
  have hb02 : Below w.heap.size w w2 := hba.trans (hb2.mono (by simp))
  have hsz1 : (w.alloc (.cells #[.int .i64 2, .int .i64 n, .int .i64 code, .int .i64 id, .string d, .string s, x0, x1, x2, x3, x4, x5, x6, .int .i64 ev] 33)).heap.size = w.heap.size + 1 := by simp
  rw [hsz1] at hown2 hb2 ⊢
  have hrd2 := owns_rd hown2 (by rw [lentL_len _ _ (by omega)]; omega)
  obtain ⟨h8, g', cap', hgg, _, hlt2, _, _, hrd⟩ := hrd2
  clear h8
  have hg' : g' = w.heap.size + 1 := by
    simp only [Value.slice.injEq, Option.some.injEq, Addr.mk.injEq, and_true] at hgg
    exact hgg.1.symm
  subst hg'
  clear hgg
  have hrs : Rd w2 (w.heap.size + 1) 0 s.data.toList := by
    intro k hk
    have := hrd k (by rw [lentL_len _ _ (by omega)]; omega)
    rw [this]
    simp only [lentL]
    rw [List.getElem_append_left hk]
  have OWN : Hid (_) := hown2
  have HB : Hid (Below w.heap.size w w2) := hb02
  have HRS : Hid (Rd w2 (w.heap.size + 1) 0 s.data.toList) := hrs
  have HRD : Hid (Rd w2 (w.heap.size + 1) 0 (lentL s.data.toList 8)) := hrd
  clear hown2 hb02 hrs hrd hba hb2
  have hI : ((s.size : Int)) ≤ (s.size : Int) + 8 := by omega
  go_wp2_with fail
  refine (unframe_str (w.heap.size + 1) (s.size + 8) s w2 (HG.out.below HB.out) HRS.out hlt2 hs).mono ?_
  rintro r w3 ⟨hb3, v, n1, rfl, hU⟩
  obtain ⟨c1, d1, t1, hv⟩ := unfR_agg hU
  have hb03 : Below w.heap.size w w3 := HB.out.trans (hb3.mono HB.out.size)
  have k5 : w3.cell? ⟨w.heap.size, 5, none⟩ = some (.string s) := (hb3.cell (p := ⟨w.heap.size, 5, none⟩) (by show w.heap.size < w2.heap.size; omega)).trans g5
  subst hv
  have HU : Hid (UnfR s.data.toList (.agg #[.int .i64 c1, .int .i64 d1, .string t1]) n1) := hU
  have HB3 : Hid (Below w.heap.size w w3) := hb03
  have HB3' : Hid (Below w2.heap.size w2 w3) := hb3
  have sz3 := hb3.size
  clear hU hb3 hb03 g5
  go_upto_region 10 with fail
  have hba : Below w3.heap.size w3 (w3.alloc (.cells #[.int .i64 c1, .int .i64 d1, .string t1] 27)) := (Below.refl _ _).alloc (Nat.le_refl _) _
  have p0 : (w3.alloc (.cells #[.int .i64 c1, .int .i64 d1, .string t1] 27)).cell? ⟨w3.heap.size, 0, none⟩ = some (.int .i64 c1) := by simp
  have p1 : (w3.alloc (.cells #[.int .i64 c1, .int .i64 d1, .string t1] 27)).cell? ⟨w3.heap.size, 1, none⟩ = some (.int .i64 d1) := by simp
  have p2 : (w3.alloc (.cells #[.int .i64 c1, .int .i64 d1, .string t1] 27)).cell? ⟨w3.heap.size, 2, none⟩ = some (.string t1) := by simp
  have z4 : (w3.alloc (.cells #[.int .i64 c1, .int .i64 d1, .string t1] 27)).heap.size = w3.heap.size + 1 := by simp
  have l5 : (w3.alloc (.cells #[.int .i64 c1, .int .i64 d1, .string t1] 27)).cell? ⟨w.heap.size, 5, none⟩ = some (.string s) := (hba.cell (p := ⟨w.heap.size, 5, none⟩) (by show w.heap.size < w3.heap.size; omega)).trans k5
  clear k5
  generalize w3.alloc (.cells #[.int .i64 c1, .int .i64 d1, .string t1] 27) = w4 at *
  have HBA : Hid (Below w3.heap.size w3 w4) := hba
  clear hba
  go_wp2_with fail
  refine (runframe_det s HU.out w4 hs).mono ?_
  rintro r w5 ⟨hb5, rfl⟩
  have sz5 := hb5.size
  have m5 : w5.cell? ⟨w.heap.size, 5, none⟩ = some (.string s) := (hb5.cell (p := ⟨w.heap.size, 5, none⟩) (by show w.heap.size < w4.heap.size; omega)).trans l5
  have r0 := (hb5.cell (p := ⟨w3.heap.size, 0, none⟩) (by show w3.heap.size < w4.heap.size; omega)).trans p0
  have r1 := (hb5.cell (p := ⟨w3.heap.size, 1, none⟩) (by show w3.heap.size < w4.heap.size; omega)).trans p1
  have r2 := (hb5.cell (p := ⟨w3.heap.size, 2, none⟩) (by show w3.heap.size < w4.heap.size; omega)).trans p2
  have HB5 : Hid (Below w4.heap.size w4 w5) := hb5
  clear l5 p0 p1 p2 hb5
  go_upto_region 11 with fail
  have hba : Below w5.heap.size w5 (w5.alloc (.cells #[.int .i64 c1, .int .i64 d1, .string t1] 27)) := (Below.refl _ _).alloc (Nat.le_refl _) _
  have q0 : (w5.alloc (.cells #[.int .i64 c1, .int .i64 d1, .string t1] 27)).cell? ⟨w5.heap.size, 0, none⟩ = some (.int .i64 c1) := by simp
  have q1 : (w5.alloc (.cells #[.int .i64 c1, .int .i64 d1, .string t1] 27)).cell? ⟨w5.heap.size, 1, none⟩ = some (.int .i64 d1) := by simp
  have q2 : (w5.alloc (.cells #[.int .i64 c1, .int .i64 d1, .string t1] 27)).cell? ⟨w5.heap.size, 2, none⟩ = some (.string t1) := by simp
  have z6 : (w5.alloc (.cells #[.int .i64 c1, .int .i64 d1, .string t1] 27)).heap.size = w5.heap.size + 1 := by simp
  have l5 := (hba.cell (p := ⟨w.heap.size, 5, none⟩) (by show w.heap.size < w5.heap.size; omega)).trans m5
  have p0 := (hba.cell (p := ⟨w3.heap.size, 0, none⟩) (by show w3.heap.size < w5.heap.size; omega)).trans r0
  have p1 := (hba.cell (p := ⟨w3.heap.size, 1, none⟩) (by show w3.heap.size < w5.heap.size; omega)).trans r1
  have p2 := (hba.cell (p := ⟨w3.heap.size, 2, none⟩) (by show w3.heap.size < w5.heap.size; omega)).trans r2
  clear m5 r0 r1 r2
  generalize w5.alloc (.cells #[.int .i64 c1, .int .i64 d1, .string t1] 27) = w6 at *
  have HBA6 : Hid (Below w5.heap.size w5 w6) := hba
  have hb26 : Below w2.heap.size w2 w6 := ((HB3'.out.trans (HBA.out.mono sz3)).trans (HB5.out.mono (by omega))).trans (hba.mono (by omega))
  have HB26 : Hid (Below w2.heap.size w2 w6) := hb26
  clear hba
  go_wp2_with fail
  refine (still_any s (w.heap.size + 1) (s.size + 8) w6 hs (rd_below HRD.out HB26.out hlt2)).mono ?_
  rintro r w7 ⟨rfl, hb7⟩
  have sz7 := hb7.size
  have hb27 : Below w2.heap.size w2 w7 := HB26.out.trans (hb7.mono HB26.out.size)
  have hb07 : Below w.heap.size w w7 := HB.out.trans (hb27.mono HB.out.size)
  have r0 := (hb7.cell (p := ⟨w3.heap.size, 0, none⟩) (by show w3.heap.size < w6.heap.size; omega)).trans p0
  have r1 := (hb7.cell (p := ⟨w3.heap.size, 1, none⟩) (by show w3.heap.size < w6.heap.size; omega)).trans p1
  have r2 := (hb7.cell (p := ⟨w3.heap.size, 2, none⟩) (by show w3.heap.size < w6.heap.size; omega)).trans p2
  have u0 := (hb7.cell (p := ⟨w5.heap.size, 0, none⟩) (by show w5.heap.size < w6.heap.size; omega)).trans q0
  have u1 := (hb7.cell (p := ⟨w5.heap.size, 1, none⟩) (by show w5.heap.size < w6.heap.size; omega)).trans q1
  have u2 := (hb7.cell (p := ⟨w5.heap.size, 2, none⟩) (by show w5.heap.size < w6.heap.size; omega)).trans q2
  have hk := keep_new w7 (HW.out.below hb07) (owns_mono (owns_below OWN.out hb27) (by omega)) (by omega) hes (fun b hb => by
    have e : w.heap.size + 1 = b := by simpa [Value.ownBlock] using hb
    exact ⟨by have := HW.out.lt; omega, fun x => by have := (HW.out.vlt b x).2; omega, fun e he x => by have := (HW.out.sep e he b x).2.1; omega⟩)
  have HK : Hid (_) := hk
  have HB07 : Hid (Below w.heap.size w w7) := hb07
  clear p0 p1 p2 q0 q1 q2 l5 hk hb07 hb27 hb7 hb26
  go_wp2_with fail
  refine Calls.mono HK.out ?_
  rintro r w8 ⟨rfl, vh', es', h1, h2, h3⟩
  have hn3 : ∀ b, w.heap.size + 1 < b → b < w7.heap.size → w8.heap[b]? = w7.heap[b]? := by
    intro b h4 h5
    refine h3.block b h5 ?_
    rintro (h | h | h)
    · have := HW.out.lt; omega
    · have := (HW.out.vlt b h).2; omega
    · have e : w.heap.size + 1 = b := by simpa [Value.ownBlock] using h
      omega
  have b3 := hn3 w3.heap.size (by omega) (by omega)
  have b5 := hn3 w5.heap.size (by omega) (by omega)
  have p0 := (World.cell?_of_block (w := w7) (a := ⟨w3.heap.size, 0, none⟩) b3).trans r0
  have p1 := (World.cell?_of_block (w := w7) (a := ⟨w3.heap.size, 1, none⟩) b3).trans r1
  have p2 := (World.cell?_of_block (w := w7) (a := ⟨w3.heap.size, 2, none⟩) b3).trans r2
  have q0 := (World.cell?_of_block (w := w7) (a := ⟨w5.heap.size, 0, none⟩) b5).trans u0
  have q1 := (World.cell?_of_block (w := w7) (a := ⟨w5.heap.size, 1, none⟩) b5).trans u1
  have q2 := (World.cell?_of_block (w := w7) (a := ⟨w5.heap.size, 2, none⟩) b5).trans u2
  have HE : Hid (∃ vh' es', es'.length = es.length + 4 ∧ WI w8 B wb vp vh' es' ∧ Below B w w8) := by
    refine ⟨vh', es', h1, h2, (HB07.out.mono hB).trans (h3.below (Nat.le_trans hB HB07.out.size) ?_)⟩
    rintro b (h | h | h)
    · rw [h]; exact HW.out.ge
    · exact (HW.out.vlt b h).1
    · have e : w.heap.size + 1 = b := by simpa [Value.ownBlock] using h
      omega
  clear h1 h2 h3 HK b3 b5 hn3 r0 r1 r2 u0 u1 u2
  go_wp2_with fail
  go_ret
  exact ⟨rfl, HE.out⟩
end Go.Proofs.YtoeihlgidakjbaaGreatDoor

namespace Go.Proofs.YtoeihlgidakjbaaGreatDoor
open Go.RowKit Go.Lib

/-- A step of a script in memory: its fourteen cells. -/
structure OpC where
  k : Int
  n : Int
  code : Int
  id : Int
  d : ByteArray
  s : ByteArray
  x0 : Value
  x1 : Value
  x2 : Value
  x3 : Value
  x4 : Value
  x5 : Value
  x6 : Value
  ev : Int
def OpC.val (o : OpC) : Value := .agg #[.int .i64 o.k, .int .i64 o.n, .int .i64 o.code, .int .i64 o.id, .string o.d, .string o.s, o.x0, o.x1, o.x2, o.x3, o.x4, o.x5, o.x6, .int .i64 o.ev]
structure OpIs (w : World) (g p : Nat) (o : OpC) : Prop where
  c0 : w.cell? ⟨g, p, none⟩ = some (.int .i64 o.k)
  c1 : w.cell? ⟨g, p + 1, none⟩ = some (.int .i64 o.n)
  c2 : w.cell? ⟨g, p + 2, none⟩ = some (.int .i64 o.code)
  c3 : w.cell? ⟨g, p + 3, none⟩ = some (.int .i64 o.id)
  c4 : w.cell? ⟨g, p + 4, none⟩ = some (.string o.d)
  c5 : w.cell? ⟨g, p + 5, none⟩ = some (.string o.s)
  c6 : w.cell? ⟨g, p + 6, none⟩ = some o.x0
  c7 : w.cell? ⟨g, p + 7, none⟩ = some o.x1
  c8 : w.cell? ⟨g, p + 8, none⟩ = some o.x2
  c9 : w.cell? ⟨g, p + 9, none⟩ = some o.x3
  c10 : w.cell? ⟨g, p + 10, none⟩ = some o.x4
  c11 : w.cell? ⟨g, p + 11, none⟩ = some o.x5
  c12 : w.cell? ⟨g, p + 12, none⟩ = some o.x6
  c13 : w.cell? ⟨g, p + 13, none⟩ = some (.int .i64 o.ev)
theorem OpIs.below {w w' : World} {B g p : Nat} {o : OpC} (h : OpIs w g p o) (hb : Below B w w') (hg : g < B) : OpIs w' g p o :=
  ⟨(hb.cell (p := ⟨g, p, none⟩) hg).trans h.c0, (hb.cell (p := ⟨g, p + 1, none⟩) hg).trans h.c1, (hb.cell (p := ⟨g, p + 2, none⟩) hg).trans h.c2, (hb.cell (p := ⟨g, p + 3, none⟩) hg).trans h.c3, (hb.cell (p := ⟨g, p + 4, none⟩) hg).trans h.c4, (hb.cell (p := ⟨g, p + 5, none⟩) hg).trans h.c5, (hb.cell (p := ⟨g, p + 6, none⟩) hg).trans h.c6, (hb.cell (p := ⟨g, p + 7, none⟩) hg).trans h.c7, (hb.cell (p := ⟨g, p + 8, none⟩) hg).trans h.c8, (hb.cell (p := ⟨g, p + 9, none⟩) hg).trans h.c9, (hb.cell (p := ⟨g, p + 10, none⟩) hg).trans h.c10, (hb.cell (p := ⟨g, p + 11, none⟩) hg).trans h.c11, (hb.cell (p := ⟨g, p + 12, none⟩) hg).trans h.c12, (hb.cell (p := ⟨g, p + 13, none⟩) hg).trans h.c13⟩
/-- A script in memory: n steps from a place on. -/
def Scr (w : World) (g off n : Nat) (O : Nat → OpC) : Prop := ∀ i, i < n → OpIs w g (off + i * 14) (O i) ∧ (O i).d.size ≤ maxLen ∧ (O i).s.size ≤ 140737488351232

theorem step_12 {aS aC aF aL aO aH : Addr} {B wb : Nat} {vp vh : Value} {es : List HE} (w : World) (hgl : Gl w aS aC aF aL aO aH) (hw : WI w B wb vp vh es) (hes : es.length + 4 ≤ 17000000000000) (o : OpC) (hk1 : 1 ≤ o.k) (hk2 : o.k ≤ 2) (hd : o.d.size ≤ maxLen) (hs : o.s.size ≤ 140737488351232) :
    Calls Tryz.prog 34 #[.pointer (some ⟨wb, 0, none⟩), o.val] w fun r w' => r = .returned (.bool true) ∧ ∃ vh' es', es'.length = es.length + 4 ∧ WI w' B wb vp vh' es' ∧ Below B w w' := by
  obtain ⟨k, n, code, id, d, s, x0, x1, x2, x3, x4, x5, x6, ev⟩ := o
  simp only at hk1 hk2 hd hs
  rcases (by omega : k = 1 ∨ k = 2) with rfl | rfl
  · exact step_frame w hw hes n code id ev d s x0 x1 x2 x3 x4 x5 x6 hd
  · exact step_unframe w hgl hw hes n code id ev d s x0 x1 x2 x3 x4 x5 x6 hs
set_option maxRecDepth 100000 in
set_option maxHeartbeats 2000000 in
theorem upto_12 {aS aC aF aL aO aH : Addr} (g off n cap : Nat) (O : Nat → OpC) (a : Option Addr) (w : World) (hgl : Gl w aS aC aF aL aO aH) (ha : 0 < n → a = some ⟨g, off, none⟩) (hg : 0 < n → g < w.heap.size) (hsc : Scr w g off n O) (hn : n ≤ 1000000000000) :
    Calls Tryz.prog 14 #[.slice a n cap, .int .i64 1, .int .i64 2] w fun r w' => r = .returned (.int .i64 (-1)) ∧ Below w.heap.size w w' := by
  have HG : Hid (Gl w aS aC aF aL aO aH) := hgl
  have HA : Hid (0 < n → a = some ⟨g, off, none⟩) := ha
  have HGL : Hid (0 < n → g < w.heap.size) := hg
  have HS : Hid (Scr w g off n O) := hsc
  clear hgl ha hg hsc
  go_enter Tryz.func14, Tryz.ntmps14
  go_wp2_with fail
  go_loopw [8] (fun i wr => ∃ (k : Nat) (vh : Value) (es : List HE), k ≤ n ∧ i = .int .i64 k ∧ es.length ≤ 4 * k ∧ Hid (WI wr w.heap.size w.heap.size (.slice none 0 0) vh es ∧ Below w.heap.size w wr)) (fun i _ => n - (intOf i).toNat)
  case atStart =>
    refine ⟨0, .slice none 0 0, [], by omega, rfl, by simp, ?_⟩
    refine ⟨⟨by simp, by simp, by simp, by simp, ?_, ?_, by simp, Nat.le_refl _, by simp [Value.ownBlock], ?_⟩, (Below.refl _ _).alloc (Nat.le_refl _) _⟩
    · exact World.ownsRow_nil _ _ _ _
    · intro e he; cases he
    · intro e he; cases he
  case round =>
    obtain ⟨k, vh, es, hk, rfl, hel, HW⟩ := hrel
    by_cases hlt : k < n
    · obtain rfl := HA.out (by omega)
      obtain ⟨hop, hd, hs⟩ := HS.out k hlt
      have hop := hop.below HW.out.2 (HGL.out (by omega))
      have hI : (k : Int) < (n : Int) := by omega
      generalize hO : O k = o at *
      have c0 := hop.c0
      by_cases hk1 : o.k < 1
      · go_wp2_with fail
        exact ⟨⟨k + 1, vh, es, by omega, by go_num, by omega, HW⟩, by simp [intOf]; omega⟩
      · by_cases hk2 : 2 < o.k
        · go_wp2_with fail
          exact ⟨⟨k + 1, vh, es, by omega, by go_num, by omega, HW⟩, by simp [intOf]; omega⟩
        · obtain ⟨_, c1, c2, c3, c4, c5, c6, c7, c8, c9, c10, c11, c12, c13⟩ := hop
          go_wp2_with fail
          refine Calls.mono (step_12 wr (HG.out.below HW.out.2) HW.out.1 (by omega) o (by omega) (by omega) hd hs) ?_
          rintro r w2 ⟨rfl, vh', es', hl, hwi, hb⟩
          have HWI : Hid (WI w2 w.heap.size w.heap.size (.slice none 0 0) vh' es') := hwi
          have HBB : Hid (Below w.heap.size w w2) := HW.out.2.trans hb
          clear hwi hb HW c0 c1 c2 c3 c4 c5 c6 c7 c8 c9 c10 c11 c12 c13
          go_wp2_with fail
          refine Calls.mono (looks_any w2 HWI.out (by omega)) ?_
          rintro r w3 ⟨rfl, nn, rfl⟩
          go_wp2_with fail
          exact ⟨⟨k + 1, vh', es', by omega, by go_num, by omega, HWI.out.of_tch (S := fun _ => False) (Tch.of_below (below_drewN (Below.refl _ _) nn)) id (fun _ _ x => x) (fun _ _ _ _ x => x), below_drewN HBB.out nn⟩, by simp [intOf]; omega⟩
    · go_wp2_with fail
      go_ret
      exact ⟨rfl, HW.out.2⟩
end Go.Proofs.YtoeihlgidakjbaaGreatDoor

namespace Go.Proofs.YtoeihlgidakjbaaGreatDoor
open Go.RowKit Go.Lib

/-- A step, with its lists. -/
structure OpT where
  kd : Int
  n : Int
  code : Int
  id : Int
  d : ByteArray
  s : ByteArray
  X : Nat → Value
  L : Nat → List Int
  mg : Int
  ev : Int
def OpT.cells (o : OpT) : Array Value := opA o.kd o.n o.code o.id o.d o.s o.X o.mg o.ev
/-- A step in memory, its lists below B. -/
structure OpAt (w : World) (B g p : Nat) (o : OpT) : Prop where
  c : ∀ i, i < 14 → w.cell? ⟨g, p + i, none⟩ = o.cells[i]?
  n1 : -9223372036854775808 ≤ o.n
  n2 : o.n < 9223372036854775808
  x : ∀ i, i < 6 → IntsAt w (o.X i) (o.L i)
  b : ∀ i, i < 6 → 0 < (o.L i).length → ∀ b, (o.X i).ownBlock = some b → b < B
  l : ∀ i, i < 6 → (o.L i).length ≤ 17592186043904
theorem OpAt.bel {w w' : World} {B g p : Nat} {o : OpT} (h : OpAt w B g p o) (hb : Below B w w') (hg : g < B) : OpAt w' B g p o :=
  ⟨fun i hi => (hb.cell (p := ⟨g, p + i, none⟩) hg).trans (h.c i hi), h.n1, h.n2, fun i hi => (h.x i hi).bel (h.b i hi) hb, h.b, h.l⟩
def ScrT (w : World) (B g off n : Nat) (O : Nat → OpT) : Prop := ∀ i, i < n → OpAt w B g (off + i * 14) (O i)
section
variable {P : Pg}
theorem step_36 {aS aC aF aL aO aH : Addr} {B wb : Nat} {vp vh : Value} {n g p : Nat} {es : List HE} {ps : List (PL P)} (w : World) (hgl : Gl w aS aC aF aL aO aH) (hw : WE w B wb vp vh es ps n) (hn : n ≤ 1399999999998) (hes : es.length + 24 ≤ 17000000000000) (o : OpT) (h : OpAt w B g p o) (hk : o.kd = 3 ∨ o.kd = 4 ∨ o.kd = 6) :
    Calls Tryz.prog 34 #[.pointer (some ⟨wb, 0, none⟩), .agg o.cells] w fun r w' => r = .returned (.bool true) ∧ StR P w w' B wb es (n + 2) := by
  obtain ⟨kd, nn, code, id, d, s, X, L, mg, ev⟩ := o
  obtain ⟨_, n1, n2, hx, hb, hl⟩ := h
  simp only at hk n1 n2 hx hb hl
  rcases hk with rfl | rfl | rfl
  · refine Calls.mono (step_new w hgl hw hes nn code id d s X L mg ev hx hb hl) ?_
    rintro r w' ⟨rfl, vp', vh', es', ps', h1, h2, h3⟩
    exact ⟨rfl, vp', vh', es', ps', h1, h2.limit (by omega), h3⟩
  · exact step_event w hgl hw hn hes nn code id d s X mg ev n1 n2
  · exact step_ask w hgl hw hn hes nn code id d s X mg ev n1 n2
set_option maxRecDepth 100000 in
set_option maxHeartbeats 2000000 in
/-- UpTo at kinds from 3 to 4 or to 6, where none that is played is 5. -/
theorem upto_e {aS aC aF aL aO aH : Addr} (P : Pg) (last : Int) (hlast : last = 4 ∨ last = 6) (g off n cap : Nat) (O : Nat → OpT) (a : Option Addr) (w : World) (hgl : Gl w aS aC aF aL aO aH) (ha : 0 < n → a = some ⟨g, off, none⟩) (hg : 0 < n → g < w.heap.size) (hsc : ScrT w w.heap.size g off n O) (hn : n ≤ 628292358711) (h5 : ∀ i, i < n → (O i).kd = 5 → last < 5) :
    Calls Tryz.prog 14 #[.slice a n cap, .int .i64 3, .int .i64 last] w fun r w' => r = .returned (.int .i64 (-1)) ∧ Below w.heap.size w w' := by
  have HG : Hid (Gl w aS aC aF aL aO aH) := hgl
  have HA : Hid (0 < n → a = some ⟨g, off, none⟩) := ha
  have HGL : Hid (0 < n → g < w.heap.size) := hg
  have HS : Hid (ScrT w w.heap.size g off n O) := hsc
  have H5 : Hid (∀ i, i < n → (O i).kd = 5 → last < 5) := h5
  have hl4 : 4 ≤ last := by omega
  have hl6 : last ≤ 6 := by omega
  have HLA : Hid (last = 4 ∨ last = 6) := hlast
  clear hgl ha hg hsc h5 hlast
  go_enter Tryz.func14, Tryz.ntmps14
  go_wp2_with fail
  go_loopw [8] (fun i wr => ∃ (k : Nat) (vp vh : Value) (es : List HE) (ps : List (PL P)), k ≤ n ∧ i = .int .i64 k ∧ es.length ≤ 24 * k ∧ Hid (WE wr w.heap.size w.heap.size vp vh es ps (2 * k) ∧ Below w.heap.size w wr)) (fun i _ => n - (intOf i).toNat)
  case atStart =>
    refine ⟨0, .slice none 0 0, .slice none 0 0, [], [], by omega, rfl, by simp, ?_⟩
    refine ⟨⟨⟨by simp, by simp, by simp, by simp, World.ownsRow_nil _ _ _ _, (fun e he => by cases he), by simp, Nat.le_refl _, by simp [Value.ownBlock], (fun e he => by cases he)⟩, World.ownsRow_nil _ _ _ _, by simp, (fun b hb => by simp [Value.ownBlock] at hb), (fun x hx => by cases hx), (fun x hx => by cases hx), (fun x hx => by cases hx), (fun i j _ x y hx => by simp at hx)⟩, (Below.refl _ _).alloc (Nat.le_refl _) _⟩
  case round =>
    obtain ⟨k, vp, vh, es, ps, hk, rfl, hel, HW⟩ := hrel
    by_cases hlt : k < n
    · obtain rfl := HA.out (by omega)
      have hop := (HS.out k hlt).bel HW.out.2 (HGL.out (by omega))
      have hI : (k : Int) < (n : Int) := by omega
      have h5k := H5.out k hlt
      generalize hO : O k = o at *
      have c0 : wr.cell? ⟨g, off + k * 14, none⟩ = some (.int .i64 o.kd) := hop.c 0 (by omega)
      by_cases hk1 : o.kd < 3
      · clear hop
        go_wp2_with fail
        exact ⟨⟨k + 1, vp, vh, es, ps, by omega, by go_num, by omega, HW.out.1.limit (by omega), HW.out.2⟩, by simp [intOf]; omega⟩
      · by_cases hk2 : last < o.kd
        · clear hop
          go_wp2_with fail
          exact ⟨⟨k + 1, vp, vh, es, ps, by omega, by go_num, by omega, HW.out.1.limit (by omega), HW.out.2⟩, by simp [intOf]; omega⟩
        · have c1 : wr.cell? ⟨g, off + k * 14 + 1, none⟩ = some (.int .i64 o.n) := hop.c 1 (by omega)
          have c2 : wr.cell? ⟨g, off + k * 14 + 2, none⟩ = some (.int .i64 o.code) := hop.c 2 (by omega)
          have c3 : wr.cell? ⟨g, off + k * 14 + 3, none⟩ = some (.int .i64 o.id) := hop.c 3 (by omega)
          have c4 : wr.cell? ⟨g, off + k * 14 + 4, none⟩ = some (.string o.d) := hop.c 4 (by omega)
          have c5 : wr.cell? ⟨g, off + k * 14 + 5, none⟩ = some (.string o.s) := hop.c 5 (by omega)
          have c6 : wr.cell? ⟨g, off + k * 14 + 6, none⟩ = some (o.X 0) := hop.c 6 (by omega)
          have c7 : wr.cell? ⟨g, off + k * 14 + 7, none⟩ = some (o.X 1) := hop.c 7 (by omega)
          have c8 : wr.cell? ⟨g, off + k * 14 + 8, none⟩ = some (o.X 2) := hop.c 8 (by omega)
          have c9 : wr.cell? ⟨g, off + k * 14 + 9, none⟩ = some (o.X 3) := hop.c 9 (by omega)
          have c10 : wr.cell? ⟨g, off + k * 14 + 10, none⟩ = some (o.X 4) := hop.c 10 (by omega)
          have c11 : wr.cell? ⟨g, off + k * 14 + 11, none⟩ = some (o.X 5) := hop.c 11 (by omega)
          have c12 : wr.cell? ⟨g, off + k * 14 + 12, none⟩ = some (.int .i64 o.mg) := hop.c 12 (by omega)
          have c13 : wr.cell? ⟨g, off + k * 14 + 13, none⟩ = some (.int .i64 o.ev) := hop.c 13 (by omega)
          have HST : Hid (_) := step_36 wr (HG.out.below HW.out.2) HW.out.1 (by omega) (by omega) o hop (by have := HLA.out; omega)
          unfold OpT.cells opA at HST
          clear hop h5k
          go_wp2_with fail
          refine Calls.mono HST.out ?_
          rintro r w2 ⟨rfl, vp2, vh2, es2, ps2, hl2, hwe2, hb2⟩
          have HWI : Hid (WE w2 w.heap.size w.heap.size vp2 vh2 es2 ps2 (2 * k + 2)) := hwe2
          have HBB : Hid (Below w.heap.size w w2) := HW.out.2.trans hb2
          clear hwe2 hb2 HW HST c0 c1 c2 c3 c4 c5 c6 c7 c8 c9 c10 c11 c12 c13
          go_wp2_with fail
          refine Calls.mono (looks_any w2 HWI.out.wi (by omega)) ?_
          rintro r w3 ⟨rfl, nn, rfl⟩
          go_wp2_with fail
          exact ⟨⟨k + 1, vp2, vh2, es2, ps2, by omega, by go_num, by omega, HWI.out.below (below_drewN (Below.refl _ _) nn), below_drewN HBB.out nn⟩, by simp [intOf]; omega⟩
    · go_wp2_with fail
      go_ret
      exact ⟨rfl, HW.out.2⟩
end
end Go.Proofs.YtoeihlgidakjbaaGreatDoor

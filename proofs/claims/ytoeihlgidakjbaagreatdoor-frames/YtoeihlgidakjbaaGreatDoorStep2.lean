/- The laws' step, of the kind 2 (Unframe). -/
import Derived.Test.YtoeihlgidakjbaaGreatDoorStep1
namespace Go.Proofs.YtoeihlgidakjbaaGreatDoor
open Go.RowKit Go.Lib

theorem unfR_agg {l : List UInt8} {v : Value} {n : Int} (h : UnfR l v n) : ∃ (c d : Int) (t : ByteArray), v = .agg #[.int .i64 c, .int .i64 d, .string t] := by
  rcases h with ⟨_, rfl, _⟩ | ⟨c, d, t, x, y, _, ⟨_, rfl, _⟩ | ⟨_, _, rfl, _⟩ | ⟨_, _, rfl, _⟩⟩
  · exact ⟨_, _, _, rfl⟩
  · exact ⟨_, _, _, rfl⟩
  · exact ⟨_, _, _, rfl⟩
  · exact ⟨_, _, _, rfl⟩
theorem runframe_det (b : ByteArray) {v : Value} {n : Int} (h : UnfR b.data.toList v n) (w : World) (hn : b.size ≤ 140737488351232) :
    Calls Tryz.prog 55 #[.string b] w fun e w' => Below w.heap.size w w' ∧ e = .returned (.tuple #[v, .int .i64 n]) :=
  (runframe_any b w hn).mono (by
    rintro e w' ⟨hb, v', n', rfl, h'⟩
    obtain ⟨rfl, rfl⟩ := unfR_det h h'
    exact ⟨hb, rfl⟩)
theorem unframe_str {aS aC aF aL aO aH : Addr} (g cap : Nat) (s : ByteArray) (w : World) (hgl : Gl w aS aC aF aL aO aH) (hr : Rd w g 0 s.data.toList) (hbl : g < w.heap.size) (hn : s.size ≤ 140737488351232) :
    Calls Tryz.prog 47 #[.slice (some ⟨g, 0, none⟩) s.size cap] w fun e w' => Below w.heap.size w w' ∧ ∃ v n, e = .returned (.tuple #[v, .int .i64 n]) ∧ UnfR s.data.toList v n := by
  have e : s.data.toList.length = s.size := by simp
  have := unframe_any g 0 cap s.data.toList w hgl hr hbl (by omega)
  rw [e] at this
  exact this
set_option maxRecDepth 100000 in
set_option maxHeartbeats 2000000 in
theorem step_unframe {aS aC aF aL aO aH : Addr} {B wb : Nat} {vp vh : Value} {es : List HE} (w : World) (hgl : Gl w aS aC aF aL aO aH) (hw : WI w B wb vp vh es) (hes : es.length + 4 ≤ 17000000000000) (n code id ev : Int) (d s : ByteArray) (x0 x1 x2 x3 x4 x5 x6 : Value) (hs : s.size ≤ 140737488351232) :
    Calls Tryz.prog 34 #[.pointer (some ⟨wb, 0, none⟩), .agg #[.int .i64 2, .int .i64 n, .int .i64 code, .int .i64 id, .string d, .string s, x0, x1, x2, x3, x4, x5, x6, .int .i64 ev]] w fun r w' => r = .returned (.bool true) ∧ ∃ vh' es', es'.length = es.length + 4 ∧ WI w' B wb vp vh' es' ∧ Below B w w' := by
  have HW : Hid (WI w B wb vp vh es) := hw
  have HG : Hid (Gl w aS aC aF aL aO aH) := hgl
  clear hw hgl
  have hB : B ≤ w.heap.size := Nat.le_trans HW.out.ge (Nat.le_of_lt HW.out.lt)
  go_enter Tryz.func34, Tryz.ntmps34
  go_wp2_with fail
  refine (lent_any s _ hs).mono ?_
  rintro r w2 ⟨rfl, hown2, hb2⟩
  have hba : Below w.heap.size w (w.alloc (.cells #[.int .i64 2, .int .i64 n, .int .i64 code, .int .i64 id, .string d, .string s, x0, x1, x2, x3, x4, x5, x6, .int .i64 ev] 33)) := (Below.refl _ _).alloc (Nat.le_refl _) _
  have g5 : w2.cell? ⟨w.heap.size, 5, none⟩ = some (.string s) := (hb2.cell (p := ⟨w.heap.size, 5, none⟩) (by simp)).trans (by simp)
  have hb02 : Below w.heap.size w w2 := hba.trans (hb2.mono (by simp))
  have hsz1 : (w.alloc (.cells #[.int .i64 2, .int .i64 n, .int .i64 code, .int .i64 id, .string d, .string s, x0, x1, x2, x3, x4, x5, x6, .int .i64 ev] 33)).heap.size = w.heap.size + 1 := by simp
  rw [hsz1] at hown2 hb2 ⊢
  have hrd2 := owns_rd hown2 (by rw [lentL_len _ _ (by omega)]; omega)
  obtain ⟨h8, g', cap', hgg, _, hlt2, _, _, hrd⟩ := hrd2
  clear h8
  have hg' : g' = w.heap.size + 1 := by
    simp only [Value.slice.injEq, Option.some.injEq, Addr.mk.injEq, and_true] at hgg
    exact hgg.1.symm
  subst hg'
  clear hgg
  have hrs : Rd w2 (w.heap.size + 1) 0 s.data.toList := by
    intro k hk
    have := hrd k (by rw [lentL_len _ _ (by omega)]; omega)
    rw [this]
    simp only [lentL]
    rw [List.getElem_append_left hk]
  have OWN : Hid (_) := hown2
  have HB : Hid (Below w.heap.size w w2) := hb02
  have HRS : Hid (Rd w2 (w.heap.size + 1) 0 s.data.toList) := hrs
  have HRD : Hid (Rd w2 (w.heap.size + 1) 0 (lentL s.data.toList 8)) := hrd
  clear hown2 hb02 hrs hrd hba hb2
  have hI : ((s.size : Int)) ≤ (s.size : Int) + 8 := by omega
  go_wp2_with fail
  refine (unframe_str (w.heap.size + 1) (s.size + 8) s w2 (HG.out.below HB.out) HRS.out hlt2 hs).mono ?_
  rintro r w3 ⟨hb3, v, n1, rfl, hU⟩
  obtain ⟨c1, d1, t1, hv⟩ := unfR_agg hU
  have hb03 : Below w.heap.size w w3 := HB.out.trans (hb3.mono HB.out.size)
  have k5 : w3.cell? ⟨w.heap.size, 5, none⟩ = some (.string s) := (hb3.cell (p := ⟨w.heap.size, 5, none⟩) (by show w.heap.size < w2.heap.size; omega)).trans g5
  subst hv
  have HU : Hid (UnfR s.data.toList (.agg #[.int .i64 c1, .int .i64 d1, .string t1]) n1) := hU
  have HB3 : Hid (Below w.heap.size w w3) := hb03
  have HB3' : Hid (Below w2.heap.size w2 w3) := hb3
  have sz3 := hb3.size
  clear hU hb3 hb03 g5
  go_upto_region 10 with fail
  have hba : Below w3.heap.size w3 (w3.alloc (.cells #[.int .i64 c1, .int .i64 d1, .string t1] 27)) := (Below.refl _ _).alloc (Nat.le_refl _) _
  have p0 : (w3.alloc (.cells #[.int .i64 c1, .int .i64 d1, .string t1] 27)).cell? ⟨w3.heap.size, 0, none⟩ = some (.int .i64 c1) := by simp
  have p1 : (w3.alloc (.cells #[.int .i64 c1, .int .i64 d1, .string t1] 27)).cell? ⟨w3.heap.size, 1, none⟩ = some (.int .i64 d1) := by simp
  have p2 : (w3.alloc (.cells #[.int .i64 c1, .int .i64 d1, .string t1] 27)).cell? ⟨w3.heap.size, 2, none⟩ = some (.string t1) := by simp
  have z4 : (w3.alloc (.cells #[.int .i64 c1, .int .i64 d1, .string t1] 27)).heap.size = w3.heap.size + 1 := by simp
  have l5 : (w3.alloc (.cells #[.int .i64 c1, .int .i64 d1, .string t1] 27)).cell? ⟨w.heap.size, 5, none⟩ = some (.string s) := (hba.cell (p := ⟨w.heap.size, 5, none⟩) (by show w.heap.size < w3.heap.size; omega)).trans k5
  clear k5
  generalize w3.alloc (.cells #[.int .i64 c1, .int .i64 d1, .string t1] 27) = w4 at *
  have HBA : Hid (Below w3.heap.size w3 w4) := hba
  clear hba
  go_wp2_with fail
  refine (runframe_det s HU.out w4 hs).mono ?_
  rintro r w5 ⟨hb5, rfl⟩
  have sz5 := hb5.size
  have m5 : w5.cell? ⟨w.heap.size, 5, none⟩ = some (.string s) := (hb5.cell (p := ⟨w.heap.size, 5, none⟩) (by show w.heap.size < w4.heap.size; omega)).trans l5
  have r0 := (hb5.cell (p := ⟨w3.heap.size, 0, none⟩) (by show w3.heap.size < w4.heap.size; omega)).trans p0
  have r1 := (hb5.cell (p := ⟨w3.heap.size, 1, none⟩) (by show w3.heap.size < w4.heap.size; omega)).trans p1
  have r2 := (hb5.cell (p := ⟨w3.heap.size, 2, none⟩) (by show w3.heap.size < w4.heap.size; omega)).trans p2
  have HB5 : Hid (Below w4.heap.size w4 w5) := hb5
  clear l5 p0 p1 p2 hb5
  go_upto_region 11 with fail
  have hba : Below w5.heap.size w5 (w5.alloc (.cells #[.int .i64 c1, .int .i64 d1, .string t1] 27)) := (Below.refl _ _).alloc (Nat.le_refl _) _
  have q0 : (w5.alloc (.cells #[.int .i64 c1, .int .i64 d1, .string t1] 27)).cell? ⟨w5.heap.size, 0, none⟩ = some (.int .i64 c1) := by simp
  have q1 : (w5.alloc (.cells #[.int .i64 c1, .int .i64 d1, .string t1] 27)).cell? ⟨w5.heap.size, 1, none⟩ = some (.int .i64 d1) := by simp
  have q2 : (w5.alloc (.cells #[.int .i64 c1, .int .i64 d1, .string t1] 27)).cell? ⟨w5.heap.size, 2, none⟩ = some (.string t1) := by simp
  have z6 : (w5.alloc (.cells #[.int .i64 c1, .int .i64 d1, .string t1] 27)).heap.size = w5.heap.size + 1 := by simp
  have l5 := (hba.cell (p := ⟨w.heap.size, 5, none⟩) (by show w.heap.size < w5.heap.size; omega)).trans m5
  have p0 := (hba.cell (p := ⟨w3.heap.size, 0, none⟩) (by show w3.heap.size < w5.heap.size; omega)).trans r0
  have p1 := (hba.cell (p := ⟨w3.heap.size, 1, none⟩) (by show w3.heap.size < w5.heap.size; omega)).trans r1
  have p2 := (hba.cell (p := ⟨w3.heap.size, 2, none⟩) (by show w3.heap.size < w5.heap.size; omega)).trans r2
  clear m5 r0 r1 r2
  generalize w5.alloc (.cells #[.int .i64 c1, .int .i64 d1, .string t1] 27) = w6 at *
  have HBA6 : Hid (Below w5.heap.size w5 w6) := hba
  have hb26 : Below w2.heap.size w2 w6 := ((HB3'.out.trans (HBA.out.mono sz3)).trans (HB5.out.mono (by omega))).trans (hba.mono (by omega))
  have HB26 : Hid (Below w2.heap.size w2 w6) := hb26
  clear hba
  go_wp2_with fail
  refine (still_any s (w.heap.size + 1) (s.size + 8) w6 hs (rd_below HRD.out HB26.out hlt2)).mono ?_
  rintro r w7 ⟨rfl, hb7⟩
  have sz7 := hb7.size
  have hb27 : Below w2.heap.size w2 w7 := HB26.out.trans (hb7.mono HB26.out.size)
  have hb07 : Below w.heap.size w w7 := HB.out.trans (hb27.mono HB.out.size)
  have r0 := (hb7.cell (p := ⟨w3.heap.size, 0, none⟩) (by show w3.heap.size < w6.heap.size; omega)).trans p0
  have r1 := (hb7.cell (p := ⟨w3.heap.size, 1, none⟩) (by show w3.heap.size < w6.heap.size; omega)).trans p1
  have r2 := (hb7.cell (p := ⟨w3.heap.size, 2, none⟩) (by show w3.heap.size < w6.heap.size; omega)).trans p2
  have u0 := (hb7.cell (p := ⟨w5.heap.size, 0, none⟩) (by show w5.heap.size < w6.heap.size; omega)).trans q0
  have u1 := (hb7.cell (p := ⟨w5.heap.size, 1, none⟩) (by show w5.heap.size < w6.heap.size; omega)).trans q1
  have u2 := (hb7.cell (p := ⟨w5.heap.size, 2, none⟩) (by show w5.heap.size < w6.heap.size; omega)).trans q2
  have hk := keep_new w7 (HW.out.below hb07) (owns_mono (owns_below OWN.out hb27) (by omega)) (by omega) hes (fun b hb => by
    have e : w.heap.size + 1 = b := by simpa [Value.ownBlock] using hb
    exact ⟨by have := HW.out.lt; omega, fun x => by have := (HW.out.vlt b x).2; omega, fun e he x => by have := (HW.out.sep e he b x).2.1; omega⟩)
  have HK : Hid (_) := hk
  have HB07 : Hid (Below w.heap.size w w7) := hb07
  clear p0 p1 p2 q0 q1 q2 l5 hk hb07 hb27 hb7 hb26
  go_wp2_with fail
  refine Calls.mono HK.out ?_
  rintro r w8 ⟨rfl, vh', es', h1, h2, h3⟩
  have hn3 : ∀ b, w.heap.size + 1 < b → b < w7.heap.size → w8.heap[b]? = w7.heap[b]? := by
    intro b h4 h5
    refine h3.block b h5 ?_
    rintro (h | h | h)
    · have := HW.out.lt; omega
    · have := (HW.out.vlt b h).2; omega
    · have e : w.heap.size + 1 = b := by simpa [Value.ownBlock] using h
      omega
  have b3 := hn3 w3.heap.size (by omega) (by omega)
  have b5 := hn3 w5.heap.size (by omega) (by omega)
  have p0 := (World.cell?_of_block (w := w7) (a := ⟨w3.heap.size, 0, none⟩) b3).trans r0
  have p1 := (World.cell?_of_block (w := w7) (a := ⟨w3.heap.size, 1, none⟩) b3).trans r1
  have p2 := (World.cell?_of_block (w := w7) (a := ⟨w3.heap.size, 2, none⟩) b3).trans r2
  have q0 := (World.cell?_of_block (w := w7) (a := ⟨w5.heap.size, 0, none⟩) b5).trans u0
  have q1 := (World.cell?_of_block (w := w7) (a := ⟨w5.heap.size, 1, none⟩) b5).trans u1
  have q2 := (World.cell?_of_block (w := w7) (a := ⟨w5.heap.size, 2, none⟩) b5).trans u2
  have HE : Hid (∃ vh' es', es'.length = es.length + 4 ∧ WI w8 B wb vp vh' es' ∧ Below B w w8) := by
    refine ⟨vh', es', h1, h2, (HB07.out.mono hB).trans (h3.below (Nat.le_trans hB HB07.out.size) ?_)⟩
    rintro b (h | h | h)
    · rw [h]; exact HW.out.ge
    · exact (HW.out.vlt b h).1
    · have e : w.heap.size + 1 = b := by simpa [Value.ownBlock] using h
      omega
  clear h1 h2 h3 HK b3 b5 hn3 r0 r1 r2 u0 u1 u2
  go_wp2_with fail
  go_ret
  exact ⟨rfl, HE.out⟩
end Go.Proofs.YtoeihlgidakjbaaGreatDoor

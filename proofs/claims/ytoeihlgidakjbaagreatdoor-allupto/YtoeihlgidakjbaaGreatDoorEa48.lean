/- The laws' steps of the kinds 1 and 2 over a world with ends. The laws' UpTo, of the kinds from 1 or from 3 to 6, over any program's ends that hear bytes; the example. The laws Ends and All, walked. -/
import Derived.Test.YtoeihlgidakjbaaGreatDoorEa47
import Derived.Test.YtoeihlgidakjbaaGreatDoorEa23
namespace Go.Proofs.YtoeihlgidakjbaaGreatDoor
open Go.RowKit Go.Lib
section
variable {P : Pg}
set_option maxRecDepth 100000 in
set_option maxHeartbeats 1000000 in
theorem step_frameE {B wb : Nat} {vp vh : Value} {nl : Nat} {es : List HE} {ps : List (PL P)} (w : World) (hw : WE w B wb vp vh es ps nl) (hes : es.length + 4 ≤ 17000000000000) (n code id ev : Int) (d s : ByteArray) (x0 x1 x2 x3 x4 x5 x6 : Value) (hd : d.size ≤ maxLen) :
    Calls Tryz.prog 34 #[.pointer (some ⟨wb, 0, none⟩), .agg #[.int .i64 1, .int .i64 n, .int .i64 code, .int .i64 id, .string d, .string s, x0, x1, x2, x3, x4, x5, x6, .int .i64 ev]] w fun r w' => r = .returned (.bool true) ∧ ∃ vh' es', es'.length = es.length + 4 ∧ WE w' B wb vp vh' es' ps nl ∧ Below B w w' := by
  obtain ⟨l, e, hl, h1, h2⟩ := framed code id d hd
  have H1 : Hid (∀ w, Calls Tryz.prog 51 #[.agg #[.int .i64 code, .int .i64 id, .string d]] w fun r w' => ∃ v, r = .returned (.tuple #[v, .int .i64 e]) ∧ w'.ownsRow w.heap.size 5 1 v l.length (l.map bv) ∧ Below w.heap.size w w') := h1
  have H2 : Hid (∀ w, Calls Tryz.prog 52 #[.agg #[.int .i64 code, .int .i64 id, .string d]] w fun r w' => r = .returned (.tuple #[.string ⟨l.toArray⟩, .int .i64 e]) ∧ Below w.heap.size w w') := h2
  have HW : Hid (WE w B wb vp vh es ps nl) := hw
  clear h1 h2 hw
  go_enter Tryz.func34, Tryz.ntmps34
  go_wp2_with fail
  refine (H1.out _).mono ?_
  rintro r w2 ⟨v, rfl, hown2, hb2⟩
  have hba : Below w.heap.size w (w.alloc (.cells #[.int .i64 1, .int .i64 n, .int .i64 code, .int .i64 id, .string d, .string s, x0, x1, x2, x3, x4, x5, x6, .int .i64 ev] 33)) := (Below.refl _ _).alloc (Nat.le_refl _) _
  have g2 : w2.cell? ⟨w.heap.size, 2, none⟩ = some (.int .i64 code) := (hb2.cell (p := ⟨w.heap.size, 2, none⟩) (by simp)).trans (by simp)
  have g3 : w2.cell? ⟨w.heap.size, 3, none⟩ = some (.int .i64 id) := (hb2.cell (p := ⟨w.heap.size, 3, none⟩) (by simp)).trans (by simp)
  have g4 : w2.cell? ⟨w.heap.size, 4, none⟩ = some (.string d) := (hb2.cell (p := ⟨w.heap.size, 4, none⟩) (by simp)).trans (by simp)
  have hb02 : Below w.heap.size w w2 := hba.trans (hb2.mono (by simp))
  have hv : ∀ b, v.ownBlock = some b → w.heap.size ≤ b := fun b hb => Nat.le_trans (by simp) (hown2.lt b hb).1
  have hown2' : w2.ownsRow w.heap.size 5 1 v l.length (l.map bv) := owns_mono hown2 (by simp)
  obtain ⟨a, cap, g, hvs, _, _, _⟩ := own_shape hown2
  subst hvs
  have OWN : Hid (_) := hown2'
  have HV : Hid (_) := hv
  have HB : Hid (Below w.heap.size w w2) := hb02
  clear hown2 hown2' hv hb02 hba hb2
  go_wp2_with fail
  refine (H2.out _).mono ?_
  rintro r w3 ⟨rfl, hb3⟩
  have hb03 : Below w.heap.size w w3 := HB.out.trans (hb3.mono HB.out.size)
  have hown3 := owns_below OWN.out hb3
  have hB : B ≤ w.heap.size := Nat.le_trans HW.out.wi.ge (Nat.le_of_lt HW.out.wi.lt)
  have hsame := sameE (l := l) w3 (HW.out.below hb03) (owns_mono hown3 hB) (by omega) hes (fun b hb x => by have := HV.out b hb; have := (HW.out.busy_lt b x).2; omega)
  have HS : Hid (_) := hsame
  have HB3 : Hid (Below w.heap.size w w3) := hb03
  clear g2 g3 g4 hsame hb3 hb03 hown3
  go_wp2_with fail
  refine Calls.mono HS.out ?_
  rintro r w4 ⟨rfl, vh', es', h1, h2, h3⟩
  have HE : Hid (∃ vh' es', es'.length = es.length + 4 ∧ WE w4 B wb vp vh' es' ps nl ∧ Below B w w4) := by
    refine ⟨vh', es', h1, h2, (HB3.out.mono hB).trans (h3.below (Nat.le_trans hB HB3.out.size) ?_)⟩
    rintro b (h | h | h)
    · rw [h]; exact HW.out.wi.ge
    · exact (HW.out.wi.vlt b h).1
    · have := HV.out b h; omega
  clear h1 h2 h3 HS
  go_wp2_with fail
  go_ret
  exact ⟨rfl, HE.out⟩
set_option maxRecDepth 100000 in
set_option maxHeartbeats 2000000 in
theorem step_unframeE {aS aC aF aL aO aH : Addr} {B wb : Nat} {vp vh : Value} {nl : Nat} {es : List HE} {ps : List (PL P)} (w : World) (hgl : Gl w aS aC aF aL aO aH) (hw : WE w B wb vp vh es ps nl) (hes : es.length + 4 ≤ 17000000000000) (n code id ev : Int) (d s : ByteArray) (x0 x1 x2 x3 x4 x5 x6 : Value) (hs : s.size ≤ 140737488351232) :
    Calls Tryz.prog 34 #[.pointer (some ⟨wb, 0, none⟩), .agg #[.int .i64 2, .int .i64 n, .int .i64 code, .int .i64 id, .string d, .string s, x0, x1, x2, x3, x4, x5, x6, .int .i64 ev]] w fun r w' => r = .returned (.bool true) ∧ ∃ vh' es', es'.length = es.length + 4 ∧ WE w' B wb vp vh' es' ps nl ∧ Below B w w' := by
  have HW : Hid (WE w B wb vp vh es ps nl) := hw
  have HG : Hid (Gl w aS aC aF aL aO aH) := hgl
  clear hw hgl
  have hB : B ≤ w.heap.size := Nat.le_trans HW.out.wi.ge (Nat.le_of_lt HW.out.wi.lt)
  go_enter Tryz.func34, Tryz.ntmps34
  go_wp2_with fail
  refine (lent_any s _ hs).mono ?_
  rintro r w2 ⟨rfl, hown2, hb2⟩
  have hba : Below w.heap.size w (w.alloc (.cells #[.int .i64 2, .int .i64 n, .int .i64 code, .int .i64 id, .string d, .string s, x0, x1, x2, x3, x4, x5, x6, .int .i64 ev] 33)) := (Below.refl _ _).alloc (Nat.le_refl _) _
  have g5 : w2.cell? ⟨w.heap.size, 5, none⟩ = some (.string s) := (hb2.cell (p := ⟨w.heap.size, 5, none⟩) (by simp)).trans (by simp)
  have hb02 : Below w.heap.size w w2 := hba.trans (hb2.mono (by simp))
  have hsz1 : (w.alloc (.cells #[.int .i64 2, .int .i64 n, .int .i64 code, .int .i64 id, .string d, .string s, x0, x1, x2, x3, x4, x5, x6, .int .i64 ev] 33)).heap.size = w.heap.size + 1 := by simp
  rw [hsz1] at hown2 hb2 ⊢
  have hrd2 := owns_rd hown2 (by rw [lentL_len _ _ (by omega)]; omega)
  obtain ⟨h8, g', cap', hgg, _, hlt2, _, _, hrd⟩ := hrd2
  clear h8
  have hg' : g' = w.heap.size + 1 := by
    simp only [Value.slice.injEq, Option.some.injEq, Addr.mk.injEq, and_true] at hgg
    exact hgg.1.symm
  subst hg'
  clear hgg
  have hrs : Rd w2 (w.heap.size + 1) 0 s.data.toList := by
    intro k hk
    have := hrd k (by rw [lentL_len _ _ (by omega)]; omega)
    rw [this]
    simp only [lentL]
    rw [List.getElem_append_left hk]
  have OWN : Hid (_) := hown2
  have HB : Hid (Below w.heap.size w w2) := hb02
  have HRS : Hid (Rd w2 (w.heap.size + 1) 0 s.data.toList) := hrs
  have HRD : Hid (Rd w2 (w.heap.size + 1) 0 (lentL s.data.toList 8)) := hrd
  clear hown2 hb02 hrs hrd hba hb2
  have hI : ((s.size : Int)) ≤ (s.size : Int) + 8 := by omega
  go_wp2_with fail
  refine (unframe_str (w.heap.size + 1) (s.size + 8) s w2 (HG.out.below HB.out) HRS.out hlt2 hs).mono ?_
  rintro r w3 ⟨hb3, v, n1, rfl, hU⟩
  obtain ⟨c1, d1, t1, hv⟩ := unfR_agg hU
  have hb03 : Below w.heap.size w w3 := HB.out.trans (hb3.mono HB.out.size)
  have k5 : w3.cell? ⟨w.heap.size, 5, none⟩ = some (.string s) := (hb3.cell (p := ⟨w.heap.size, 5, none⟩) (by show w.heap.size < w2.heap.size; omega)).trans g5
  subst hv
  have HU : Hid (UnfR s.data.toList (.agg #[.int .i64 c1, .int .i64 d1, .string t1]) n1) := hU
  have HB3 : Hid (Below w.heap.size w w3) := hb03
  have HB3' : Hid (Below w2.heap.size w2 w3) := hb3
  have sz3 := hb3.size
  clear hU hb3 hb03 g5
  go_upto_region 10 with fail
  have hba : Below w3.heap.size w3 (w3.alloc (.cells #[.int .i64 c1, .int .i64 d1, .string t1] 27)) := (Below.refl _ _).alloc (Nat.le_refl _) _
  have p0 : (w3.alloc (.cells #[.int .i64 c1, .int .i64 d1, .string t1] 27)).cell? ⟨w3.heap.size, 0, none⟩ = some (.int .i64 c1) := by simp
  have p1 : (w3.alloc (.cells #[.int .i64 c1, .int .i64 d1, .string t1] 27)).cell? ⟨w3.heap.size, 1, none⟩ = some (.int .i64 d1) := by simp
  have p2 : (w3.alloc (.cells #[.int .i64 c1, .int .i64 d1, .string t1] 27)).cell? ⟨w3.heap.size, 2, none⟩ = some (.string t1) := by simp
  have z4 : (w3.alloc (.cells #[.int .i64 c1, .int .i64 d1, .string t1] 27)).heap.size = w3.heap.size + 1 := by simp
  have l5 : (w3.alloc (.cells #[.int .i64 c1, .int .i64 d1, .string t1] 27)).cell? ⟨w.heap.size, 5, none⟩ = some (.string s) := (hba.cell (p := ⟨w.heap.size, 5, none⟩) (by show w.heap.size < w3.heap.size; omega)).trans k5
  clear k5
  generalize w3.alloc (.cells #[.int .i64 c1, .int .i64 d1, .string t1] 27) = w4 at *
  have HBA : Hid (Below w3.heap.size w3 w4) := hba
  clear hba
  go_wp2_with fail
  refine (runframe_det s HU.out w4 hs).mono ?_
  rintro r w5 ⟨hb5, rfl⟩
  have sz5 := hb5.size
  have m5 : w5.cell? ⟨w.heap.size, 5, none⟩ = some (.string s) := (hb5.cell (p := ⟨w.heap.size, 5, none⟩) (by show w.heap.size < w4.heap.size; omega)).trans l5
  have r0 := (hb5.cell (p := ⟨w3.heap.size, 0, none⟩) (by show w3.heap.size < w4.heap.size; omega)).trans p0
  have r1 := (hb5.cell (p := ⟨w3.heap.size, 1, none⟩) (by show w3.heap.size < w4.heap.size; omega)).trans p1
  have r2 := (hb5.cell (p := ⟨w3.heap.size, 2, none⟩) (by show w3.heap.size < w4.heap.size; omega)).trans p2
  have HB5 : Hid (Below w4.heap.size w4 w5) := hb5
  clear l5 p0 p1 p2 hb5
  go_upto_region 11 with fail
  have hba : Below w5.heap.size w5 (w5.alloc (.cells #[.int .i64 c1, .int .i64 d1, .string t1] 27)) := (Below.refl _ _).alloc (Nat.le_refl _) _
  have q0 : (w5.alloc (.cells #[.int .i64 c1, .int .i64 d1, .string t1] 27)).cell? ⟨w5.heap.size, 0, none⟩ = some (.int .i64 c1) := by simp
  have q1 : (w5.alloc (.cells #[.int .i64 c1, .int .i64 d1, .string t1] 27)).cell? ⟨w5.heap.size, 1, none⟩ = some (.int .i64 d1) := by simp
  have q2 : (w5.alloc (.cells #[.int .i64 c1, .int .i64 d1, .string t1] 27)).cell? ⟨w5.heap.size, 2, none⟩ = some (.string t1) := by simp
  have z6 : (w5.alloc (.cells #[.int .i64 c1, .int .i64 d1, .string t1] 27)).heap.size = w5.heap.size + 1 := by simp
  have l5 := (hba.cell (p := ⟨w.heap.size, 5, none⟩) (by show w.heap.size < w5.heap.size; omega)).trans m5
  have p0 := (hba.cell (p := ⟨w3.heap.size, 0, none⟩) (by show w3.heap.size < w5.heap.size; omega)).trans r0
  have p1 := (hba.cell (p := ⟨w3.heap.size, 1, none⟩) (by show w3.heap.size < w5.heap.size; omega)).trans r1
  have p2 := (hba.cell (p := ⟨w3.heap.size, 2, none⟩) (by show w3.heap.size < w5.heap.size; omega)).trans r2
  clear m5 r0 r1 r2
  generalize w5.alloc (.cells #[.int .i64 c1, .int .i64 d1, .string t1] 27) = w6 at *
  have HBA6 : Hid (Below w5.heap.size w5 w6) := hba
  have hb26 : Below w2.heap.size w2 w6 := ((HB3'.out.trans (HBA.out.mono sz3)).trans (HB5.out.mono (by omega))).trans (hba.mono (by omega))
  have HB26 : Hid (Below w2.heap.size w2 w6) := hb26
  clear hba
  go_wp2_with fail
  refine (still_any s (w.heap.size + 1) (s.size + 8) w6 hs (rd_below HRD.out HB26.out hlt2)).mono ?_
  rintro r w7 ⟨rfl, hb7⟩
  have sz7 := hb7.size
  have hb27 : Below w2.heap.size w2 w7 := HB26.out.trans (hb7.mono HB26.out.size)
  have hb07 : Below w.heap.size w w7 := HB.out.trans (hb27.mono HB.out.size)
  have r0 := (hb7.cell (p := ⟨w3.heap.size, 0, none⟩) (by show w3.heap.size < w6.heap.size; omega)).trans p0
  have r1 := (hb7.cell (p := ⟨w3.heap.size, 1, none⟩) (by show w3.heap.size < w6.heap.size; omega)).trans p1
  have r2 := (hb7.cell (p := ⟨w3.heap.size, 2, none⟩) (by show w3.heap.size < w6.heap.size; omega)).trans p2
  have u0 := (hb7.cell (p := ⟨w5.heap.size, 0, none⟩) (by show w5.heap.size < w6.heap.size; omega)).trans q0
  have u1 := (hb7.cell (p := ⟨w5.heap.size, 1, none⟩) (by show w5.heap.size < w6.heap.size; omega)).trans q1
  have u2 := (hb7.cell (p := ⟨w5.heap.size, 2, none⟩) (by show w5.heap.size < w6.heap.size; omega)).trans q2
  have hk := keepb_new w7 (HW.out.below hb07) (owns_mono (owns_below OWN.out hb27) (by omega)) (by omega) hes (fun b hb x => by
    have e : w.heap.size + 1 = b := by simpa [Value.ownBlock] using hb
    have := (HW.out.busy_lt b x).2; omega)
  have HK : Hid (_) := hk
  have HB07 : Hid (Below w.heap.size w w7) := hb07
  clear p0 p1 p2 q0 q1 q2 l5 hk hb07 hb27 hb7 hb26
  go_wp2_with fail
  refine Calls.mono HK.out ?_
  rintro r w8 ⟨rfl, vh', es', h1, h2, h3⟩
  have hn3 : ∀ b, w.heap.size + 1 < b → b < w7.heap.size → w8.heap[b]? = w7.heap[b]? := by
    intro b h4 h5
    refine h3.block b h5 ?_
    rintro (h | h | h)
    · have := HW.out.wi.lt; omega
    · have := (HW.out.wi.vlt b h).2; omega
    · have e : w.heap.size + 1 = b := by simpa [Value.ownBlock] using h
      omega
  have b3 := hn3 w3.heap.size (by omega) (by omega)
  have b5 := hn3 w5.heap.size (by omega) (by omega)
  have p0 := (World.cell?_of_block (w := w7) (a := ⟨w3.heap.size, 0, none⟩) b3).trans r0
  have p1 := (World.cell?_of_block (w := w7) (a := ⟨w3.heap.size, 1, none⟩) b3).trans r1
  have p2 := (World.cell?_of_block (w := w7) (a := ⟨w3.heap.size, 2, none⟩) b3).trans r2
  have q0 := (World.cell?_of_block (w := w7) (a := ⟨w5.heap.size, 0, none⟩) b5).trans u0
  have q1 := (World.cell?_of_block (w := w7) (a := ⟨w5.heap.size, 1, none⟩) b5).trans u1
  have q2 := (World.cell?_of_block (w := w7) (a := ⟨w5.heap.size, 2, none⟩) b5).trans u2
  have HE : Hid (∃ vh' es', es'.length = es.length + 4 ∧ WE w8 B wb vp vh' es' ps nl ∧ Below B w w8) := by
    refine ⟨vh', es', h1, h2, (HB07.out.mono hB).trans (h3.below (Nat.le_trans hB HB07.out.size) ?_)⟩
    rintro b (h | h | h)
    · rw [h]; exact HW.out.wi.ge
    · exact (HW.out.wi.vlt b h).1
    · have e : w.heap.size + 1 = b := by simpa [Value.ownBlock] using h
      omega
  clear h1 h2 h3 HK b3 b5 hn3 r0 r1 r2 u0 u1 u2
  go_wp2_with fail
  go_ret
  exact ⟨rfl, HE.out⟩
end
end Go.Proofs.YtoeihlgidakjbaaGreatDoor
namespace Go.Proofs.YtoeihlgidakjbaaGreatDoor
open Go.RowKit Go.Lib
def sumS (O : Nat → OpT) : Nat → Nat
  | 0 => 0
  | k + 1 => sumS O k + (O k).s.size
theorem sumS_le (O : Nat → OpT) {k n : Nat} (h : k ≤ n) : sumS O k ≤ sumS O n := by
  induction n with
  | zero => have : k = 0 := by omega
            subst this; exact Nat.le_refl _
  | succ n ih =>
    rcases Nat.lt_or_ge k (n + 1) with q | q
    · exact Nat.le_trans (ih (by omega)) (Nat.le_add_right _ _)
    · have : k = n + 1 := by omega
      subst this; exact Nat.le_refl _
section
variable {Q : Pgb}
theorem step_all {aS aC aF aL aO aH : Addr} {B wb : Nat} {vp vh : Value} {n g p : Nat} {es : List HE} {ps : List (PL Q.toPg)} (w0 w : World) (hgl : Gl w0 aS aC aF aL aO aH) (hgt : Gt w0) (hb0 : Below w0.heap.size w0 w) (hB0 : w0.heap.size ≤ B) (hw : WE w B wb vp vh es ps n) (hn : n ≤ 1000000000000) (hes : es.length + 24 ≤ 17000000000000) (o : OpT) (h : OpAt w B g p o) (hk : 1 ≤ o.kd ∧ o.kd ≤ 6) (hs : o.s.size ≤ 5000000000) (hd : o.d.size ≤ 5000000000) :
    Calls Tryz.prog 34 #[.pointer (some ⟨wb, 0, none⟩), .agg o.cells] w fun r w' => r = .returned (.bool true) ∧ StR Q.toPg w w' B wb es (n + 200 + 200 * o.s.size) := by
  obtain ⟨kd, nn, code, id, d, s, X, L, mg, ev⟩ := o
  obtain ⟨_, n1, n2, hx, hb, hl⟩ := h
  simp only at hk n1 n2 hx hb hl hs hd
  have G := hgl.below hb0
  have grow : ∀ {w' : World} {m : Nat}, m ≤ n + 200 + 200 * s.size → StR Q.toPg w w' B wb es m → StR Q.toPg w w' B wb es (n + 200 + 200 * s.size) := by
    rintro w' m hm ⟨vp', vh', es', ps', h1, h2, h3⟩
    exact ⟨vp', vh', es', ps', h1, h2.limit hm, h3⟩
  rcases (by omega : kd = 1 ∨ kd = 2 ∨ kd = 3 ∨ kd = 4 ∨ kd = 5 ∨ kd = 6) with rfl | rfl | rfl | rfl | rfl | rfl
  · refine Calls.mono (step_frameE w hw (by omega) nn code id ev d s (X 0) (X 1) (X 2) (X 3) (X 4) (X 5) (.int .i64 mg) (by unfold maxLen; omega)) ?_
    rintro r w' ⟨rfl, vh', es', h1, h2, h3⟩
    exact ⟨rfl, vp, vh', es', ps, by omega, h2.limit (by omega), h3⟩
  · refine Calls.mono (step_unframeE w G hw (by omega) nn code id ev d s (X 0) (X 1) (X 2) (X 3) (X 4) (X 5) (.int .i64 mg) (by omega)) ?_
    rintro r w' ⟨rfl, vh', es', h1, h2, h3⟩
    exact ⟨rfl, vp, vh', es', ps, by omega, h2.limit (by omega), h3⟩
  · refine Calls.mono (step_new w G hw hes nn code id d s X L mg ev hx hb hl) ?_
    rintro r w' ⟨rfl, vp', vh', es', ps', h1, h2, h3⟩
    exact ⟨rfl, vp', vh', es', ps', h1, h2.limit (by omega), h3⟩
  · exact Calls.mono (step_event w G hw (by omega) hes nn code id d s X mg ev n1 n2) (fun r w' x => ⟨x.1, grow (by omega) x.2⟩)
  · exact Calls.mono (step_bytes w0 w hgl hgt hb0 hB0 hw hn hes nn code id d s X mg ev n1 n2 hs) (fun r w' x => ⟨x.1, grow (by omega) x.2⟩)
  · exact Calls.mono (step_ask w G hw (by omega) hes nn code id d s X mg ev n1 n2) (fun r w' x => ⟨x.1, grow (by omega) x.2⟩)
set_option maxRecDepth 100000 in
set_option maxHeartbeats 2000000 in
theorem upto_b {aS aC aF aL aO aH : Addr} (Q : Pgb) (least : Int) (hleast : 1 ≤ least) (g off n cap : Nat) (O : Nat → OpT) (a : Option Addr) (w : World) (hgl : Gl w aS aC aF aL aO aH) (hgt : Gt w) (ha : 0 < n → a = some ⟨g, off, none⟩) (hg : 0 < n → g < w.heap.size) (hsc : ScrT w w.heap.size g off n O) (hn : n + sumS O n ≤ 1000000000) (hd : ∀ i, i < n → (O i).d.size ≤ 1000000000) :
    Calls Tryz.prog 14 #[.slice a n cap, .int .i64 least, .int .i64 6] w fun r w' => r = .returned (.int .i64 (-1)) ∧ Below w.heap.size w w' := by
  have HG : Hid (Gl w aS aC aF aL aO aH ∧ Gt w) := ⟨hgl, hgt⟩
  have HA : Hid (0 < n → a = some ⟨g, off, none⟩) := ha
  have HGL : Hid (0 < n → g < w.heap.size) := hg
  have HS : Hid (ScrT w w.heap.size g off n O) := hsc
  have HD : Hid (∀ i, i < n → (O i).d.size ≤ 1000000000) := hd
  have HN : Hid (n + sumS O n ≤ 1000000000) := hn
  have hn' : n ≤ 1000000000 := by omega
  clear hgl hgt ha hg hsc hd hn
  go_enter Tryz.func14, Tryz.ntmps14
  go_wp2_with fail
  go_loopw [8] (fun i wr => ∃ (k : Nat) (vp vh : Value) (es : List HE) (ps : List (PL Q.toPg)), k ≤ n ∧ i = .int .i64 k ∧ es.length ≤ 24 * k ∧ Hid (WE wr w.heap.size w.heap.size vp vh es ps (200 * k + 200 * sumS O k) ∧ Below w.heap.size w wr)) (fun i _ => n - (intOf i).toNat)
  case atStart =>
    refine ⟨0, .slice none 0 0, .slice none 0 0, [], [], by omega, rfl, by simp, ?_⟩
    refine ⟨⟨⟨by simp, by simp, by simp, by simp, World.ownsRow_nil _ _ _ _, (fun e he => by cases he), by simp, Nat.le_refl _, by simp [Value.ownBlock], (fun e he => by cases he)⟩, World.ownsRow_nil _ _ _ _, by simp, (fun b hb => by simp [Value.ownBlock] at hb), (fun x hx => by cases hx), (fun x hx => by cases hx), (fun x hx => by cases hx), (fun i j _ x y hx => by simp at hx)⟩, (Below.refl _ _).alloc (Nat.le_refl _) _⟩
  case round =>
    obtain ⟨k, vp, vh, es, ps, hk, rfl, hel, HW⟩ := hrel
    by_cases hlt : k < n
    · obtain rfl := HA.out (by omega)
      have hop := (HS.out k hlt).bel HW.out.2 (HGL.out (by omega))
      have hI : (k : Int) < (n : Int) := by omega
      have hsum : sumS O (k + 1) ≤ sumS O n := sumS_le O (by omega)
      have hs1 : sumS O (k + 1) = sumS O k + (O k).s.size := rfl
      have hdk := HD.out k hlt
      have HSM : Hid (sumS O (k + 1) = sumS O k + (O k).s.size ∧ sumS O (k + 1) ≤ 1000000000) := ⟨hs1, by have := HN.out; omega⟩
      have hsk : (O k).s.size ≤ 1000000000 := by have := HSM.out; omega
      clear hsum hs1
      generalize hO : O k = o at *
      clear hO
      have c0 : wr.cell? ⟨g, off + k * 14, none⟩ = some (.int .i64 o.kd) := hop.c 0 (by omega)
      by_cases hk1 : o.kd < least
      · clear hop
        go_wp2_with fail
        exact ⟨⟨k + 1, vp, vh, es, ps, by omega, by go_num, by omega, HW.out.1.limit (by have := HSM.out; omega), HW.out.2⟩, by simp [intOf]; omega⟩
      · by_cases hk2 : 6 < o.kd
        · clear hop
          go_wp2_with fail
          exact ⟨⟨k + 1, vp, vh, es, ps, by omega, by go_num, by omega, HW.out.1.limit (by have := HSM.out; omega), HW.out.2⟩, by simp [intOf]; omega⟩
        · have c1 : wr.cell? ⟨g, off + k * 14 + 1, none⟩ = some (.int .i64 o.n) := hop.c 1 (by omega)
          have c2 : wr.cell? ⟨g, off + k * 14 + 2, none⟩ = some (.int .i64 o.code) := hop.c 2 (by omega)
          have c3 : wr.cell? ⟨g, off + k * 14 + 3, none⟩ = some (.int .i64 o.id) := hop.c 3 (by omega)
          have c4 : wr.cell? ⟨g, off + k * 14 + 4, none⟩ = some (.string o.d) := hop.c 4 (by omega)
          have c5 : wr.cell? ⟨g, off + k * 14 + 5, none⟩ = some (.string o.s) := hop.c 5 (by omega)
          have c6 : wr.cell? ⟨g, off + k * 14 + 6, none⟩ = some (o.X 0) := hop.c 6 (by omega)
          have c7 : wr.cell? ⟨g, off + k * 14 + 7, none⟩ = some (o.X 1) := hop.c 7 (by omega)
          have c8 : wr.cell? ⟨g, off + k * 14 + 8, none⟩ = some (o.X 2) := hop.c 8 (by omega)
          have c9 : wr.cell? ⟨g, off + k * 14 + 9, none⟩ = some (o.X 3) := hop.c 9 (by omega)
          have c10 : wr.cell? ⟨g, off + k * 14 + 10, none⟩ = some (o.X 4) := hop.c 10 (by omega)
          have c11 : wr.cell? ⟨g, off + k * 14 + 11, none⟩ = some (o.X 5) := hop.c 11 (by omega)
          have c12 : wr.cell? ⟨g, off + k * 14 + 12, none⟩ = some (.int .i64 o.mg) := hop.c 12 (by omega)
          have c13 : wr.cell? ⟨g, off + k * 14 + 13, none⟩ = some (.int .i64 o.ev) := hop.c 13 (by omega)
          have HST : Hid (_) := step_all w wr HG.out.1 HG.out.2 HW.out.2 (Nat.le_refl _) HW.out.1 (by have := HSM.out; omega) (by omega) o hop ⟨by omega, by omega⟩ (by omega) (by omega)
          unfold OpT.cells opA at HST
          clear hop hdk hsk
          go_wp2_with fail
          refine Calls.mono HST.out ?_
          rintro r w2 ⟨rfl, vp2, vh2, es2, ps2, hl2, hwe2, hb2⟩
          have HWI : Hid (WE w2 w.heap.size w.heap.size vp2 vh2 es2 ps2 (200 * (k + 1) + 200 * sumS O (k + 1))) := hwe2.limit (by have := HSM.out; omega)
          have HBB : Hid (Below w.heap.size w w2) := HW.out.2.trans hb2
          clear hwe2 hb2 HW HST HSM c0 c1 c2 c3 c4 c5 c6 c7 c8 c9 c10 c11 c12 c13
          go_wp2_with fail
          refine Calls.mono (looks_any w2 HWI.out.wi (by omega)) ?_
          rintro r w3 ⟨rfl, nn, rfl⟩
          go_wp2_with fail
          exact ⟨⟨k + 1, vp2, vh2, es2, ps2, by omega, by go_num, by omega, HWI.out.below (below_drewN (Below.refl _ _) nn), below_drewN HBB.out nn⟩, by simp [intOf]; omega⟩
    · go_wp2_with fail
      go_ret
      exact ⟨rfl, HW.out.2⟩
theorem example_b {aS aC aF aL aO aH : Addr} (Q : Pgb) (least : Int) (hleast : 1 ≤ least) (w : World) (hgl : Gl w aS aC aF aL aO aH) (hgt : Gt w) :
    Calls Tryz.prog 13 #[.int .i64 least, .int .i64 6] w fun r w' => r = .returned (.bool true) ∧ Below w.heap.size w w' := by
  refine example_of least 6 w ?_
  intro wm x0 x1 x2 x3 x4 x5 LL hLL hb hn
  have hba : Below w.heap.size w (wm.alloc (.cells (exCells x0 x1 x2 x3 x4 x5 LL) 33)) := hb.alloc hb.size _
  refine upto_b Q least hleast wm.heap.size 0 7 7 (exT x0 x1 x2 x3 x4 x5 LL) _ _ (hgl.below hba) (hgt.below hba) (fun _ => rfl) (fun _ => by simp) (exScrT wm x0 x1 x2 x3 x4 x5 LL hn) ?_ ?_
  · show 7 + (0 + (⟨#[]⟩ : ByteArray).size + (⟨#[5, 1, 119, 1]⟩ : ByteArray).size + (⟨#[]⟩ : ByteArray).size + (⟨#[]⟩ : ByteArray).size + (⟨#[]⟩ : ByteArray).size + LL.size + (⟨#[]⟩ : ByteArray).size) ≤ 1000000000
    have e0 : (⟨#[]⟩ : ByteArray).size = 0 := rfl
    have e4 : (⟨#[5, 1, 119, 1]⟩ : ByteArray).size = 4 := rfl
    omega
  · intro i hi
    have e0 : (⟨#[]⟩ : ByteArray).size = 0 := rfl
    rcases (by omega : i = 0 ∨ i = 1 ∨ i = 2 ∨ i = 3 ∨ i = 4 ∨ i = 5 ∨ i = 6) with rfl | rfl | rfl | rfl | rfl | rfl | rfl <;> (show (⟨#[]⟩ : ByteArray).size ≤ _; omega)
end
end Go.Proofs.YtoeihlgidakjbaaGreatDoor
namespace Go.Proofs.YtoeihlgidakjbaaGreatDoor
open Go.RowKit Go.Lib
set_option maxRecDepth 100000 in
set_option maxHeartbeats 1000000 in
theorem ends_any {aS aC aF aL aO aH : Addr} (Q : Pgb) (g off n cap : Nat) (O : Nat → OpT) (a : Option Addr) (w : World) (hgl : Gl w aS aC aF aL aO aH) (hgt : Gt w) (ha : 0 < n → a = some ⟨g, off, none⟩) (hg : 0 < n → g < w.heap.size) (hsc : ScrT w w.heap.size g off n O) (hn : n + sumS O n ≤ 1000000000) (hd : ∀ i, i < n → (O i).d.size ≤ 1000000000) :
    Calls Tryz.prog 5 #[.slice a n cap] w fun r w' => r = .returned (.bool true) ∧ Below w.heap.size w w' := by
  have HG : Hid (Gl w aS aC aF aL aO aH ∧ Gt w) := ⟨hgl, hgt⟩
  have HA : Hid (0 < n → a = some ⟨g, off, none⟩) := ha
  have HGL : Hid (0 < n → g < w.heap.size) := hg
  have HS : Hid (ScrT w w.heap.size g off n O) := hsc
  have HN : Hid (n + sumS O n ≤ 1000000000 ∧ ∀ i, i < n → (O i).d.size ≤ 1000000000) := ⟨hn, hd⟩
  clear hgl hgt ha hg hsc hn hd
  go_enter Tryz.func5, Tryz.ntmps5
  go_wp2_with fail
  refine Calls.mono (example_b Q 3 (by omega) w HG.out.1 HG.out.2) ?_
  rintro r w1 ⟨rfl, hb1⟩
  have HB1 : Hid (Below w.heap.size w w1) := hb1
  clear hb1
  go_wp2_with fail
  refine Calls.mono (upto_b Q 3 (by omega) g off n cap O a w1 (HG.out.1.below HB1.out) (HG.out.2.below HB1.out) HA.out (fun h => Nat.lt_of_lt_of_le (HGL.out h) HB1.out.size) (fun i hi => ?_) HN.out.1 HN.out.2) ?_
  · have hop := (HS.out i hi).bel HB1.out (HGL.out (by omega))
    exact ⟨hop.c, hop.n1, hop.n2, hop.x, fun j hj h0 b hb => Nat.lt_of_lt_of_le (hop.b j hj h0 b hb) HB1.out.size, hop.l⟩
  rintro r w2 ⟨rfl, hb2⟩
  have HB2 : Hid (Below w.heap.size w w2) := HB1.out.trans (hb2.mono HB1.out.size)
  clear hb2
  go_wp2_with fail
  go_ret
  exact ⟨rfl, HB2.out⟩
set_option maxRecDepth 100000 in
set_option maxHeartbeats 1000000 in
theorem all_any {aS aC aF aL aO aH : Addr} (Q : Pgb) (g off n cap : Nat) (O : Nat → OpT) (a : Option Addr) (w : World) (hgl : Gl w aS aC aF aL aO aH) (hgt : Gt w) (ha : 0 < n → a = some ⟨g, off, none⟩) (hg : 0 < n → g < w.heap.size) (hsc : ScrT w w.heap.size g off n O) (hn : n + sumS O n ≤ 1000000000) (hd : ∀ i, i < n → (O i).d.size ≤ 1000000000) :
    Calls Tryz.prog 12 #[.slice a n cap] w fun r w' => r = .returned (.bool true) ∧ Below w.heap.size w w' := by
  have HG : Hid (Gl w aS aC aF aL aO aH ∧ Gt w) := ⟨hgl, hgt⟩
  have HA : Hid (0 < n → a = some ⟨g, off, none⟩) := ha
  have HGL : Hid (0 < n → g < w.heap.size) := hg
  have HS : Hid (ScrT w w.heap.size g off n O) := hsc
  have HN : Hid (n + sumS O n ≤ 1000000000 ∧ ∀ i, i < n → (O i).d.size ≤ 1000000000) := ⟨hn, hd⟩
  clear hgl hgt ha hg hsc hn hd
  go_enter Tryz.func12, Tryz.ntmps12
  go_wp2_with fail
  refine Calls.mono (example_b Q 1 (by omega) w HG.out.1 HG.out.2) ?_
  rintro r w1 ⟨rfl, hb1⟩
  have HB1 : Hid (Below w.heap.size w w1) := hb1
  clear hb1
  go_wp2_with fail
  refine Calls.mono (upto_b Q 1 (by omega) g off n cap O a w1 (HG.out.1.below HB1.out) (HG.out.2.below HB1.out) HA.out (fun h => Nat.lt_of_lt_of_le (HGL.out h) HB1.out.size) (fun i hi => ?_) HN.out.1 HN.out.2) ?_
  · have hop := (HS.out i hi).bel HB1.out (HGL.out (by omega))
    exact ⟨hop.c, hop.n1, hop.n2, hop.x, fun j hj h0 b hb => Nat.lt_of_lt_of_le (hop.b j hj h0 b hb) HB1.out.size, hop.l⟩
  rintro r w2 ⟨rfl, hb2⟩
  have HB2 : Hid (Below w.heap.size w w2) := HB1.out.trans (hb2.mono HB1.out.size)
  clear hb2
  go_wp2_with fail
  go_ret
  exact ⟨rfl, HB2.out⟩
end Go.Proofs.YtoeihlgidakjbaaGreatDoor

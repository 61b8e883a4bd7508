/- What is asked of a program's ends that hear bytes. The laws' step, of the kind 5 (Bytes). -/
import Derived.Test.YtoeihlgidakjbaaGreatDoorEa20
import Derived.Test.YtoeihlgidakjbaaGreatDoorEa46
import Derived.Test.YtoeihlgidakjbaaGreatDoorEa39
import Derived.Test.YtoeihlgidakjbaaGreatDoorEa21
namespace Go.Proofs.YtoeihlgidakjbaaGreatDoor
open Go.RowKit Go.Lib
structure Pgb extends Pg where
  gj : ∀ m, Gd m → J m.sc ∧ m.got.length ≤ 89
  jg : ∀ m, J m.sc → m.got.length ≤ 89 → Gd m
  bytes : ∀ (w0 w : World) (B : Nat) (l : Lay) (m : RE) (va : Value) (s : List UInt8) {aS aC aF aL aO aH : Addr}, Gr w0 aS aC aF aL aO aH → Gt w0 → Below w0.heap.size w0 w → w0.heap.size ≤ B → PE w B l m → Gd m → m.Lim 1000000000000 → s.length ≤ 5000000000 → BytesAt w (all l) va s →
    Calls Tryz.prog 29 #[.pointer (some ⟨pb l, 0, none⟩), va] w fun r w' => ∃ v l', r = .returned v ∧ w'.ownsRow w.heap.size 5 1 v (m.bytes s).2.length ((m.bytes s).2.map bv) ∧ PE w' B l' (m.bytes s).1 ∧ pb l' = pb l ∧
      Tch (all l) w w' ∧ (∀ b, all l' b → all l b ∨ w.heap.size ≤ b) ∧ ∀ b, v.ownBlock = some b → ¬ all l' b
theorem RE.Both.byt {m : RE} {n : Nat} (h : m.Both n) (hn : n ≤ 1000000000000) (l : List UInt8) (hl : l.length ≤ 5000000000) : m.Byt l := by
  intro k hk
  have hk' : (l.take k).length = k := by rw [List.length_take]; omega
  obtain ⟨h1, h2⟩ := RE.bytes_both h k (l.take k) hk'
  have hf := (h1.1.lim h1.2).fit (by omega)
  refine ⟨⟨h1.1.ok, ?_⟩, h1.1.gt, Nat.le_trans (h2 hn (by omega)) (by omega)⟩
  obtain ⟨_, c0, c1, _, q1, q2, q3, q4, q5, q6, q7, _, _⟩ := h1.1.lim h1.2
  constructor <;> omega
theorem RE.Both.byr {m : RE} {n : Nat} (h : m.Both n) (hn : n ≤ 1000000000000) (l : List UInt8) (hl : l.length ≤ 5000000000) : m.Byr l := by
  intro k hk
  have hk' : (l.take k).length = k := by rw [List.length_take]; omega
  obtain ⟨h1, h2⟩ := RE.bytes_both h k (l.take k) hk'
  refine ⟨⟨h1.1.ok, ?_⟩, by have := h1.1.mg; omega, h1.1.gt, Nat.le_trans (h2 hn (by omega)) (by omega)⟩
  obtain ⟨_, c0, c1, _, q1, q2, q3, q4, q5, q6, q7, _, _⟩ := h1.1.lim h1.2
  constructor <;> omega
theorem RE.bytes_lim {m : RE} {n : Nat} (h : m.Both n) (l : List UInt8) : (m.bytes l).1.Lim (n + 200 * l.length) := by
  have := (RE.bytes_both h l.length l rfl).1
  exact this.1.lim this.2
theorem RE.bytes_len {m : RE} {n : Nat} (h : m.Both n) (hn : n ≤ 1000000000000) (l : List UInt8) (hl : l.length ≤ 5000000000) : (m.bytes l).2.length ≤ 4000 * l.length :=
  (RE.bytes_both h l.length l rfl).2 hn (by omega)
section
variable {P : Pg}
theorem keepb_new2 {B wb : Nat} {vp vh v : Value} {k n : Nat} {xs : List Value} {es : List HE} {ps : List (PL P)} (w : World) (hw : WE w B wb vp vh es ps n) (ob : w.ownsRow B 5 1 v k xs) (hk : k + 3 ≤ 140737488352000) (hes : es.length + 4 ≤ 17000000000000) (sep : ∀ b, v.ownBlock = some b → ¬ Busy wb vp vh es ps b) :
    Calls Tryz.prog 57 #[.pointer (some ⟨wb, 0, none⟩), .pointer (some ⟨w.heap.size, 0, none⟩)] (w.alloc (.cells #[v, .slice none 0 0, .int .i64 0] 106)) fun r w' => r = .returned (.tuple #[]) ∧ ∃ vh' es', es'.length = es.length + 4 ∧ WE w' B wb vp vh' es' ps n ∧ Tch (fun b => b = wb ∨ vh.ownBlock = some b ∨ v.ownBlock = some b) w w' ∧ ∀ b, Busy wb vp vh' es' ps b → Busy wb vp vh es ps b ∨ v.ownBlock = some b ∨ w.heap.size ≤ b := by
  have hba : Below w.heap.size w (w.alloc (.cells #[v, .slice none 0 0, .int .i64 0] 106)) := (Below.refl _ _).alloc (Nat.le_refl _) _
  have hB : B ≤ w.heap.size := Nat.le_trans hw.wi.ge (Nat.le_of_lt hw.wi.lt)
  have hNB : ∀ b, HE.in_ ⟨w.heap.size, v, k, .slice none 0 0, 0, (es.length : Int) + 1⟩ b → ¬ Busy wb vp vh es ps b := by
    rintro b (h | h | h)
    · simp only at h
      subst h
      intro x
      have := (hw.busy_lt _ x).2
      omega
    · exact sep b h
    · simp [Value.ownBlock] at h
  refine (keep_any2 (hb := w.heap.size) (vb := v) (vn := .slice none 0 0) (nb := k) (nn := 0) (xs := xs) (ys := []) _ (hw.wi.below hba) (by simp) (by simp) (by simp) (by simp) (ob.alloc _) (World.ownsRow_nil _ _ _ _) (by simp) hB ?_ (by simp [Value.ownBlock]) ?_ hk (by omega) hes ?_).mono ?_
  · intro x; have := (ob.lt _ x).2; omega
  · by_cases h : v.ownBlock = none
    · exact .inl h
    · exact .inr (by simpa [Value.ownBlock] using h)
  · intro b hb
    have := hNB b hb
    exact ⟨fun e => this (.inl e), fun e => this (.inr (.inl e)), fun e he x => this (.inr (.inr (.inr (.inl ⟨e, he, x⟩))))⟩
  · rintro r w' ⟨rfl, vh', es', h1, h2, h3, h4, h5⟩
    have hsz : w.heap.size ≤ (w.alloc (.cells #[v, .slice none 0 0, .int .i64 0] 106)).heap.size := hba.size
    have kept := (hw.below hba).kept h2 h3 hNB h4 h5
    refine ⟨rfl, vh', es', h1, kept, Tch.restrict ((Tch.of_below hba).trans (h3.mono ?_)), ?_⟩
    · rintro b (h | h | h | h | h)
      · exact .inl (.inl h)
      · exact .inl (.inr (.inl h))
      · exact .inr (by simp only at h; omega)
      · exact .inl (.inr (.inr h))
      · simp [Value.ownBlock] at h
    · rintro b (h | h | h | ⟨e, he, h⟩ | h)
      · exact .inl (.inl h)
      · rcases h4 b h with x | x
        · exact .inl (.inr (.inl x))
        · exact .inr (.inr (by omega))
      · exact .inl (.inr (.inr (.inl h)))
      · rcases h5 e he b h with x | x | x
        · exact .inl (.inr (.inr (.inr (.inl x))))
        · rcases x with x | x | x
          · exact .inr (.inr (by simp only at x; omega))
          · exact .inr (.inl x)
          · simp [Value.ownBlock] at x
        · exact .inr (.inr (by omega))
      · exact .inl (.inr (.inr (.inr (.inr h))))
end
end Go.Proofs.YtoeihlgidakjbaaGreatDoor
namespace Go.Proofs.YtoeihlgidakjbaaGreatDoor
open Go.RowKit Go.Lib
theorem BytesAt.drew {w : World} {S : Nat → Prop} {va : Value} {l : List UInt8} (h : BytesAt w S va l) : BytesAt w.drew S va l := h
section
variable {Q : Pgb}
set_option maxRecDepth 100000 in
set_option maxHeartbeats 4000000 in
theorem step_bytes {aS aC aF aL aO aH : Addr} {B wb : Nat} {vp vh : Value} {n : Nat} {es : List HE} {ps : List (PL Q.toPg)} (w0 w : World) (hgl : Gl w0 aS aC aF aL aO aH) (hgt : Gt w0) (hb0 : Below w0.heap.size w0 w) (hB0 : w0.heap.size ≤ B) (hw : WE w B wb vp vh es ps n) (hn : n ≤ 1000000000000) (hes : es.length + 24 ≤ 17000000000000) (nn code id : Int) (d s : ByteArray) (X : Nat → Value) (mg ev : Int) (hnn1 : -9223372036854775808 ≤ nn) (hnn2 : nn < 9223372036854775808) (hs : s.size ≤ 5000000000) :
    Calls Tryz.prog 34 #[.pointer (some ⟨wb, 0, none⟩), .agg (opA 5 nn code id d s X mg ev)] w fun r w' => r = .returned (.bool true) ∧ StR Q.toPg w w' B wb es (n + 200 * s.size) := by
  have bA : Below w.heap.size w (w.alloc (.cells (opA 5 nn code id d s X mg ev) 33)) := (Below.refl _ _).alloc (Nat.le_refl _) _
  have hBw : B ≤ w.heap.size := Nat.le_trans hw.wi.ge (Nat.le_of_lt hw.wi.lt)
  have hobl := heap_alloc_new w (.cells (opA 5 nn code id d s X mg ev) 33)
  have hweA := hw.below bA
  have HOLD : Hid (∀ b, Busy wb vp vh es ps b → b < w.heap.size) := fun b hb => (hw.busy_lt b hb).2
  have HG : Hid (Gl w0 aS aC aF aL aO aH ∧ Gt w0 ∧ Below w0.heap.size w0 w ∧ w0.heap.size ≤ B) := ⟨hgl, hgt, hb0, hB0⟩
  have HA : Hid (WE (w.alloc (.cells (opA 5 nn code id d s X mg ev) 33)) B wb vp vh es ps n ∧ Below w.heap.size w (w.alloc (.cells (opA 5 nn code id d s X mg ev) 33))) := ⟨hweA, bA⟩
  obtain ⟨av, capv0, gv0, hvp, hav, _, hcv⟩ := own_shape hweA.op
  have c0 : (w.alloc (.cells (opA 5 nn code id d s X mg ev) 33)).cell? ⟨wb, 0, none⟩ = some (.slice av ps.length capv0) := by rw [← hvp]; exact hweA.wi.p
  by_cases hp0 : ps.length = 0
  · rw [hp0] at c0
    unfold opA at *
    clear hvp hav hcv hobl hgl hgt hb0 hB0 hw hweA
    go_enter Tryz.func34, Tryz.ntmps34
    go_wp2_with fail
    go_ret
    exact ⟨rfl, vp, vh, es, ps, by omega, HA.out.1.limit (by omega), HA.out.2.mono hBw⟩
  · obtain ⟨rfl⟩ := hav (by omega)
    have hpl := hweA.len
    obtain ⟨q, hq⟩ : ∃ q, q = pickN nn ps.length := ⟨_, rfl⟩
    have hql : q < ps.length := by rw [hq]; exact pickN_lt _ _ (by omega)
    obtain ⟨x, hx⟩ : ∃ x, ps[q]? = some x := ⟨_, List.getElem?_eq_getElem hql⟩
    have hxm : x ∈ ps := List.mem_of_getElem? hx
    have cq : (w.alloc (.cells (opA 5 nn code id d s X mg ev) 33)).cell? ⟨gv0, q, none⟩ = some (.pointer (some ⟨x.pl, 0, none⟩)) := by
      rw [hcv q hql, List.getElem?_map, hx]; rfl
    have hpi := hweA.pi x hxm
    have HXO : Hid (∀ b, x.in_ b → b < w.heap.size) := fun b hb => ((hw.pi x hxm).lt b hb).2
    have p0 : (w.alloc (.cells (opA 5 nn code id d s X mg ev) 33)).cell? ⟨x.pl, 0, none⟩ = some (.pointer (some ⟨Q.pb x.l, 0, none⟩)) := blk_cell hpi.blk
    have hnz : ((ps.length : Int) == 0) = false := by simp; intro h; exact hp0 (by simp [h])
    have hqI : (q : Int) < (ps.length : Int) := by omega
    have HX : Hid (ps[q]? = some x ∧ x ∈ ps) := ⟨hx, hxm⟩
    have HQ : Hid (q = pickN nn ps.length) := hq
    unfold opA at *
    clear hvp hcv hgl hgt hb0 hB0 hw hweA hpi hx hxm hq hobl
    go_enter Tryz.func34, Tryz.ntmps34
    go_upto_region 18 with fail
    have o1 : (w.alloc (.cells #[.int .i64 5, .int .i64 nn, .int .i64 code, .int .i64 id, .string d, .string s, X 0, X 1, X 2, X 3, X 4, X 5, .int .i64 mg, .int .i64 ev] 33)).cell? ⟨w.heap.size, 1, none⟩ = some (.int .i64 nn) := by simp
    have o0 : (w.alloc (.cells #[.int .i64 5, .int .i64 nn, .int .i64 code, .int .i64 id, .string d, .string s, X 0, X 1, X 2, X 3, X 4, X 5, .int .i64 mg, .int .i64 ev] 33)).cell? ⟨w.heap.size, 0, none⟩ = some (.int .i64 5) := by simp
    have o5 : (w.alloc (.cells #[.int .i64 5, .int .i64 nn, .int .i64 code, .int .i64 id, .string d, .string s, X 0, X 1, X 2, X 3, X 4, X 5, .int .i64 mg, .int .i64 ev] 33)).cell? ⟨w.heap.size, 5, none⟩ = some (.string s) := by simp
    clear bA
    generalize w.alloc (.cells #[.int .i64 5, .int .i64 nn, .int .i64 code, .int .i64 id, .string d, .string s, X 0, X 1, X 2, X 3, X 4, X 5, .int .i64 mg, .int .i64 ev] 33) = W at *
    go_quiet ((go_at_call 59; exact Calls.quiet_of_same (lpick_q nn ps.length q _ (by omega) (by omega) hnn1 hnn2 HQ.out)))
    have bD : Below W.heap.size W (W.drewN nq) := below_drewN (Below.refl _ _) nq
    have HA1 : Hid (WE (W.drewN nq) B wb vp vh es ps n ∧ Below w.heap.size w (W.drewN nq)) := ⟨HA.out.1.below bD, HA.out.2.trans (bD.mono HA.out.2.size)⟩
    have r0 : (W.drewN nq).cell? ⟨w.heap.size, 0, none⟩ = some (.int .i64 5) := o0
    have r5 : (W.drewN nq).cell? ⟨w.heap.size, 5, none⟩ = some (.string s) := o5
    clear bD HA o0 o1 o5 c0 cq p0
    generalize W.drewN nq = W1 at *
    have zo : w.heap.size < W1.heap.size := by
      rcases Nat.lt_or_ge w.heap.size W1.heap.size with h | h
      · exact h
      · simp [World.cell?, Array.getElem?_eq_none h] at r0
    have LE : Hid (_) := lent_any s W1 (by omega)
    go_wp2_with fail
    refine Calls.mono LE.out ?_
    rintro r w2 ⟨rfl, hown2, hb2⟩
    have hrd2 := owns_rd hown2 (by rw [lentL_len _ _ (by omega)]; omega)
    obtain ⟨h8, g', cap', hgg, _, hlt2, _, _, hrd⟩ := hrd2
    clear h8
    have hg' : g' = W1.heap.size := by
      simp only [Value.slice.injEq, Option.some.injEq, Addr.mk.injEq, and_true] at hgg
      exact hgg.1.symm
    subst hg'
    clear hgg
    have hrs : Rd w2 W1.heap.size 0 s.data.toList := by
      intro k hk
      have := hrd k (by rw [lentL_len _ _ (by omega)]; omega)
      rw [this]
      simp only [lentL]
      rw [List.getElem_append_left hk]
    have hsz2 := hb2.size
    have hweB := HA1.out.1.below hb2
    have hpi := hweB.pi x HX.out.2
    have hlim := hweB.lim x HX.out.2
    have p0 : w2.cell? ⟨x.pl, 0, none⟩ = some (.pointer (some ⟨Q.pb x.l, 0, none⟩)) := blk_cell hpi.blk
    have t5 : w2.cell? ⟨w.heap.size, 5, none⟩ = some (.string s) := (hb2.cell (p := ⟨w.heap.size, 5, none⟩) zo).trans r5
    have OWN : Hid (w2.ownsRow W1.heap.size 5 1 (.slice (some ⟨W1.heap.size, 0, none⟩) (s.size + 8) (s.size + 8)) (s.size + 8) ((lentL s.data.toList 8).map bv)) := hown2
    have HB2 : Hid (Below w.heap.size w w2) := HA1.out.2.trans (hb2.mono HA1.out.2.size)
    have HP : Hid (PI1 w2 B x ∧ x.m.Both n ∧ WE w2 B wb vp vh es ps n) := ⟨hpi, ⟨hlim.gro (Q.gj _ hpi.gd).2, (Q.gj _ hpi.gd).1⟩, hweB⟩
    have HBA : Hid (BytesAt w2 (Q.all x.l) (.slice (some ⟨W1.heap.size, 0, none⟩) s.size (s.size + 8)) s.data.toList) := by
      have hl : s.data.toList.length = s.size := by rw [Array.length_toList]; rfl
      refine ⟨_, s.size + 8, W1.heap.size, 0, by rw [hl], fun _ => ⟨rfl, hlt2, fun e => ?_⟩, fun _ => hrs⟩
      have := HXO.out _ (.inr (.inl e)); omega
    have zp : x.pl < w2.heap.size := blk_lt hpi.blk
    have np : ¬ Q.all x.l x.pl := hpi.d1
    have no : ¬ Q.all x.l w.heap.size := fun e => absurd (HXO.out _ (.inr (.inl e))) (Nat.lt_irrefl _)
    have nl : ¬ Q.all x.l W1.heap.size := fun e => by have := HXO.out _ (.inr (.inl e)); omega
    have zo2 : w.heap.size < w2.heap.size := by omega
    have HRD : Hid (Rd w2 W1.heap.size 0 (lentL s.data.toList 8)) := hrd
    have hI : ((s.size : Int)) ≤ (s.size : Int) + 8 := by omega
    clear hpi hlim hweB hown2 hb2 hrs hrd r0 r5 LE
    have hsl : s.data.toList.length = s.size := by rw [Array.length_toList]; rfl
    have HSL : Hid (s.data.toList.length = s.size) := hsl
    clear hsl
    go_upto_region 26 with fail
    go_cut [20] (fun bv0 wx => ∃ l', wx.ownsRow w2.heap.size 5 1 bv0 (x.m.bytes s.data.toList).2.length ((x.m.bytes s.data.toList).2.map bv) ∧ Q.PE wx B l' (x.m.bytes s.data.toList).1 ∧ Q.pb l' = Q.pb x.l ∧ Tch (Q.all x.l) w2 wx ∧ (∀ b, Q.all l' b → Q.all x.l b ∨ w2.heap.size ≤ b) ∧ ∀ b, bv0.ownBlock = some b → ¬ Q.all l' b)
    case first =>
      go_region_held3 (fun w' => w'.cell? ⟨x.pl, 0, none⟩ = some (.pointer (some ⟨Q.pb x.l, 0, none⟩)) ∧ w'.cell? ⟨w.heap.size, 5, none⟩ = some (.string s)) (first | exact ⟨p0, t5⟩ | assumption | exact ⟨(World.cell?_of_block (w := w2) (a := ⟨x.pl, 0, none⟩) (htq.block _ zp np)).trans p0, (World.cell?_of_block (w := w2) (a := ⟨w.heap.size, 5, none⟩) (htq.block _ zo2 no)).trans t5⟩) ((go_at_call 29; refine (Q.bytes w0 _ B x.l x.m _ s.data.toList HG.out.1.toGr HG.out.2.1 ((HG.out.2.2.1.trans (HB2.out.mono HG.out.2.2.1.size)).trans ((Below.refl _ w2).drew)) HG.out.2.2.2 (Pg.drew HP.out.1.pe) HP.out.1.gd ((HP.out.2.1.1.lim HP.out.2.1.2).mono (by omega)) (by have := HSL.out; omega) HBA.out.drew).mono ?_; rintro e wq ⟨vq, lq, rfl, hoq, hpq, hbq, htq0, hiq, hnq⟩; have htq : Tch (Q.all x.l) w2 wq := ⟨htq0.os, htq0.tape, htq0.output, htq0.size, htq0.block⟩))
      go_wp2_with fail
      go_meet
      exact ⟨lq, hoq, hpq, hbq, htq, hiq, hnq⟩
    case rest =>
      obtain ⟨lq, hoq, hpq, hbq, htq, hiq, hnq⟩ := hcut
      have ri2 : RI wc B x.rb x.v x.m := HP.out.1.ri.of_tch htq (fun b hb e => HP.out.1.d3 b e hb)
      have blk2 := (htq.block _ zp np).trans HP.out.1.blk
      have p1 : wc.cell? ⟨x.pl, 1, none⟩ = some (.pointer (some ⟨x.rb, 0, none⟩)) := blk_cell blk2
      have s5 : wc.cell? ⟨w.heap.size, 5, none⟩ = some (.string s) := (World.cell?_of_block (w := w2) (a := ⟨w.heap.size, 5, none⟩) (htq.block _ zo2 no)).trans t5
      have zp2 : x.pl < wc.heap.size := blk_lt blk2
      have zo3 : w.heap.size < wc.heap.size := Nat.lt_of_lt_of_le zo2 htq.size
      have zl3 : W1.heap.size < wc.heap.size := Nat.lt_of_lt_of_le hlt2 htq.size
      have np2 : ¬ x.v.in_ x.rb x.pl := fun e => HP.out.1.d2 (.inl e)
      have no2 : ¬ x.v.in_ x.rb w.heap.size := fun e => absurd (HXO.out _ (.inr (.inr (.inl e)))) (Nat.lt_irrefl _)
      have nl2 : ¬ x.v.in_ x.rb W1.heap.size := fun e => by have := HXO.out _ (.inr (.inr (.inl e))); omega
      have RI2 : Hid (RI wc B x.rb x.v x.m) := ri2
      obtain ⟨ab, capb, gb, hub, _, _, _⟩ := own_shape hoq
      subst hub
      have Q1 : Hid (wc.ownsRow w2.heap.size 5 1 (.slice ab (x.m.bytes s.data.toList).2.length capb) (x.m.bytes s.data.toList).2.length ((x.m.bytes s.data.toList).2.map bv) ∧ Q.PE wc B lq (x.m.bytes s.data.toList).1 ∧ Q.pb lq = Q.pb x.l ∧ Tch (Q.all x.l) w2 wc ∧ (∀ b, Q.all lq b → Q.all x.l b ∨ w2.heap.size ≤ b) ∧ ∀ b, (Value.slice ab (x.m.bytes s.data.toList).2.length capb).ownBlock = some b → ¬ Q.all lq b) := ⟨hoq, hpq, hbq, htq, hiq, hnq⟩
      have hs2 := htq.size
      have HF : Hid (x.m.Byr s.data.toList) := HP.out.2.1.byr hn _ (by have := HSL.out; omega)
      clear hoq hpq hbq htq hiq hnq ri2 blk2 p0 t5
      generalize wc = Wa at *
      go_upto_region 27 with fail
      go_cut [21] (fun sv wx => sv = .string ⟨(x.m.bytes s.data.toList).2.toArray⟩ ∧ ∃ v', RI wx B x.rb v' (x.m.bytes s.data.toList).1 ∧ RS Wa wx x.rb x.v v')
      case first =>
        go_region_held3 (fun w' => w'.cell? ⟨x.pl, 1, none⟩ = some (.pointer (some ⟨x.rb, 0, none⟩)) ∧ w'.cell? ⟨w.heap.size, 5, none⟩ = some (.string s)) (first | exact ⟨p1, s5⟩ | assumption | exact ⟨(World.cell?_of_block (w := Wa) (a := ⟨x.pl, 1, none⟩) (hsq.t.block _ zp2 np2)).trans p1, (World.cell?_of_block (w := Wa) (a := ⟨w.heap.size, 5, none⟩) (hsq.t.block _ zo3 no2)).trans s5⟩) ((go_at_call 61; refine (rbytes_any s _ RI2.out.drew HF.out (by omega)).mono ?_; rintro e wq ⟨rfl, vq, hrq, hsq0⟩; have hsq : RS Wa wq x.rb x.v vq := ⟨⟨hsq0.t.os, hsq0.t.tape, hsq0.t.output, hsq0.t.size, hsq0.t.block⟩, hsq0.c, hsq0.i⟩))
        go_wp2_with fail
        go_meet
        exact ⟨rfl, vq, hrq, hsq⟩
      case rest =>
        obtain ⟨rfl, vq, hrq, hsq⟩ := hcut
        have hT := Q1.out.2.2.2.1
        have xlt := HP.out.1.lt
        have hyP : PI1 wc B (⟨x.pl, lq, x.rb, vq, (x.m.bytes s.data.toList).1⟩ : PL Q.toPg) := by
          refine ⟨?_, HP.out.1.ge, Q.tch Q1.out.2.1 hsq.t ?_, hrq, ?_, ?_, ?_, ?_⟩
          · show wc.heap[x.pl]? = some (.cells #[.pointer (some ⟨Q.pb lq, 0, none⟩), .pointer (some ⟨x.rb, 0, none⟩)] 110 (0, 0))
            rw [Q1.out.2.2.1]
            exact (hsq.t.block _ zp2 np2).trans ((hT.block _ zp np).trans HP.out.1.blk)
          · intro b hb hv
            rcases Q1.out.2.2.2.2.1 b hb with e | e
            · exact HP.out.1.d3 b e (.inl hv)
            · have := (xlt b (.inr (.inr (.inl hv)))).2; omega
          · have := (RE.bytes_both HP.out.2.1 s.data.toList.length s.data.toList rfl).1
            exact Q.jg _ this.2 this.1.gt
          · intro e
            rcases Q1.out.2.2.2.2.1 _ e with r | r
            · exact np r
            · have : w2.heap.size ≤ x.pl := r; omega
          · intro e
            rcases hsq.all _ e with r | r
            · exact HP.out.1.d2 r
            · have : Wa.heap.size ≤ x.pl := r; omega
          · intro b hb hv
            have hbl := (Q.lt Q1.out.2.1 b hb).2
            rcases hsq.all b hv with r | r
            · rcases Q1.out.2.2.2.2.1 b hb with e | e
              · exact HP.out.1.d3 b e r
              · have := (xlt b (.inr (.inr r))).2; omega
            · omega
        have htw : Tch x.in_ w2 wc := (hT.mono (fun b e => .inr (.inl e))).trans (hsq.t.mono (fun b e => .inr (.inr (.inl e))))
        have hin : ∀ b, (⟨x.pl, lq, x.rb, vq, (x.m.bytes s.data.toList).1⟩ : PL Q.toPg).in_ b → x.in_ b ∨ w2.heap.size ≤ b := by
          rintro b (e | e | e)
          · exact .inl (.inl e)
          · exact (Q1.out.2.2.2.2.1 b e).imp (fun r => .inr (.inl r)) (fun r => r)
          · exact (hsq.all b e).imp (fun r => .inr (.inr r)) (fun r => by omega)
        have hbl := RE.bytes_lim HP.out.2.1 s.data.toList
        rw [HSL.out] at hbl
        have hwt := HP.out.2.2.turned (k := n + 200 * s.size) (by omega) q x ⟨x.pl, lq, x.rb, vq, (x.m.bytes s.data.toList).1⟩ HX.out.1 rfl hyP hbl htw hin
        have hvl := Q1.out.1.lt
        have hob : wc.ownsRow B 5 1 (.slice ab (x.m.bytes s.data.toList).2.length capb) (x.m.bytes s.data.toList).2.length ((x.m.bytes s.data.toList).2.map bv) := owns_mono (owns_tch Q1.out.1 hsq.t (fun b hb hv => by have := (hvl b hb).1; have := (xlt b (.inr (.inr (.inl hv)))).2; omega)) (by have := HB2.out.size; omega)
        have bus : ∀ b, Busy wb vp vh es (ps.set q ⟨x.pl, lq, x.rb, vq, (x.m.bytes s.data.toList).1⟩) b → b < w.heap.size ∨ w2.heap.size ≤ b ∧ (Q.all lq b ∨ Wa.heap.size ≤ b) := by
          have old : ∀ c, Busy wb vp vh es ps c → c < w.heap.size := HOLD.out
          intro b hbu
          rcases hbu with e | e | e | e | ⟨z, hz, e⟩
          · exact .inl (old b (.inl e))
          · exact .inl (old b (.inr (.inl e)))
          · exact .inl (old b (.inr (.inr (.inl e))))
          · exact .inl (old b (.inr (.inr (.inr (.inl e)))))
          · rcases List.mem_or_eq_of_mem_set hz with r | r
            · exact .inl (old b (.inr (.inr (.inr (.inr ⟨z, r, e⟩)))))
            · subst r
              rcases e with e | e | e
              · have e' : b = x.pl := e
                exact .inl (HXO.out b (.inl e'))
              · rcases Q1.out.2.2.2.2.1 b e with r | r
                · exact .inl (HXO.out b (.inr (.inl r)))
                · exact .inr ⟨r, .inl e⟩
              · rcases hsq.all b e with r | r
                · exact .inl (HXO.out b (.inr (.inr r)))
                · exact .inr ⟨by omega, .inr r⟩
        have hRD : Rd wc W1.heap.size 0 (lentL s.data.toList 8) := fun k hk => (World.cell?_of_block (w := w2) (a := ⟨W1.heap.size, 0 + k, none⟩) ((hsq.t.block _ zl3 nl2).trans (hT.block _ hlt2 nl))).trans (HRD.out k hk)
        have ST : Hid (_) := still_any s W1.heap.size (s.size + 8) wc (by omega) hRD
        have hol : wc.ownsRow W1.heap.size 5 1 (.slice (some ⟨W1.heap.size, 0, none⟩) (s.size + 8) (s.size + 8)) (s.size + 8) ((lentL s.data.toList 8).map bv) := owns_tch (owns_tch OWN.out hT (fun b hb e => by
          have e2 : W1.heap.size = b := by simpa [Value.ownBlock] using hb
          exact nl (e2 ▸ e))) hsq.t (fun b hb e => by
          have e2 : W1.heap.size = b := by simpa [Value.ownBlock] using hb
          exact nl2 (e2 ▸ e))
        have HB0 : Hid (Below B w wc) := (HB2.out.mono hBw).trans (htw.below (by have := HB2.out.size; omega) (fun b hb => (xlt b hb).1))
        have s5c : wc.cell? ⟨w.heap.size, 5, none⟩ = some (.string s) := (World.cell?_of_block (w := Wa) (a := ⟨w.heap.size, 5, none⟩) (hsq.t.block _ zo3 no2)).trans s5
        have HV : Hid (∀ b, (Value.slice ab (x.m.bytes s.data.toList).2.length capb).ownBlock = some b → (w2.heap.size ≤ b ∧ b < Wa.heap.size) ∧ ¬ Q.all lq b) := fun b hb => ⟨⟨(hvl b hb).1, (hvl b hb).2⟩, Q1.out.2.2.2.2.2 b hb⟩
        have HWT : Hid (WE wc B wb vp vh es (ps.set q ⟨x.pl, lq, x.rb, vq, (x.m.bytes s.data.toList).1⟩) (n + 200 * s.size)) := hwt
        have HBUS : Hid (_) := bus
        have HOB : Hid (_) := hob
        have HOL : Hid (_) := hol
        have hWW : Wa.heap.size ≤ wc.heap.size := hsq.t.size
        have hlen : (x.m.bytes s.data.toList).2.length ≤ 4000 * s.size := by
          have := RE.bytes_len HP.out.2.1 hn s.data.toList (by have := HSL.out; omega)
          rw [HSL.out] at this; exact this
        clear hT xlt hyP htw hin hwt hvl hob bus hrq hsq p1 s5 hRD hol hbl
        go_wp2_with fail
        refine Calls.mono ST.out ?_
        rintro r w7 ⟨rfl, hb7⟩
        have sz7 := hb7.size
        have hw7 := HWT.out.below hb7
        have hlentB : ∀ b, (Value.slice (some ⟨W1.heap.size, 0, none⟩) (s.size + 8) (s.size + 8)).ownBlock = some b → b = W1.heap.size := fun b hb => by simpa [Value.ownBlock] using hb.symm
        have zW := HA1.out.2.size
        have KP := keepb_new2 w7 hw7 (owns_mono (owns_below HOL.out hb7) (by omega)) (by omega) (by omega) (fun b hb hbu => by
          have e := hlentB b hb
          rcases HBUS.out b hbu with r | r
          · omega
          · have := r.1; omega)
        have HKP : Hid (_) := KP
        have HOB7 : Hid (w7.ownsRow B 5 1 (.slice ab (x.m.bytes s.data.toList).2.length capb) (x.m.bytes s.data.toList).2.length ((x.m.bytes s.data.toList).2.map bv)) := owns_below HOB.out hb7
        have HB7 : Hid (Below B w w7) := HB0.out.trans (hb7.mono (by have := HB0.out.size; omega))
        have HLB : Hid (_) := hlentB
        clear KP hb7 ST hw7 hlentB
        go_wp2_with fail
        refine Calls.mono HKP.out ?_
        rintro r w8 ⟨rfl, vh8, es8, hl8, hw8, ht8, hbu8⟩
        have ne8 : ∀ b, (Value.slice ab (x.m.bytes s.data.toList).2.length capb).ownBlock = some b → ¬ (b = wb ∨ vh.ownBlock = some b ∨ (Value.slice (some ⟨W1.heap.size, 0, none⟩) (s.size + 8) (s.size + 8)).ownBlock = some b) := by
          intro b hb e
          have h1 := (HV.out b hb).1
          rcases e with e | e | e
          · have := HOLD.out b (.inl e); omega
          · have := HOLD.out b (.inr (.inl e)); omega
          · have := HLB.out b e; omega
        have ob8 : w8.ownsRow B 5 1 (.slice ab (x.m.bytes s.data.toList).2.length capb) (x.m.bytes s.data.toList).2.length ((x.m.bytes s.data.toList).2.map bv) := owns_tch HOB7.out ht8 ne8
        have SM := sameE (l := (x.m.bytes s.data.toList).2) w8 hw8 ob8 (by omega) (by omega) (fun b hb hbu => by
          have h1 := (HV.out b hb).1
          have h2 := (HV.out b hb).2
          rcases hbu8 b hbu with r | r | r
          · rcases HBUS.out b r with r | r
            · omega
            · rcases r.2 with q | q
              · exact h2 q
              · omega
          · have := HLB.out b r; omega
          · omega)
        have HSM : Hid (_) := SM
        have HL8 : Hid (es8.length = es.length + 4) := hl8
        have hBl : ∀ b, b = wb ∨ vh.ownBlock = some b ∨ (Value.slice (some ⟨W1.heap.size, 0, none⟩) (s.size + 8) (s.size + 8)).ownBlock = some b → B ≤ b := by
          rintro b (e | e | e)
          · rw [e]; exact HWT.out.wi.ge
          · exact (HWT.out.wi.own.lt b e).1
          · have := HLB.out b e; omega
        have HB8 : Hid (Below B w w8) := HB7.out.trans (ht8.below (by have := HB7.out.size; omega) hBl)
        have HB9 : Hid (∀ b, b = wb ∨ vh8.ownBlock = some b ∨ (Value.slice ab (x.m.bytes s.data.toList).2.length capb).ownBlock = some b → B ≤ b) := by
          rintro b (e | e | e)
          · rw [e]; exact hw8.wi.ge
          · exact (hw8.wi.own.lt b e).1
          · exact (ob8.lt b e).1
        clear SM ne8 ob8 hw8 ht8 hbu8 hl8 HKP hBl
        go_wp2_with fail
        refine Calls.mono HSM.out ?_
        rintro r w9 ⟨rfl, vh9, es9, hl9, hw9, ht9⟩
        have H9 : Hid (StR Q.toPg w w9 B wb es (n + 200 * s.size)) := ⟨vp, vh9, es9, _, by have := HL8.out; omega, hw9, HB8.out.trans (ht9.below (by have := HB8.out.size; omega) HB9.out)⟩
        clear hw9 ht9 hl9 HSM
        go_wp2_with fail
        go_ret
        exact ⟨rfl, H9.out⟩
end
end Go.Proofs.YtoeihlgidakjbaaGreatDoor

/- The laws' step, of the kinds 3 (New), 4 (Event), 6 (State, Told, Agreed). -/
import Derived.Test.YtoeihlgidakjbaaGreatDoorEa19
namespace Go.Proofs.YtoeihlgidakjbaaGreatDoor
open Go.RowKit Go.Lib
set_option maxHeartbeats 400000 in
theorem lpick_any (c : Int) (n : Nat) (w : World) (h0 : 0 < n) (hn : n ≤ 1000000) (hc1 : -9223372036854775808 ≤ c) (hc2 : c < 9223372036854775808) :
    Calls Tryz.prog 59 #[.int .i64 c, .int .i64 n] w fun e w' => e = .returned (.int .i64 (pickN c n : Int)) ∧ w = w' := by
  have hz : ((n : Int) == 0) = false := by simp; omega
  by_cases hneg : c < 0
  · have hp : ((pickN c n : Nat) : Int) = (-(c + 1)) % (n : Int) := by
      unfold pickN; rw [if_pos hneg, Int.natCast_emod, Int.toNat_of_nonneg (by omega)]
    rw [hp]; clear hp
    go_enter Tryz.func59, Tryz.ntmps59
    go_wp2
    go_ret
    exact ⟨ret_int (neg_tm c n hneg), rfl⟩
  · have hp : ((pickN c n : Nat) : Int) = c % (n : Int) := by
      unfold pickN; rw [if_neg hneg, Int.natCast_emod, Int.toNat_of_nonneg (by omega)]
    rw [hp]; clear hp
    go_enter Tryz.func59, Tryz.ntmps59
    go_wp2
    go_ret
    exact ⟨rfl, rfl⟩
theorem lpick_q (c : Int) (n q : Nat) (w : World) (h0 : 0 < n) (hn : n ≤ 1000000) (hc1 : -9223372036854775808 ≤ c) (hc2 : c < 9223372036854775808) (hq : q = pickN c n) :
    Calls Tryz.prog 59 #[.int .i64 c, .int .i64 n] w fun e w' => e = .returned (.int .i64 (q : Int)) ∧ w' = w := by
  subst hq
  exact (lpick_any c n w h0 hn hc1 hc2).mono (by rintro e w' ⟨rfl, rfl⟩; exact ⟨rfl, rfl⟩)
theorem RI.drew {w : World} {B rb : Nat} {v : RV} {m : RE} (h : RI w B rb v m) : RI w.drew B rb v m := h.of_tch (S := fun _ => False) ((Tch.refl _ w).drew) (fun _ _ x => x)
theorem Gl.drew {w : World} {aS aC aF aL aO aH : Addr} (h : Gl w aS aC aF aL aO aH) : Gl w.drew aS aC aF aL aO aH := h.below ((Below.refl _ w).drew)
section
variable {P : Pg}
theorem Pg.drew {w : World} {B : Nat} {l : P.Lay} {m : RE} (h : P.PE w B l m) : P.PE w.drew B l m := P.tch (S := fun _ => False) h ((Tch.refl _ w).drew) (fun _ _ x => x)
def StR (P : Pg) (w w' : World) (B wb : Nat) (es : List HE) (n : Nat) : Prop := ∃ (vp' vh' : Value) (es' : List HE) (ps' : List (PL P)), es'.length ≤ es.length + 24 ∧ WE w' B wb vp' vh' es' ps' n ∧ Below B w w'
set_option maxRecDepth 100000 in
set_option maxHeartbeats 2000000 in
theorem step_new {aS aC aF aL aO aH : Addr} {B wb : Nat} {vp vh : Value} {n : Nat} {es : List HE} {ps : List (PL P)} (w : World) (hgl : Gl w aS aC aF aL aO aH) (hw : WE w B wb vp vh es ps n) (hes : es.length + 24 ≤ 17000000000000) (nn code id : Int) (d s : ByteArray) (X : Nat → Value) (L : Nat → List Int) (mg ev : Int)
    (hX : ∀ i, i < 6 → IntsAt w (X i) (L i)) (hXB : ∀ i, i < 6 → 0 < (L i).length → ∀ b, (X i).ownBlock = some b → b < B) (hL : ∀ i, i < 6 → (L i).length ≤ 17592186043904) :
    Calls Tryz.prog 34 #[.pointer (some ⟨wb, 0, none⟩), .agg (opA 3 nn code id d s X mg ev)] w fun r w' => r = .returned (.bool true) ∧ StR P w w' B wb es n := by
  have bA : Below w.heap.size w (w.alloc (.cells (opA 3 nn code id d s X mg ev) 33)) := (Below.refl _ _).alloc (Nat.le_refl _) _
  have hBw : B ≤ w.heap.size := Nat.le_trans hw.wi.ge (Nat.le_of_lt hw.wi.lt)
  have HC : Hid (_) := created_any _ (hgl.below bA) (hw.below bA) hes 3 nn code id d s X L mg ev (fun i hi => (hX i hi).below bA) hXB hL
  have HBA : Hid (_) := bA
  clear hgl hw hX hXB hL bA
  unfold opA at *
  go_enter Tryz.func34, Tryz.ntmps34
  go_wp2_with fail
  refine Calls.mono HC.out ?_
  rintro r w' ⟨rfl, vp', vh', es', ps', h1, h2, h3⟩
  have H2 : Hid (_) := h2
  have H3 : Hid (_) := (HBA.out.mono hBw).trans h3
  clear h2 h3 HC HBA
  go_wp2_with fail
  go_ret
  exact ⟨rfl, vp', vh', es', ps', by omega, H2.out, H3.out⟩
set_option maxRecDepth 100000 in
set_option maxHeartbeats 2000000 in
theorem step_event {aS aC aF aL aO aH : Addr} {B wb : Nat} {vp vh : Value} {n : Nat} {es : List HE} {ps : List (PL P)} (w : World) (hgl : Gl w aS aC aF aL aO aH) (hw : WE w B wb vp vh es ps n) (hn : n ≤ 1399999999998) (hes : es.length + 24 ≤ 17000000000000) (nn code id : Int) (d s : ByteArray) (X : Nat → Value) (mg ev : Int) (hnn1 : -9223372036854775808 ≤ nn) (hnn2 : nn < 9223372036854775808) :
    Calls Tryz.prog 34 #[.pointer (some ⟨wb, 0, none⟩), .agg (opA 4 nn code id d s X mg ev)] w fun r w' => r = .returned (.bool true) ∧ StR P w w' B wb es (n + 2) := by
  have bA : Below w.heap.size w (w.alloc (.cells (opA 4 nn code id d s X mg ev) 33)) := (Below.refl _ _).alloc (Nat.le_refl _) _
  have hBw : B ≤ w.heap.size := Nat.le_trans hw.wi.ge (Nat.le_of_lt hw.wi.lt)
  have hobl := heap_alloc_new w (.cells (opA 4 nn code id d s X mg ev) 33)
  have hweA := hw.below bA
  have hglA := hgl.below bA
  have HA : Hid (WE (w.alloc (.cells (opA 4 nn code id d s X mg ev) 33)) B wb vp vh es ps n ∧ Gl (w.alloc (.cells (opA 4 nn code id d s X mg ev) 33)) aS aC aF aL aO aH ∧ Below w.heap.size w (w.alloc (.cells (opA 4 nn code id d s X mg ev) 33))) := ⟨hweA, hglA, bA⟩
  obtain ⟨av, capv0, gv0, hvp, hav, _, hcv⟩ := own_shape hweA.op
  have c0 : (w.alloc (.cells (opA 4 nn code id d s X mg ev) 33)).cell? ⟨wb, 0, none⟩ = some (.slice av ps.length capv0) := by rw [← hvp]; exact hweA.wi.p
  by_cases hp0 : ps.length = 0
  · rw [hp0] at c0
    unfold opA at *
    clear hvp hav hcv hobl hgl hw hweA hglA
    go_enter Tryz.func34, Tryz.ntmps34
    go_wp2_with fail
    go_ret
    exact ⟨rfl, vp, vh, es, ps, by omega, HA.out.1.limit (by omega), HA.out.2.2.mono hBw⟩
  · obtain ⟨rfl⟩ := hav (by omega)
    have hpl := hweA.len
    obtain ⟨q, hq⟩ : ∃ q, q = pickN nn ps.length := ⟨_, rfl⟩
    have hql : q < ps.length := by rw [hq]; exact pickN_lt _ _ (by omega)
    obtain ⟨x, hx⟩ : ∃ x, ps[q]? = some x := ⟨_, List.getElem?_eq_getElem hql⟩
    have hxm : x ∈ ps := List.mem_of_getElem? hx
    have cq : (w.alloc (.cells (opA 4 nn code id d s X mg ev) 33)).cell? ⟨gv0, q, none⟩ = some (.pointer (some ⟨x.pl, 0, none⟩)) := by
      rw [hcv q hql, List.getElem?_map, hx]; rfl
    have hpi := hweA.pi x hxm
    have HXO : Hid (∀ b, x.in_ b → b < w.heap.size) := fun b hb => ((hw.pi x hxm).lt b hb).2
    have p0 : (w.alloc (.cells (opA 4 nn code id d s X mg ev) 33)).cell? ⟨x.pl, 0, none⟩ = some (.pointer (some ⟨P.pb x.l, 0, none⟩)) := blk_cell hpi.blk
    have hnz : ((ps.length : Int) == 0) = false := by simp; intro h; exact hp0 (by simp [h])
    have hqI : (q : Int) < (ps.length : Int) := by omega
    have HX : Hid (ps[q]? = some x ∧ x ∈ ps) := ⟨hx, hxm⟩
    have HQ : Hid (q = pickN nn ps.length) := hq
    unfold opA at *
    clear hvp hcv hgl hw hweA hglA hpi hx hxm hq hobl
    go_enter Tryz.func34, Tryz.ntmps34
    go_upto_region 18 with fail
    have o1 : (w.alloc (.cells #[.int .i64 4, .int .i64 nn, .int .i64 code, .int .i64 id, .string d, .string s, X 0, X 1, X 2, X 3, X 4, X 5, .int .i64 mg, .int .i64 ev] 33)).cell? ⟨w.heap.size, 1, none⟩ = some (.int .i64 nn) := by simp
    have o0 : (w.alloc (.cells #[.int .i64 4, .int .i64 nn, .int .i64 code, .int .i64 id, .string d, .string s, X 0, X 1, X 2, X 3, X 4, X 5, .int .i64 mg, .int .i64 ev] 33)).cell? ⟨w.heap.size, 0, none⟩ = some (.int .i64 4) := by simp
    have o13 : (w.alloc (.cells #[.int .i64 4, .int .i64 nn, .int .i64 code, .int .i64 id, .string d, .string s, X 0, X 1, X 2, X 3, X 4, X 5, .int .i64 mg, .int .i64 ev] 33)).cell? ⟨w.heap.size, 13, none⟩ = some (.int .i64 ev) := by simp
    clear bA
    generalize w.alloc (.cells #[.int .i64 4, .int .i64 nn, .int .i64 code, .int .i64 id, .string d, .string s, X 0, X 1, X 2, X 3, X 4, X 5, .int .i64 mg, .int .i64 ev] 33) = W at *
    go_quiet ((go_at_call 59; exact Calls.quiet_of_same (lpick_q nn ps.length q _ (by omega) (by omega) hnn1 hnn2 HQ.out)))
    have bD : Below W.heap.size W (W.drewN nq) := below_drewN (Below.refl _ _) nq
    have HA1 : Hid (WE (W.drewN nq) B wb vp vh es ps n ∧ Gl (W.drewN nq) aS aC aF aL aO aH ∧ Below w.heap.size w (W.drewN nq)) := ⟨HA.out.1.below bD, HA.out.2.1.below bD, HA.out.2.2.trans (bD.mono HA.out.2.2.size)⟩
    have r0 : (W.drewN nq).cell? ⟨w.heap.size, 0, none⟩ = some (.int .i64 4) := o0
    have r13 : (W.drewN nq).cell? ⟨w.heap.size, 13, none⟩ = some (.int .i64 ev) := o13
    clear bD HA o0 o1 o13 c0 cq p0
    generalize W.drewN nq = W1 at *
    have hpi := HA1.out.1.pi x HX.out.2
    have p0 : W1.cell? ⟨x.pl, 0, none⟩ = some (.pointer (some ⟨P.pb x.l, 0, none⟩)) := blk_cell hpi.blk
    have hlim := HA1.out.1.lim x HX.out.2
    have HP : Hid (PI1 W1 B x ∧ x.m.Lim n) := ⟨hpi, hlim⟩
    have zo : w.heap.size < W1.heap.size := by
      rcases Nat.lt_or_ge w.heap.size W1.heap.size with h | h
      · exact h
      · simp [World.cell?, Array.getElem?_eq_none h] at r0
    have zp : x.pl < W1.heap.size := blk_lt hpi.blk
    have np : ¬ P.all x.l x.pl := hpi.d1
    have no : ¬ P.all x.l w.heap.size := fun e => absurd (HXO.out _ (.inr (.inl e))) (Nat.lt_irrefl _)
    clear hpi hlim
    go_upto_region 21 with fail
    go_cut [17] (fun bv0 wx => ∃ l', wx.ownsRow W1.heap.size 5 1 bv0 (x.m.event ev).2.length ((x.m.event ev).2.map bv) ∧ P.PE wx B l' (x.m.event ev).1 ∧ P.pb l' = P.pb x.l ∧ Tch (P.all x.l) W1 wx ∧ (∀ b, P.all l' b → P.all x.l b ∨ W1.heap.size ≤ b) ∧ ∀ b, bv0.ownBlock = some b → ¬ P.all l' b)
    case first =>
      go_region_held3 (fun w' => w'.cell? ⟨x.pl, 0, none⟩ = some (.pointer (some ⟨P.pb x.l, 0, none⟩)) ∧ w'.cell? ⟨w.heap.size, 13, none⟩ = some (.int .i64 ev)) (first | exact ⟨p0, r13⟩ | assumption | exact ⟨(World.cell?_of_block (w := W1) (a := ⟨x.pl, 0, none⟩) (htq.block _ zp np)).trans p0, (World.cell?_of_block (w := W1) (a := ⟨w.heap.size, 13, none⟩) (htq.block _ zo no)).trans r13⟩) ((go_at_call 25; refine (P.event _ B x.l x.m ev HA1.out.2.1.drew (P.drew HP.out.1.pe) HP.out.1.gd (HP.out.2.mono (by omega))).mono ?_; rintro e wq ⟨vq, lq, rfl, hoq, hpq, hbq, htq0, hiq, hnq⟩; have htq : Tch (P.all x.l) W1 wq := ⟨htq0.os, htq0.tape, htq0.output, htq0.size, htq0.block⟩))
      go_wp2_with fail
      go_meet
      exact ⟨lq, hoq, hpq, hbq, htq, hiq, hnq⟩
    case rest =>
      obtain ⟨lq, hoq, hpq, hbq, htq, hiq, hnq⟩ := hcut
      have ri2 : RI wc B x.rb x.v x.m := HP.out.1.ri.of_tch htq (fun b hb e => HP.out.1.d3 b e hb)
      have blk2 := (htq.block _ zp np).trans HP.out.1.blk
      have p1 : wc.cell? ⟨x.pl, 1, none⟩ = some (.pointer (some ⟨x.rb, 0, none⟩)) := blk_cell blk2
      have s13 : wc.cell? ⟨w.heap.size, 13, none⟩ = some (.int .i64 ev) := (World.cell?_of_block (w := W1) (a := ⟨w.heap.size, 13, none⟩) (htq.block _ zo no)).trans r13
      have zp2 : x.pl < wc.heap.size := blk_lt blk2
      have zo2 : w.heap.size < wc.heap.size := Nat.lt_of_lt_of_le zo htq.size
      have np2 : ¬ x.v.in_ x.rb x.pl := fun e => HP.out.1.d2 (.inl e)
      have no2 : ¬ x.v.in_ x.rb w.heap.size := fun e => absurd (HXO.out _ (.inr (.inr (.inl e)))) (Nat.lt_irrefl _)
      have RI2 : Hid (RI wc B x.rb x.v x.m) := ri2
      obtain ⟨ab, capb, gb, hub, _, _, _⟩ := own_shape hoq
      subst hub
      have Q1 : Hid (wc.ownsRow W1.heap.size 5 1 (.slice ab (x.m.event ev).2.length capb) (x.m.event ev).2.length ((x.m.event ev).2.map bv) ∧ P.PE wc B lq (x.m.event ev).1 ∧ P.pb lq = P.pb x.l ∧ Tch (P.all x.l) W1 wc ∧ (∀ b, P.all lq b → P.all x.l b ∨ W1.heap.size ≤ b) ∧ ∀ b, (Value.slice ab (x.m.event ev).2.length capb).ownBlock = some b → ¬ P.all lq b) := ⟨hoq, hpq, hbq, htq, hiq, hnq⟩
      have hs2 := htq.size
      have hfit := HP.out.2.fit (by omega)
      have HF : Hid (x.m.Ok ∧ x.m.Fit 500 ∧ x.m.tim ≤ 1000) := ⟨HP.out.2.ok, hfit, by have := HP.out.2.t1; omega⟩
      clear hoq hpq hbq htq hiq hnq ri2 blk2 p0 r13 hfit
      generalize wc = Wa at *
      go_upto_region 22 with fail
      go_cut [18] (fun sv wx => sv = .string ⟨(x.m.event ev).2.toArray⟩ ∧ ∃ v', RI wx B x.rb v' (x.m.event ev).1 ∧ RS Wa wx x.rb x.v v')
      case first =>
        go_region_held3 (fun w' => w'.cell? ⟨x.pl, 1, none⟩ = some (.pointer (some ⟨x.rb, 0, none⟩)) ∧ w'.cell? ⟨w.heap.size, 13, none⟩ = some (.int .i64 ev)) (first | exact ⟨p1, s13⟩ | assumption | exact ⟨(World.cell?_of_block (w := Wa) (a := ⟨x.pl, 1, none⟩) (hsq.t.block _ zp2 np2)).trans p1, (World.cell?_of_block (w := Wa) (a := ⟨w.heap.size, 13, none⟩) (hsq.t.block _ zo2 no2)).trans s13⟩) ((go_at_call 60; refine (revent_any ev _ RI2.out.drew HF.out.1 HF.out.2.1 HF.out.2.2).mono ?_; rintro e wq ⟨rfl, vq, hrq, hsq0⟩; have hsq : RS Wa wq x.rb x.v vq := ⟨⟨hsq0.t.os, hsq0.t.tape, hsq0.t.output, hsq0.t.size, hsq0.t.block⟩, hsq0.c, hsq0.i⟩))
        go_wp2_with fail
        go_meet
        exact ⟨rfl, vq, hrq, hsq⟩
      case rest =>
        obtain ⟨rfl, vq, hrq, hsq⟩ := hcut
        have hT := Q1.out.2.2.2.1
        have hri := HP.out.1.ri
        have xlt := HP.out.1.lt
        have hyP : PI1 wc B (⟨x.pl, lq, x.rb, vq, (x.m.event ev).1⟩ : PL P) := by
          refine ⟨?_, HP.out.1.ge, P.tch Q1.out.2.1 hsq.t ?_, hrq, P.gev _ _ HP.out.1.gd, ?_, ?_, ?_⟩
          · show wc.heap[x.pl]? = some (.cells #[.pointer (some ⟨P.pb lq, 0, none⟩), .pointer (some ⟨x.rb, 0, none⟩)] 110 (0, 0))
            rw [Q1.out.2.2.1]
            exact (hsq.t.block _ zp2 np2).trans ((hT.block _ zp np).trans HP.out.1.blk)
          · intro b hb hv
            rcases Q1.out.2.2.2.2.1 b hb with e | e
            · exact HP.out.1.d3 b e (.inl hv)
            · have := (xlt b (.inr (.inr (.inl hv)))).2; omega
          · intro e
            rcases Q1.out.2.2.2.2.1 _ e with r | r
            · exact np r
            · have : W1.heap.size ≤ x.pl := r; omega
          · intro e
            rcases hsq.all _ e with r | r
            · exact HP.out.1.d2 r
            · have : Wa.heap.size ≤ x.pl := r; omega
          · intro b hb hv
            have hbl := (P.lt Q1.out.2.1 b hb).2
            rcases hsq.all b hv with r | r
            · rcases Q1.out.2.2.2.2.1 b hb with e | e
              · exact HP.out.1.d3 b e r
              · have := (xlt b (.inr (.inr r))).2; omega
            · omega
        have htw : Tch x.in_ W1 wc := (hT.mono (fun b e => .inr (.inl e))).trans (hsq.t.mono (fun b e => .inr (.inr (.inl e))))
        have hin : ∀ b, (⟨x.pl, lq, x.rb, vq, (x.m.event ev).1⟩ : PL P).in_ b → x.in_ b ∨ W1.heap.size ≤ b := by
          rintro b (e | e | e)
          · exact .inl (.inl e)
          · exact (Q1.out.2.2.2.2.1 b e).imp (fun r => .inr (.inl r)) (fun r => r)
          · exact (hsq.all b e).imp (fun r => .inr (.inr r)) (fun r => by omega)
        have hwt := HA1.out.1.turned (k := n + 2) (by omega) q x ⟨x.pl, lq, x.rb, vq, (x.m.event ev).1⟩ HX.out.1 rfl hyP (event_lim HP.out.2 ev) htw hin
        have hvl := Q1.out.1.lt
        have hob : wc.ownsRow B 5 1 (.slice ab (x.m.event ev).2.length capb) (x.m.event ev).2.length ((x.m.event ev).2.map bv) := owns_mono (owns_tch Q1.out.1 hsq.t (fun b hb hv => by have := (hvl b hb).1; have := (xlt b (.inr (.inr (.inl hv)))).2; omega)) (by have := HA1.out.2.2.size; omega)
        have hsep : ∀ b, (Value.slice ab (x.m.event ev).2.length capb).ownBlock = some b → ¬ Busy wb vp vh es (ps.set q ⟨x.pl, lq, x.rb, vq, (x.m.event ev).1⟩) b := by
          intro b hb hbu
          have h1 := (hvl b hb).1
          have h2 := (hvl b hb).2
          have old : ∀ c, Busy wb vp vh es ps c → c < W1.heap.size := fun c hc => (HA1.out.1.busy_lt c hc).2
          rcases hbu with e | e | e | e | ⟨z, hz, e⟩
          · have := old b (.inl e); omega
          · have := old b (.inr (.inl e)); omega
          · have := old b (.inr (.inr (.inl e))); omega
          · have := old b (.inr (.inr (.inr (.inl e)))); omega
          · rcases List.mem_or_eq_of_mem_set hz with r | r
            · have := old b (.inr (.inr (.inr (.inr ⟨z, r, e⟩)))); omega
            · subst r
              rcases e with e | e | e
              · have : b = x.pl := e; omega
              · exact Q1.out.2.2.2.2.2 b hb e
              · rcases hsq.all b e with r | r
                · have := (xlt b (.inr (.inr r))).2; omega
                · omega
        have SM : Hid (_) := sameE (l := (x.m.event ev).2) wc hwt hob (by have := event_out HP.out.2.ok ev; omega) (by omega) hsep
        have HB0 : Hid (Below B w wc) := (HA1.out.2.2.mono hBw).trans (htw.below (Nat.le_trans hBw HA1.out.2.2.size) (fun b hb => (xlt b hb).1))
        have HBV : Hid (∀ b, b = wb ∨ vh.ownBlock = some b ∨ (Value.slice ab (x.m.event ev).2.length capb).ownBlock = some b → B ≤ b) := by
          rintro b (e | e | e)
          · rw [e]; exact HA1.out.1.wi.ge
          · exact (HA1.out.1.wi.own.lt b e).1
          · have := (hvl b e).1; have := HA1.out.2.2.size; omega
        have hB3 : B ≤ wc.heap.size := by have := HB0.out.size; omega
        clear hT hri xlt hyP htw hin hwt hvl hob hsep hrq hsq p1 s13
        go_wp2_with fail
        refine Calls.mono SM.out ?_
        rintro r w5 ⟨rfl, vh5, es5, hl5, hw5, ht5⟩
        have H5 : Hid (_) := hw5
        have T5 : Hid (Below B w w5) := HB0.out.trans (ht5.below hB3 HBV.out)
        clear hw5 ht5 SM
        go_wp2_with fail
        go_ret
        exact ⟨rfl, vp, vh5, es5, _, by omega, H5.out, T5.out⟩
set_option maxRecDepth 100000 in
set_option maxHeartbeats 2000000 in
theorem step_ask {aS aC aF aL aO aH : Addr} {B wb : Nat} {vp vh : Value} {n : Nat} {es : List HE} {ps : List (PL P)} (w : World) (hgl : Gl w aS aC aF aL aO aH) (hw : WE w B wb vp vh es ps n) (hn : n ≤ 1399999999998) (hes : es.length + 24 ≤ 17000000000000) (nn code id : Int) (d s : ByteArray) (X : Nat → Value) (mg ev : Int) (hnn1 : -9223372036854775808 ≤ nn) (hnn2 : nn < 9223372036854775808) :
    Calls Tryz.prog 34 #[.pointer (some ⟨wb, 0, none⟩), .agg (opA 6 nn code id d s X mg ev)] w fun r w' => r = .returned (.bool true) ∧ StR P w w' B wb es (n + 2) := by
  have bA : Below w.heap.size w (w.alloc (.cells (opA 6 nn code id d s X mg ev) 33)) := (Below.refl _ _).alloc (Nat.le_refl _) _
  have hBw : B ≤ w.heap.size := Nat.le_trans hw.wi.ge (Nat.le_of_lt hw.wi.lt)
  have hobl := heap_alloc_new w (.cells (opA 6 nn code id d s X mg ev) 33)
  have hweA := hw.below bA
  have hglA := hgl.below bA
  have HA : Hid (WE (w.alloc (.cells (opA 6 nn code id d s X mg ev) 33)) B wb vp vh es ps n ∧ Gl (w.alloc (.cells (opA 6 nn code id d s X mg ev) 33)) aS aC aF aL aO aH ∧ Below w.heap.size w (w.alloc (.cells (opA 6 nn code id d s X mg ev) 33))) := ⟨hweA, hglA, bA⟩
  obtain ⟨av, capv0, gv0, hvp, hav, _, hcv⟩ := own_shape hweA.op
  have c0 : (w.alloc (.cells (opA 6 nn code id d s X mg ev) 33)).cell? ⟨wb, 0, none⟩ = some (.slice av ps.length capv0) := by rw [← hvp]; exact hweA.wi.p
  by_cases hp0 : ps.length = 0
  · rw [hp0] at c0
    unfold opA at *
    clear hvp hav hcv hobl hgl hw hweA hglA
    go_enter Tryz.func34, Tryz.ntmps34
    go_wp2_with fail
    go_ret
    exact ⟨rfl, vp, vh, es, ps, by omega, HA.out.1.limit (by omega), HA.out.2.2.mono hBw⟩
  · obtain ⟨rfl⟩ := hav (by omega)
    have hpl := hweA.len
    obtain ⟨q, hq⟩ : ∃ q, q = pickN nn ps.length := ⟨_, rfl⟩
    have hql : q < ps.length := by rw [hq]; exact pickN_lt _ _ (by omega)
    obtain ⟨x, hx⟩ : ∃ x, ps[q]? = some x := ⟨_, List.getElem?_eq_getElem hql⟩
    have hxm : x ∈ ps := List.mem_of_getElem? hx
    have cq : (w.alloc (.cells (opA 6 nn code id d s X mg ev) 33)).cell? ⟨gv0, q, none⟩ = some (.pointer (some ⟨x.pl, 0, none⟩)) := by
      rw [hcv q hql, List.getElem?_map, hx]; rfl
    have hpi := hweA.pi x hxm
    have HXO : Hid (∀ b, x.in_ b → b < w.heap.size) := fun b hb => ((hw.pi x hxm).lt b hb).2
    have p0 : (w.alloc (.cells (opA 6 nn code id d s X mg ev) 33)).cell? ⟨x.pl, 0, none⟩ = some (.pointer (some ⟨P.pb x.l, 0, none⟩)) := blk_cell hpi.blk
    have hnz : ((ps.length : Int) == 0) = false := by simp; intro h; exact hp0 (by simp [h])
    have hqI : (q : Int) < (ps.length : Int) := by omega
    have HX : Hid (ps[q]? = some x ∧ x ∈ ps) := ⟨hx, hxm⟩
    have HQ : Hid (q = pickN nn ps.length) := hq
    unfold opA at *
    clear hvp hcv hgl hw hweA hglA hpi hx hxm hq hobl
    go_enter Tryz.func34, Tryz.ntmps34
    go_upto_region 18 with fail
    have o1 : (w.alloc (.cells #[.int .i64 6, .int .i64 nn, .int .i64 code, .int .i64 id, .string d, .string s, X 0, X 1, X 2, X 3, X 4, X 5, .int .i64 mg, .int .i64 ev] 33)).cell? ⟨w.heap.size, 1, none⟩ = some (.int .i64 nn) := by simp
    have o0 : (w.alloc (.cells #[.int .i64 6, .int .i64 nn, .int .i64 code, .int .i64 id, .string d, .string s, X 0, X 1, X 2, X 3, X 4, X 5, .int .i64 mg, .int .i64 ev] 33)).cell? ⟨w.heap.size, 0, none⟩ = some (.int .i64 6) := by simp
    have o13 : (w.alloc (.cells #[.int .i64 6, .int .i64 nn, .int .i64 code, .int .i64 id, .string d, .string s, X 0, X 1, X 2, X 3, X 4, X 5, .int .i64 mg, .int .i64 ev] 33)).cell? ⟨w.heap.size, 13, none⟩ = some (.int .i64 ev) := by simp
    clear bA
    generalize w.alloc (.cells #[.int .i64 6, .int .i64 nn, .int .i64 code, .int .i64 id, .string d, .string s, X 0, X 1, X 2, X 3, X 4, X 5, .int .i64 mg, .int .i64 ev] 33) = W at *
    go_quiet ((go_at_call 59; exact Calls.quiet_of_same (lpick_q nn ps.length q _ (by omega) (by omega) hnn1 hnn2 HQ.out)))
    have bD : Below W.heap.size W (W.drewN nq) := below_drewN (Below.refl _ _) nq
    have HA1 : Hid (WE (W.drewN nq) B wb vp vh es ps n ∧ Gl (W.drewN nq) aS aC aF aL aO aH ∧ Below w.heap.size w (W.drewN nq)) := ⟨HA.out.1.below bD, HA.out.2.1.below bD, HA.out.2.2.trans (bD.mono HA.out.2.2.size)⟩
    have r0 : (W.drewN nq).cell? ⟨w.heap.size, 0, none⟩ = some (.int .i64 6) := o0
    have r13 : (W.drewN nq).cell? ⟨w.heap.size, 13, none⟩ = some (.int .i64 ev) := o13
    clear bD HA o0 o1 o13 c0 cq p0 r13
    generalize W.drewN nq = W1 at *
    have hlim := HA1.out.1.lim x HX.out.2
    have AK : Hid (_) := asked_any W1 HA1.out.1 (by omega) (by omega) x HX.out.2 (by have := hlim.sn; omega) (by have := hlim.ag; omega)
    clear hlim
    go_wp2_with fail
    refine Calls.mono AK.out ?_
    rintro r w5 ⟨rfl, vh5, es5, hl5, hw5, hb5⟩
    have H5 : Hid (_) := hw5.limit (k := n + 2) (by omega)
    have T5 : Hid (Below B w w5) := (HA1.out.2.2.mono hBw).trans hb5
    clear hw5 hb5 AK
    go_wp2_with fail
    go_ret
    exact ⟨rfl, vp, vh5, es5, ps, by omega, H5.out, T5.out⟩
end
end Go.Proofs.YtoeihlgidakjbaaGreatDoor

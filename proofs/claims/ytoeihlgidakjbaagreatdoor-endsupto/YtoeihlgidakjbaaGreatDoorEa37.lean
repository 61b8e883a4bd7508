/- The reference's act and at, whole; what a received packet does, as plain mathematics. The reference's named: what a Nak turns. The reference's asked: what a Request does. -/
import Derived.Test.YtoeihlgidakjbaaGreatDoorEa36
namespace Go.Proofs.YtoeihlgidakjbaaGreatDoor
open Go.RowKit Go.Lib
set_option maxRecDepth 100000 in
set_option maxHeartbeats 2000000 in
theorem act_n {B rb : Nat} {v : RV} {m : RE} (w : World) (h : RI w B rb v m) (ok : m.Ok) (fit : m.Fit 100) :
    Calls Tryz.prog 117 #[.pointer (some ⟨rb, 0, none⟩), .int .u8 110] w fun r w' => r = .returned (.string ⟨(m.act 110).2.toArray⟩) ∧ ∃ v', RI w' B rb v' (m.act 110).1 ∧ RS w w' rb v v' := by
  have NK : Hid (_) := nak_any w h ok fit
  clear h ok fit
  go_enter Tryz.func117, Tryz.ntmps117
  go_wp2_with fail
  refine Calls.mono NK.out ?_
  rintro e w1 ⟨rfl, h1, t1⟩
  have H1 : Hid (_) := And.intro h1 t1
  clear h1 t1 NK
  go_wp2_with fail
  go_ret
  exact ⟨rfl, v, H1.out.1, RS.num H1.out.2⟩
theorem actC_all {ev st : Nat} (h : ev < 18) (hs : st < 10) : ∀ c ∈ (rowT ev).getD st [], (48 ≤ c ∧ c ≤ 57) ∨ ActC c := by
  intro c hc
  rcases all_letters ev h st hs c hc with q | q | q
  · exact .inl q
  · exact .inr (actC_ev c (by simpa using q))
  · right
    simp only [List.mem_cons, List.not_mem_nil, or_false] at q
    intro B rb v m w hr ok fit
    rcases q with rfl | rfl | rfl | rfl | rfl
    · exact act_a w hr ok
    · exact act_n w hr ok fit
    · exact act_k w hr ok
    · exact act_j w hr ok
    · exact act_o w hr ok
theorem at_all {B rb : Nat} {v : RV} {m : RE} (ev : Nat) (w : World) (h : RI w B rb v m) (ok : m.Ok) (fit : m.Fit 500) (h1 : 1 ≤ ev) (h2 : ev ≤ 17) (h3 : ev ≠ 5) :
    Calls Tryz.prog 83 #[.pointer (some ⟨rb, 0, none⟩), .int .i64 (ev : Int)] w fun r w' => r = .returned (.string ⟨(m.at_ ev).2.toArray⟩) ∧ ∃ v', RI w' B rb v' (m.at_ ev).1 ∧ RS w w' rb v v' :=
  at_any ev w h ok fit h1 h2 h3 (actC_all (by omega) ok.st)
namespace RE
end RE
end Go.Proofs.YtoeihlgidakjbaaGreatDoor
namespace Go.Proofs.YtoeihlgidakjbaaGreatDoor
open Go.RowKit Go.Lib
theorem RI.magic {w w1 : World} {B rb : Nat} {v : RV} {m : RE} {x g cap : Nat} {o : Obj} (h : RI w B rb v m) (hown : w1.ownsRow B 3 1 (.slice (some ⟨g, 0, none⟩) (m.mg.length + 1) cap) (m.mg.length + 1) (m.mg.map iv ++ [.int .i64 (x : Int)]))
    (hg : (w.alloc o).grownBy w1 v.vm.ownBlock) (hat : v.vm.ownBlock = some g ∨ g = w.heap.size + 1) :
    RI (w1.setCell ⟨rb, 28, none⟩ (.slice (some ⟨g, 0, none⟩) (m.mg.length + 1) cap)) B rb { v with vm := .slice (some ⟨g, 0, none⟩) (m.mg.length + 1) cap } { m with mg := m.mg ++ [x] } ∧
    RS w (w1.setCell ⟨rb, 28, none⟩ (.slice (some ⟨g, 0, none⟩) (m.mg.length + 1) cap)) rb v { v with vm := .slice (some ⟨g, 0, none⟩) (m.mg.length + 1) cap } := by
  have ht := tch_grown hg
  have hlt := blk_lt h.blk
  have hb1 : w1.heap[rb]? = some (.cells (m.cell v) 129 (0, 0)) := (ht.block rb hlt (fun e => h.m1 e)).trans h.blk
  have hgr : g ≠ rb := by
    rcases hat with e | e
    · intro e2; exact h.m1 (e2 ▸ e)
    · omega
  have hts : Tch (fun b => b = rb) w1 (w1.setCell ⟨rb, 28, none⟩ (.slice (some ⟨g, 0, none⟩) (m.mg.length + 1) cap)) := tset w1 rb 28 _
  have gnew : ∀ b, b < w.heap.size → v.vm.ownBlock ≠ some b → g ≠ b := by
    intro b hb hn e
    rcases hat with e2 | e2
    · exact hn (e ▸ e2)
    · omega
  have hc : ∀ y ∈ m.cfg v, ∀ b, y.1.ownBlock = some b → b < w.heap.size := fun y hy b hb => ((h.oc y hy).lt b hb).2
  constructor
  · refine ⟨?_, h.ge, ?_, ?_, ?_, h.t1, ?_, ?_, ?_⟩
    · exact blk_set (k := 28) hb1
    · exact owns_tch (owns_tch h.ot ht (fun b hb e => h.tm b hb e)) hts (fun b hb e => h.t1 (e ▸ hb))
    · have := owns_tch hown hts (fun b hb e => by simp only [Value.ownBlock, Option.some.injEq] at hb; exact hgr (hb.trans e))
      simpa [iv] using this
    · intro y hy
      exact owns_tch (owns_tch (h.oc y hy) ht (fun b hb e => (h.c1 y hy b hb).2.2 e)) hts (fun b hb e => (h.c1 y hy b hb).1 e)
    · intro e; simp only [Value.ownBlock, Option.some.injEq] at e; exact hgr e
    · intro b hb e
      simp only [Value.ownBlock, Option.some.injEq] at e
      have hbl := (h.ot.lt b hb).2
      exact gnew b hbl (fun x => h.tm b hb x) e
    · intro y hy b hb
      have hy' : y ∈ m.cfg v := hy
      obtain ⟨c1, c2, c3⟩ := h.c1 y hy' b hb
      refine ⟨c1, c2, ?_⟩
      intro e
      simp only [Value.ownBlock, Option.some.injEq] at e
      exact gnew b (hc y hy' b hb) c3 e
  · refine ⟨(ht.mono (fun b x => .inr (.inr x))).trans (hts.mono (fun b x => .inl x)), ⟨rfl, rfl, rfl, rfl, rfl, rfl⟩, ?_⟩
    rintro b (x | x | x)
    · exact .inl (.inl x)
    · exact .inl (.inr (.inl x))
    · simp only [Value.ownBlock, Option.some.injEq] at x
      rcases hat with e | e
      · exact .inl (.inr (.inr (x ▸ e)))
      · exact .inr (by omega)
theorem RI.wish {w : World} {B rb : Nat} {v : RV} {m : RE} (h : RI w B rb v m) (j : Nat) (h3 : j < 3) : ∃ va, w.cell? ⟨rb, j, none⟩ = some va ∧ w.ownsRow B 3 1 va (m.want (j + 1)).length ((m.want (j + 1)).map iv) := by
  rcases (by omega : j = 0 ∨ j = 1 ∨ j = 2) with rfl | rfl | rfl
  · exact ⟨v.vw0, blk_cell h.blk, h.oc (v.vw0, m.w0) (by simp [RE.cfg])⟩
  · exact ⟨v.vw1, blk_cell h.blk, h.oc (v.vw1, m.w1) (by simp [RE.cfg])⟩
  · exact ⟨v.vw2, blk_cell h.blk, h.oc (v.vw2, m.w2) (by simp [RE.cfg])⟩
theorem RE.ask_cell (m : RE) (v : RV) (j n : Nat) (h : j < 3) : (m.cell v).setIfInBounds (22 + j) (iv n) = (m.ask (j + 1) n).cell v ∧ (m.ask (j + 1) n).cfg v = m.cfg v ∧ (m.ask (j + 1) n).told = m.told ∧ (m.ask (j + 1) n).mg = m.mg := by
  rcases (by omega : j = 0 ∨ j = 1 ∨ j = 2) with rfl | rfl | rfl <;> exact ⟨rfl, rfl, rfl, rfl⟩
set_option maxRecDepth 100000 in
set_option maxHeartbeats 4000000 in
theorem named_any {B rb : Nat} {v : RV} {m : RE} (w : World) (h : RI w B rb v m) (ok : m.Ok) (hml : m.mg.length ≤ 16000000000000) (vi : Value) (l : List (Nat × Nat)) (hi : ItemsIn w vi l) (hlr : ∀ x ∈ l, 1 ≤ x.1 ∧ x.1 ≤ 4 ∧ x.2 < 65536) (hll : l.length ≤ 1000) (hsep : ∀ b, vi.ownBlock = some b → ¬ v.in_ rb b) :
    Calls Tryz.prog 120 #[.pointer (some ⟨rb, 0, none⟩), vi] w fun r w' => r = .returned (.tuple #[]) ∧ ∃ v', RI w' B rb v' (m.takeAll l) ∧ RS w w' rb v v' := by
  obtain ⟨j0, hj, hy0, hy1, hy2⟩ := info_parts Tryz.infoI
  obtain ⟨a, cap, g, rfl, ha, hc⟩ := hi
  have H : Hid (RI w B rb v m) := h
  have OK : Hid (m.Ok) := ok
  have HA : Hid (0 < l.length → a = some ⟨g, 0, none⟩ ∧ g < w.heap.size) := ha
  have HC : Hid (∀ k (h : k < l.length), w.cell? ⟨g, k * 2, none⟩ = some (.int .i64 ((l[k]).1 : Int)) ∧ w.cell? ⟨g, k * 2 + 1, none⟩ = some (.int .i64 ((l[k]).2 : Int))) := hc
  have HR : Hid (∀ x ∈ l, 1 ≤ x.1 ∧ x.1 ≤ 4 ∧ x.2 < 65536) := hlr
  have HS : Hid (∀ b, (Value.slice a l.length cap).ownBlock = some b → ¬ v.in_ rb b) := hsep
  clear h ok ha hc hlr hsep
  go_enter Tryz.func120, Tryz.ntmps120
  go_wp2_with fail
  go_loopw [4] (fun i wr => ∃ (k : Nat) (v' : RV), k ≤ l.length ∧ i = .int .i64 k ∧ Hid (RI wr B rb v' (m.takeAll (l.take k)) ∧ RS w wr rb v v')) (fun i _ => l.length - (intOf i).toNat)
  case atStart => exact ⟨0, v, by omega, rfl, H.out, RS.refl _ _ _⟩
  case round =>
    obtain ⟨k, v', hk, rfl, HW⟩ := hrel
    by_cases hlt : k < l.length
    · obtain ⟨rfl, hg⟩ := HA.out (by omega)
      have hI : (k : Int) < (l.length : Int) := by omega
      obtain ⟨hx1, hx4, hy⟩ := HR.out _ (List.getElem_mem hlt)
      have hng : ¬ v.in_ rb g := HS.out g rfl
      have c0 := (World.cell?_of_block (w := w) (a := ⟨g, k * 2, none⟩) (HW.out.2.t.block g hg hng)).trans (HC.out k hlt).1
      have c1 := (World.cell?_of_block (w := w) (a := ⟨g, k * 2 + 1, none⟩) (HW.out.2.t.block g hg hng)).trans (HC.out k hlt).2
      have HT : Hid (m.takeAll (l.take (k + 1)) = (m.takeAll (l.take k)).take1 ((l[k]).1, (l[k]).2)) := by
        show _ = _
        rw [List.take_add_one, List.getElem?_eq_getElem hlt]
        exact m.takeAll_snoc _ _
      have hok : (m.takeAll (l.take k)).Ok := RE.takeAll_ok _ OK.out
      have hmk : (m.takeAll (l.take k)).mg.length ≤ 16000000001000 := by have := m.takeAll_mg (l.take k); rw [List.length_take] at this; omega
      have hri := HW.out.1
      have HRS : Hid (RS w wr rb v v') := HW.out.2
      generalize hX : (l[k]).1 = X at *
      generalize hY : (l[k]).2 = Y at *
      generalize m.takeAll (l.take k) = mk at *
      clear hX hY HW
      have bA : Below wr.heap.size wr (wr.alloc (.cells #[.int .i64 (X : Int), .int .i64 (Y : Int)] 151)) := (Below.refl _ _).alloc (Nat.le_refl _) _
      have hriA := hri.below bA
      have k0 : (wr.alloc (.cells #[.int .i64 (X : Int), .int .i64 (Y : Int)] 151)).cell? ⟨wr.heap.size, 0, none⟩ = some (.int .i64 (X : Int)) := by simp
      have k1 : (wr.alloc (.cells #[.int .i64 (X : Int), .int .i64 (Y : Int)] 151)).cell? ⟨wr.heap.size, 1, none⟩ = some (.int .i64 (Y : Int)) := by simp
      have HRA : Hid (RI (wr.alloc (.cells #[.int .i64 (X : Int), .int .i64 (Y : Int)] 151)) B rb v' mk ∧ RS w (wr.alloc (.cells #[.int .i64 (X : Int), .int .i64 (Y : Int)] 151)) rb v v') := ⟨hriA, HRS.out.trans (RS.num (Tch.of_below bA))⟩
      have hzr : rb < (wr.alloc (.cells #[.int .i64 (X : Int), .int .i64 (Y : Int)] 151)).heap.size := blk_lt hriA.blk
      by_cases h4 : X = 4
      · have h4i : ((X : Int) == 4) = true := by simp; omega
        obtain ⟨q, hq, hq1, hqm, hml2⟩ := hok.mag
        obtain ⟨a2, cap2, g2, hv2, ha2, _, hc2⟩ := own_shape hriA.om
        obtain rfl := ha2 (by omega)
        have cq := hc2 q hq
        rw [List.getElem?_map, List.getElem?_eq_getElem hq, hqm] at cq
        rw [← hq1] at hv2
        have c28 : (wr.alloc (.cells #[.int .i64 (X : Int), .int .i64 (Y : Int)] 151)).cell? ⟨rb, 28, none⟩ = some (.slice (some ⟨g2, 0, none⟩) (q + 1) cap2) := (blk_cell hriA.blk).trans (by rw [← hv2]; rfl)
        have cq' : (wr.alloc (.cells #[.int .i64 (X : Int), .int .i64 (Y : Int)] 151)).cell? ⟨g2, q, none⟩ = some (.int .i64 (mk.mag : Int)) := cq
        have hw1 : IntKind.i64.wrap (((q + 1 : Nat) : Int) - 1) = (q : Int) := by rw [wrap_in (by omega) (by omega)]; omega
        have hw2 : IntKind.i64.wrap ((q : Int) + 1 - 1) = (q : Int) := by rw [wrap_in (by omega) (by omega)]; omega
        have hw3 : IntKind.i64.wrap (q : Int) = (q : Int) := wrap_in (by omega) (by omega)
        have hw4 : (q : Int) < (q : Int) + 1 := by omega
        have H4 : Hid (X = 4) := h4
        have HV : Hid (v'.vm = .slice (some ⟨g2, 0, none⟩) (q + 1) cap2 ∧ q + 1 = mk.mg.length) := ⟨hv2, hq1⟩
        have hqb : q + 1 ≤ 16000000001000 := by omega
        obtain ⟨M, hM⟩ : ∃ M, M = mk.mag := ⟨_, rfl⟩
        rw [← hM] at cq' hml2
        have hm1 : IntKind.i64.wrap (5 * (M : Int)) = 5 * (M : Int) := wrap_in (by omega) (by omega)
        have hm2 : IntKind.i64.wrap (5 * (M : Int) + 3) = 5 * (M : Int) + 3 := wrap_in (by omega) (by omega)
        have hm3 : (5 * (M : Int) + 3).tmod 65536 = ((((5 * M + 3) % 65536 : Nat)) : Int) := by rw [Int.tmod_eq_emod_of_nonneg (by omega)]; omega
        have HM : Hid (M = mk.mag) := hM
        clear hri hriA bA hv2 ha2 hc2 cq hq hq1 hqm h4 hM hmk hok
        go_upto_region 5 with fail
        generalize wr.alloc (.cells #[.int .i64 (X : Int), .int .i64 (Y : Int)] 151) = WA at *
        go_cut [6] (fun x wx => x = .int .i64 ((5 * (M : Int) + 3) % 65536) ∧ ∃ n, wx = WA.drewN n)
        case first =>
          go_quiet (fail)
          go_wp2_with fail
          go_meet
          exact ⟨rfl, nq, rfl⟩
        case rest =>
          obtain ⟨rfl, nd, rfl⟩ := hcut
          have bD : Below WA.heap.size WA (WA.drewN nd) := below_drewN (Below.refl _ _) nd
          have HR5 : Hid (RI (WA.drewN nd) B rb v' mk ∧ RS w (WA.drewN nd) rb v v') := ⟨HRA.out.1.below bD, HRA.out.2.trans (RS.num (Tch.of_below bD))⟩
          clear bD HRA c28 cq' k0 k1 hw1 hw2 hw3 hm1 hm2 hm3 hzr
          generalize WA.drewN nd = W5 at *
          have eM : (5 * (M : Int) + 3) % 65536 = (((5 * M + 3) % 65536 : Nat) : Int) := by omega
          rw [eM]
          obtain ⟨N, hN⟩ : ∃ N, N = (5 * M + 3) % 65536 := ⟨_, rfl⟩
          have HNM : Hid (N = (5 * mk.mag + 3) % 65536) := by show _ = _; rw [hN, HM.out]
          rw [← hN]
          clear eM hN
          have b28 := HR5.out.1.blk
          have d28 : W5.cell? ⟨rb, 28, none⟩ = some (.slice (some ⟨g2, 0, none⟩) (q + 1) cap2) := (blk_cell b28).trans (by rw [← HV.out.1]; rfl)
          have hrb5 : rb < W5.heap.size := blk_lt b28
          have hB5 : B ≤ W5.heap.size := Nat.le_trans HR5.out.1.ge (Nat.le_of_lt hrb5)
          have OWN : Hid (W5.ownsRow B 3 1 (.slice (some ⟨g2, 0, none⟩) (q + 1) cap2) (q + 1) (mk.mg.map iv)) := by
            have := HR5.out.1.om
            rw [HV.out.1, ← HV.out.2] at this; exact this
          have HM1 : Hid ((Value.slice (some ⟨g2, 0, none⟩) (q + 1) cap2).ownBlock ≠ some rb) := by have := HR5.out.1.m1; rw [HV.out.1] at this; exact this
          have HB5 : Hid (_) := b28
          clear b28
          go_wp2_with (at_builtin; go_must (refine wpList_append_lies _ rfl (.tmp 40) (.tmp 42) 28 rfl B 3 j0 (.int .i64 0) 1 8 Tryz.underlying28 hj hy0 hy1 hy2 rfl (by decide) _ (q + 1) (mk.mg.map iv) rfl (OWN.out.alloc _) ⟨W5.heap.size, 0, none⟩ 1 1 [.int .i64 (N : Int)] rfl rfl (cell_one_i _ _ _) (by intro u hu; simp at hu; subst hu; rfl) (by omega) (by unfold maxLen; omega) (by omega) (by simp; omega) _ rfl ?_; intro gv capv w7 hown7 hgrow7 hat7 hlt7; have bb : w7.heap[rb]? = some (.cells (mk.cell v') 129 (0, 0)) := ((tch_grown hgrow7).block rb hrb5 (fun e => HM1.out e)).trans HB5.out; have e28 : w7.cell? ⟨rb, 28, none⟩ = some (.slice (some ⟨g2, 0, none⟩) (q + 1) cap2) := (blk_cell bb).trans (by rw [← HV.out.1]; rfl); have f28 : w7.frozen? ⟨rb, 28, none⟩ = false := blk_free bb))
          have hq := HV.out.2
          have own8 : w7.ownsRow B 3 1 (.slice (some ⟨gv, 0, none⟩) (mk.mg.length + 1) capv) (mk.mg.length + 1) (mk.mg.map iv ++ [.int .i64 (N : Int)]) := by rw [← hq]; exact hown7
          have hmg := HR5.out.1.magic own8 (by rw [HV.out.1]; exact hgrow7) (by rw [HV.out.1]; exact hat7.elim .inl (fun e => .inr (e.trans (by simp))))
          rw [← hq] at hmg
          refine ⟨⟨k + 1, _, by omega, by go_num, ?_, HR5.out.2.trans hmg.2⟩, by simp [intOf]; omega⟩
          rw [HT.out]
          unfold RE.take1
          rw [if_pos H4.out, ← HNM.out]
          exact hmg.1
      · obtain ⟨j, rfl⟩ : ∃ j, X = j + 1 := ⟨X - 1, by omega⟩
        have h4i : (((j + 1 : Nat) : Int) == 4) = false := by simp; omega
        have h4j : (((j : Int) + 1) == 4) = false := by simp; omega
        have hj3 : j < 3 := by omega
        obtain ⟨va, c3, ova⟩ := hriA.wish j hj3
        have hal := hok.ww (j + 1)
        have hX2 : IntKind.i64.wrap ((j : Int) + 1 - 1) = (j : Int) := by rw [wrap_in (by omega) (by omega)]; omega
        have hX3 : IntKind.i64.wrap (j : Int) = (j : Int) := wrap_in (by omega) (by omega)
        have hX4 : (j : Int) < 3 := by omega
        have H4 : Hid (¬ j + 1 = 4) := h4
        have ej : ((j + 1 : Nat) : Int) = (j : Int) + 1 := by omega
        rw [ej] at c0 k0 k1 HRA c3 ova hzr
        clear ej h4i hri hriA bA h4 hmk hok
        go_upto_region 8 with fail
        generalize wr.alloc (.cells #[.int .i64 ((j : Int) + 1), .int .i64 (Y : Int)] 151) = WA at *
        have OM : Hid (WA.ownsRow B 3 1 va (mk.want (j + 1)).length ((mk.want (j + 1)).map iv)) := ova
        clear ova
        go_cut [7] (fun x wx => x = .bool (decide (Y ∈ mk.want (j + 1))) ∧ ∃ n, wx = WA.drewN n)
        case first =>
          go_region_held3 (fun w' => w'.cell? ⟨rb, j, none⟩ = some va ∧ w'.cell? ⟨wr.heap.size, 0, none⟩ = some (.int .i64 ((j : Int) + 1)) ∧ w'.cell? ⟨wr.heap.size, 1, none⟩ = some (.int .i64 (Y : Int))) (first | exact ⟨c3, k0, k1⟩ | assumption) ((go_at_call 154; refine (within_nat va (mk.want (j + 1)) Y _ OM.out.drew (by omega)).mono ?_; rintro e wq ⟨rfl, rfl⟩))
          go_wp2_with fail
          go_meet
          exact ⟨rfl, 1, rfl⟩
        case rest =>
          obtain ⟨rfl, nd, rfl⟩ := hcut
          have bD : Below WA.heap.size WA (WA.drewN nd) := below_drewN (Below.refl _ _) nd
          have HR5 : Hid (RI (WA.drewN nd) B rb v' mk ∧ RS w (WA.drewN nd) rb v v') := ⟨HRA.out.1.below bD, HRA.out.2.trans (RS.num (Tch.of_below bD))⟩
          have y0 : (WA.drewN nd).cell? ⟨wr.heap.size, 0, none⟩ = some (.int .i64 ((j : Int) + 1)) := k0
          have y1 : (WA.drewN nd).cell? ⟨wr.heap.size, 1, none⟩ = some (.int .i64 (Y : Int)) := k1
          clear bD k0 k1 c3 OM HRA hzr
          generalize WA.drewN nd = wc at *
          by_cases hm : Y ∈ mk.want (j + 1)
          · have hdm : decide (Y ∈ mk.want (j + 1)) = true := decide_eq_true hm
            rw [hdm]
            have TK : Hid (mk.take1 (j + 1, Y) = mk.ask (j + 1) Y) := by
              show _ = _
              unfold RE.take1; rw [if_neg H4.out, if_pos hm]
            obtain ⟨u22, d22⟩ : ∃ u, wc.cell? ⟨rb, 22 + j, none⟩ = some u := by
              rw [blk_cell HR5.out.1.blk]
              rcases (by omega : j = 0 ∨ j = 1 ∨ j = 2) with rfl | rfl | rfl <;> exact ⟨_, rfl⟩
            have g22 : wc.frozen? ⟨rb, 22 + j, none⟩ = false := blk_free HR5.out.1.blk
            clear hm hdm
            go_wp2_with fail
            go_region
            all_goals
              go_wp2_with fail
              have tF : Tch (fun b => b = rb) wc (wc.setCell ⟨rb, 22 + j, none⟩ (.int .i64 (Y : Int))).drew := (tset _ _ _ _).drew
              obtain ⟨e0, g1, g2, g3⟩ := mk.ask_cell v' j Y hj3
              have bF : (wc.setCell ⟨rb, 22 + j, none⟩ (.int .i64 (Y : Int))).drew.heap[rb]? = some (.cells ((mk.ask (j + 1) Y).cell v') 129 (0, 0)) := by
                have := blk_set (k := 22 + j) (x := .int .i64 (Y : Int)) HR5.out.1.blk
                rw [← e0]; exact this
              refine ⟨⟨k + 1, v', by omega, by go_num, ?_, HR5.out.2.trans (RS.num tF)⟩, by simp [intOf]; omega⟩
              rw [HT.out, TK.out]
              exact HR5.out.1.num bF tF g2 g3 g1
          · have hdm : decide (Y ∈ mk.want (j + 1)) = false := decide_eq_false hm
            rw [hdm]
            have TK : Hid (mk.take1 (j + 1, Y) = mk) := by
              show _ = _
              unfold RE.take1; rw [if_neg H4.out, if_neg hm]
            clear hm hdm
            go_wp2_with fail
            refine ⟨⟨k + 1, v', by omega, by go_num, ?_, HR5.out.2⟩, by simp [intOf]; omega⟩
            rw [HT.out, TK.out]
            exact HR5.out.1
    · have ht : l.take k = l := List.take_of_length_le (by omega)
      have HF : Hid (RI wr B rb v' (m.takeAll l) ∧ RS w wr rb v v') := by
        have := HW.out
        rw [ht] at this; exact this
      have hnI : ¬ (k : Int) < (l.length : Int) := by omega
      clear HW
      go_wp2_with fail
      go_end0
      exact ⟨rfl, v', HF.out⟩
end Go.Proofs.YtoeihlgidakjbaaGreatDoor
namespace Go.Proofs.YtoeihlgidakjbaaGreatDoor
open Go.RowKit Go.Lib
set_option maxRecDepth 100000 in
set_option maxHeartbeats 4000000 in
theorem rasked_any {B rb : Nat} {v : RV} {m : RE} (w : World) (h : RI w B rb v m) (ok : m.Ok) (fit : m.Fit 600) (vi : Value) (l : List (Nat × Nat)) (hi : ItemsIn w vi l) (hlr : ∀ x ∈ l, 1 ≤ x.1 ∧ x.1 ≤ 4 ∧ x.2 < 65536) (hll : l.length ≤ 1000) :
    Calls Tryz.prog 119 #[.pointer (some ⟨rb, 0, none⟩), vi] w fun r w' => r = .returned (.string ⟨(m.asked l).2.toArray⟩) ∧ ∃ v', RI w' B rb v' (m.asked l).1 ∧ RS w w' rb v v' := by
  obtain ⟨j0, hj, hy0, hy1, hy2⟩ := info_parts Tryz.infoI
  have BD : Hid (_) := bad_any w h vi l hi hlr hll (by have := fit.mg; omega) (fun i => (ok.aa i).2.1)
  have H : Hid (RI w B rb v m) := h
  have OK : Hid (m.Ok) := ok
  have FIT : Hid (m.Fit 600) := fit
  clear h ok fit hi hlr hll
  go_enter Tryz.func119, Tryz.ntmps119
  go_wp2_with fail
  refine Calls.mono BD.out ?_
  rintro e w1 ⟨vo, rfl, ho, hb1⟩
  obtain ⟨a, cap, g, rfl, _, _⟩ := own_shape2 ho
  have H1 : Hid (RI w1 B rb v m ∧ RS w w1 rb v v) := ⟨H.out.below hb1, RS.num (Tch.of_below hb1)⟩
  clear BD ho hb1 H
  by_cases hbad : m.bad l = []
  · have EQ : Hid (m.asked l = m.at_ 8) := RE.asked_0 hbad
    have AT : Hid (_) := at_all 8 w1 H1.out.1 OK.out (FIT.out.less (by omega)) (by omega) (by omega) (by omega)
    have hz : (m.bad l).length = 0 := by rw [hbad]; rfl
    rw [hz]
    clear hbad hz
    go_wp2_with fail
    refine Calls.mono AT.out ?_
    rintro e w2 ⟨rfl, v2, h2, t2⟩
    have H2 : Hid (_) := And.intro h2 t2
    clear h2 t2 AT
    go_wp2_with fail
    go_ret
    rw [EQ.out]
    exact ⟨rfl, v2, H2.out.1, H1.out.2.trans H2.out.2⟩
  · have hz : 0 < (m.bad l).length := List.length_pos_iff.2 hbad
    have HB : Hid (m.bad l ≠ []) := hbad
    generalize (m.bad l).length = nb at *
    obtain ⟨O, hO⟩ : ∃ O, O = m.ownF l := ⟨_, rfl⟩
    rw [← hO]
    have HO : Hid (O = m.ownF l) := hO
    obtain ⟨A, hA⟩ : ∃ A, A = m.ans := ⟨_, rfl⟩
    have HA : Hid (A = m.ans) := hA
    have c7 : w1.cell? ⟨rb, 7, none⟩ = some (.int .i64 (m.st : Int)) := blk_cell H1.out.1.blk
    have hzI : ((nb : Int) == 0) = false := by simp; omega
    clear hbad hO hA
    go_upto_region 4 with fail
    go_cut [7] (fun x wx => x = .bool A ∧ ∃ n, wx = w1.drewN n)
    case first =>
      rcases (by omega : m.st = 3 ∨ (m.st ≠ 3 ∧ 6 ≤ m.st) ∨ (m.st ≠ 3 ∧ ¬ 6 ≤ m.st)) with q | ⟨q, q6⟩ | ⟨q, q6⟩
      · have hA : A = true := by rw [HA.out, RE.ans_iff]; omega
        rw [q] at c7
        have c7' : w1.cell? ⟨rb, 7, none⟩ = some (.int .i64 3) := c7
        clear c7
        go_wp2_with fail
        go_meet
        exact ⟨by rw [hA], 0, rfl⟩
      · have hA : A = true := by rw [HA.out, RE.ans_iff]; omega
        have h3 : ((m.st : Int) == 3) = false := by simp; omega
        have h6 : 6 ≤ (m.st : Int) := by omega
        go_wp2_with fail
        go_meet
        exact ⟨by rw [hA], 0, rfl⟩
      · have hA : A = false := by rw [HA.out, ← Bool.not_eq_true, RE.ans_iff]; omega
        have h3 : ((m.st : Int) == 3) = false := by simp; omega
        have h6 : ¬ 6 ≤ (m.st : Int) := by omega
        go_wp2_with fail
        go_meet
        exact ⟨by rw [hA], 0, rfl⟩
    case rest =>
      obtain ⟨rfl, nd, rfl⟩ := hcut
      have bD : Below w1.heap.size w1 (w1.drewN nd) := below_drewN (Below.refl _ _) nd
      have HR : Hid (RI (w1.drewN nd) B rb v m ∧ RS w (w1.drewN nd) rb v v) := ⟨H1.out.1.below bD, H1.out.2.trans (RS.num (Tch.of_below bD))⟩
      clear bD c7 H1
      generalize w1.drewN nd = wc at *
      have c20 : wc.cell? ⟨rb, 20, none⟩ = some (.int .i64 (m.naks : Int)) := blk_cell HR.out.1.blk
      have c21 : wc.cell? ⟨rb, 21, none⟩ = some (.int .i64 (m.loops : Int)) := blk_cell HR.out.1.blk
      have f21 : wc.frozen? ⟨rb, 21, none⟩ = false := blk_free HR.out.1.blk
      have hlp := FIT.out.lp
      have hw1 : IntKind.i64.wrap ((m.loops : Int) + 1) = (m.loops : Int) + 1 := wrap_in (by omega) (by omega)
      cases A
      · have EQ : Hid (m.asked l = m.at_ 9) := RE.asked_x HB.out (fun e => by have := m.ans_iff.2 e; rw [← HA.out] at this; exact absurd this (by simp))
        have AT : Hid (_) := at_all (m := m) 9 _ HR.out.1 OK.out (FIT.out.less (by omega)) (by omega) (by omega) (by omega)
        go_wp2_with fail
        refine Calls.mono AT.out ?_
        rintro e w2 ⟨rfl, v2, h2, t2⟩
        have H2 : Hid (_) := And.intro h2 t2
        clear h2 t2 AT
        go_wp2_with fail
        go_ret
        rw [EQ.out]
        exact ⟨rfl, v2, H2.out.1, HR.out.2.trans H2.out.2⟩
      · have HAA : Hid (m.st = 3 ∨ 6 ≤ m.st) := m.ans_iff.1 HA.out.symm
        cases O
        · by_cases hn : 20 ≤ m.naks
          · have hnI : 20 ≤ (m.naks : Int) := by omega
            have EQ : Hid (_) := RE.asked_n5 HB.out HAA.out HO.out.symm hn
            have FIT2 : Hid ({ m with told := m.told ++ [5] }.Fit 500) := by
              obtain ⟨a1, a2, a3, a4, a5, a6, a7, a8, a9⟩ := FIT.out
              exact ⟨by simp; omega, by simp; omega, by simp; omega, a4, by simp; omega, by simp; omega, by simp; omega, by simp; omega, by simp; omega⟩
            obtain ⟨ta, tcap, tg, tv, _, _, _⟩ := own_shape HR.out.1.ot
            have TV : Hid (v.vt = .slice ta m.told.length tcap) := tv
            have c8 : wc.cell? ⟨rb, 8, none⟩ = some (.slice ta m.told.length tcap) := (blk_cell HR.out.1.blk).trans (by rw [← TV.out]; rfl)
            have OT : Hid (wc.ownsRow B 3 1 (.slice ta m.told.length tcap) m.told.length (m.told.map iv)) := by
              have := HR.out.1.ot
              rw [tv] at this; exact this
            have HT1 : Hid ((Value.slice ta m.told.length tcap).ownBlock ≠ some rb) := by have := HR.out.1.t1; rw [tv] at this; exact this
            have hrb : rb < wc.heap.size := blk_lt HR.out.1.blk
            have hB : B ≤ wc.heap.size := Nat.le_trans HR.out.1.ge (Nat.le_of_lt hrb)
            have hfl := FIT.out.told
            have HB0 : Hid (wc.heap[rb]? = some (.cells ((m).cell v) 129 (0, 0))) := HR.out.1.blk
            clear tv
            go_wp2_with (at_builtin; go_must (refine wpList_append_lies _ rfl (.tmp 70) (.tmp 71) 28 rfl B 3 j0 (.int .i64 0) 1 8 Tryz.underlying28 hj hy0 hy1 hy2 rfl (by decide) _ m.told.length (m.told.map iv) rfl (OT.out.alloc _) ⟨wc.heap.size, 0, none⟩ 1 1 [.int .i64 5] rfl rfl (cell_one_i _ _ _) (by intro u hu; simp at hu; subst hu; rfl) (by omega) (by unfold maxLen; omega) (by omega) (by simp; omega) _ rfl ?_; intro gv capv w5 hown5 hgrow5 hat5 hlt5; have bb : w5.heap[rb]? = some (.cells ((m).cell v) 129 (0, 0)) := ((tch_grown hgrow5).block rb hrb (fun e => HT1.out e)).trans HB0.out; have e8 : w5.cell? ⟨rb, 8, none⟩ = some (.slice ta m.told.length tcap) := (blk_cell bb).trans (by rw [← TV.out]; rfl); have f8 : w5.frozen? ⟨rb, 8, none⟩ = false := blk_free bb))
            have hh := HR.out.1.tell (x := 5) hown5 (by rw [TV.out]; exact hgrow5) (by rw [TV.out]; exact hat5.elim .inl (fun e => .inr (e.trans (by simp))))
            have H6 : Hid (_) := And.intro hh.1 (HR.out.2.trans hh.2)
            clear hh hown5 hgrow5 hat5 hlt5 bb e8 f8 OT HT1 HB0
            refine Calls.mono (at_all 4 _ H6.out.1 ⟨OK.out.st, OK.out.id, OK.out.odd, OK.out.k0, OK.out.k1, OK.out.k2, OK.out.pc, OK.out.pi, OK.out.pd, OK.out.mg, OK.out.ms, OK.out.aa, OK.out.ww⟩ FIT2.out (by omega) (by omega) (by omega)) ?_
            rintro e w2 ⟨rfl, v2, h2, t2⟩
            have H2 : Hid (_) := And.intro h2 t2
            clear h2 t2
            go_wp2_with fail
            go_ret
            rw [EQ.out]
            exact ⟨rfl, v2, H2.out.1, H6.out.2.trans H2.out.2⟩
          · have hnI : ¬ 20 ≤ (m.naks : Int) := by omega
            have EQ : Hid (_) := RE.asked_n9 HB.out HO.out.symm hn
            have AT : Hid (_) := at_all (m := m) 9 _ HR.out.1 OK.out (FIT.out.less (by omega)) (by omega) (by omega) (by omega)
            go_wp2_with fail
            refine Calls.mono AT.out ?_
            rintro e w2 ⟨rfl, v2, h2, t2⟩
            have H2 : Hid (_) := And.intro h2 t2
            clear h2 t2 AT
            go_wp2_with fail
            go_ret
            rw [EQ.out]
            exact ⟨rfl, v2, H2.out.1, HR.out.2.trans H2.out.2⟩
        · have t21 : Tch (fun b => b = rb) wc (wc.setCell ⟨rb, 21, none⟩ (.int .i64 ((m.loops : Int) + 1))) := tset _ _ _ _
          have b21 := blk_set (k := 21) (x := .int .i64 ((m.loops : Int) + 1)) HR.out.1.blk
          have r21 : RI (wc.setCell ⟨rb, 21, none⟩ (.int .i64 ((m.loops : Int) + 1))) B rb v { m with loops := m.loops + 1 } := HR.out.1.num b21 t21 rfl rfl rfl
          have H7 : Hid (_) := And.intro r21 (HR.out.2.trans (RS.num t21))
          have d20 : (wc.setCell ⟨rb, 21, none⟩ (.int .i64 ((m.loops : Int) + 1))).cell? ⟨rb, 20, none⟩ = some (.int .i64 (m.naks : Int)) := blk_cell r21.blk
          have d21 : (wc.setCell ⟨rb, 21, none⟩ (.int .i64 ((m.loops : Int) + 1))).cell? ⟨rb, 21, none⟩ = some (.int .i64 ((m.loops : Int) + 1)) := blk_cell r21.blk
          clear t21 b21 r21
          go_upto_region 7 with fail
          generalize wc.setCell ⟨rb, 21, none⟩ (.int .i64 ((m.loops : Int) + 1)) = W7 at *
          clear c20 c21 f21 hw1 HR
          by_cases hl : 3 < m.loops + 1
          · have hlI : 3 < (m.loops : Int) + 1 := by omega
            have EQ : Hid (_) := RE.asked_6 HB.out HAA.out HO.out.symm hl
            have FIT2 : Hid ({ m with loops := m.loops + 1, told := m.told ++ [6] }.Fit 500) := by
              obtain ⟨a1, a2, a3, a4, a5, a6, a7, a8, a9⟩ := FIT.out
              exact ⟨by simp; omega, by simp; omega, by simp; omega, a4, by simp; omega, by simp; omega, by simp; omega, by simp; omega, by simp; omega⟩
            obtain ⟨ta, tcap, tg, tv, _, _, _⟩ := own_shape H7.out.1.ot
            have TV : Hid (v.vt = .slice ta m.told.length tcap) := tv
            have c8 : W7.cell? ⟨rb, 8, none⟩ = some (.slice ta m.told.length tcap) := (blk_cell H7.out.1.blk).trans (by rw [← TV.out]; rfl)
            have OT : Hid (W7.ownsRow B 3 1 (.slice ta m.told.length tcap) m.told.length (m.told.map iv)) := by
              have := H7.out.1.ot
              rw [tv] at this; exact this
            have HT1 : Hid ((Value.slice ta m.told.length tcap).ownBlock ≠ some rb) := by have := H7.out.1.t1; rw [tv] at this; exact this
            have hrb : rb < W7.heap.size := blk_lt H7.out.1.blk
            have hB : B ≤ W7.heap.size := Nat.le_trans H7.out.1.ge (Nat.le_of_lt hrb)
            have hfl := FIT.out.told
            have HB0 : Hid (W7.heap[rb]? = some (.cells (({ m with loops := m.loops + 1 }).cell v) 129 (0, 0))) := H7.out.1.blk
            clear tv
            go_wp2_with (at_builtin; go_must (refine wpList_append_lies _ rfl (.tmp 51) (.tmp 52) 28 rfl B 3 j0 (.int .i64 0) 1 8 Tryz.underlying28 hj hy0 hy1 hy2 rfl (by decide) _ m.told.length (m.told.map iv) rfl (OT.out.alloc _) ⟨W7.heap.size, 0, none⟩ 1 1 [.int .i64 6] rfl rfl (cell_one_i _ _ _) (by intro u hu; simp at hu; subst hu; rfl) (by omega) (by unfold maxLen; omega) (by omega) (by simp; omega) _ rfl ?_; intro gv capv w5 hown5 hgrow5 hat5 hlt5; have bb : w5.heap[rb]? = some (.cells (({ m with loops := m.loops + 1 }).cell v) 129 (0, 0)) := ((tch_grown hgrow5).block rb hrb (fun e => HT1.out e)).trans HB0.out; have e8 : w5.cell? ⟨rb, 8, none⟩ = some (.slice ta m.told.length tcap) := (blk_cell bb).trans (by rw [← TV.out]; rfl); have f8 : w5.frozen? ⟨rb, 8, none⟩ = false := blk_free bb))
            have hh := H7.out.1.tell (x := 6) hown5 (by rw [TV.out]; exact hgrow5) (by rw [TV.out]; exact hat5.elim .inl (fun e => .inr (e.trans (by simp))))
            have H6 : Hid (_) := And.intro hh.1 (H7.out.2.trans hh.2)
            clear hh hown5 hgrow5 hat5 hlt5 bb e8 f8 OT HT1 HB0
            refine Calls.mono (at_all 4 _ H6.out.1 ⟨OK.out.st, OK.out.id, OK.out.odd, OK.out.k0, OK.out.k1, OK.out.k2, OK.out.pc, OK.out.pi, OK.out.pd, OK.out.mg, OK.out.ms, OK.out.aa, OK.out.ww⟩ FIT2.out (by omega) (by omega) (by omega)) ?_
            rintro e w2 ⟨rfl, v2, h2, t2⟩
            have H2 : Hid (_) := And.intro h2 t2
            clear h2 t2
            go_wp2_with fail
            go_ret
            rw [EQ.out]
            exact ⟨rfl, v2, H2.out.1, H6.out.2.trans H2.out.2⟩
          · have hlI : ¬ 3 < (m.loops : Int) + 1 := by omega
            by_cases hn : 20 ≤ m.naks
            · have hnI : 20 ≤ (m.naks : Int) := by omega
              have EQ : Hid (_) := RE.asked_o5 HB.out HAA.out HO.out.symm hl hn
              have FIT2 : Hid ({ m with loops := m.loops + 1, told := m.told ++ [5] }.Fit 500) := by
                obtain ⟨a1, a2, a3, a4, a5, a6, a7, a8, a9⟩ := FIT.out
                exact ⟨by simp; omega, by simp; omega, by simp; omega, a4, by simp; omega, by simp; omega, by simp; omega, by simp; omega, by simp; omega⟩
              obtain ⟨ta, tcap, tg, tv, _, _, _⟩ := own_shape H7.out.1.ot
              have TV : Hid (v.vt = .slice ta m.told.length tcap) := tv
              have c8 : W7.cell? ⟨rb, 8, none⟩ = some (.slice ta m.told.length tcap) := (blk_cell H7.out.1.blk).trans (by rw [← TV.out]; rfl)
              have OT : Hid (W7.ownsRow B 3 1 (.slice ta m.told.length tcap) m.told.length (m.told.map iv)) := by
                have := H7.out.1.ot
                rw [tv] at this; exact this
              have HT1 : Hid ((Value.slice ta m.told.length tcap).ownBlock ≠ some rb) := by have := H7.out.1.t1; rw [tv] at this; exact this
              have hrb : rb < W7.heap.size := blk_lt H7.out.1.blk
              have hB : B ≤ W7.heap.size := Nat.le_trans H7.out.1.ge (Nat.le_of_lt hrb)
              have hfl := FIT.out.told
              have HB0 : Hid (W7.heap[rb]? = some (.cells (({ m with loops := m.loops + 1 }).cell v) 129 (0, 0))) := H7.out.1.blk
              clear tv
              go_wp2_with (at_builtin; go_must (refine wpList_append_lies _ rfl (.tmp 70) (.tmp 71) 28 rfl B 3 j0 (.int .i64 0) 1 8 Tryz.underlying28 hj hy0 hy1 hy2 rfl (by decide) _ m.told.length (m.told.map iv) rfl (OT.out.alloc _) ⟨W7.heap.size, 0, none⟩ 1 1 [.int .i64 5] rfl rfl (cell_one_i _ _ _) (by intro u hu; simp at hu; subst hu; rfl) (by omega) (by unfold maxLen; omega) (by omega) (by simp; omega) _ rfl ?_; intro gv capv w5 hown5 hgrow5 hat5 hlt5; have bb : w5.heap[rb]? = some (.cells (({ m with loops := m.loops + 1 }).cell v) 129 (0, 0)) := ((tch_grown hgrow5).block rb hrb (fun e => HT1.out e)).trans HB0.out; have e8 : w5.cell? ⟨rb, 8, none⟩ = some (.slice ta m.told.length tcap) := (blk_cell bb).trans (by rw [← TV.out]; rfl); have f8 : w5.frozen? ⟨rb, 8, none⟩ = false := blk_free bb))
              have hh := H7.out.1.tell (x := 5) hown5 (by rw [TV.out]; exact hgrow5) (by rw [TV.out]; exact hat5.elim .inl (fun e => .inr (e.trans (by simp))))
              have H6 : Hid (_) := And.intro hh.1 (H7.out.2.trans hh.2)
              clear hh hown5 hgrow5 hat5 hlt5 bb e8 f8 OT HT1 HB0
              refine Calls.mono (at_all 4 _ H6.out.1 ⟨OK.out.st, OK.out.id, OK.out.odd, OK.out.k0, OK.out.k1, OK.out.k2, OK.out.pc, OK.out.pi, OK.out.pd, OK.out.mg, OK.out.ms, OK.out.aa, OK.out.ww⟩ FIT2.out (by omega) (by omega) (by omega)) ?_
              rintro e w2 ⟨rfl, v2, h2, t2⟩
              have H2 : Hid (_) := And.intro h2 t2
              clear h2 t2
              go_wp2_with fail
              go_ret
              rw [EQ.out]
              exact ⟨rfl, v2, H2.out.1, H6.out.2.trans H2.out.2⟩
            · have hnI : ¬ 20 ≤ (m.naks : Int) := by omega
              have EQ : Hid (_) := RE.asked_o9 HB.out HAA.out HO.out.symm hl hn
              have FIT2 : Hid ({ m with loops := m.loops + 1 }.Fit 500) := by
                obtain ⟨a1, a2, a3, a4, a5, a6, a7, a8, a9⟩ := FIT.out
                exact ⟨by simp; omega, by simp; omega, by simp; omega, a4, by simp; omega, by simp; omega, by simp; omega, by simp; omega, by simp; omega⟩
              have AT : Hid (_) := at_all (m := { m with loops := m.loops + 1 }) 9 _ H7.out.1 ⟨OK.out.st, OK.out.id, OK.out.odd, OK.out.k0, OK.out.k1, OK.out.k2, OK.out.pc, OK.out.pi, OK.out.pd, OK.out.mg, OK.out.ms, OK.out.aa, OK.out.ww⟩ FIT2.out (by omega) (by omega) (by omega)
              go_wp2_with fail
              refine Calls.mono AT.out ?_
              rintro e w2 ⟨rfl, v2, h2, t2⟩
              have H2 : Hid (_) := And.intro h2 t2
              clear h2 t2 AT
              go_wp2_with fail
              go_ret
              rw [EQ.out]
              exact ⟨rfl, v2, H2.out.1, H7.out.2.trans H2.out.2⟩
end Go.Proofs.YtoeihlgidakjbaaGreatDoor

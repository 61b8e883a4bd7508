/- The reference's receive: what a packet does. What bytes from the line keep of an end's numbers: plain mathematics. What is gathered stays, whatever an end is told: plain mathematics. -/
import Derived.Test.YtoeihlgidakjbaaGreatDoorEa37
import Derived.Test.YtoeihlgidakjbaaGreatDoorEa7
namespace Go.Proofs.YtoeihlgidakjbaaGreatDoor
open Go.RowKit Go.Lib
set_option maxRecDepth 100000 in
set_option maxHeartbeats 4000000 in
theorem receive_any {B rb : Nat} {v : RV} {m : RE} (w : World) (h : RI w B rb v m) (ok : m.Ok) (fit : m.Fit 2000) (hml : m.mg.length ≤ 16000000000000) :
    Calls Tryz.prog 84 #[.pointer (some ⟨rb, 0, none⟩)] w fun r w' => r = .returned (.string ⟨m.receive.2.toArray⟩) ∧ ∃ v', RI w' B rb v' m.receive.1 ∧ RS w w' rb v v' := by
  have H : Hid (RI w B rb v m) := h
  have OK : Hid (m.Ok) := ok
  have FIT : Hid (m.Fit 2000) := fit
  have hpd := ok.pd
  have c19 : w.cell? ⟨rb, 19, none⟩ = some (.string ⟨m.pd.toArray⟩) := blk_cell h.blk
  have hpc := ok.pc
  clear h ok fit
  go_enter Tryz.func84, Tryz.ntmps84
  go_upto_region 1 with fail
  go_wp2_with fail
  refine (items_any ⟨m.pd.toArray⟩ w (by rw [bsz]; simp; omega)).mono ?_
  rintro e w1 ⟨hb1, hR⟩
  obtain ⟨l, vl, bl, hl, rfl, hi1, hrng⟩ : ∃ l vl bl, itemsL m.pd = (if bl then some l else none) ∧ e = .returned (.tuple #[vl, .bool bl]) ∧ w1.ownsRow w.heap.size 151 2 vl l.length (itemC l) ∧ ∀ x ∈ l, 1 ≤ x.1 ∧ x.1 ≤ 4 ∧ x.2 < 65536 := by
    rcases hR with ⟨h1, h2⟩ | ⟨l, v, h1, h2, h3⟩
    · exact ⟨[], _, _, by rw [show itemsL m.pd = none from h1]; rfl, h2, World.ownsRow_nil _ _ _ _, by simp⟩
    · exact ⟨l, _, _, by rw [show itemsL m.pd = some l from h1]; rfl, h2, h3, itemsAux_rng _ _ _ h1⟩
  have hll : bl = true → l.length ≤ 40 := by
    intro hbl
    rw [hbl] at hl
    exact Nat.le_trans (itemsAux_len _ _ _ hl) hpd
  obtain ⟨al, cl, gl, rfl, hal, _⟩ := own_shape2 hi1
  have HI : Hid (ItemsIn w1 (.slice al l.length cl) l ∧ (∀ x ∈ l, 1 ≤ x.1 ∧ x.1 ≤ 4 ∧ x.2 < 65536) ∧ itemsL m.pd = (if bl then some l else none)) := ⟨itemsIn_own hi1, hrng, hl⟩
  have HSP : Hid (∀ b, (Value.slice al l.length cl).ownBlock = some b → ¬ v.in_ rb b) := by
    show ∀ b, _
    intro b hb hin
    have hlt := (H.out.lt b (.inl hin)).2
    rcases hi1.2 with ⟨e, _⟩ | ⟨g, cap, cur, e, hg, _⟩
    · rw [e] at hb; simp [Value.ownBlock] at hb
    · rw [e] at hb; simp only [Value.ownBlock, Option.some.injEq] at hb; omega
  have H1 : Hid (RI w1 B rb v m ∧ RS w w1 rb v v) := ⟨H.out.below hb1, RS.num (Tch.of_below hb1)⟩
  have c17 : w1.cell? ⟨rb, 17, none⟩ = some (.int .i64 (m.pc : Int)) := blk_cell H1.out.1.blk
  have c18 : w1.cell? ⟨rb, 18, none⟩ = some (.int .i64 (m.pi : Int)) := blk_cell H1.out.1.blk
  have d19 : w1.cell? ⟨rb, 19, none⟩ = some (.string ⟨m.pd.toArray⟩) := blk_cell H1.out.1.blk
  have c14 : w1.cell? ⟨rb, 14, none⟩ = some (.string ⟨m.sent.toArray⟩) := blk_cell H1.out.1.blk
  have c15 : w1.cell? ⟨rb, 15, none⟩ = some (.int .i64 m.sid) := blk_cell H1.out.1.blk
  clear hi1 hrng hR hb1 hl c19 hal H
  by_cases p5 : m.pc = 5
  · have EQ : Hid (m.receive = m.at_ 12) := by show _ = _; unfold RE.receive; rw [p5]; rfl
    rw [p5] at c17
    have c17' : w1.cell? ⟨rb, 17, none⟩ = some (.int .i64 5) := c17
    clear c17
    go_wp2_with fail
    refine Calls.mono (at_all (m := m) 12 w1 H1.out.1 OK.out (FIT.out.less (by omega)) (by omega) (by omega) (by omega)) ?_
    rintro e w2 ⟨rfl, v2, h2, t2⟩
    have H2 : Hid (_) := And.intro h2 t2
    clear h2 t2
    go_wp2_with fail
    go_ret
    rw [EQ.out]
    exact ⟨rfl, v2, H2.out.1, H1.out.2.trans H2.out.2⟩
  by_cases p6 : m.pc = 6
  · have EQ : Hid (m.receive = m.at_ 13) := by show _ = _; unfold RE.receive; rw [p6]; rfl
    rw [p6] at c17
    have c17' : w1.cell? ⟨rb, 17, none⟩ = some (.int .i64 6) := c17
    clear c17
    go_wp2_with fail
    refine Calls.mono (at_all (m := m) 13 w1 H1.out.1 OK.out (FIT.out.less (by omega)) (by omega) (by omega) (by omega)) ?_
    rintro e w2 ⟨rfl, v2, h2, t2⟩
    have H2 : Hid (_) := And.intro h2 t2
    clear h2 t2
    go_wp2_with fail
    go_ret
    rw [EQ.out]
    exact ⟨rfl, v2, H2.out.1, H1.out.2.trans H2.out.2⟩
  by_cases p9 : m.pc = 9
  · have EQ : Hid (m.receive = m.at_ 17) := by show _ = _; unfold RE.receive; rw [p9]; rfl
    rw [p9] at c17
    have c17' : w1.cell? ⟨rb, 17, none⟩ = some (.int .i64 9) := c17
    clear c17
    go_wp2_with fail
    refine Calls.mono (at_all (m := m) 17 w1 H1.out.1 OK.out (FIT.out.less (by omega)) (by omega) (by omega) (by omega)) ?_
    rintro e w2 ⟨rfl, v2, h2, t2⟩
    have H2 : Hid (_) := And.intro h2 t2
    clear h2 t2
    go_wp2_with fail
    go_ret
    rw [EQ.out]
    exact ⟨rfl, v2, H2.out.1, H1.out.2.trans H2.out.2⟩
  by_cases p10 : m.pc = 10
  · have EQ : Hid (m.receive = (m, [])) := by show _ = _; unfold RE.receive; rw [p10]; rfl
    rw [p10] at c17
    have c17' : w1.cell? ⟨rb, 17, none⟩ = some (.int .i64 10) := c17
    clear c17
    go_wp2_with fail
    go_ret
    rw [EQ.out]
    exact ⟨rfl, v, H1.out.1, H1.out.2⟩
  by_cases p1 : m.pc = 1
  · rw [p1] at c17
    have c17' : w1.cell? ⟨rb, 17, none⟩ = some (.int .i64 1) := c17
    have P1 : Hid (m.pc = 1) := p1
    clear c17
    cases bl
    · have EQ : Hid (m.receive = (m, [])) := by show _ = _; unfold RE.receive; rw [P1.out, HI.out.2.2]; rfl
      go_wp2_with fail
      go_ret
      rw [EQ.out]
      exact ⟨rfl, v, H1.out.1, H1.out.2⟩
    · by_cases h4 : l.length = 4
      · have EQ : Hid (m.receive = m.asked l) := by show _ = _; unfold RE.receive; rw [P1.out, HI.out.2.2]; simp [h4]
        have AS : Hid (_) := rasked_any w1 H1.out.1 OK.out (FIT.out.less (by omega)) _ l HI.out.1 HI.out.2.1 (by omega)
        rw [h4] at AS ⊢
        go_wp2_with fail
        refine Calls.mono AS.out ?_
        rintro e w2 ⟨rfl, v2, h2, t2⟩
        have H2 : Hid (_) := And.intro h2 t2
        clear h2 t2 AS
        go_wp2_with fail
        go_ret
        rw [EQ.out]
        exact ⟨rfl, v2, H2.out.1, H1.out.2.trans H2.out.2⟩
      · have EQ : Hid (m.receive = (m, [])) := by show _ = _; unfold RE.receive; rw [P1.out, HI.out.2.2]; simp [h4]
        have hne : ((l.length : Int) == 4) = false := by simp; omega
        have hne2 : ((l.length : Int) != 4) = true := by simp; omega
        go_wp2_with fail
        go_ret
        rw [EQ.out]
        exact ⟨rfl, v, H1.out.1, H1.out.2⟩
  by_cases p7 : m.pc = 7
  · rw [p7] at c17
    have c17' : w1.cell? ⟨rb, 17, none⟩ = some (.int .i64 7) := c17
    have P7 : Hid (m.pc = 7) := p7
    clear c17
    cases hd : m.pd with
    | nil =>
      have EQ : Hid (m.receive = (m, [])) := by show _ = _; unfold RE.receive; rw [P7.out, hd]; rfl
      rw [hd] at d19
      have e19 : w1.cell? ⟨rb, 19, none⟩ = some (.string ⟨#[]⟩) := d19
      clear d19
      go_wp2_with fail
      go_ret
      rw [EQ.out]
      exact ⟨rfl, v, H1.out.1, H1.out.2⟩
    | cons c r =>
      rw [hd] at d19
      go_upto_region 24 with fail
      have e0 : ∀ h, (⟨(c :: r).toArray⟩ : ByteArray)[0]'h = c := fun _ => rfl
      rw [e0]
      obtain ⟨C, hC⟩ : ∃ C, C = c.toNat := ⟨_, rfl⟩
      have EQ0 : Hid (m.receive = if C = 1 ∨ C = 2 ∨ C = 3 ∨ C = 5 ∨ C = 6 then m.at_ 16 else m.at_ 15) := by show _ = _; unfold RE.receive; rw [P7.out, hd, hC]; rfl
      rw [← hC]
      clear hC e0
      by_cases e1 : C = 1
      · have EQ : Hid (m.receive = m.at_ 16) := by show _ = _; rw [EQ0.out, if_pos (by omega)]
        have g1 : ((C : Int) == 1) = true := by simp; omega
        go_wp2_with fail
        refine Calls.mono (at_all (m := m) 16 w1 H1.out.1 OK.out (FIT.out.less (by omega)) (by omega) (by omega) (by omega)) ?_
        rintro e w2 ⟨rfl, v2, h2, t2⟩
        have H2 : Hid (_) := And.intro h2 t2
        clear h2 t2
        go_wp2_with fail
        go_ret
        rw [EQ.out]
        exact ⟨rfl, v2, H2.out.1, H1.out.2.trans H2.out.2⟩
      have g1 : ((C : Int) == 1) = false := by simp; omega
      by_cases e2 : C = 2
      · have EQ : Hid (m.receive = m.at_ 16) := by show _ = _; rw [EQ0.out, if_pos (by omega)]
        have g2 : ((C : Int) == 2) = true := by simp; omega
        go_wp2_with fail
        refine Calls.mono (at_all (m := m) 16 w1 H1.out.1 OK.out (FIT.out.less (by omega)) (by omega) (by omega) (by omega)) ?_
        rintro e w2 ⟨rfl, v2, h2, t2⟩
        have H2 : Hid (_) := And.intro h2 t2
        clear h2 t2
        go_wp2_with fail
        go_ret
        rw [EQ.out]
        exact ⟨rfl, v2, H2.out.1, H1.out.2.trans H2.out.2⟩
      have g2 : ((C : Int) == 2) = false := by simp; omega
      by_cases e3 : C = 3
      · have EQ : Hid (m.receive = m.at_ 16) := by show _ = _; rw [EQ0.out, if_pos (by omega)]
        have g3 : ((C : Int) == 3) = true := by simp; omega
        go_wp2_with fail
        refine Calls.mono (at_all (m := m) 16 w1 H1.out.1 OK.out (FIT.out.less (by omega)) (by omega) (by omega) (by omega)) ?_
        rintro e w2 ⟨rfl, v2, h2, t2⟩
        have H2 : Hid (_) := And.intro h2 t2
        clear h2 t2
        go_wp2_with fail
        go_ret
        rw [EQ.out]
        exact ⟨rfl, v2, H2.out.1, H1.out.2.trans H2.out.2⟩
      have g3 : ((C : Int) == 3) = false := by simp; omega
      by_cases e5 : C = 5
      · have EQ : Hid (m.receive = m.at_ 16) := by show _ = _; rw [EQ0.out, if_pos (by omega)]
        have g5 : ((C : Int) == 5) = true := by simp; omega
        go_wp2_with fail
        refine Calls.mono (at_all (m := m) 16 w1 H1.out.1 OK.out (FIT.out.less (by omega)) (by omega) (by omega) (by omega)) ?_
        rintro e w2 ⟨rfl, v2, h2, t2⟩
        have H2 : Hid (_) := And.intro h2 t2
        clear h2 t2
        go_wp2_with fail
        go_ret
        rw [EQ.out]
        exact ⟨rfl, v2, H2.out.1, H1.out.2.trans H2.out.2⟩
      have g5 : ((C : Int) == 5) = false := by simp; omega
      by_cases e6 : C = 6
      · have EQ : Hid (m.receive = m.at_ 16) := by show _ = _; rw [EQ0.out, if_pos (by omega)]
        have g6 : ((C : Int) == 6) = true := by simp; omega
        go_wp2_with fail
        refine Calls.mono (at_all (m := m) 16 w1 H1.out.1 OK.out (FIT.out.less (by omega)) (by omega) (by omega) (by omega)) ?_
        rintro e w2 ⟨rfl, v2, h2, t2⟩
        have H2 : Hid (_) := And.intro h2 t2
        clear h2 t2
        go_wp2_with fail
        go_ret
        rw [EQ.out]
        exact ⟨rfl, v2, H2.out.1, H1.out.2.trans H2.out.2⟩
      have g6 : ((C : Int) == 6) = false := by simp; omega
      have EQ : Hid (m.receive = m.at_ 15) := by show _ = _; rw [EQ0.out, if_neg (by omega)]
      go_wp2_with fail
      refine Calls.mono (at_all (m := m) 15 w1 H1.out.1 OK.out (FIT.out.less (by omega)) (by omega) (by omega) (by omega)) ?_
      rintro e w2 ⟨rfl, v2, h2, t2⟩
      have H2 : Hid (_) := And.intro h2 t2
      clear h2 t2
      go_wp2_with fail
      go_ret
      rw [EQ.out]
      exact ⟨rfl, v2, H2.out.1, H1.out.2.trans H2.out.2⟩
  by_cases p2 : m.pc = 2
  · rw [p2] at c17
    have c17' : w1.cell? ⟨rb, 17, none⟩ = some (.int .i64 2) := c17
    have P2 : Hid (m.pc = 2) := p2
    clear c17
    by_cases hs : (m.pi : Int) = m.sid
    · rw [← hs] at c15
      by_cases hd : m.pd = m.sent
      · have EQ : Hid (m.receive = m.at_ 10) := by show _ = _; unfold RE.receive; rw [P2.out, ← hs, ← hd]; simp
        rw [← hd] at c14
        go_upto_region 8 with fail
        go_quiet (fail)
        have bQ : Below w1.heap.size w1 (w1.drewN nq) := below_drewN (Below.refl _ _) nq
        have HQ : Hid (RI (w1.drewN nq) B rb v m ∧ RS w (w1.drewN nq) rb v v) := ⟨H1.out.1.below bQ, H1.out.2.trans (RS.num (Tch.of_below bQ))⟩
        go_wp2_with fail
        refine Calls.mono (at_all (m := m) 10 _ HQ.out.1 OK.out (FIT.out.less (by omega)) (by omega) (by omega) (by omega)) ?_
        rintro e w2 ⟨rfl, v2, h2, t2⟩
        have H2 : Hid (_) := And.intro h2 t2
        clear h2 t2
        go_wp2_with fail
        go_ret
        rw [EQ.out]
        exact ⟨rfl, v2, H2.out.1, HQ.out.2.trans H2.out.2⟩
      · have EQ : Hid (m.receive = (m, [])) := by show _ = _; unfold RE.receive; rw [P2.out]; simp [hd]
        have hne : (m.pd == m.sent) = false := by simpa using hd
        go_upto_region 8 with fail
        go_quiet (fail)
        have bQ : Below w1.heap.size w1 (w1.drewN nq) := below_drewN (Below.refl _ _) nq
        have HQ : Hid (RI (w1.drewN nq) B rb v m ∧ RS w (w1.drewN nq) rb v v) := ⟨H1.out.1.below bQ, H1.out.2.trans (RS.num (Tch.of_below bQ))⟩
        go_wp2_with fail
        go_ret
        rw [EQ.out]
        exact ⟨rfl, v, HQ.out.1, HQ.out.2⟩
    · have EQ : Hid (m.receive = (m, [])) := by show _ = _; unfold RE.receive; rw [P2.out]; simp [hs]
      have hsb : ((m.pi : Int) == m.sid) = false := by simpa using hs
      have hsn : ((m.pi : Int) != m.sid) = true := by simpa using hs
      go_upto_region 8 with fail
      go_quiet (fail)
      have bQ : Below w1.heap.size w1 (w1.drewN nq) := below_drewN (Below.refl _ _) nq
      have HQ : Hid (RI (w1.drewN nq) B rb v m ∧ RS w (w1.drewN nq) rb v v) := ⟨H1.out.1.below bQ, H1.out.2.trans (RS.num (Tch.of_below bQ))⟩
      go_wp2_with fail
      go_ret
      rw [EQ.out]
      exact ⟨rfl, v, HQ.out.1, HQ.out.2⟩
  by_cases p3 : m.pc = 3
  · rw [p3] at c17
    have c17' : w1.cell? ⟨rb, 17, none⟩ = some (.int .i64 3) := c17
    have P3 : Hid (m.pc = 3) := p3
    clear c17
    cases bl
    · have EQ : Hid (m.receive = (m, [])) := by show _ = _; unfold RE.receive; rw [P3.out, HI.out.2.2]; rfl
      go_upto_region 12 with fail
      go_quiet (fail)
      have bQ : Below w1.heap.size w1 (w1.drewN nq) := below_drewN (Below.refl _ _) nq
      have HQ : Hid (RI (w1.drewN nq) B rb v m ∧ RS w (w1.drewN nq) rb v v) := ⟨H1.out.1.below bQ, H1.out.2.trans (RS.num (Tch.of_below bQ))⟩
      go_wp2_with fail
      go_ret
      rw [EQ.out]
      exact ⟨rfl, v, HQ.out.1, HQ.out.2⟩
    · have hl40 := hll rfl
      by_cases h0 : l.length = 0
      · have EQ : Hid (m.receive = (m, [])) := by show _ = _; unfold RE.receive; rw [P3.out, HI.out.2.2, List.eq_nil_of_length_eq_zero h0]; simp
        rw [h0]
        go_upto_region 12 with fail
        go_quiet (fail)
        have bQ : Below w1.heap.size w1 (w1.drewN nq) := below_drewN (Below.refl _ _) nq
        have HQ : Hid (RI (w1.drewN nq) B rb v m ∧ RS w (w1.drewN nq) rb v v) := ⟨H1.out.1.below bQ, H1.out.2.trans (RS.num (Tch.of_below bQ))⟩
        go_wp2_with fail
        go_ret
        rw [EQ.out]
        exact ⟨rfl, v, HQ.out.1, HQ.out.2⟩
      · have hl0 : ((l.length : Int) == 0) = false := by simp; intro e; exact h0 (by rw [e]; rfl)
        have hln : l ≠ [] := fun e => h0 (by rw [e]; rfl)
        by_cases hs : (m.pi : Int) = m.sid
        · have EQ : Hid (m.receive = (m.takeAll l).at_ 11) := by show _ = _; unfold RE.receive; rw [P3.out, HI.out.2.2]; simp [hs, hln]
          rw [← hs] at c15
          go_upto_region 12 with fail
          go_quiet (fail)
          have bQ : Below w1.heap.size w1 (w1.drewN nq) := below_drewN (Below.refl _ _) nq
          have HQ : Hid (RI (w1.drewN nq) B rb v m ∧ RS w (w1.drewN nq) rb v v) := ⟨H1.out.1.below bQ, H1.out.2.trans (RS.num (Tch.of_below bQ))⟩
          go_wp2_with fail
          refine Calls.mono (named_any (m := m) _ HQ.out.1 OK.out hml _ l (HI.out.1.below bQ) HI.out.2.1 (by omega) HSP.out) ?_
          rintro e w3 ⟨rfl, v3, h3, t3⟩
          have H3 : Hid (RI w3 B rb v3 (m.takeAll l) ∧ RS w w3 rb v v3) := ⟨h3, HQ.out.2.trans t3⟩
          clear h3 t3
          go_wp2_with fail
          refine Calls.mono (at_all (m := m.takeAll l) 11 w3 H3.out.1 (RE.takeAll_ok l OK.out) (RE.takeAll_fit l (FIT.out.less (by omega))) (by omega) (by omega) (by omega)) ?_
          rintro e w2 ⟨rfl, v2, h2, t2⟩
          have H2 : Hid (_) := And.intro h2 t2
          clear h2 t2
          go_wp2_with fail
          go_ret
          rw [EQ.out]
          exact ⟨rfl, v2, H2.out.1, H3.out.2.trans H2.out.2⟩
        · have EQ : Hid (m.receive = (m, [])) := by show _ = _; unfold RE.receive; rw [P3.out, HI.out.2.2]; simp [hs]
          have hsb : ((m.pi : Int) == m.sid) = false := by simpa using hs
          have hsn : ((m.pi : Int) != m.sid) = true := by simpa using hs
          go_upto_region 12 with fail
          go_quiet (fail)
          have bQ : Below w1.heap.size w1 (w1.drewN nq) := below_drewN (Below.refl _ _) nq
          have HQ : Hid (RI (w1.drewN nq) B rb v m ∧ RS w (w1.drewN nq) rb v v) := ⟨H1.out.1.below bQ, H1.out.2.trans (RS.num (Tch.of_below bQ))⟩
          go_wp2_with fail
          go_ret
          rw [EQ.out]
          exact ⟨rfl, v, HQ.out.1, HQ.out.2⟩
  · have EQ : Hid (m.receive = m.at_ 14) := by show _ = _; unfold RE.receive; rw [if_neg p1, if_neg p2, if_neg p3, if_neg p5, if_neg p6, if_neg p7, if_neg p9, if_neg p10]
    have q1 : ((m.pc : Int) == 1) = false := by simp; omega
    have q2 : ((m.pc : Int) == 2) = false := by simp; omega
    have q3 : ((m.pc : Int) == 3) = false := by simp; omega
    have q5 : ((m.pc : Int) == 5) = false := by simp; omega
    have q6 : ((m.pc : Int) == 6) = false := by simp; omega
    have q7 : ((m.pc : Int) == 7) = false := by simp; omega
    have q9 : ((m.pc : Int) == 9) = false := by simp; omega
    have q10 : ((m.pc : Int) == 10) = false := by simp; omega
    go_wp2_with fail
    refine Calls.mono (at_all (m := m) 14 w1 H1.out.1 OK.out (FIT.out.less (by omega)) (by omega) (by omega) (by omega)) ?_
    rintro e w2 ⟨rfl, v2, h2, t2⟩
    have H2 : Hid (_) := And.intro h2 t2
    clear h2 t2
    go_wp2_with fail
    go_ret
    rw [EQ.out]
    exact ⟨rfl, v2, H2.out.1, H1.out.2.trans H2.out.2⟩
end Go.Proofs.YtoeihlgidakjbaaGreatDoor
namespace Go.Proofs.YtoeihlgidakjbaaGreatDoor
open Go.RowKit Go.Lib
namespace RE
def sc (m : RE) : Nat × Int × Int := (m.st, m.cnt, m.tim)
end RE
def scL (s : Nat × Int × Int) (c : Nat) : Nat × Int × Int :=
  if 48 ≤ c ∧ c ≤ 57 then (c - 48, s.2.1, s.2.2)
  else if c = 105 then (s.1, 5, s.2.2)
  else if c = 116 then (s.1, 2, s.2.2)
  else if c = 122 then (s.1, 0, 3)
  else if c = 114 ∨ c = 101 then (s.1, s.2.1 - 1, 3)
  else s
theorem RE.letter_sc (m : RE) (c : Nat) : (m.letter c).1.sc = scL m.sc c := by
  unfold RE.letter scL
  by_cases h : 48 ≤ c ∧ c ≤ 57
  · rw [if_pos h, if_pos h]; rfl
  · rw [if_neg h, if_neg h]
    have hn : m.nak.1.sc = m.sc := by
      obtain ⟨x, y, z, e, _⟩ := RE.nakItems_eq (m.bad ((itemsL m.pd).getD [])) m
      show RE.sc { (m.nakItems (m.bad ((itemsL m.pd).getD []))).1 with naks := _ } = _
      rw [e]; rfl
    unfold RE.act
    by_cases e117 : c = 117
    · subst e117; rfl
    rw [if_neg e117]
    by_cases e100 : c = 100
    · subst e100; rfl
    rw [if_neg e100]
    by_cases e98 : c = 98
    · subst e98; rfl
    rw [if_neg e98]
    by_cases e102 : c = 102
    · subst e102; rfl
    rw [if_neg e102]
    by_cases e105 : c = 105
    · subst e105; rfl
    rw [if_neg e105, if_neg e105]
    by_cases e116 : c = 116
    · subst e116; rfl
    rw [if_neg e116, if_neg e116]
    by_cases e122 : c = 122
    · subst e122; rfl
    rw [if_neg e122, if_neg e122]
    by_cases e114 : c = 114
    · subst e114; rfl
    rw [if_neg e114]
    by_cases e101 : c = 101
    · subst e101; rfl
    rw [if_neg e101, if_neg (show ¬ (c = 114 ∨ c = 101) by omega)]
    by_cases e97 : c = 97
    · subst e97; rfl
    rw [if_neg e97]
    by_cases e110 : c = 110
    · subst e110; exact hn
    rw [if_neg e110]
    by_cases e107 : c = 107
    · subst e107; rfl
    rw [if_neg e107]
    by_cases e106 : c = 106
    · subst e106; rfl
    rw [if_neg e106]
    by_cases e111 : c = 111
    · subst e111; rfl
    rw [if_neg e111]
theorem RE.run_sc (l : List Nat) (m : RE) : (m.run l).1.sc = l.foldl scL m.sc := by
  induction l generalizing m with
  | nil => rfl
  | cons c l ih =>
    show ((m.letter c).1.run l).1.sc = _
    rw [ih, RE.letter_sc]; rfl
def J (s : Nat × Int × Int) : Prop := 0 ≤ s.2.1 ∧ s.2.1 ≤ 5 ∧ 0 ≤ s.2.2 ∧ s.2.2 ≤ 3 ∧ ((s.1 = 7 ∨ s.1 = 9) → s.2.1 = 5)
theorem J_at (s : Nat × Int × Int) (h : J s) (ev : Nat) (hev : ev < 18) (h6 : ev = 6 → 0 < s.2.1) : J (((rowT ev).getD s.1 []).foldl scL s) := by
  obtain ⟨st, c, t⟩ := s
  by_cases hst : st < 10
  · obtain ⟨h1, h2, h3, h4, h5⟩ := h
    simp only at h1 h2 h3 h4 h5 h6 ⊢
    rcases (by omega : st = 0 ∨ st = 1 ∨ st = 2 ∨ st = 3 ∨ st = 4 ∨ st = 5 ∨ st = 6 ∨ st = 7 ∨ st = 8 ∨ st = 9) with rfl | rfl | rfl | rfl | rfl | rfl | rfl | rfl | rfl | rfl <;> rcases (by omega : ev = 0 ∨ ev = 1 ∨ ev = 2 ∨ ev = 3 ∨ ev = 4 ∨ ev = 5 ∨ ev = 6 ∨ ev = 7 ∨ ev = 8 ∨ ev = 9 ∨ ev = 10 ∨ ev = 11 ∨ ev = 12 ∨ ev = 13 ∨ ev = 14 ∨ ev = 15 ∨ ev = 16 ∨ ev = 17) with rfl | rfl | rfl | rfl | rfl | rfl | rfl | rfl | rfl | rfl | rfl | rfl | rfl | rfl | rfl | rfl | rfl | rfl <;> simp [rowT, scL, J] at h5 h6 ⊢ <;> omega
  · have : (rowT ev).getD st [] = [] := by
      have hl : (rowT ev).length ≤ 10 := by
        rcases (by omega : ev = 0 ∨ ev = 1 ∨ ev = 2 ∨ ev = 3 ∨ ev = 4 ∨ ev = 5 ∨ ev = 6 ∨ ev = 7 ∨ ev = 8 ∨ ev = 9 ∨ ev = 10 ∨ ev = 11 ∨ ev = 12 ∨ ev = 13 ∨ ev = 14 ∨ ev = 15 ∨ ev = 16 ∨ ev = 17) with rfl | rfl | rfl | rfl | rfl | rfl | rfl | rfl | rfl | rfl | rfl | rfl | rfl | rfl | rfl | rfl | rfl | rfl <;> decide
      simp only [List.getD]
      rw [List.getElem?_eq_none (by omega)]; rfl
    show J (((rowT ev).getD st []).foldl scL _)
    rw [this]; exact h
theorem RE.at_J {m : RE} (h : J m.sc) (ev : Nat) (hev : ev < 18) (h6 : ev = 6 → 0 < m.cnt) : J (m.at_ ev).1.sc := by
  unfold RE.at_
  rw [RE.run_sc]
  exact J_at m.sc h ev hev h6
structure RE.Gro (m : RE) (n : Nat) : Prop where
  ok : m.Ok
  told : m.told.length ≤ n
  mg : m.mg.length ≤ n + 1
  nk : m.naks ≤ n
  lp : m.loops ≤ n
  h0 : m.h0 ≤ n
  h1 : m.h1 ≤ n
  h2 : m.h2 ≤ n
  sn : m.sent.length ≤ 40
  ag : m.agr.length ≤ 40
  gt : m.got.length ≤ 89
theorem RE.Gro.mono {m : RE} {n k : Nat} (h : m.Gro n) (hn : n ≤ k) : m.Gro k := by
  obtain ⟨ok, h1, h2, h3, h4, h5, h6, h7, sn, ag, gt⟩ := h
  exact ⟨ok, by omega, by omega, by omega, by omega, by omega, by omega, by omega, sn, ag, gt⟩
theorem RE.Gro.lim {m : RE} {n : Nat} (h : m.Gro n) (hj : J m.sc) : m.Lim n := ⟨h.ok, hj.1, hj.2.1, hj.2.2.2.1, h.told, h.mg, h.nk, h.lp, h.h0, h.h1, h.h2, h.sn, h.ag⟩
theorem RE.Lim.gro {m : RE} {n : Nat} (h : m.Lim n) (hg : m.got.length ≤ 89) : m.Gro n := ⟨h.ok, h.told, h.mg, h.nk, h.lp, h.h0, h.h1, h.h2, h.sn, h.ag, hg⟩
theorem RE.letter_gro {m : RE} {n : Nat} (h : m.Gro n) (c : Nat) : (m.letter c).1.Gro (n + 40) := by
  have hok := RE.letter_ok h.ok c
  obtain ⟨ok, h1, h2, h3, h4, h5, h6, h7, sn, ag, gt⟩ := h
  have hpd := ok.pd
  unfold RE.letter at hok ⊢
  split
  · rename_i hc
    rw [if_pos hc] at hok
    exact ⟨hok, by show m.told.length ≤ _; omega, by show m.mg.length ≤ _; omega, by show m.naks ≤ _; omega, by show m.loops ≤ _; omega, by show m.h0 ≤ _; omega, by show m.h1 ≤ _; omega, by show m.h2 ≤ _; omega, sn, ag, gt⟩
  · rename_i hc
    rw [if_neg hc] at hok
    have hl : ∀ r : RE × List UInt8, r = m.act c → r.1.Ok := fun r e => e ▸ hok
    clear hok
    refine RE.act_ind m c (fun r => r.1.Ok → r.1.Gro (n + 40)) ?_ ?_ ?_ ?_ ?_ ?_ ?_ ?_ ?_ ?_ ?_ ?_ ?_ ?_ ?_ (hl _ rfl)
    case isFalse.refine_11 =>
      intro ho
      obtain ⟨x, y, z, e, k1, k2, k3⟩ := RE.nakItems_eq (m.bad ((itemsL m.pd).getD [])) m
      have hb := m.bads_len
      have e2 : m.nak.1 = { m with h0 := x, h1 := y, h2 := z, naks := m.naks + 1 } := by
        show ({ (m.nakItems (m.bad ((itemsL m.pd).getD []))).1 with naks := (m.nakItems (m.bad ((itemsL m.pd).getD []))).1.naks + 1 } : RE) = _
        rw [e]
      rw [e2] at ho ⊢
      exact ⟨ho, by show m.told.length ≤ _; omega, by show m.mg.length ≤ _; omega, by show m.naks + 1 ≤ _; omega, by show m.loops ≤ _; omega, by show x ≤ _; omega, by show y ≤ _; omega, by show z ≤ _; omega, sn, ag, gt⟩
    all_goals
      intro ho
      refine ⟨ho, ?_, ?_, ?_, ?_, ?_, ?_, ?_, ?_, ?_, gt⟩ <;> simp [RE.request, dataL_len, RE.asks] <;> omega
theorem RE.run_gro (l : List Nat) {m : RE} {n : Nat} (h : m.Gro n) : (m.run l).1.Gro (n + 40 * l.length) := by
  induction l generalizing m n with
  | nil => exact h
  | cons c l ih =>
    have := ih (RE.letter_gro h c)
    exact this.mono (by simp; omega)
theorem RE.at_gro {m : RE} {n : Nat} (h : m.Gro n) (ev : Nat) (hev : ev < 18) : (m.at_ ev).1.Gro (n + 160) := by
  have := RE.run_gro ((rowT ev).getD m.st []) h
  have h2 := (rowT_small ev hev m.st h.ok.st).1
  exact this.mono (by omega)
def RE.Both (m : RE) (n : Nat) : Prop := m.Gro n ∧ J m.sc
theorem RE.Both.mono {m : RE} {n k : Nat} (h : m.Both n) (hn : n ≤ k) : m.Both k := ⟨h.1.mono hn, h.2⟩
theorem RE.at_both {m : RE} {n : Nat} (h : m.Both n) (ev : Nat) (hev : ev < 18) (h6 : ev ≠ 6) : (m.at_ ev).1.Both (n + 160) := ⟨RE.at_gro h.1 ev hev, RE.at_J h.2 ev hev (fun e => absurd e h6)⟩
theorem RE.told_both {m : RE} {n : Nat} (h : m.Both n) (x : Nat) : ({ m with told := m.told ++ [x] } : RE).Both (n + 1) := by
  obtain ⟨⟨ok, h1, h2, h3, h4, h5, h6, h7, sn, ag, gt⟩, hj⟩ := h
  refine ⟨⟨⟨ok.st, ok.id, ok.odd, ok.k0, ok.k1, ok.k2, ok.pc, ok.pi, ok.pd, ok.mg, ok.ms, ok.aa, ok.ww⟩, ?_, ?_, ?_, ?_, ?_, ?_, ?_, sn, ag, gt⟩, hj⟩ <;> simp <;> omega
theorem RE.loop_both {m : RE} {n : Nat} (h : m.Both n) : ({ m with loops := m.loops + 1 } : RE).Both (n + 1) := by
  obtain ⟨⟨ok, h1, h2, h3, h4, h5, h6, h7, sn, ag, gt⟩, hj⟩ := h
  refine ⟨⟨⟨ok.st, ok.id, ok.odd, ok.k0, ok.k1, ok.k2, ok.pc, ok.pi, ok.pd, ok.mg, ok.ms, ok.aa, ok.ww⟩, ?_, ?_, ?_, ?_, ?_, ?_, ?_, sn, ag, gt⟩, hj⟩ <;> simp <;> omega
theorem RE.asked_both {m : RE} {n : Nat} (h : m.Both n) (l : List (Nat × Nat)) : (m.asked l).1.Both (n + 170) := by
  by_cases hb : m.bad l = []
  · rw [RE.asked_0 hb]; exact (RE.at_both h 8 (by omega) (by omega)).mono (by omega)
  · by_cases ha : m.st = 3 ∨ 6 ≤ m.st
    · cases ho : m.ownF l
      · by_cases hn : 20 ≤ m.naks
        · rw [RE.asked_n5 hb ha ho hn]; exact (RE.at_both (RE.told_both h 5) 4 (by omega) (by omega)).mono (by omega)
        · rw [RE.asked_n9 hb ho hn]; exact (RE.at_both h 9 (by omega) (by omega)).mono (by omega)
      · have h1 := RE.loop_both h
        by_cases hl : 3 < m.loops + 1
        · rw [RE.asked_6 hb ha ho hl]; exact (RE.at_both (RE.told_both h1 6) 4 (by omega) (by omega)).mono (by omega)
        · by_cases hn : 20 ≤ m.naks
          · rw [RE.asked_o5 hb ha ho hl hn]; exact (RE.at_both (RE.told_both h1 5) 4 (by omega) (by omega)).mono (by omega)
          · rw [RE.asked_o9 hb ha ho hl hn]; exact (RE.at_both h1 9 (by omega) (by omega)).mono (by omega)
    · rw [RE.asked_x hb ha]; exact (RE.at_both h 9 (by omega) (by omega)).mono (by omega)
theorem RE.take1_both {m : RE} {n : Nat} (h : m.Both n) (x : Nat × Nat) : (m.take1 x).Both (n + 1) := by
  have hok := RE.take1_ok h.1.ok x
  obtain ⟨⟨ok, h1, h2, h3, h4, h5, h6, h7, sn, ag, gt⟩, hj⟩ := h
  unfold RE.take1 at hok ⊢
  split
  · rename_i hc
    rw [if_pos hc] at hok
    refine ⟨⟨hok, ?_, ?_, ?_, ?_, ?_, ?_, ?_, sn, ag, gt⟩, hj⟩ <;> simp <;> omega
  · rename_i hc
    rw [if_neg hc] at hok
    split
    · rename_i hd
      rw [if_pos hd] at hok
      unfold RE.ask at hok ⊢
      split
      · rename_i e; rw [if_pos e] at hok
        refine ⟨⟨hok, ?_, ?_, ?_, ?_, ?_, ?_, ?_, sn, ag, gt⟩, hj⟩ <;> simp <;> omega
      · rename_i e; rw [if_neg e] at hok
        split
        · rename_i e; rw [if_pos e] at hok
          refine ⟨⟨hok, ?_, ?_, ?_, ?_, ?_, ?_, ?_, sn, ag, gt⟩, hj⟩ <;> simp <;> omega
        · rename_i e; rw [if_neg e] at hok
          refine ⟨⟨hok, ?_, ?_, ?_, ?_, ?_, ?_, ?_, sn, ag, gt⟩, hj⟩ <;> simp <;> omega
    · exact ⟨⟨ok, by omega, by omega, by omega, by omega, by omega, by omega, by omega, sn, ag, gt⟩, hj⟩
theorem RE.takeAll_both (l : List (Nat × Nat)) {m : RE} {n : Nat} (h : m.Both n) : (m.takeAll l).Both (n + l.length) := by
  induction l generalizing m n with
  | nil => exact h
  | cons x l ih =>
    have := ih (RE.take1_both h x)
    exact this.mono (by simp; omega)
theorem RE.receive_both {m : RE} {n : Nat} (h : m.Both n) : m.receive.1.Both (n + 200) := by
  have h0 : m.Both (n + 200) := h.mono (by omega)
  unfold RE.receive
  split
  · split
    · split
      · exact (RE.asked_both h _).mono (by omega)
      · exact h0
    · exact h0
  · split
    · split
      · exact (RE.at_both h 10 (by omega) (by omega)).mono (by omega)
      · exact h0
    · split
      · split
        · rename_i l hl
          split
          · exact h0
          · have hll : l.length ≤ 40 := Nat.le_trans (itemsAux_len _ _ _ hl) h.1.ok.pd
            exact (RE.at_both (RE.takeAll_both l h) 11 (by omega) (by omega)).mono (by omega)
        · exact h0
      · split
        · exact (RE.at_both h 12 (by omega) (by omega)).mono (by omega)
        · split
          · exact (RE.at_both h 13 (by omega) (by omega)).mono (by omega)
          · split
            · split
              · exact h0
              · split
                · exact (RE.at_both h 16 (by omega) (by omega)).mono (by omega)
                · exact (RE.at_both h 15 (by omega) (by omega)).mono (by omega)
            · split
              · exact (RE.at_both h 17 (by omega) (by omega)).mono (by omega)
              · split
                · exact h0
                · exact (RE.at_both h 14 (by omega) (by omega)).mono (by omega)
theorem RE.got_both {m : RE} {n : Nat} (h : m.Both n) (s : List UInt8) (hs : s.length ≤ 89) : ({ m with got := s } : RE).Both n := by
  obtain ⟨⟨ok, h1, h2, h3, h4, h5, h6, h7, sn, ag, gt⟩, hj⟩ := h
  exact ⟨⟨⟨ok.st, ok.id, ok.odd, ok.k0, ok.k1, ok.k2, ok.pc, ok.pi, ok.pd, ok.mg, ok.ms, ok.aa, ok.ww⟩, h1, h2, h3, h4, h5, h6, h7, sn, ag, hs⟩, hj⟩
theorem RE.come_both {m : RE} {n : Nat} (h : m.Both n) (p : UInt8 × UInt8 × List UInt8) (hp : p.2.2.length ≤ 40) : (m.come p).Both n := by
  obtain ⟨⟨ok, h1, h2, h3, h4, h5, h6, h7, sn, ag, gt⟩, hj⟩ := h
  exact ⟨⟨⟨ok.st, ok.id, ok.odd, ok.k0, ok.k1, ok.k2, p.1.toNat_lt, p.2.1.toNat_lt, hp, ok.mg, ok.ms, ok.aa, ok.ww⟩, h1, h2, h3, h4, h5, h6, h7, sn, ag, gt⟩, hj⟩
theorem RE.byte1_both {m : RE} {n : Nat} (h : m.Both n) (b : UInt8) : (m.byte1 b).1.Both (n + 200) := by
  have h0 : m.Both (n + 200) := h.mono (by omega)
  unfold RE.byte1
  split
  · show (if m.got.length ≤ 88 then { m with got := m.got ++ [b] } else m : RE).Both _
    split
    · exact RE.got_both h0 _ (by simp; omega)
    · exact h0
  · split
    · exact RE.got_both h0 _ (by simp)
    · split
      · exact RE.got_both h0 _ (by simp)
      · rename_i p hp
        exact RE.receive_both (RE.come_both (RE.got_both h _ (by simp)) p (unframeL_len hp))
theorem RE.bytes_both {m : RE} {n : Nat} (h : m.Both n) : ∀ k (l : List UInt8), l.length = k → (m.bytes l).1.Both (n + 200 * k) ∧ (n ≤ 1000000000000 → 200 * k ≤ 1000000000000 → (m.bytes l).2.length ≤ 4000 * k)
  | 0, l, hl => by
    have : l = [] := List.eq_nil_of_length_eq_zero hl
    subst this
    exact ⟨h, fun _ _ => Nat.le_refl _⟩
  | k + 1, l, hl => by
    have hne : l ≠ [] := fun e => by rw [e] at hl; simp at hl
    have e := List.dropLast_concat_getLast hne
    have hd : l.dropLast.length = k := by rw [List.length_dropLast]; omega
    obtain ⟨h1, h2⟩ := RE.bytes_both h k l.dropLast hd
    rw [← e, RE.bytes_snoc]
    refine ⟨(RE.byte1_both h1 _).mono (by omega), fun a b => ?_⟩
    have h3 := h2 a (by omega)
    have hf : (m.bytes l.dropLast).1.Fine 1 := ⟨h1.1.ok, ((h1.1.lim h1.2).fit (by omega)).less (by omega)⟩
    have h4 := RE.byte1_len hf (l.getLast hne)
    simp only [List.length_append]; omega
end Go.Proofs.YtoeihlgidakjbaaGreatDoor
namespace Go.Proofs.YtoeihlgidakjbaaGreatDoor
open Go.RowKit Go.Lib
theorem RE.letter_got (m : RE) (c : Nat) : (m.letter c).1.got = m.got := by
  unfold RE.letter
  split
  · rfl
  · refine RE.act_ind m c (fun r => r.1.got = m.got) ?_ ?_ ?_ ?_ ?_ ?_ ?_ ?_ ?_ ?_ ?_ ?_ ?_ ?_ ?_
    all_goals first
      | rfl
      | skip
    show (m.nak).1.got = m.got
    unfold RE.nak
    obtain ⟨x, y, z, e, _⟩ := RE.nakItems_eq (m.bad ((itemsL m.pd).getD [])) m
    simp only [e]
theorem RE.run_got (l : List Nat) (m : RE) : (m.run l).1.got = m.got := by
  induction l generalizing m with
  | nil => rfl
  | cons c l ih => exact (ih _).trans (m.letter_got c)
theorem RE.event_got (m : RE) (k : Int) : (m.event k).1.got = m.got := by
  unfold RE.event
  split
  · exact RE.run_got _ m
  · split
    · rfl
    · split
      · rfl
      · split <;> exact RE.run_got _ _
end Go.Proofs.YtoeihlgidakjbaaGreatDoor

/- What the program's end does with a Request. What the program's end does with any packet. -/
import Derived.Test.YtoeihlgidakjbaaGreatDoorPc21
import Derived.BigGuard
namespace Go.Proofs.YtoeihlgidakjbaaGreatDoor
open Go.RowKit Go.Lib
def RE.rq (m : RE) : RE × List UInt8 := match itemsL m.pd with | some l => if l.length = 4 then m.asked l else (m, []) | none => (m, [])
theorem rq_none {m : RE} (h : items4 m.pd = none) : m.rq = (m, []) := by
  unfold items4 at h
  unfold RE.rq
  cases hi : itemsL m.pd with
  | none => rfl
  | some l =>
    rw [hi] at h
    simp only at h ⊢
    split at h
    · cases h
    · rename_i h4; rw [if_neg h4]
theorem rq_some {m : RE} {l : List (Nat × Nat)} (h : items4 m.pd = some l) : m.rq = m.asked l ∧ itemsL m.pd = some l ∧ l.length = 4 := by
  unfold items4 at h
  unfold RE.rq
  cases hi : itemsL m.pd with
  | none => rw [hi] at h; cases h
  | some l' =>
    rw [hi] at h
    simp only at h ⊢
    split at h
    · rename_i h4; cases h; exact ⟨by rw [if_pos h4], rfl, h4⟩
    · cases h
set_option maxRecDepth 100000 in
set_option maxHeartbeats 3000000 in
theorem patRequest {B Bs pb : Nat} {v : PV} {m : RE} {S : List UInt8} (w : World) (h : PI w B Bs pb v m S) (ok : m.Ok) (fit : m.Fit 900) (hg : Gt w) :
    Calls Tryz.prog 102 #[.pointer (some ⟨pb, 0, none⟩), .agg (pkA m.pk)] w fun r w' => PatH w w' w.heap.size B Bs pb v S m.rq r := by
  have BA : Hid (Below w.heap.size w (w.alloc (.cells (pkA m.pk) 27))) := (Below.refl _ _).alloc (Nat.le_refl _) _
  have RA : Hid ((w.alloc (.cells (pkA m.pk) 27)).heap[w.heap.size]? = some (.cells (pkA m.pk) 27 (0, 0))) := heap_alloc_new w _
  have zA : (w.alloc (.cells (pkA m.pk) 27)).heap.size = w.heap.size + 1 := by simp
  have hpb := blk_lt h.em.blk
  have hst := ok.st
  have hpd := ok.pd
  have HP : Hid (PI w B Bs pb v m S) := h
  have OK : Hid (m.Ok) := ok
  have FIT : Hid (m.Fit 900) := fit
  have HR : Hid (_) := treadAll_any ⟨m.pd.toArray⟩ (w.alloc (.cells (pkA m.pk) 27)) (hg.below BA.out) (by show m.pd.toArray.size ≤ _; rw [List.size_toArray]; omega)
  clear h ok fit hg
  go_enter Tryz.func102, Tryz.ntmps102
  go_wp2_with fail
  generalize w.alloc (.cells (pkA m.pk) 27) = WA at *
  refine Calls.mono HR.out ?_
  rintro e w1 ⟨hb1, ⟨h1, g, rfl⟩ | ⟨l, vi, h1, h2, rfl, ho⟩⟩
  · have Q : Hid (PatH w w1 w.heap.size B Bs pb v S m.rq (.returned (.slice none 0 0))) := PatH.nil HP.out (BA.out.trans (hb1.mono BA.out.size)) (rq_none h1) OK.out (FIT.out.less (by omega))
    clear h1 hb1 HR
    go_wp2_with fail
    go_ret
    exact Q.out
  · obtain ⟨e1, e2, e3⟩ := rq_some h1
    have hlk : ItemsOk l := ⟨by omega, itemsAux_rng _ _ _ e2⟩
    obtain ⟨ai, ci, gi, rfl, _, _⟩ := own_shape2 ho
    have zz1 := hb1.size
    have HB1 : Hid (Below w.heap.size w w1) := BA.out.trans (hb1.mono BA.out.size)
    have r1 := (hb1.block _ (by omega)).trans RA.out
    have P1 : Hid (PI w1 B Bs pb v m S) := HP.out.below HB1.out
    have O1 : Hid (w1.ownsRow w.heap.size 189 2 (.slice ai l.length ci) l.length (itemC l)) := owns_mono ho (by omega)
    have E12 : Hid (m.rq = m.asked l ∧ itemsL m.pd = some l ∧ l.length = 4 ∧ ItemsOk l) := ⟨e1, e2, e3, hlk⟩
    have HNG : Hid (_) := notGood_any (.slice ai l.length ci) l w1.drew (P1.out.below ((Below.refl _ _).drew)) OK.out hlk (by exact O1.out)
    have BZ : Hid (Below w1.heap.size w1 (w1.alloc (.cells #[.int .i64 0, .int .i64 0, .string ⟨#[]⟩, .slice none 0 0, .slice none 0 0] 168))) := (Below.refl _ _).alloc (Nat.le_refl _) _
    have HNZ : Hid (_) := notGood_any (.slice ai l.length ci) l (w1.alloc (.cells #[.int .i64 0, .int .i64 0, .string ⟨#[]⟩, .slice none 0 0, .slice none 0 0] 168)).drew (P1.out.below BZ.out.drew) OK.out hlk (by exact owns_below O1.out BZ.out.drew)
    have RZ : Hid ((w1.alloc (.cells #[.int .i64 0, .int .i64 0, .string ⟨#[]⟩, .slice none 0 0, .slice none 0 0] 168)).heap[w1.heap.size]? = some (.cells #[.int .i64 0, .int .i64 0, .string ⟨#[]⟩, .slice none 0 0, .slice none 0 0] 168 (0, 0))) := heap_alloc_new w1 _
    have hl1 : w.heap.size < w1.heap.size := by omega
    have zZ : (w1.alloc (.cells #[.int .i64 0, .int .i64 0, .string ⟨#[]⟩, .slice none 0 0, .slice none 0 0] 168)).heap.size = w1.heap.size + 1 := by simp
    have x0 : w1.drew.cell? ⟨w.heap.size, 0, none⟩ = some (.int .i64 (m.pc : Int)) := blk_cell (w := w1) r1
    have x1 : w1.drew.cell? ⟨w.heap.size, 1, none⟩ = some (.int .i64 (m.pi : Int)) := blk_cell (w := w1) r1
    have x2 : w1.drew.cell? ⟨w.heap.size, 2, none⟩ = some (.string ⟨m.pd.toArray⟩) := blk_cell (w := w1) r1
    have rZ : (w1.alloc (.cells #[.int .i64 0, .int .i64 0, .string ⟨#[]⟩, .slice none 0 0, .slice none 0 0] 168)).heap[w.heap.size]? = some (.cells (pkA m.pk) 27 (0, 0)) := (BZ.out.block _ hl1).trans r1
    have xz0 : (w1.alloc (.cells #[.int .i64 0, .int .i64 0, .string ⟨#[]⟩, .slice none 0 0, .slice none 0 0] 168)).drew.cell? ⟨w.heap.size, 0, none⟩ = some (.int .i64 (m.pc : Int)) := blk_cell (w := w1.alloc (.cells #[.int .i64 0, .int .i64 0, .string ⟨#[]⟩, .slice none 0 0, .slice none 0 0] 168)) rZ
    have xz1 : (w1.alloc (.cells #[.int .i64 0, .int .i64 0, .string ⟨#[]⟩, .slice none 0 0, .slice none 0 0] 168)).drew.cell? ⟨w.heap.size, 1, none⟩ = some (.int .i64 (m.pi : Int)) := blk_cell (w := w1.alloc (.cells #[.int .i64 0, .int .i64 0, .string ⟨#[]⟩, .slice none 0 0, .slice none 0 0] 168)) rZ
    have xz2 : (w1.alloc (.cells #[.int .i64 0, .int .i64 0, .string ⟨#[]⟩, .slice none 0 0, .slice none 0 0] 168)).drew.cell? ⟨w.heap.size, 2, none⟩ = some (.string ⟨m.pd.toArray⟩) := blk_cell (w := w1.alloc (.cells #[.int .i64 0, .int .i64 0, .string ⟨#[]⟩, .slice none 0 0, .slice none 0 0] 168)) rZ
    have R1 : Hid (w1.heap[w.heap.size]? = some (.cells (pkA m.pk) 27 (0, 0))) := r1
    clear h1 hb1 HR ho e1 e2 e3 hlk r1 rZ
    go_upto_region 4 with fail
    go_cut [7] (fun t wx => ∃ (N : Nat) (vb : Value), t = .pointer (some ⟨N, 0, none⟩) ∧ Hid (wx.heap[N]? = some (.cells (rqA m.pk (.slice ai l.length ci) vb) 168 (0, 0)) ∧ wx.ownsRow w.heap.size 189 2 vb (m.bad l).length (itemC (m.bad l)) ∧ Below w1.heap.size w1 wx))
    case first =>
      go_region_law (first | (go_simp; go_at_call 128; refine Calls.mono HNG.out ?_; rintro e wq ⟨vb, rfl, hob, hbq⟩; have tagA : True := trivial; obtain ⟨ab, cb, gb, rfl, _, _⟩ := own_shape2 hob; have hbq' : Below w1.heap.size w1 wq := ⟨hbq.os, hbq.tape, hbq.output, hbq.size, hbq.block⟩; have hlq : w.heap.size < wq.heap.size := (by have := hbq'.size; omega); have rq := (hbq'.block _ (by omega)).trans R1.out; have y0 : wq.cell? ⟨w.heap.size, 0, none⟩ = some (.int .i64 (m.pc : Int)) := blk_cell rq; have y1 : wq.cell? ⟨w.heap.size, 1, none⟩ = some (.int .i64 (m.pi : Int)) := blk_cell rq; have y2 : wq.cell? ⟨w.heap.size, 2, none⟩ = some (.string ⟨m.pd.toArray⟩) := blk_cell rq; have bqz : Below wq.heap.size wq (wq.alloc (.cells #[.int .i64 0, .int .i64 0, .string ⟨#[]⟩, .slice none 0 0, .slice none 0 0] 168)) := (Below.refl _ _).alloc (Nat.le_refl _) _; have rqz := (bqz.block _ hlq).trans rq; have yz0 : (wq.alloc (.cells #[.int .i64 0, .int .i64 0, .string ⟨#[]⟩, .slice none 0 0, .slice none 0 0] 168)).cell? ⟨w.heap.size, 0, none⟩ = some (.int .i64 (m.pc : Int)) := blk_cell rqz; have yz1 : (wq.alloc (.cells #[.int .i64 0, .int .i64 0, .string ⟨#[]⟩, .slice none 0 0, .slice none 0 0] 168)).cell? ⟨w.heap.size, 1, none⟩ = some (.int .i64 (m.pi : Int)) := blk_cell rqz; have yz2 : (wq.alloc (.cells #[.int .i64 0, .int .i64 0, .string ⟨#[]⟩, .slice none 0 0, .slice none 0 0] 168)).cell? ⟨w.heap.size, 2, none⟩ = some (.string ⟨m.pd.toArray⟩) := blk_cell rqz) | (go_simp; go_at_call 128; refine Calls.mono HNZ.out ?_; rintro e wq ⟨vb, rfl, hob, hbz⟩; have tagB : True := trivial; obtain ⟨ab, cb, gb, rfl, _, _⟩ := own_shape2 hob; have hbz' : Below (w1.alloc (.cells #[.int .i64 0, .int .i64 0, .string ⟨#[]⟩, .slice none 0 0, .slice none 0 0] 168)).heap.size (w1.alloc (.cells #[.int .i64 0, .int .i64 0, .string ⟨#[]⟩, .slice none 0 0, .slice none 0 0] 168)) wq := ⟨hbz.os, hbz.tape, hbz.output, hbz.size, hbz.block⟩; have hbq' : Below w1.heap.size w1 wq := BZ.out.trans (hbz'.mono (by omega)); have hlq : w.heap.size < wq.heap.size := (by have := hbq'.size; omega); have rz := (hbz'.block _ (by omega)).trans RZ.out; have rq := (hbq'.block _ (by omega)).trans R1.out; have y0 : wq.cell? ⟨w.heap.size, 0, none⟩ = some (.int .i64 (m.pc : Int)) := blk_cell rq; have y1 : wq.cell? ⟨w.heap.size, 1, none⟩ = some (.int .i64 (m.pi : Int)) := blk_cell rq; have y2 : wq.cell? ⟨w.heap.size, 2, none⟩ = some (.string ⟨m.pd.toArray⟩) := blk_cell rq; have u0 : wq.cell? ⟨w1.heap.size, 0, none⟩ = some (.int .i64 0) := blk_cell rz; have u1 : wq.cell? ⟨w1.heap.size, 1, none⟩ = some (.int .i64 0) := blk_cell rz; have u2 : wq.cell? ⟨w1.heap.size, 2, none⟩ = some (.string ⟨#[]⟩) := blk_cell rz; have u3 : wq.cell? ⟨w1.heap.size, 3, none⟩ = some (.slice none 0 0) := blk_cell rz; have u4 : wq.cell? ⟨w1.heap.size, 4, none⟩ = some (.slice none 0 0) := blk_cell rz; have f0 : wq.frozen? ⟨w1.heap.size, 0, none⟩ = false := blk_free rz; have f1 : wq.frozen? ⟨w1.heap.size, 1, none⟩ = false := blk_free rz; have f2 : wq.frozen? ⟨w1.heap.size, 2, none⟩ = false := blk_free rz; have f3 : wq.frozen? ⟨w1.heap.size, 3, none⟩ = false := blk_free rz; have f4 : wq.frozen? ⟨w1.heap.size, 4, none⟩ = false := blk_free rz))
      all_goals
        go_wp2_with fail
        go_meet
        first
          | (have _tag := tagA
             exact ⟨wq.heap.size, .slice ab (m.bad l).length cb, rfl, heap_alloc_new wq _, owns_mono (owns_below hob ((Below.refl _ _).alloc (Nat.le_refl _) _)) (by simp; omega), hbq'.trans (((Below.refl _ _).alloc (Nat.le_refl _) _).mono hbq'.size)⟩)
          | (have _tag := tagB
             have tt := ((((tset wq w1.heap.size 0 (.int .i64 (m.pc : Int))).trans (tset _ _ 1 (.int .i64 (m.pi : Int)))).trans (tset _ _ 2 (.string ⟨m.pd.toArray⟩))).trans (tset _ _ 3 (.slice ai l.length ci))).trans (tset _ _ 4 (.slice ab (m.bad l).length cb))
             exact ⟨w1.heap.size, .slice ab (m.bad l).length cb, rfl, blk_set (blk_set (blk_set (blk_set (blk_set rz)))), owns_mono (owns_tch hob tt (fun b hb e => by have := (hob.lt b hb).1; simp at this; omega)) (by simp; omega), hbq'.trans (tt.below hbq'.size (fun b hb => by omega))⟩)
    case rest =>
      obtain ⟨N, vb, rfl, HC⟩ := hcut
      obtain ⟨hE1, hE2, hE3, hE4⟩ := E12.out
      have zz2 := HC.out.2.2.size
      have P2 : Hid (PI wc B Bs pb v m S) := P1.out.below HC.out.2.2
      have O2 : Hid (wc.ownsRow w.heap.size 189 2 (.slice ai l.length ci) l.length (itemC l)) := owns_below O1.out HC.out.2.2
      have OB2 : Hid (wc.ownsRow w.heap.size 189 2 vb (m.bad l).length (itemC (m.bad l))) := HC.out.2.1
      have HBC : Hid (Below w.heap.size w wc) := HB1.out.trans (HC.out.2.2.mono HB1.out.size)
      obtain ⟨ab, cb, gb, rfl, _, _⟩ := own_shape2 OB2.out
      have rc := HC.out.1
      have t0 : wc.cell? ⟨N, 0, none⟩ = some (.int .i64 (m.pk.1 : Int)) := blk_cell rc
      have t1 : wc.cell? ⟨N, 1, none⟩ = some (.int .i64 (m.pk.2.1 : Int)) := blk_cell rc
      have t2 : wc.cell? ⟨N, 2, none⟩ = some (.string ⟨m.pk.2.2.toArray⟩) := blk_cell rc
      have t3 : wc.cell? ⟨N, 3, none⟩ = some (.slice ai l.length ci) := blk_cell rc
      have t4 : wc.cell? ⟨N, 4, none⟩ = some (.slice ab (m.bad l).length cb) := blk_cell rc
      have hLk : ItemsOk (m.bad l) := ⟨Nat.le_trans (List.length_filter_le _ _) hE4.1, fun x hx => hE4.2 x (List.mem_filter.1 hx).1⟩
      have RC : Hid (wc.heap[N]? = some (.cells (rqA m.pk (.slice ai l.length ci) (.slice ab (m.bad l).length cb)) 168 (0, 0))) := rc
      have HE : Hid (m.rq = m.asked l ∧ itemsL m.pd = some l ∧ l.length = 4 ∧ ItemsOk l ∧ ItemsOk (m.bad l)) := ⟨hE1, hE2, hE3, hE4, hLk⟩
      clear rc x0 x1 x2 xz0 xz1 xz2 HNG HNZ hE1 hE2 hE3 hE4 hLk
      by_cases hbe : (m.bad l).length = 0
      · have hbi : (((m.bad l).length : Int) == 0) = true := by rw [hbe]; rfl
        have hnil : m.bad l = [] := List.eq_nil_of_length_eq_zero hbe
        have HQ : Hid (m.rq = m.prun (row_atGoodRequest.getD m.st [])) := by
          show _ = _
          rw [HE.out.1, RE.asked_0 hnil]; exact good_run m hst
        have HGR : Hid (_) := patGoodRequest pb m.st w.heap.size m.pk wc hst (blk_lt P2.out.em.blk) HBC.out.size (blk_cell P2.out.em.blk) (.slice ai l.length ci) (.slice ab (m.bad l).length cb) l (m.bad l) O2.out OB2.out ⟨HE.out.2.1, HE.out.2.2.1⟩ HE.out.2.2.2.2
        clear hbe hnil
        generalize hbl : (m.bad l).length = bl at *
        go_wp2_with fail
        refine Calls.mono HGR.out ?_
        rintro e w2 ⟨va, rfl, ha, hb2⟩
        have Q : Hid (PatH w w2 w.heap.size B Bs pb v S m.rq (.returned va)) := ⟨va, _, m, rfl, ha.2, P2.out.below hb2, ES.below (HBC.out.trans (hb2.mono HBC.out.size)), HQ.out, OK.out, FIT.out.less (by omega), row_six (by decide) _⟩
        clear ha hb2 HGR
        go_wp2_with fail
        go_ret
        exact Q.out
      · have hbi : (((m.bad l).length : Int) == 0) = false := by simp only [beq_eq_false_iff_ne, ne_eq]; omega
        have hne : m.bad l ≠ [] := fun e => hbe (by rw [e]; rfl)
        have HIS : Hid (_) := isNaking_any pb m.st wc hst (blk_cell P2.out.em.blk)
        by_cases hans : m.st = 3 ∨ 6 ≤ m.st
        · have hda : decide (m.st = 3 ∨ 6 ≤ m.st) = true := decide_eq_true hans
          have his := HIS.out
          rw [hda] at his
          have HI : Hid (_) := his
          have HTN : Hid (_) := patToNak (.slice ai l.length ci) (.slice ab (m.bad l).length cb) l (m.bad l) wc P2.out OK.out FIT.out HBC.out.size O2.out OB2.out (fun b hb e => by
            rcases hb with x | x
            · have := (O2.out.lt b x).1; omega
            · have := (OB2.out.lt b x).1; omega) ⟨HE.out.2.1, HE.out.2.2.1⟩ HE.out.2.2.2.1 rfl (by omega) hans
          clear his hda HIS hbe hne
          generalize hbl : (m.bad l).length = bl at *
          go_wp2_with fail
          refine Calls.mono HI.out ?_
          rintro e w2 ⟨rfl, rfl⟩
          go_wp2_with fail
          refine Calls.mono HTN.out ?_
          rintro e w3 ⟨va, LS, m', rfl, q1, q2, q3, q4⟩
          have Q : Hid (PatH w w3 w.heap.size B Bs pb v S m.rq (.returned va)) := ⟨va, LS, m', rfl, q1, q2, (ES.below HBC.out).trans q3, by rw [HE.out.1]; exact q4⟩
          clear q1 q2 q3 q4 HTN
          go_wp2_with fail
          go_ret
          exact Q.out
        · have hda : decide (m.st = 3 ∨ 6 ≤ m.st) = false := decide_eq_false hans
          have his := HIS.out
          rw [hda] at his
          have HI : Hid (_) := his
          have HQ : Hid (m.rq = m.prun ((row_atBadRequest (m.bad l)).getD m.st [])) := by
            show _ = _
            rw [HE.out.1, RE.asked_x hne hans]
            exact bad_run m hst (m.bad l) (by rw [HE.out.2.1]; rfl)
          have HBR : Hid (_) := patBadRequest pb m.st w.heap.size m.pk wc hst (blk_lt P2.out.em.blk) HBC.out.size (blk_cell P2.out.em.blk) (.slice ai l.length ci) (.slice ab (m.bad l).length cb) l (m.bad l) O2.out OB2.out ⟨HE.out.2.1, HE.out.2.2.1⟩ HE.out.2.2.2.2 (by omega)
          clear his hda HIS hbe hne
          generalize hbl : (m.bad l).length = bl at *
          go_wp2_with fail
          refine Calls.mono HI.out ?_
          rintro e w2 ⟨rfl, rfl⟩
          go_wp2_with fail
          refine Calls.mono HBR.out ?_
          rintro e w3 ⟨va, rfl, ha, hb2⟩
          have Q : Hid (PatH w w3 w.heap.size B Bs pb v S m.rq (.returned va)) := ⟨va, _, m, rfl, ha.2, P2.out.below hb2, ES.below (HBC.out.trans (hb2.mono HBC.out.size)), HQ.out, OK.out, FIT.out.less (by omega), row_six rfl _⟩
          clear ha hb2 HBR
          go_wp2_with fail
          go_ret
          exact Q.out
end Go.Proofs.YtoeihlgidakjbaaGreatDoor
namespace Go.Proofs.YtoeihlgidakjbaaGreatDoor
open Go.RowKit Go.Lib
set_option maxRecDepth 100000 in
set_option maxHeartbeats 3000000 in
theorem patAck {B Bs pb : Nat} {v : PV} {m : RE} {S : List UInt8} (w : World) (h : PI w B Bs pb v m S) (ok : m.Ok) (fit : m.Fit 900) :
    Calls Tryz.prog 103 #[.pointer (some ⟨pb, 0, none⟩), .agg (pkA m.pk)] w fun r w' => PatH w w' w.heap.size B Bs pb v S (if (m.pi : Int) = m.sid ∧ m.pd = m.sent then m.at_ 10 else (m, [])) r := by
  have BA : Hid (Below w.heap.size w (w.alloc (.cells (pkA m.pk) 27))) := (Below.refl _ _).alloc (Nat.le_refl _) _
  have RA : Hid ((w.alloc (.cells (pkA m.pk) 27)).heap[w.heap.size]? = some (.cells (pkA m.pk) 27 (0, 0))) := heap_alloc_new w _
  have zA : (w.alloc (.cells (pkA m.pk) 27)).heap.size = w.heap.size + 1 := by simp
  have HP : Hid (PI w B Bs pb v m S) := h
  have OK : Hid (m.Ok) := ok
  have FIT : Hid (m.Fit 900) := fit
  have hst := ok.st
  have hpb := blk_lt h.em.blk
  have HA : Hid (PI (w.alloc (.cells (pkA m.pk) 27)) B Bs pb v m S) := h.below BA.out
  have hil := isForLast_any (w.alloc (.cells (pkA m.pk) 27)).drew (HA.out.below ((Below.refl _ _).drew))
  clear h ok fit
  have x0 : (w.alloc (.cells (pkA m.pk) 27)).drew.cell? ⟨w.heap.size, 0, none⟩ = some (.int .i64 (m.pc : Int)) := blk_cell (w := w.alloc (.cells (pkA m.pk) 27)) RA.out
  have x1 : (w.alloc (.cells (pkA m.pk) 27)).drew.cell? ⟨w.heap.size, 1, none⟩ = some (.int .i64 (m.pi : Int)) := blk_cell (w := w.alloc (.cells (pkA m.pk) 27)) RA.out
  have x2 : (w.alloc (.cells (pkA m.pk) 27)).drew.cell? ⟨w.heap.size, 2, none⟩ = some (.string ⟨m.pd.toArray⟩) := blk_cell (w := w.alloc (.cells (pkA m.pk) 27)) RA.out
  by_cases hl : (m.pi : Int) = m.sid
  · rw [decide_eq_true hl] at hil
    have HIL : Hid (_) := hil
    by_cases hd : m.pd = m.sent
    · have HE : Hid ((if (m.pi : Int) = m.sid ∧ m.pd = m.sent then m.at_ 10 else (m, [])) = m.prun (row_atAgreement.getD m.st [])) := by
        show _ = _
        rw [if_pos ⟨hl, hd⟩]; exact row_ev rfl m
      rw [HE.out]
      have heq : (m.pd == m.sent) = true := by simp [hd]
      have heq2 : (m.pd != m.sent) = false := by simp [hd]
      clear hil hl hd HE
      go_enter Tryz.func103, Tryz.ntmps103
      go_upto_region 1 with fail
      generalize w.alloc (.cells (pkA m.pk) 27) = WA at *
      go_cut [18] (fun t wx => t = .bool false ∧ Hid (PI wx B Bs pb v m S ∧ Below w.heap.size w wx ∧ wx.heap[w.heap.size]? = some (.cells (pkA m.pk) 27 (0, 0))))
      case first =>
        go_region_law (go_simp; go_at_call 133; refine Calls.mono HIL.out ?_; rintro e wq ⟨rfl, hbq⟩; have hbq' : Below WA.heap.size WA wq := ⟨hbq.os, hbq.tape, hbq.output, hbq.size, hbq.block⟩; have rq := (hbq'.block _ (by omega)).trans RA.out; have pq := HA.out.below hbq'; have y2 : wq.cell? ⟨w.heap.size, 2, none⟩ = some (.string ⟨m.pd.toArray⟩) := blk_cell rq; have y21 : wq.cell? ⟨pb, 21, none⟩ = some (.string ⟨m.sent.toArray⟩) := blk_cell pq.em.blk)
        all_goals
          go_wp2_with fail
          go_meet
          exact ⟨rfl, pq, BA.out.trans (hbq'.mono BA.out.size), rq⟩
      case rest =>
        obtain ⟨rfl, HC⟩ := hcut
        clear x0 x1 x2 HIL
        have t0 : wc.cell? ⟨w.heap.size, 0, none⟩ = some (.int .i64 (m.pk.1 : Int)) := blk_cell HC.out.2.2
        have t1 : wc.cell? ⟨w.heap.size, 1, none⟩ = some (.int .i64 (m.pk.2.1 : Int)) := blk_cell HC.out.2.2
        have t2 : wc.cell? ⟨w.heap.size, 2, none⟩ = some (.string ⟨m.pk.2.2.toArray⟩) := blk_cell HC.out.2.2
        have HRW : Hid (_) := patAgreement pb m.st w.heap.size m.pk wc hst (blk_lt HC.out.1.em.blk) HC.out.2.1.size (blk_cell HC.out.1.em.blk)
        go_wp2_with fail
        refine Calls.mono HRW.out ?_
        rintro e w2 ⟨va, rfl, ha, hb2⟩
        have Q : Hid (PatH w w2 w.heap.size B Bs pb v S (m.prun (row_atAgreement.getD m.st [])) (.returned va)) := ⟨va, _, m, rfl, ha.2, HC.out.1.below hb2, ES.below (HC.out.2.1.trans (hb2.mono HC.out.2.1.size)), rfl, OK.out, FIT.out.less (by omega), row_six (by decide) _⟩
        clear ha hb2 HRW
        go_wp2_with fail
        go_ret
        exact Q.out
    · have HE : Hid ((if (m.pi : Int) = m.sid ∧ m.pd = m.sent then m.at_ 10 else (m, [])) = (m, [])) := by
        show _ = _
        rw [if_neg (fun x => hd x.2)]
      rw [HE.out]
      have heq : (m.pd == m.sent) = false := by simp [hd]
      have heq2 : (m.pd != m.sent) = true := by simp [hd]
      clear hil hl hd HE
      go_enter Tryz.func103, Tryz.ntmps103
      go_upto_region 1 with fail
      generalize w.alloc (.cells (pkA m.pk) 27) = WA at *
      go_cut [18] (fun t wx => t = .bool true ∧ Hid (PI wx B Bs pb v m S ∧ Below w.heap.size w wx ∧ wx.heap[w.heap.size]? = some (.cells (pkA m.pk) 27 (0, 0))))
      case first =>
        go_region_law (go_simp; go_at_call 133; refine Calls.mono HIL.out ?_; rintro e wq ⟨rfl, hbq⟩; have hbq' : Below WA.heap.size WA wq := ⟨hbq.os, hbq.tape, hbq.output, hbq.size, hbq.block⟩; have rq := (hbq'.block _ (by omega)).trans RA.out; have pq := HA.out.below hbq'; have y2 : wq.cell? ⟨w.heap.size, 2, none⟩ = some (.string ⟨m.pd.toArray⟩) := blk_cell rq; have y21 : wq.cell? ⟨pb, 21, none⟩ = some (.string ⟨m.sent.toArray⟩) := blk_cell pq.em.blk)
        all_goals
          go_wp2_with fail
          go_meet
          exact ⟨rfl, pq, BA.out.trans (hbq'.mono BA.out.size), rq⟩
      case rest =>
        obtain ⟨rfl, HC⟩ := hcut
        clear x0 x1 x2 HIL
        go_wp2_with fail
        go_ret
        exact PatH.nil HP.out HC.out.2.1 rfl OK.out (FIT.out.less (by omega))
  · rw [decide_eq_false hl] at hil
    have HIL : Hid (_) := hil
    have HE : Hid ((if (m.pi : Int) = m.sid ∧ m.pd = m.sent then m.at_ 10 else (m, [])) = (m, [])) := by
      show _ = _
      rw [if_neg (fun x => hl x.1)]
    rw [HE.out]
    clear hil hl HE
    go_enter Tryz.func103, Tryz.ntmps103
    go_upto_region 1 with fail
    generalize w.alloc (.cells (pkA m.pk) 27) = WA at *
    go_cut [18] (fun t wx => t = .bool true ∧ Hid (PI wx B Bs pb v m S ∧ Below w.heap.size w wx ∧ wx.heap[w.heap.size]? = some (.cells (pkA m.pk) 27 (0, 0))))
    case first =>
      first | go_region_law (go_simp; go_at_call 133; refine Calls.mono HIL.out ?_; rintro e wq ⟨rfl, hbq⟩; have hbq' : Below WA.heap.size WA wq := ⟨hbq.os, hbq.tape, hbq.output, hbq.size, hbq.block⟩; have rq := (hbq'.block _ (by omega)).trans RA.out; have pq := HA.out.below hbq'; have y2 : wq.cell? ⟨w.heap.size, 2, none⟩ = some (.string ⟨m.pd.toArray⟩) := blk_cell rq; have y21 : wq.cell? ⟨pb, 21, none⟩ = some (.string ⟨m.sent.toArray⟩) := blk_cell pq.em.blk) | fail
      all_goals
        go_wp2_with fail
        go_meet
        exact ⟨rfl, pq, BA.out.trans (hbq'.mono BA.out.size), rq⟩
    case rest =>
      obtain ⟨rfl, HC⟩ := hcut
      clear x0 x1 x2 HIL
      go_wp2_with fail
      go_ret
      exact PatH.nil HP.out HC.out.2.1 rfl OK.out (FIT.out.less (by omega))
set_option maxRecDepth 100000 in
set_option maxHeartbeats 3000000 in
theorem patUnknown {B Bs pb : Nat} {v : PV} {m : RE} {S : List UInt8} (w : World) (h : PI w B Bs pb v m S) (ok : m.Ok) (fit : m.Fit 900) :
    Calls Tryz.prog 107 #[.pointer (some ⟨pb, 0, none⟩), .agg (pkA m.pk)] w fun r w' => PatH w w' w.heap.size B Bs pb v S (match m.pd with | [] => (m, []) | c :: _ => if c.toNat = 1 ∨ c.toNat = 2 ∨ c.toNat = 3 ∨ c.toNat = 5 ∨ c.toNat = 6 then m.at_ 16 else m.at_ 15) r := by
  have BA : Hid (Below w.heap.size w (w.alloc (.cells (pkA m.pk) 27))) := (Below.refl _ _).alloc (Nat.le_refl _) _
  have RA : Hid ((w.alloc (.cells (pkA m.pk) 27)).heap[w.heap.size]? = some (.cells (pkA m.pk) 27 (0, 0))) := heap_alloc_new w _
  have HP : Hid (PI w B Bs pb v m S) := h
  have OK : Hid (m.Ok) := ok
  have FIT : Hid (m.Fit 900) := fit
  have hst := ok.st
  have hpb := blk_lt h.em.blk
  have HA : Hid (PI (w.alloc (.cells (pkA m.pk) 27)) B Bs pb v m S) := h.below BA.out
  have x2 : (w.alloc (.cells (pkA m.pk) 27)).cell? ⟨w.heap.size, 2, none⟩ = some (.string ⟨m.pd.toArray⟩) := blk_cell RA.out
  clear h ok fit
  generalize hE : (match m.pd with | [] => (m, []) | c :: _ => if c.toNat = 1 ∨ c.toNat = 2 ∨ c.toNat = 3 ∨ c.toNat = 5 ∨ c.toNat = 6 then m.at_ 16 else m.at_ 15) = E
  have HE : Hid ((match m.pd with | [] => (m, []) | c :: _ => if c.toNat = 1 ∨ c.toNat = 2 ∨ c.toNat = 3 ∨ c.toNat = 5 ∨ c.toNat = 6 then m.at_ 16 else m.at_ 15) = E) := hE
  clear hE
  go_enter Tryz.func107, Tryz.ntmps107
  go_upto_region 1 with fail
  generalize w.alloc (.cells (pkA m.pk) 27) = WA at *
  cases hpd : m.pd with
  | nil =>
    rw [hpd] at x2
    have HX : Hid (E = (m, [])) := by have := HE.out; rw [hpd] at this; exact this.symm
    clear HE
    go_wp2_with fail
    go_ret
    exact PatH.nil HP.out BA.out HX.out OK.out (FIT.out.less (by omega))
  | cons c t =>
    rw [hpd] at x2
    have hne : ((⟨(c :: t).toArray⟩ : ByteArray).toList).isEmpty = false := by rw [ByteArray.toList_mk]; rfl
    have hix : ∀ wx, (Instr.index 9 (.string ⟨(c :: t).toArray⟩) (.int .i64 0)).run Tryz.prog wx = .ok (.int .u8 (c.toNat : Int)) wx := fun wx => by
      rw [run_index_string wx 9 ⟨(c :: t).toArray⟩ .i64 0 Tryz.underlying9, dif_pos (by show (0 : Int) ≤ 0 ∧ (0 : Int) < ((c :: t).toArray.size : Int); simp)]; rfl
    have HN : Hid (_) := patNeededUnknown pb m.st w.heap.size m.pk WA hst (blk_lt HA.out.em.blk) BA.out.size (blk_cell HA.out.em.blk)
    have HO : Hid (_) := patOtherUnknown pb m.st w.heap.size m.pk WA hst (blk_lt HA.out.em.blk) BA.out.size (blk_cell HA.out.em.blk)
    have EN : Hid (m.at_ 16 = m.prun (row_atNeededUnknown.getD m.st [])) := row_ev rfl m
    have EO : Hid (m.at_ 15 = m.prun (row_atOtherUnknown.getD m.st [])) := row_ev rfl m
    have HX : Hid (E = if c.toNat = 1 ∨ c.toNat = 2 ∨ c.toNat = 3 ∨ c.toNat = 5 ∨ c.toNat = 6 then m.at_ 16 else m.at_ 15) := by have := HE.out; rw [hpd] at this; exact this.symm
    clear hpd HE
    generalize c.toNat = n at *
    by_cases c1 : n = 1
    · subst c1
      go_wp2_with fail
      refine Calls.mono HN.out ?_
      rintro e w2 ⟨va, rfl, ha, hb2⟩
      have Q : Hid (PatH w w2 w.heap.size B Bs pb v S E (.returned va)) := ⟨va, _, m, rfl, ha.2, HA.out.below hb2, ES.below (BA.out.trans (hb2.mono BA.out.size)), (by rw [HX.out, if_pos (by simp)]; exact EN.out), OK.out, FIT.out.less (by omega), row_six (by decide) _⟩
      clear ha hb2 HN
      go_wp2_with fail
      go_ret
      exact Q.out
    by_cases c2 : n = 2
    · subst c2
      go_wp2_with fail
      refine Calls.mono HN.out ?_
      rintro e w2 ⟨va, rfl, ha, hb2⟩
      have Q : Hid (PatH w w2 w.heap.size B Bs pb v S E (.returned va)) := ⟨va, _, m, rfl, ha.2, HA.out.below hb2, ES.below (BA.out.trans (hb2.mono BA.out.size)), (by rw [HX.out, if_pos (by simp)]; exact EN.out), OK.out, FIT.out.less (by omega), row_six (by decide) _⟩
      clear ha hb2 HN
      go_wp2_with fail
      go_ret
      exact Q.out
    by_cases c3 : n = 3
    · subst c3
      go_wp2_with fail
      refine Calls.mono HN.out ?_
      rintro e w2 ⟨va, rfl, ha, hb2⟩
      have Q : Hid (PatH w w2 w.heap.size B Bs pb v S E (.returned va)) := ⟨va, _, m, rfl, ha.2, HA.out.below hb2, ES.below (BA.out.trans (hb2.mono BA.out.size)), (by rw [HX.out, if_pos (by simp)]; exact EN.out), OK.out, FIT.out.less (by omega), row_six (by decide) _⟩
      clear ha hb2 HN
      go_wp2_with fail
      go_ret
      exact Q.out
    by_cases c5 : n = 5
    · subst c5
      go_wp2_with fail
      refine Calls.mono HN.out ?_
      rintro e w2 ⟨va, rfl, ha, hb2⟩
      have Q : Hid (PatH w w2 w.heap.size B Bs pb v S E (.returned va)) := ⟨va, _, m, rfl, ha.2, HA.out.below hb2, ES.below (BA.out.trans (hb2.mono BA.out.size)), (by rw [HX.out, if_pos (by simp)]; exact EN.out), OK.out, FIT.out.less (by omega), row_six (by decide) _⟩
      clear ha hb2 HN
      go_wp2_with fail
      go_ret
      exact Q.out
    by_cases c6 : n = 6
    · subst c6
      go_wp2_with fail
      refine Calls.mono HN.out ?_
      rintro e w2 ⟨va, rfl, ha, hb2⟩
      have Q : Hid (PatH w w2 w.heap.size B Bs pb v S E (.returned va)) := ⟨va, _, m, rfl, ha.2, HA.out.below hb2, ES.below (BA.out.trans (hb2.mono BA.out.size)), (by rw [HX.out, if_pos (by simp)]; exact EN.out), OK.out, FIT.out.less (by omega), row_six (by decide) _⟩
      clear ha hb2 HN
      go_wp2_with fail
      go_ret
      exact Q.out
    have i1 : ((n : Int) == 1) = false := by simp; omega
    have i2 : ((n : Int) == 2) = false := by simp; omega
    have i3 : ((n : Int) == 3) = false := by simp; omega
    have i5 : ((n : Int) == 5) = false := by simp; omega
    have i6 : ((n : Int) == 6) = false := by simp; omega
    have HNO : Hid (¬ (n = 1 ∨ n = 2 ∨ n = 3 ∨ n = 5 ∨ n = 6)) := by show ¬ _; omega
    clear c1 c2 c3 c5 c6
    go_wp2_with fail
    refine Calls.mono HO.out ?_
    rintro e w2 ⟨va, rfl, ha, hb2⟩
    have Q : Hid (PatH w w2 w.heap.size B Bs pb v S E (.returned va)) := ⟨va, _, m, rfl, ha.2, HA.out.below hb2, ES.below (BA.out.trans (hb2.mono BA.out.size)), (by rw [HX.out, if_neg HNO.out]; exact EO.out), OK.out, FIT.out.less (by omega), row_six (by decide) _⟩
    clear ha hb2 HO
    go_wp2_with fail
    go_ret
    exact Q.out
end Go.Proofs.YtoeihlgidakjbaaGreatDoor

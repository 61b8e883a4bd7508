/- What the program's end does with a packet: the ways by its code. Small questions of the program's end: isNaking, isForLast, isOnceTooOften. A Request that gets a Nak, or a Close instead: atRequestToNak. -/
import Derived.Test.YtoeihlgidakjbaaGreatDoorPc14
import Derived.Test.YtoeihlgidakjbaaGreatDoorPc18
import Derived.Test.YtoeihlgidakjbaaGreatDoorPc19
import Derived.Test.YtoeihlgidakjbaaGreatDoorPc20
namespace Go.Proofs.YtoeihlgidakjbaaGreatDoor
open Go.RowKit Go.Lib
theorem st_same (m : RE) (s : Nat) (h : m.st = s) (hs : s < 10) : m.letter (48 + s) = (m, []) := by
  rw [letter_enter m s hs]
  subst h
  rfl
theorem good_run (m : RE) (hst : m.st < 10) : m.at_ 8 = m.prun (row_atGoodRequest.getD m.st []) := by
  unfold RE.at_
  rcases (by omega : m.st = 0 ∨ m.st = 1 ∨ m.st = 2 ∨ m.st = 3 ∨ m.st = 4 ∨ m.st = 5 ∨ m.st = 6 ∨ m.st = 7 ∨ m.st = 8 ∨ m.st = 9) with e | e | e | e | e | e | e | e | e | e
  all_goals rw [e]
  case _ => rfl
  case _ => rfl
  case _ => rfl
  case _ => rfl
  case _ => rfl
  case _ => rfl
  case _ => rfl
  case _ => rfl
  case _ =>
    show m.run [97] = m.prun [.l 97, .l 56]
    have h8 : (m.letter 97).1.st = 8 := e
    have := st_same (m.letter 97).1 8 h8 (by omega)
    simp only [RE.run, RE.prun, RE.pa]
    rw [this]
    rfl
  case _ => rfl
theorem bad_run (m : RE) (hst : m.st < 10) (L : List (Nat × Nat)) (hL : L = m.bad ((itemsL m.pd).getD [])) : m.at_ 9 = m.prun ((row_atBadRequest L).getD m.st []) := by
  unfold RE.at_
  subst hL
  rcases (by omega : m.st = 0 ∨ m.st = 1 ∨ m.st = 2 ∨ m.st = 3 ∨ m.st = 4 ∨ m.st = 5 ∨ m.st = 6 ∨ m.st = 7 ∨ m.st = 8 ∨ m.st = 9) with e | e | e | e | e | e | e | e | e | e
  all_goals rw [e]
  case _ => rfl
  case _ => rfl
  case _ => rfl
  case _ => rfl
  case _ => rfl
  case _ => rfl
  case _ =>
    show m.run [110] = m.prun [.nak _, .l 54]
    have h6 : (m.nakW (m.bad ((itemsL m.pd).getD []))).1.st = 6 := by
      obtain ⟨x, y, z, e', _⟩ := RE.nakItems_eq (m.bad ((itemsL m.pd).getD [])) m
      show (m.nakItems _).1.st = 6
      rw [e']; exact e
    have := st_same _ 6 h6 (by omega)
    simp only [RE.run, RE.prun, RE.pa]
    rw [this]
    rfl
  case _ => rfl
  case _ => rfl
  case _ => rfl
end Go.Proofs.YtoeihlgidakjbaaGreatDoor
namespace Go.Proofs.YtoeihlgidakjbaaGreatDoor
open Go.RowKit Go.Lib
set_option maxRecDepth 100000 in
set_option maxHeartbeats 4000000 in
theorem isNaking_any (pb st : Nat) (w : World) (hst : st < 10) (c14 : w.cell? ⟨pb, 14, none⟩ = some (.int .i64 (st : Int))) :
    Calls Tryz.prog 130 #[.pointer (some ⟨pb, 0, none⟩)] w fun r w' => r = .returned (.bool (decide (st = 3 ∨ 6 ≤ st))) ∧ w' = w := by
  rcases (by omega : st = 0 ∨ st = 1 ∨ st = 2 ∨ st = 3 ∨ st = 4 ∨ st = 5 ∨ st = 6 ∨ st = 7 ∨ st = 8 ∨ st = 9) with rfl | rfl | rfl | rfl | rfl | rfl | rfl | rfl | rfl | rfl
  all_goals
    go_enter Tryz.func130, Tryz.ntmps130
    go_wp2_with fail
    go_ret
    exact ⟨rfl, rfl⟩
set_option maxRecDepth 100000 in
set_option maxHeartbeats 4000000 in
theorem isForLast_any {B Bs pb : Nat} {v : PV} {q : Nat × Nat × Nat} {m : RE} {S : List UInt8} (w : World) (h : PX w B Bs pb v q m S) :
    Calls Tryz.prog 133 #[.pointer (some ⟨pb, 0, none⟩), .agg (pkA m.pk)] w fun r w' => r = .returned (.bool (decide ((m.pi : Int) = m.sid))) ∧ Below w.heap.size w w' := by
  have BA : Hid (Below w.heap.size w (w.alloc (.cells (pkA m.pk) 27))) := (Below.refl _ _).alloc (Nat.le_refl _) _
  have hA := h.below BA.out
  have c19 : (w.alloc (.cells (pkA m.pk) 27)).cell? ⟨pb, 19, none⟩ = some (.int .i64 (if m.sid < 0 then 0 else 1)) := blk_cell hA.em.blk
  have c20 : (w.alloc (.cells (pkA m.pk) 27)).cell? ⟨pb, 20, none⟩ = some (.int .i64 (if m.sid < 0 then 0 else m.sid)) := blk_cell hA.em.blk
  have x1 : (w.alloc (.cells (pkA m.pk) 27)).cell? ⟨w.heap.size, 1, none⟩ = some (.int .i64 (m.pi : Int)) := blk_cell (heap_alloc_new w _)
  clear h hA
  by_cases hs : m.sid < 0
  · rw [if_pos hs] at c19 c20
    have hd : decide ((m.pi : Int) = m.sid) = false := decide_eq_false (by omega)
    rw [hd]
    go_enter Tryz.func133, Tryz.ntmps133
    go_upto_region 1 with fail
    generalize w.alloc (.cells (pkA m.pk) 27) = WA at *
    clear c20 hd
    have h01 : ((0 : Int) == 1) = false := by decide
    go_quiet (fail)
    go_wp2_with fail
    go_ret
    exact ⟨rfl, below_drewN BA.out _⟩
  · rw [if_neg hs] at c19 c20
    by_cases he : (m.pi : Int) = m.sid
    · have hd : decide ((m.pi : Int) = m.sid) = true := decide_eq_true he
      rw [hd]
      have hq : ((m.pi : Int) == m.sid) = true := by simp [he]
      go_enter Tryz.func133, Tryz.ntmps133
      go_upto_region 1 with fail
      generalize w.alloc (.cells (pkA m.pk) 27) = WA at *
      clear hd he
      have h01 : ((1 : Int) == 1) = true := by decide
      go_quiet (fail)
      go_wp2_with fail
      go_ret
      exact ⟨rfl, below_drewN BA.out _⟩
    · have hd : decide ((m.pi : Int) = m.sid) = false := decide_eq_false he
      rw [hd]
      have hq : ((m.pi : Int) == m.sid) = false := by simp [he]
      go_enter Tryz.func133, Tryz.ntmps133
      go_upto_region 1 with fail
      generalize w.alloc (.cells (pkA m.pk) 27) = WA at *
      clear hd he
      have h01 : ((1 : Int) == 1) = true := by decide
      go_quiet (fail)
      go_wp2_with fail
      go_ret
      exact ⟨rfl, below_drewN BA.out _⟩
set_option maxRecDepth 100000 in
set_option maxHeartbeats 4000000 in
theorem isOnce_any {B Bs pb H : Nat} {v : PV} {m : RE} {S : List UInt8} (vi vb : Value) (a b c d : Nat) (w : World) (h : PI w B Bs pb v m S) (fit : m.Fit 100) (oi : w.ownsRow H 189 2 vi 4 (itemC [(1, a), (2, b), (3, c), (4, d)])) (hd : d < 65536) :
    Calls Tryz.prog 161 #[.pointer (some ⟨pb, 0, none⟩), .agg (rqA m.pk vi vb)] w fun r w' =>
      (d ∉ m.mg ∧ r = .returned (.bool false) ∧ Below w.heap.size w w') ∨ (d ∈ m.mg ∧ r = .returned (.bool (decide (3 < m.loops + 1))) ∧ PI w' B Bs pb v { m with loops := m.loops + 1 } S ∧ Tch (fun x => x = pb) w w') := by
  obtain ⟨ad, cap, g, rfl, ha, hc⟩ := own_shape2 oi
  obtain ⟨rfl, hg1, hg2⟩ := ha (by omega)
  have BA : Hid (Below w.heap.size w (w.alloc (.cells (rqA m.pk (.slice (some ⟨g, 0, none⟩) 4 cap) vb) 168))) := (Below.refl _ _).alloc (Nat.le_refl _) _
  have hA := h.below BA.out
  have HA : Hid (PI (w.alloc (.cells (rqA m.pk (.slice (some ⟨g, 0, none⟩) 4 cap) vb) 168)) B Bs pb v m S) := hA
  have x3 : (w.alloc (.cells (rqA m.pk (.slice (some ⟨g, 0, none⟩) 4 cap) vb) 168)).drew.cell? ⟨w.heap.size, 3, none⟩ = some (.slice (some ⟨g, 0, none⟩) 4 cap) := blk_cell (w := w.alloc (.cells (rqA m.pk (.slice (some ⟨g, 0, none⟩) 4 cap) vb) 168)) (heap_alloc_new w _)
  have x7 : (w.alloc (.cells (rqA m.pk (.slice (some ⟨g, 0, none⟩) 4 cap) vb) 168)).drew.cell? ⟨g, 7, none⟩ = some (.int .i64 (d : Int)) := (BA.out.cell (p := ⟨g, 7, none⟩) hg2).trans (hc 7 _ rfl)
  have HO : Hid (_) := isOwn_any pb v.mb d m.mg (w.alloc (.cells (rqA m.pk (.slice (some ⟨g, 0, none⟩) 4 cap) vb) 168)).drew (hA.mp.blk rfl) (blk_cell (w := w.alloc (.cells (rqA m.pk (.slice (some ⟨g, 0, none⟩) 4 cap) vb) 168)) hA.em.blk) hd
  have hlp := fit.lp
  have hw1 : IntKind.i64.wrap ((m.loops : Int) + 1) = (m.loops : Int) + 1 := wrap_in (by omega) (by omega)
  have zA : (w.alloc (.cells (rqA m.pk (.slice (some ⟨g, 0, none⟩) 4 cap) vb) 168)).heap.size = w.heap.size + 1 := by simp
  have hpb := blk_lt h.em.blk
  clear h fit oi ha hc hA
  go_enter Tryz.func161, Tryz.ntmps161
  go_upto_region 1 with fail
  generalize w.alloc (.cells (rqA m.pk (.slice (some ⟨g, 0, none⟩) 4 cap) vb) 168) = WA at *
  go_cut [14] (fun t wx => t = .bool (!decide (d ∈ m.mg)) ∧ Hid (PI wx B Bs pb v m S ∧ Below w.heap.size w wx))
  case first =>
    go_region_law (go_simp; go_at_call 173; refine Calls.mono HO.out ?_; rintro e wq ⟨rfl, hbq⟩; have hbq' : Below WA.heap.size WA wq := ⟨hbq.os, hbq.tape, hbq.output, hbq.size, hbq.block⟩)
    all_goals
      go_wp2_with fail
      go_meet
      exact ⟨by simp, HA.out.below hbq', BA.out.trans (hbq'.mono BA.out.size)⟩
  case rest =>
    obtain ⟨rfl, HC⟩ := hcut
    clear x3 x7 HO
    have c29 : wc.cell? ⟨pb, 29, none⟩ = some (.int .i64 (m.loops : Int)) := blk_cell HC.out.1.em.blk
    have f29 : wc.frozen? ⟨pb, 29, none⟩ = false := blk_free HC.out.1.em.blk
    by_cases hin : d ∈ m.mg
    · have hdd : decide (d ∈ m.mg) = true := decide_eq_true hin
      have HIN : Hid (d ∈ m.mg) := hin
      rw [hdd]
      clear hdd hin
      have hp := HC.out.1.num (q' := m.props) (m' := { m with loops := m.loops + 1 }) (blk_set (k := 29) (x := .int .i64 ((m.loops : Int) + 1)) HC.out.1.em.blk) (tset wc pb 29 _) rfl rfl rfl
      have HP : Hid (_) := hp
      clear hp
      by_cases h3 : 3 < m.loops + 1
      · have h3i : (3 : Int) < (m.loops : Int) + 1 := by omega
        have H3 : Hid (decide (3 < m.loops + 1) = true) := decide_eq_true h3
        clear h3
        go_wp2_with fail
        go_ret
        exact .inr ⟨HIN.out, by rw [H3.out]; rfl, HP.out.1, (Tch.of_below HC.out.2).trans (tset _ _ _ _)⟩
      · have h3i : ¬ (3 : Int) < (m.loops : Int) + 1 := by omega
        have H3 : Hid (decide (3 < m.loops + 1) = false) := decide_eq_false h3
        clear h3
        go_wp2_with fail
        go_ret
        exact .inr ⟨HIN.out, by rw [H3.out]; rfl, HP.out.1, (Tch.of_below HC.out.2).trans (tset _ _ _ _)⟩
    · have hdd : decide (d ∈ m.mg) = false := decide_eq_false hin
      have HIN : Hid (d ∉ m.mg) := hin
      rw [hdd]
      clear hdd hin
      go_wp2_with fail
      go_ret
      exact .inl ⟨HIN.out, rfl, HC.out.2⟩
end Go.Proofs.YtoeihlgidakjbaaGreatDoor
namespace Go.Proofs.YtoeihlgidakjbaaGreatDoor
open Go.RowKit Go.Lib
def PatH (w w' : World) (H B Bs pb : Nat) (v : PV) (S : List UInt8) (E : RE × List UInt8) (r : Ending) : Prop :=
  ∃ va LS m', r = .returned va ∧ ActsIn w' H pb m'.pk va LS ∧ PI w' B Bs pb v m' S ∧ ES w w' pb v.vals v.vals ∧ E = m'.prun LS ∧ m'.Ok ∧ m'.Fit 800 ∧ LS.length ≤ 6
theorem PatH.nil {w w' : World} {H B Bs pb : Nat} {v : PV} {m : RE} {S : List UInt8} {E : RE × List UInt8} (hp : PI w B Bs pb v m S) (hb : Below w.heap.size w w') (he : E = (m, [])) (ok : m.Ok) (fit : m.Fit 800) : PatH w w' H B Bs pb v S E (.returned (.slice none 0 0)) :=
  ⟨_, [], m, rfl, (acts_nil _ _ _ _).2, hp.below hb, ES.below hb, he, ok, fit, by simp⟩
theorem acts_cons {w : World} {H pb gv n capv : Nat} {pk : Pk} {c : PA} {u : Value} {LS : List PA} {us : List Value} (h : w.ownsRow H 113 1 (.slice (some ⟨gv, 0, none⟩) n capv) n (u :: us)) (hl : us.length = LS.length) (hu : ∃ F : Nat → Prop, Does w F pb pk c u ∧ ∀ b, F b → H ≤ b)
    (ha : ∀ (j : Nat) (c : PA) (u : Value), LS[j]? = some c → us[j]? = some u → ∃ F : Nat → Prop, Does w F pb pk c u ∧ ∀ b, F b → H ≤ b) : ActsIn w H pb pk (.slice (some ⟨gv, 0, none⟩) n capv) (c :: LS) := by
  have hn : n = (c :: LS).length := by have := h.1; simp at this ⊢; omega
  subst hn
  refine ⟨_, capv, gv, u :: us, rfl, fun _ => ⟨rfl, h.lt gv rfl⟩, by simp [hl], fun j x hx => ?_, ?_⟩
  · have hadd : (⟨gv, 0, none⟩ : Addr).add j = ⟨gv, j, none⟩ := by unfold Addr.add; split <;> simp_all
    rw [← hadd]; exact h.cells (g := gv) rfl j x hx
  · intro j c' u' hc hx
    match j with
    | 0 => simp at hc hx; subst hc; subst hx; exact hu
    | j + 1 => simp at hc hx; exact ha j c' u' hc hx
theorem RE.ownF4 (m : RE) (a b c d : Nat) : m.ownF [(1, a), (2, b), (3, c), (4, d)] = decide (d ∈ m.mg) := by simp [RE.ownF]
theorem close_ne {st : Nat} (hst : st < 10) (ha : st = 3 ∨ 6 ≤ st) : 0 < (row_atClose.getD st []).length := by
  rcases (by omega : st = 3 ∨ st = 6 ∨ st = 7 ∨ st = 8 ∨ st = 9) with rfl | rfl | rfl | rfl | rfl <;> decide
theorem close_le (st : Nat) : (row_atClose.getD st []).length ≤ 4 := by
  simp only [List.getD]
  have h : (row_atClose.all fun l => Nat.ble l.length 4) = true := by decide
  cases hx : row_atClose[st]? with
  | none => simp
  | some l => exact Nat.le_of_ble_eq_true (List.all_eq_true.1 h l (List.mem_of_getElem? hx))
theorem tell_close (m : RE) (x : Nat) : ({ m with told := m.told ++ [x] } : RE).at_ 4 = m.prun (.tell x :: row_atClose.getD m.st []) := by
  have := row_ev (R := row_atClose) (ev := 4) rfl ({ m with told := m.told ++ [x] } : RE)
  rw [this]
  show _ = (_, _)
  simp only [RE.pa, List.nil_append]
set_option maxRecDepth 100000 in
set_option maxHeartbeats 8000000 in
theorem patToNak {B Bs pb H : Nat} {v : PV} {m : RE} {S : List UInt8} (vi vb : Value) (l L : List (Nat × Nat)) (w : World) (h : PI w B Bs pb v m S) (ok : m.Ok) (fit : m.Fit 900) (hH : H ≤ w.heap.size) (oi : w.ownsRow H 189 2 vi l.length (itemC l)) (ob : w.ownsRow H 189 2 vb L.length (itemC L)) (hvp : ∀ b, (vi.ownBlock = some b ∨ vb.ownBlock = some b) → b ≠ pb) (hl : itemsL m.pd = some l ∧ l.length = 4) (hlk : ItemsOk l) (hL : L = m.bad l) (h0 : 0 < L.length) (hans : m.st = 3 ∨ 6 ≤ m.st) :
    Calls Tryz.prog 131 #[.pointer (some ⟨pb, 0, none⟩), .agg (rqA m.pk vi vb)] w fun r w' => PatH w w' H B Bs pb v S (m.asked l) r := by
  have hmf : ∀ (fn : Fn) (first cap : Array Value) (w : World), (Instr.makeFunc fn first cap).run Tryz.prog w = .ok (.func fn first cap) w := fun _ _ _ _ => rfl
  obtain ⟨i0, hi, hz0, hz1, hz2⟩ := info_parts Tryz.infoFn
  obtain ⟨a, b, c, d, e4⟩ := four_items hl.1 hl.2
  have hd : d < 65536 := (hlk.2 (4, d) (by rw [e4]; simp)).2.2
  have hLk : ItemsOk L := by
    refine ⟨by rw [hL]; exact Nat.le_trans (List.length_filter_le _ _) hlk.1, fun x hx => hlk.2 x ?_⟩
    rw [hL] at hx; exact (List.mem_filter.1 hx).1
  have hbad : m.bad l ≠ [] := by rw [← hL]; intro e; rw [e] at h0; simp at h0
  have own : m.ownF l = decide (d ∈ m.mg) := by rw [e4]; exact m.ownF4 a b c d
  have BA : Hid (Below w.heap.size w (w.alloc (.cells (rqA m.pk vi vb) 168))) := (Below.refl _ _).alloc (Nat.le_refl _) _
  have RA : Hid ((w.alloc (.cells (rqA m.pk vi vb) 168)).heap[w.heap.size]? = some (.cells (rqA m.pk vi vb) 168 (0, 0))) := heap_alloc_new w _
  have zA : (w.alloc (.cells (rqA m.pk vi vb) 168)).heap.size = w.heap.size + 1 := by simp
  have hpb := blk_lt h.em.blk
  have hst := ok.st
  have HA : Hid (PI (w.alloc (.cells (rqA m.pk vi vb) 168)) B Bs pb v m S) := h.below BA.out
  have OI : Hid ((w.alloc (.cells (rqA m.pk vi vb) 168)).ownsRow H 189 2 vi l.length (itemC l)) := owns_below oi BA.out
  have OB : Hid ((w.alloc (.cells (rqA m.pk vi vb) 168)).ownsRow H 189 2 vb L.length (itemC L)) := owns_below ob BA.out
  have HO : Hid (_) := isOnce_any vi vb a b c d (w.alloc (.cells (rqA m.pk vi vb) 168)) HA.out (fit.less (by omega)) (by have := OI.out; rw [e4] at this; exact this) hd
  have OK : Hid (m.Ok) := ok
  have FIT : Hid (m.Fit 900) := fit
  have HLL : Hid (itemsL m.pd = some l ∧ l.length = 4) := hl
  have HVP : Hid (∀ b, (vi.ownBlock = some b ∨ vb.ownBlock = some b) → b ≠ pb) := hvp
  clear h ok fit oi ob hl e4 hvp
  go_enter Tryz.func131, Tryz.ntmps131
  go_wp2_with fail
  generalize w.alloc (.cells (rqA m.pk vi vb) 168) = WA at *
  refine Calls.mono HO.out ?_
  intro e w1 hE
  have hpk1 : ∀ x : RE, x.pk = m.pk → x.pd = m.pd := fun x hx => congrArg (fun p : Pk => p.2.2) hx
  obtain ⟨mm, too, rfl, HM⟩ : ∃ (mm : RE) (too : Bool), e = .returned (.bool too) ∧ Hid (PI w1 B Bs pb v mm S ∧ Tch (fun b => b = pb) WA w1 ∧ mm.Ok ∧ mm.Fit 890 ∧ mm.pk = m.pk ∧ mm.st = m.st ∧ mm.naks = m.naks ∧ mm.bad l = m.bad l ∧ m.asked l = (if too = true then ({ mm with told := mm.told ++ [6] } : RE).at_ 4 else if 20 ≤ mm.naks then ({ mm with told := mm.told ++ [5] } : RE).at_ 4 else mm.at_ 9)) := by
    have hok1 : RE.Ok { m with loops := m.loops + 1 } := ⟨OK.out.st, OK.out.id, OK.out.odd, OK.out.k0, OK.out.k1, OK.out.k2, OK.out.pc, OK.out.pi, OK.out.pd, OK.out.mg, OK.out.ms, OK.out.aa, OK.out.ww⟩
    have hfit1 : RE.Fit { m with loops := m.loops + 1 } 890 := by
      obtain ⟨told, mg, c0, c1, nk, lp, h0, h1, h2⟩ := FIT.out
      constructor <;> simp only <;> omega
    rcases hE with ⟨hin, rfl, hb1⟩ | ⟨hin, rfl, hp1, ht1⟩
    · have ho : m.ownF l = false := by rw [own]; exact decide_eq_false hin
      refine ⟨m, false, rfl, HA.out.below hb1, Tch.of_below hb1, OK.out, FIT.out.less (by omega), rfl, rfl, rfl, rfl, ?_⟩
      rw [if_neg (by simp)]
      by_cases hn : 20 ≤ m.naks
      · rw [if_pos hn]; exact RE.asked_n5 hbad hans ho hn
      · rw [if_neg hn]; exact RE.asked_n9 hbad ho hn
    · have ho : m.ownF l = true := by rw [own]; exact decide_eq_true hin
      refine ⟨{ m with loops := m.loops + 1 }, decide (3 < m.loops + 1), rfl, hp1, ht1, hok1, hfit1, rfl, rfl, rfl, rfl, ?_⟩
      by_cases hll : 3 < m.loops + 1
      · rw [if_pos (decide_eq_true hll)]; exact RE.asked_6 hbad hans ho hll
      · rw [if_neg (by simp; omega)]
        by_cases hn : 20 ≤ m.naks
        · rw [if_pos hn]; exact RE.asked_o5 hbad hans ho hll hn
        · rw [if_neg hn]; exact RE.asked_o9 hbad hans ho hll hn
  have zz1 : WA.heap.size ≤ w1.heap.size := HM.out.2.1.size
  have c28 : w1.cell? ⟨pb, 28, none⟩ = some (.int .i64 (mm.naks : Int)) := blk_cell HM.out.1.em.blk
  have ESA : Hid (ES w w1 pb v.vals v.vals) := (ES.below BA.out).trans ⟨HM.out.2.1.mono (fun b e => .inl e), fun _ x => .inl x⟩
  clear hE HO hpk1
  cases too
  · by_cases hn : 20 ≤ mm.naks
    · have hni : (20 : Int) ≤ (mm.naks : Int) := by omega
      have HE : Hid (m.asked l = ({ mm with told := mm.told ++ [5] } : RE).at_ 4) := by
        have := HM.out.2.2.2.2.2.2.2.2
        rw [if_neg (by simp), if_pos hn] at this
        exact this
      have WD0 : Hid ((w1.alloc (.cells #[methV pb 163] 113)).ownsRow H 113 1 (.slice (some ⟨w1.heap.size, 0, none⟩) 1 1) 1 [methV pb 163]) := own_built (by omega) #[methV pb 163] (by show 1 ≤ 100; omega)
      have BD : Hid (Below w1.heap.size w1 (w1.alloc (.cells #[methV pb 163] 113))) := (Below.refl _ _).alloc (Nat.le_refl _) _
      have zD : (w1.alloc (.cells #[methV pb 163] 113)).heap.size = w1.heap.size + 1 := by simp
      have PD : Hid (PI (w1.alloc (.cells #[methV pb 163] 113)) B Bs pb v mm S) := HM.out.1.below BD.out
      have HCL : Hid (_) := patClose pb mm.st (w1.alloc (.cells #[methV pb 163] 113)).heap.size mm.pk (w1.alloc (.cells #[methV pb 163] 113)) HM.out.2.2.1.st (blk_lt PD.out.em.blk) (Nat.le_refl _) (blk_cell PD.out.em.blk)
      go_wp2_with fail
      generalize w1.alloc (.cells #[methV pb 163] 113) = WD at *
      refine Calls.mono HCL.out ?_
      rintro e w2 ⟨va, rfl, ⟨_, ad, cap, g, us, rfl, had, hul, hus, hact⟩, hb2⟩
      have hst' : mm.st = m.st := HM.out.2.2.2.2.2.1
      have hlen : 0 < (row_atClose.getD mm.st []).length := close_ne HM.out.2.2.1.st (by rw [hst']; exact hans)
      have hle := close_le mm.st
      obtain ⟨rfl, hgH, hgl⟩ := had hlen
      have zz2 := hb2.size
      have W2 : Hid (w2.ownsRow H 113 1 (.slice (some ⟨w1.heap.size, 0, none⟩) 1 1) 1 [methV pb 163]) := owns_below WD0.out hb2
      have HUS : Hid (us.length = (row_atClose.getD mm.st []).length ∧ (∀ (j : Nat) (u : Value), us[j]? = some u → w2.cell? ((⟨g, 0, none⟩ : Addr).add j) = some u) ∧ (∀ u ∈ us, u.oneCell' = true) ∧ ∀ (j : Nat) (c : PA) (u : Value), (row_atClose.getD mm.st [])[j]? = some c → us[j]? = some u → ∃ F : Nat → Prop, Does w2 F pb mm.pk c u ∧ ∀ b, F b → WD.heap.size ≤ b) := by
        refine ⟨hul, fun j u hu => ?_, fun u hu => ?_, hact⟩
        · have hadd : (⟨g, 0, none⟩ : Addr).add j = ⟨g, j, none⟩ := by unfold Addr.add; split <;> simp_all
          rw [hadd]; exact hus j u hu
        · obtain ⟨j, hj⟩ := List.getElem?_of_mem hu
          obtain ⟨hjl, _⟩ := List.getElem?_eq_some_iff.1 hj
          obtain ⟨F, ⟨f, x, y, rfl, _⟩, _⟩ := hact j _ u (List.getElem?_eq_getElem (by omega)) hj
          rfl
      have B2 : Hid (Below WD.heap.size WD w2) := hb2
      have HLS : Hid (row_atClose.getD mm.st [] = row_atClose.getD mm.st []) := rfl
      clear hus hact had hb2 HCL hul
      generalize hLS : row_atClose.getD mm.st [] = LS at *
      go_wp2_with (at_builtin; go_must (refine wpList_append_lies _ rfl (.tmp 24) (.tmp 26) 85 rfl H 113 i0 .nilFunc 1 8 Tryz.underlying85 hi hz0 hz1 hz2 rfl (by decide) _ 1 [methV pb 163] rfl W2.out ⟨g, 0, none⟩ LS.length cap us rfl (by have := HUS.out.1; omega) HUS.out.2.1 HUS.out.2.2.1 hlen (by unfold maxLen; omega) (by omega) (by omega) _ rfl ?_; intro gv capv w3 hown1 hgrow1 hat1 hlt1))
      go_ret
      have off : ∀ b, (Value.slice (some ⟨w1.heap.size, 0, none⟩) 1 1).ownBlock = some b → b = w1.heap.size := fun b e => (Option.some.inj e).symm
      have tq : Tch (fun b => (Value.slice (some ⟨w1.heap.size, 0, none⟩) 1 1).ownBlock = some b) w2 w3 := ⟨hgrow1.os, hgrow1.tape, hgrow1.output, hgrow1.size, fun b hb' hs => hgrow1.block b hb' (fun e => hs e.symm)⟩
      have hb3 : Below w1.heap.size w1 w3 := (BD.out.trans (B2.out.mono (by omega))).trans (tq.below (by omega) (fun b hb => by rw [off b hb]; omega))
      refine ⟨_, .tell 5 :: LS, mm, rfl, acts_cons hown1 HUS.out.1 ⟨_, Does.meth a_tellGiveUp trivial _ _ _, fun _ x => x.elim⟩ (fun j c u hc hu => ?_), HM.out.1.below hb3, ESA.out.trans (ES.below hb3), ?_, HM.out.2.2.1, HM.out.2.2.2.1.less (by omega), by simp; omega⟩
      · obtain ⟨F, dd, hF⟩ := HUS.out.2.2.2 j c u hc hu
        exact ⟨F, dd.tch tq (fun b hb x => by have := hF b hb; rw [off b x] at this; omega), fun b hb => by have := hF b hb; omega⟩
      · rw [HE.out, tell_close, hLS]
    · have hni : ¬ (20 : Int) ≤ (mm.naks : Int) := by omega
      have HE : Hid (m.asked l = mm.at_ 9) := by
        have := HM.out.2.2.2.2.2.2.2.2
        rw [if_neg (by simp), if_neg hn] at this
        exact this
      have rb : w1.heap[w.heap.size]? = some (.cells (rqA m.pk vi vb) 168 (0, 0)) := (HM.out.2.1.block _ (by omega) (by omega)).trans RA.out
      have x0 : w1.cell? ⟨w.heap.size, 0, none⟩ = some (.int .i64 (m.pk.1 : Int)) := blk_cell rb
      have x1 : w1.cell? ⟨w.heap.size, 1, none⟩ = some (.int .i64 (m.pk.2.1 : Int)) := blk_cell rb
      have x2 : w1.cell? ⟨w.heap.size, 2, none⟩ = some (.string ⟨m.pk.2.2.toArray⟩) := blk_cell rb
      have x3 : w1.cell? ⟨w.heap.size, 3, none⟩ = some vi := blk_cell rb
      have x4 : w1.cell? ⟨w.heap.size, 4, none⟩ = some vb := blk_cell rb
      have oi1 := owns_tch OI.out HM.out.2.1 (fun b hb e => HVP.out b (.inl hb) e)
      have ob1 := owns_tch OB.out HM.out.2.1 (fun b hb e => HVP.out b (.inr hb) e)
      have HBR : Hid (_) := patBadRequest pb mm.st H m.pk w1 HM.out.2.2.1.st (blk_lt HM.out.1.em.blk) (by omega) (blk_cell HM.out.1.em.blk) vi vb l L oi1 ob1 HLL.out hLk h0
      clear rb oi1 ob1
      go_wp2_with fail
      refine Calls.mono HBR.out ?_
      rintro e w2 ⟨va, rfl, ha, hb2⟩
      have Q : Hid (PatH w w2 H B Bs pb v S (m.asked l) (.returned va)) := by
        have hpk := HM.out.2.2.2.2.1
        have hpd : mm.pd = m.pd := congrArg (fun p : Pk => p.2.2) hpk
        refine ⟨va, _, mm, rfl, by rw [hpk]; exact ha.2, HM.out.1.below hb2, ESA.out.trans (ES.below hb2), HE.out.trans (bad_run mm HM.out.2.2.1.st L ?_), HM.out.2.2.1, HM.out.2.2.2.1.less (by omega), row_six rfl _⟩
        rw [hpd, HLL.out.1, hL, ← HM.out.2.2.2.2.2.2.2.1]; rfl
      clear ha hb2 HBR
      go_wp2_with fail
      go_ret
      exact Q.out
  · have HE : Hid (m.asked l = ({ mm with told := mm.told ++ [6] } : RE).at_ 4) := by
      have := HM.out.2.2.2.2.2.2.2.2
      rw [if_pos rfl] at this
      exact this
    have WD0 : Hid ((w1.alloc (.cells #[methV pb 162] 113)).ownsRow H 113 1 (.slice (some ⟨w1.heap.size, 0, none⟩) 1 1) 1 [methV pb 162]) := own_built (by omega) #[methV pb 162] (by show 1 ≤ 100; omega)
    have BD : Hid (Below w1.heap.size w1 (w1.alloc (.cells #[methV pb 162] 113))) := (Below.refl _ _).alloc (Nat.le_refl _) _
    have zD : (w1.alloc (.cells #[methV pb 162] 113)).heap.size = w1.heap.size + 1 := by simp
    have PD : Hid (PI (w1.alloc (.cells #[methV pb 162] 113)) B Bs pb v mm S) := HM.out.1.below BD.out
    have HCL : Hid (_) := patClose pb mm.st (w1.alloc (.cells #[methV pb 162] 113)).heap.size mm.pk (w1.alloc (.cells #[methV pb 162] 113)) HM.out.2.2.1.st (blk_lt PD.out.em.blk) (Nat.le_refl _) (blk_cell PD.out.em.blk)
    go_wp2_with fail
    generalize w1.alloc (.cells #[methV pb 162] 113) = WD at *
    refine Calls.mono HCL.out ?_
    rintro e w2 ⟨va, rfl, ⟨_, ad, cap, g, us, rfl, had, hul, hus, hact⟩, hb2⟩
    have hst' : mm.st = m.st := HM.out.2.2.2.2.2.1
    have hlen : 0 < (row_atClose.getD mm.st []).length := close_ne HM.out.2.2.1.st (by rw [hst']; exact hans)
    have hle := close_le mm.st
    obtain ⟨rfl, hgH, hgl⟩ := had hlen
    have zz2 := hb2.size
    have W2 : Hid (w2.ownsRow H 113 1 (.slice (some ⟨w1.heap.size, 0, none⟩) 1 1) 1 [methV pb 162]) := owns_below WD0.out hb2
    have HUS : Hid (us.length = (row_atClose.getD mm.st []).length ∧ (∀ (j : Nat) (u : Value), us[j]? = some u → w2.cell? ((⟨g, 0, none⟩ : Addr).add j) = some u) ∧ (∀ u ∈ us, u.oneCell' = true) ∧ ∀ (j : Nat) (c : PA) (u : Value), (row_atClose.getD mm.st [])[j]? = some c → us[j]? = some u → ∃ F : Nat → Prop, Does w2 F pb mm.pk c u ∧ ∀ b, F b → WD.heap.size ≤ b) := by
      refine ⟨hul, fun j u hu => ?_, fun u hu => ?_, hact⟩
      · have hadd : (⟨g, 0, none⟩ : Addr).add j = ⟨g, j, none⟩ := by unfold Addr.add; split <;> simp_all
        rw [hadd]; exact hus j u hu
      · obtain ⟨j, hj⟩ := List.getElem?_of_mem hu
        obtain ⟨hjl, _⟩ := List.getElem?_eq_some_iff.1 hj
        obtain ⟨F, ⟨f, x, y, rfl, _⟩, _⟩ := hact j _ u (List.getElem?_eq_getElem (by omega)) hj
        rfl
    have B2 : Hid (Below WD.heap.size WD w2) := hb2
    have HLS : Hid (row_atClose.getD mm.st [] = row_atClose.getD mm.st []) := rfl
    clear hus hact had hb2 HCL hul
    generalize hLS : row_atClose.getD mm.st [] = LS at *
    go_wp2_with (at_builtin; go_must (refine wpList_append_lies _ rfl (.tmp 24) (.tmp 26) 85 rfl H 113 i0 .nilFunc 1 8 Tryz.underlying85 hi hz0 hz1 hz2 rfl (by decide) _ 1 [methV pb 162] rfl W2.out ⟨g, 0, none⟩ LS.length cap us rfl (by have := HUS.out.1; omega) HUS.out.2.1 HUS.out.2.2.1 hlen (by unfold maxLen; omega) (by omega) (by omega) _ rfl ?_; intro gv capv w3 hown1 hgrow1 hat1 hlt1))
    go_ret
    have off : ∀ b, (Value.slice (some ⟨w1.heap.size, 0, none⟩) 1 1).ownBlock = some b → b = w1.heap.size := fun b e => (Option.some.inj e).symm
    have tq : Tch (fun b => (Value.slice (some ⟨w1.heap.size, 0, none⟩) 1 1).ownBlock = some b) w2 w3 := ⟨hgrow1.os, hgrow1.tape, hgrow1.output, hgrow1.size, fun b hb' hs => hgrow1.block b hb' (fun e => hs e.symm)⟩
    have hb3 : Below w1.heap.size w1 w3 := (BD.out.trans (B2.out.mono (by omega))).trans (tq.below (by omega) (fun b hb => by rw [off b hb]; omega))
    refine ⟨_, .tell 6 :: LS, mm, rfl, acts_cons hown1 HUS.out.1 ⟨_, Does.meth a_tellLoop trivial _ _ _, fun _ x => x.elim⟩ (fun j c u hc hu => ?_), HM.out.1.below hb3, ESA.out.trans (ES.below hb3), ?_, HM.out.2.2.1, HM.out.2.2.2.1.less (by omega), by simp; omega⟩
    · obtain ⟨F, dd, hF⟩ := HUS.out.2.2.2 j c u hc hu
      exact ⟨F, dd.tch tq (fun b hb x => by have := hF b hb; rw [off b x] at this; omega), fun b hb => by have := hF b hb; omega⟩
    · rw [HE.out, tell_close, hLS]
end Go.Proofs.YtoeihlgidakjbaaGreatDoor

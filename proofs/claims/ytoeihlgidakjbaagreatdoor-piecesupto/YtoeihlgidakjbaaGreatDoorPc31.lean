/- Two new ends of a pair, opened: plain mathematics. happens, known. Pieces: noise between frames, frames in a row, rounds: plain mathematics. -/
import Derived.Test.YtoeihlgidakjbaaGreatDoorPc5
import Derived.Test.YtoeihlgidakjbaaGreatDoorPc30
namespace Go.Proofs.YtoeihlgidakjbaaGreatDoor
open Go.RowKit Go.Lib
theorem sn_any {k v : Nat} {acc want : List Nat} (h : Nat) (ha : v ∈ acc) (hw : v ∈ want) (hl : acc.length ≤ 8) : Sn k acc want h 8 := by
  obtain ⟨i, hi, e⟩ := List.getElem_of_mem ha
  have hp : 0 < acc.length := by omega
  have hm := Nat.mod_lt h hp
  refine .inr ⟨(i + acc.length - h % acc.length) % acc.length, Nat.lt_of_lt_of_le (Nat.mod_lt _ hp) hl, ?_⟩
  have key : (h + (i + acc.length - h % acc.length) % acc.length) % acc.length = i := by
    rw [Nat.add_mod_mod, Nat.add_mod]
    have h2 : (i + acc.length - h % acc.length) % acc.length + h % acc.length = (i + acc.length - h % acc.length) % acc.length + h % acc.length := rfl
    have h3 : (h % acc.length + (i + acc.length - h % acc.length) % acc.length) % acc.length = (h % acc.length + (i + acc.length - h % acc.length)) % acc.length := by rw [Nat.add_mod_mod]
    rw [h3, show h % acc.length + (i + acc.length - h % acc.length) = i + acc.length by omega, Nat.add_mod_right]
    exact Nat.mod_eq_of_lt hi
  rw [key, List.getD, List.getElem?_eq_getElem hi, Option.getD_some, e]
  exact hw
structure Suit (LA LB : Nat → List Int) (ma mb : Int) : Prop where
  la : ∀ i, i < 6 → IsL (LA i)
  lb : ∀ i, i < 6 → IsL (LB i)
  a1 : 1 ≤ ma
  a2 : ma ≤ 65535
  b1 : 1 ≤ mb
  b2 : mb ≤ 65535
  ne : ma ≠ mb
  ab : ∀ i, i < 3 → ∃ v, v ∈ LA i ∧ v ∈ LB (3 + i)
  ba : ∀ i, i < 3 → ∃ v, v ∈ LB i ∧ v ∈ LA (3 + i)
theorem suit_pair (raw : List Int) : Suit (cfgA raw) (cfgB raw) (magA raw) (magB raw) := by
  refine ⟨fun i _ => cfgA_isL _ i, fun i _ => cfgB_isL _ i, (magA_in _).1, (magA_in _).2, (magB_in _).1, (magB_in _).2, by unfold magA magB; omega, fun i hi => ⟨(xN raw i : Int), ?_, ?_⟩, fun i hi => ⟨(yN raw i : Int), ?_, ?_⟩⟩
  · unfold cfgA; rw [if_pos hi]; exact (listL_ok _ _ _ (xN_lt _ _)).2.2.1
  · unfold cfgB; rw [if_neg (by omega), show 3 + i - 3 = i by omega]; exact (listL_ok _ _ _ (xN_lt _ _)).2.2.1
  · unfold cfgB; rw [if_pos hi]; exact (listL_ok _ _ _ (yN_lt _ _)).2.2.1
  · unfold cfgA; rw [if_neg (by omega), show 3 + i - 3 = i by omega]; exact (listL_ok _ _ _ (yN_lt _ _)).2.2.1
theorem Suit.swap {LA LB : Nat → List Int} {ma mb : Int} (h : Suit LA LB ma mb) : Suit LB LA mb ma := ⟨h.lb, h.la, h.b1, h.b2, h.a1, h.a2, fun e => h.ne e.symm, h.ba, h.ab⟩
theorem head_in {l : List Int} (h : IsL l) : (l.headD 0).toNat ∈ l.map Int.toNat := by
  cases l with
  | nil => exact absurd h.1 (by simp)
  | cons x r => simp
def Ln.begin (l : Ln) : Ln := (((l.tell true 3).tell false 3).tell true 1).tell false 1
theorem suit_dir {LA LB : Nat → List Int} {ma mb : Int} (h : Suit LA LB ma mb) : Dir (((newM LA ma).event 3).1.event 1).1 (((newM LB mb).event 3).1.event 1).1 (.R 8) 1 := by
  have oa : (newM LA ma).Ok := (lim_new h.la h.a1 h.a2).ok
  have ob : (newM LB mb).Ok := (lim_new h.lb h.b1 h.b2).ok
  have oa2 : (((newM LA ma).event 3).1.event 1).1.Ok := RE.run_ok (RE.run_ok oa _) _
  have ob2 : (((newM LB mb).event 3).1.event 1).1.Ok := RE.run_ok (RE.run_ok ob _) _
  have len : ∀ i, i < 6 → ((LB i).map Int.toNat).length ≤ 8 := fun i hi => by rw [List.length_map]; exact (h.lb i hi).2.1
  have mem : ∀ i, i < 3 → ∃ v, v ∈ (LA i).map Int.toNat ∧ v ∈ (LB (3 + i)).map Int.toNat := fun i hi => by
    obtain ⟨v, v1, v2⟩ := h.ab i hi
    exact ⟨v.toNat, List.mem_map.2 ⟨v, v1, rfl⟩, List.mem_map.2 ⟨v, v2, rfl⟩⟩
  obtain ⟨v0, p0, q0⟩ := mem 0 (by omega)
  obtain ⟨v1, p1, q1⟩ := mem 1 (by omega)
  obtain ⟨v2, p2, q2⟩ := mem 2 (by omega)
  refine ⟨oa2, ob2, ?_, rfl, rfl, head_in (h.la 0 (by omega)), head_in (h.la 1 (by omega)), head_in (h.la 2 (by omega)), ?_, ?_, ?_⟩
  · show ma.toNat ∉ [mb.toNat]
    have := h.ne; have := h.a1; have := h.b1
    simp only [List.mem_singleton]
    omega
  · exact sn_any 0 q0 p0 (len 3 (by omega))
  · exact sn_any 0 q1 p1 (len 4 (by omega))
  · exact sn_any 0 q2 p2 (len 5 (by omega))
theorem ev_new (L : Nat → List Int) (mg : Int) : (newM L mg).eventP 3 = [] ∧ ((newM L mg).event 3).1.eventP 1 = [(((newM L mg).event 3).1.event 1).1.reqP 1] ∧ (((newM L mg).event 3).1.event 1).1.st = 6 ∧ (((newM L mg).event 3).1.event 1).1.naks = 0 := ⟨rfl, rfl, rfl, rfl⟩
theorem begin_eq (LA LB : Nat → List Int) (ma mb : Int) : (newL LA LB ma mb).begin = ⟨(((newM LA ma).event 3).1.event 1).1, (((newM LB mb).event 3).1.event 1).1, [(((newM LA ma).event 3).1.event 1).1.reqP 1], [(((newM LB mb).event 3).1.event 1).1.reqP 1]⟩ := by
  have h1 : (newL LA LB ma mb).begin = ⟨(((newM LA ma).event 3).1.event 1).1, (((newM LB mb).event 3).1.event 1).1, ([] ++ (newM LA ma).eventP 3) ++ ((newM LA ma).event 3).1.eventP 1, ([] ++ (newM LB mb).eventP 3) ++ ((newM LB mb).event 3).1.eventP 1⟩ := rfl
  rw [h1, (ev_new LA ma).1, (ev_new LB mb).1, (ev_new LA ma).2.1, (ev_new LB mb).2.1]
  rfl
theorem Suit.cv {LA LB : Nat → List Int} {ma mb : Int} (h : Suit LA LB ma mb) : Cv (newL LA LB ma mb).begin (.R 8) (.R 8) 1 1 := by
  have d1 := suit_dir h
  have d2 := suit_dir h.swap
  have e1 := ev_new LA ma
  have e2 := ev_new LB mb
  rw [begin_eq]
  generalize (((newM LA ma).event 3).1.event 1).1 = a at *
  generalize (((newM LB mb).event 3).1.event 1).1 = b at *
  exact ⟨d1, d2, e1.2.2.1, e2.2.2.1, List.Perm.refl _, List.Perm.refl _, by omega, by omega, by show b.naks + 8 ≤ 19; omega, by show a.naks + 8 ≤ 19; omega⟩
structure Cg (m n : RE) : Prop where
  w0 : n.w0 = m.w0
  w1 : n.w1 = m.w1
  w2 : n.w2 = m.w2
  a0 : n.a0 = m.a0
  a1 : n.a1 = m.a1
  a2 : n.a2 = m.a2
theorem RE.Cf.cg {m n : RE} (h : RE.Cf m n) : Cg m n := ⟨h.w0, h.w1, h.w2, h.a0, h.a1, h.a2⟩
theorem Cg.trans {m n o : RE} (h : Cg m n) (g : Cg n o) : Cg m o := ⟨g.w0.trans h.w0, g.w1.trans h.w1, g.w2.trans h.w2, g.a0.trans h.a0, g.a1.trans h.a1, g.a2.trans h.a2⟩
theorem cg_at {m n : RE} (h : Cg m n) (ev : Nat) : Cg m (n.at_ ev).1 := h.trans (n.at_cf ev).cg
theorem cg_event (m : RE) (k : Int) : Cg m (m.event k).1 :=
  RE.event_ind m k (fun n _ => Cg m n) (fun _ => ⟨rfl, rfl, rfl, rfl, rfl, rfl⟩) (fun ev _ _ _ => (m.at_cf ev).cg) (fun ev t _ _ _ _ => cg_at (m := m) (n := { m with tim := t }) ⟨rfl, rfl, rfl, rfl, rfl, rfl⟩ ev)
theorem cg_takeAll (l : List (Nat × Nat)) (m : RE) : Cg m (m.takeAll l) := by
  induction l generalizing m with
  | nil => exact ⟨rfl, rfl, rfl, rfl, rfl, rfl⟩
  | cons x l ih =>
    have h1 : Cg m (m.take1 x) := by
      unfold RE.take1 RE.ask
      repeat' split
      all_goals exact ⟨rfl, rfl, rfl, rfl, rfl, rfl⟩
    exact h1.trans (ih _)
theorem cg_hear (m : RE) (p : Pq) : Cg m (m.hear p) :=
  RE.receive_ind (m.got1 p) (fun n _ => Cg m n) ⟨rfl, rfl, rfl, rfl, rfl, rfl⟩ (fun _ _ _ _ _ => cg_at (m := m) (n := m.got1 p) ⟨rfl, rfl, rfl, rfl, rfl, rfl⟩ 8) (fun _ n _ _ _ _ _ _ => cg_at (m := m) (n := { m.got1 p with loops := n }) ⟨rfl, rfl, rfl, rfl, rfl, rfl⟩ 9) (fun _ n t _ _ _ _ _ _ _ _ => cg_at (m := m) (n := { m.got1 p with loops := n, told := (m.got1 p).told ++ [t] }) ⟨rfl, rfl, rfl, rfl, rfl, rfl⟩ 4) (fun _ _ _ => cg_at (m := m) (n := m.got1 p) ⟨rfl, rfl, rfl, rfl, rfl, rfl⟩ 10) (fun l _ _ _ _ => cg_at (m := m) (n := (m.got1 p).takeAll l) (Cg.trans (m := m) (n := m.got1 p) ⟨rfl, rfl, rfl, rfl, rfl, rfl⟩ (cg_takeAll l (m.got1 p))) 11) (fun ev _ => cg_at (m := m) (n := m.got1 p) ⟨rfl, rfl, rfl, rfl, rfl, rfl⟩ ev)
structure CgL (LA LB : Nat → List Int) (l : Ln) : Prop where
  a : Cg (newM LA 1) l.a
  b : Cg (newM LB 1) l.b
theorem CgL.tell {LA LB : Nat → List Int} {l : Ln} (h : CgL LA LB l) (first : Bool) (k : Int) : CgL LA LB (l.tell first k) := by
  cases first
  · exact ⟨h.a, h.b.trans (cg_event _ _)⟩
  · exact ⟨h.a.trans (cg_event _ _), h.b⟩
theorem CgL.deliver {LA LB : Nat → List Int} {l : Ln} (h : CgL LA LB l) (first lost : Bool) : CgL LA LB (l.deliver first lost).1 := by
  obtain ⟨a, b, toB, toA⟩ := l
  cases first
  · cases toB with
    | nil => exact h
    | cons p r =>
      cases lost
      · exact ⟨h.a, h.b.trans (cg_hear _ _)⟩
      · exact ⟨h.a, h.b⟩
  · cases toA with
    | nil => exact h
    | cons p r =>
      cases lost
      · exact ⟨h.a.trans (cg_hear _ _), h.b⟩
      · exact ⟨h.a, h.b⟩
theorem CgL.settle {LA LB : Nat → List Int} (n : Nat) {l : Ln} (h : CgL LA LB l) : CgL LA LB (l.settle n).1 := by
  induction n generalizing l with
  | zero => exact h
  | succ n ih =>
    have hb : CgL LA LB l.both.1 := (h.deliver true false).deliver false false
    show CgL LA LB (if l.both.2 = true then _ else _ : Ln × Bool).1
    split
    · exact ih hb
    · exact hb
end Go.Proofs.YtoeihlgidakjbaaGreatDoor
namespace Go.Proofs.YtoeihlgidakjbaaGreatDoor
open Go.RowKit Go.Lib
def knownL : Ln := ((((newL (cfgA []) (cfgB []) (magA []) (magB [])).tell true 3).tell false 3).tell true 1).tell false 1
theorem known_pure : (knownL.settle 100).2 = true ∧ (knownL.settle 100).1.opened = true := by decide +kernel
theorem CfgAt.shapes {w : World} {X : Nat → Value} {L : Nat → List Int} (h : CfgAt w X L) (mg : Int) : ∃ a0 n0 c0 a1 n1 c1 a2 n2 c2 a3 n3 c3 a4 n4 c4 a5 n5 c5, cfC X mg = #[.slice a0 n0 c0, .slice a1 n1 c1, .slice a2 n2 c2, .slice a3 n3 c3, .slice a4 n4 c4, .slice a5 n5 c5, .int .i64 mg] := by
  obtain ⟨a0, n0, c0, e0, _⟩ := (h 0 (by omega)).2
  obtain ⟨a1, n1, c1, e1, _⟩ := (h 1 (by omega)).2
  obtain ⟨a2, n2, c2, e2, _⟩ := (h 2 (by omega)).2
  obtain ⟨a3, n3, c3, e3, _⟩ := (h 3 (by omega)).2
  obtain ⟨a4, n4, c4, e4, _⟩ := (h 4 (by omega)).2
  obtain ⟨a5, n5, c5, e5, _⟩ := (h 5 (by omega)).2
  refine ⟨a0, n0, c0, a1, n1, c1, a2, n2, c2, a3, n3, c3, a4, n4, c4, a5, n5, c5, ?_⟩
  unfold cfC
  rw [e0, e1, e2, e3, e4, e5]
theorem ints_nil (w : World) : IntsAt w (.slice none 0 0) [] := ⟨none, 0, 0, 0, rfl, fun h => by simp at h, fun k hk => by simp at hk⟩
set_option maxRecDepth 100000 in
set_option maxHeartbeats 8000000 in
theorem known_any (w0 w : World) (gz : Gz w0) (hb0 : Below w0.heap.size w0 w) :
    Calls Tryz.prog 22 #[] w fun e w' => e = .returned (.bool true) ∧ Below w.heap.size w w' := by
  have HP : Hid (_) := pair_any (.slice none 0 0) [] w (ints_nil w) (fun _ h => (nomatch h))
  have HG : Hid (Gz w0 ∧ Below w0.heap.size w0 w) := ⟨gz, hb0⟩
  clear gz hb0
  go_enter Tryz.func22, Tryz.ntmps22
  go_wp2_with fail
  refine Calls.mono HP.out ?_
  rintro e w1 ⟨XA, XB, rfl, hb1, hcf⟩
  have hA : CfgAt w1 XA (cfgA []) := fun i hi => (hcf i hi).1
  have hB : CfgAt w1 XB (cfgB []) := fun i hi => (hcf i hi).2
  obtain ⟨a0, n0, c0, a1, n1, c1, a2, n2, c2, a3, n3, c3, a4, n4, c4, a5, n5, c5, EA⟩ := hA.shapes (magA [])
  obtain ⟨p0, m0, d0, p1, m1, d1, p2, m2, d2, p3, m3, d3, p4, m4, d4, p5, m5, d5, EB⟩ := hB.shapes (magB [])
  have BA : Hid (Below w1.heap.size w1 ((w1.alloc (.cells (cfC XA (magA [])) 31)).alloc (.cells (cfC XB (magB [])) 31))) := ((Below.refl _ _).alloc (Nat.le_refl _) _).alloc (by simp) _
  have HJ : Hid (_) := joined_any XA XB (cfgA []) (cfgB []) (magA []) (magB []) ((w1.alloc (.cells (cfC XA (magA [])) 31)).alloc (.cells (cfC XB (magB [])) 31)) (hA.below BA.out) (hB.below BA.out) (fun i _ => cfgA_isL _ i) (fun i _ => cfgB_isL _ i) (magA_in _).1 (magA_in _).2 (magB_in _).1 (magB_in _).2
  have HB1 : Hid (Below w.heap.size w w1) := hb1
  rw [EA, EB] at HJ BA
  rw [EA, EB]
  clear EA EB hA hB hcf hb1 HP
  go_wp2_with fail
  refine Calls.mono HJ.out ?_
  rintro e w2 ⟨v, rfl, hL, hb2, _⟩
  have hbw : Below w.heap.size w w2 := (HB1.out.trans (BA.out.mono HB1.out.size)).trans (hb2.mono (HB1.out.trans (BA.out.mono HB1.out.size)).size)
  have hL0 : LI w2 w.heap.size v (newL (cfgA []) (cfgB []) (magA []) (magB [])) := by
    have hz := (HB1.out.trans (BA.out.mono HB1.out.size)).size
    exact ⟨hL.blk, Nat.le_trans hz hL.ge, hL.pa.mono hz, hL.pb.mono hz, hL.qB.mono hz, hL.qA.mono hz, hL.d1, hL.d2, hL.d3, hL.eB, hL.eA⟩
  have ok0 : (newL (cfgA []) (cfgB []) (magA []) (magB [])).Ok 0 := newL_ok (fun i _ => cfgA_isL _ i) (fun i _ => cfgB_isL _ i) (magA_in _).1 (magA_in _).2 (magB_in _).1 (magB_in _).2
  have HL0 : Hid (LI w2 w.heap.size v (newL (cfgA []) (cfgB []) (magA []) (magB [])) ∧ Below w.heap.size w w2 ∧ (newL (cfgA []) (cfgB []) (magA []) (magB [])).Ok 0) := ⟨hL0, hbw, ok0⟩
  have T1 : Hid (_) := tell_any true 3 w2 hL0 ok0 (by omega)
  clear hL hb2 hL0 hbw ok0 HJ BA HB1
  go_wp2_with fail
  refine Calls.mono T1.out ?_
  rintro e w3 ⟨rfl, v1, hl1, hs1⟩
  have e1 : v1.ln = v.ln := hs1.ln
  have T2 : Hid (_) := tell_any false 3 w3 hl1 (HL0.out.2.2.tell true 3) (by omega)
  rw [e1] at T2
  have H1 : Hid (LS w2 w3 v v1) := hs1
  clear hl1 hs1 e1 T1
  go_wp2_with fail
  refine Calls.mono T2.out ?_
  rintro e w4 ⟨rfl, v2, hl2, hs2⟩
  have hs2' := H1.out.trans hs2
  have e2 : v2.ln = v.ln := hs2'.ln
  have T3 : Hid (_) := tell_any true 1 w4 hl2 ((HL0.out.2.2.tell true 3).tell false 3) (by omega)
  rw [e2] at T3
  have H2 : Hid (LS w2 w4 v v2) := hs2'
  clear hl2 hs2 hs2' e2 T2 H1
  go_wp2_with fail
  refine Calls.mono T3.out ?_
  rintro e w5 ⟨rfl, v3, hl3, hs3⟩
  have hs3' := H2.out.trans hs3
  have e3 : v3.ln = v.ln := hs3'.ln
  have T4 : Hid (_) := tell_any false 1 w5 hl3 (((HL0.out.2.2.tell true 3).tell false 3).tell true 1) (by omega)
  rw [e3] at T4
  have H3 : Hid (LS w2 w5 v v3) := hs3'
  clear hl3 hs3 hs3' e3 T3 H2
  go_wp2_with fail
  refine Calls.mono T4.out ?_
  rintro e w6 ⟨rfl, v4, hl4, hs4⟩
  have hs4' := H3.out.trans hs4
  have e4 : v4.ln = v.ln := hs4'.ln
  have hbz : Below w0.heap.size w0 w2 := HG.out.2.trans (HL0.out.2.1.mono HG.out.2.size)
  have T5 : Hid (_) := settle_any 100 w0 w6 HG.out.1 (LS.low HL0.out.1 hs4' hbz HG.out.2.size) HG.out.2.size hl4 ((((HL0.out.2.2.tell true 3).tell false 3).tell true 1).tell false 1) (by omega) (by omega)
  rw [e4] at T5
  have H4 : Hid (LS w2 w6 v v4) := hs4'
  clear hl4 hs4 hs4' e4 T4 H3 hbz
  go_wp2_with fail
  refine Calls.mono T5.out ?_
  rintro e w7 ⟨rfl, v5, hl5, hs5⟩
  have hs5' := H4.out.trans hs5
  have e5 : v5.ln = v.ln := hs5'.ln
  have T6 : Hid (_) := opened_any w7 hl5
  rw [e5] at T6
  have H5 : Hid (LS w2 w7 v v5) := hs5'
  have EK : Hid ((knownL.settle 100).2 = true ∧ (knownL.settle 100).1.opened = true) := known_pure
  have K1 : (((((newL (cfgA []) (cfgB []) (magA []) (magB [])).tell true 3).tell false 3).tell true 1).tell false 1).settle 100 = knownL.settle 100 := rfl
  rw [K1] at T6 ⊢
  rw [EK.out.1]
  rw [EK.out.2] at T6
  clear hl5 hs5 hs5' e5 T5 H4 K1
  go_wp2_with fail
  refine Calls.mono T6.out ?_
  rintro e w8 ⟨rfl, hb8⟩
  have HF : Hid (Below w.heap.size w w8) := by
    have h1 : Below w.heap.size w w7 := HL0.out.2.1.trans (H5.out.t.below HL0.out.2.1.size (fun k hk => (HL0.out.1.lt k hk).1))
    exact h1.trans (hb8.mono h1.size)
  clear hb8 T6
  go_wp2_with fail
  go_ret
  exact ⟨rfl, HF.out⟩
end Go.Proofs.YtoeihlgidakjbaaGreatDoor
namespace Go.Proofs.YtoeihlgidakjbaaGreatDoor
open Go.RowKit Go.Lib
theorem bytes_row (l : List UInt8) (m : RE) (h : ∀ c ∈ l, ¬ c.toNat = 126) (hg : m.got.length ≤ 89) : m.bytes l = ({ m with got := (m.got ++ l).take 89 }, []) := by
  induction l generalizing m with
  | nil =>
    have : (m.got ++ []).take 89 = m.got := by rw [List.append_nil, List.take_of_length_le hg]
    rw [this]; simp [RE.bytes]
  | cons b l ih =>
    have hb : m.byte1 b = (if m.got.length ≤ 88 then { m with got := m.got ++ [b] } else m, []) := by
      unfold RE.byte1
      rw [if_pos (h b (List.mem_cons_self ..))]
    rw [RE.bytes_cons, hb]
    by_cases hl : m.got.length ≤ 88
    · rw [if_pos hl]
      rw [ih { m with got := m.got ++ [b] } (fun c hc => h c (List.mem_cons_of_mem _ hc)) (by simp; omega)]
      simp
    · rw [if_neg hl, ih m (fun c hc => h c (List.mem_cons_of_mem _ hc)) hg]
      have h1 : (m.got ++ l).take 89 = m.got := by rw [List.take_append_of_le_length (by omega), List.take_of_length_le hg]
      have h2 : (m.got ++ b :: l).take 89 = m.got := by rw [List.take_append_of_le_length (by omega), List.take_of_length_le hg]
      rw [h1, h2]; rfl
def Noise (l : List UInt8) : Prop := ∀ m : RE, m.got = [] → m.bytes l = (m, [])
theorem Noise.nil : Noise [] := fun m _ => by simp [RE.bytes]
theorem Noise.app {l r : List UInt8} (h : Noise l) (g : Noise r) : Noise (l ++ r) := fun m hm => by
  rw [RE.bytes_app, h m hm]
  simp only
  rw [g m hm]; rfl
theorem Noise.flag : Noise [126] := fun m hg => by
  have h1 : m.byte1 126 = (m, []) := by
    unfold RE.byte1
    rw [if_neg (by decide), if_pos (.inl hg)]
    have : ({ m with got := [] } : RE) = m := by rw [← hg]
    rw [this]
  rw [RE.bytes_cons, h1]
  simp [RE.bytes]
theorem noise_row {row : List UInt8} (hf : ∀ c ∈ row, ¬ c.toNat = 126) (hu : unframeL row = none) : Noise (row ++ [126]) := fun m hg => by
  rw [RE.bytes_app, bytes_row row m hf (by rw [hg]; simp)]
  have e0 : (m.got ++ row).take 89 = row.take 89 := by rw [hg]; rfl
  rw [e0]
  have hE : ({ { m with got := row.take 89 } with got := [] } : RE) = m := by
    show ({ m with got := [] } : RE) = m
    rw [← hg]
  have h1 : ({ m with got := row.take 89 } : RE).byte1 126 = (m, []) := by
    unfold RE.byte1
    rw [if_neg (by decide)]
    by_cases hl : row.take 89 = [] ∨ 88 < (row.take 89).length
    · rw [if_pos hl, hE]
    · rw [if_neg hl]
      have hlen : row.length ≤ 88 := by
        rw [List.length_take] at hl
        omega
      have : row.take 89 = row := List.take_of_length_le (by omega)
      rw [this, hu, ← this]
      simp only
      rw [hE]
  simp only
  rw [RE.bytes_cons, h1]
  simp [RE.bytes]
namespace RE
def hears (m : RE) : List Pq → RE × List Pq
  | [] => (m, [])
  | p :: r => (((m.hear p).hears r).1, m.hearP p ++ ((m.hear p).hears r).2)
theorem bytes_lines (ps : List Pq) (m : RE) (h : ∀ p ∈ ps, p.Good) (hg : m.got = []) : m.bytes (ps.flatMap Pq.line) = ((m.hears ps).1, (m.hears ps).2.flatMap Pq.line) := by
  induction ps generalizing m with
  | nil => simp [RE.bytes, hears]
  | cons p r ih =>
    rw [List.flatMap_cons, RE.bytes_app, RE.bytes_line m p (h p (List.mem_cons_self ..)) hg]
    simp only
    rw [ih (m.hear p) (fun q hq => h q (List.mem_cons_of_mem _ hq)) ((RE.hear_got m p).trans hg)]
    simp [hears]
theorem bytes_noise (s : List UInt8) (ps : List Pq) (m : RE) (hs : Noise s) (h : ∀ p ∈ ps, p.Good) (hg : m.got = []) : m.bytes (s ++ ps.flatMap Pq.line) = ((m.hears ps).1, (m.hears ps).2.flatMap Pq.line) := by
  rw [RE.bytes_app, hs m hg]
  simp only
  rw [bytes_lines ps m h hg]; rfl
end RE
def FA (f f' : Fz) : Prop := f' = f ∨ (∃ n z, f = .N n z ∧ f' = .R n) ∨ (f = .A ∧ f' = .D)
def GB (g g' : Fz) : Prop := g' = g ∨ ∃ n, g = .R n ∧ ((∃ m z, g' = .N m z ∧ m < n) ∨ g' = .A)
theorem FA.trans {f g k : Fz} (h : FA f g) (h2 : FA g k) : FA f k := by
  rcases h with rfl | ⟨n, z, rfl, rfl⟩ | ⟨rfl, rfl⟩
  · exact h2
  · rcases h2 with rfl | ⟨n', z', e, _⟩ | ⟨e, _⟩
    · exact .inr (.inl ⟨n, z, rfl, rfl⟩)
    · cases e
    · cases e
  · rcases h2 with rfl | ⟨n', z', e, _⟩ | ⟨e, _⟩
    · exact .inr (.inr ⟨rfl, rfl⟩)
    · cases e
    · cases e
theorem GB.trans {f g k : Fz} (h : GB f g) (h2 : GB g k) : GB f k := by
  rcases h with rfl | ⟨n, rfl, hh⟩
  · exact h2
  · rcases h2 with rfl | ⟨n', e, _⟩
    · exact .inr ⟨n, rfl, hh⟩
    · rcases hh with ⟨m, z, rfl, _⟩ | rfl
      · cases e
      · cases e
theorem Cv.toA1 {l : Ln} {f g : Fz} {d e : Nat} (h : Cv l f g d e) {p : Pq} {r : List Pq} (hA : l.toA = p :: r) : ∃ f' g' d' e', Cv ⟨l.a.hear p, l.b, l.toB ++ l.a.hearP p, r⟩ f' g' d' e' ∧ FA f f' ∧ GB g g' := by
  have hq := h.qA
  rw [hA] at hq
  -- which of the two it is
  have hcase : (∃ n, g = .R n ∧ p = l.b.reqP e ∧ r.Perm (f.ans l.a d)) ∨ (∃ n z, f = .N n z ∧ p = ⟨3, d, dataL z⟩ ∧ r.Perm (g.req l.b e)) ∨ (f = .A ∧ p = ⟨2, d, l.a.sent⟩ ∧ r.Perm (g.req l.b e)) := by
    cases g with
    | R n =>
      cases f with
      | R m => exact .inl ⟨n, rfl, by simpa using (List.perm_singleton.1 hq : p :: r = [l.b.reqP e]) |> fun q => (List.cons.inj q).1, by
          have := (List.cons.inj (List.perm_singleton.1 hq : p :: r = [l.b.reqP e])).2
          rw [this]; exact List.Perm.refl _⟩
      | N m z =>
        rcases perm_two (hq : (p :: r).Perm [l.b.reqP e, ⟨3, d, dataL z⟩]) with ⟨e1, e2⟩ | ⟨e1, e2⟩
        · exact .inl ⟨n, rfl, e1, by rw [e2]; exact List.Perm.refl _⟩
        · exact .inr (.inl ⟨m, z, rfl, e1, by rw [e2]; exact List.Perm.refl _⟩)
      | A =>
        rcases perm_two (hq : (p :: r).Perm [l.b.reqP e, ⟨2, d, l.a.sent⟩]) with ⟨e1, e2⟩ | ⟨e1, e2⟩
        · exact .inl ⟨n, rfl, e1, by rw [e2]; exact List.Perm.refl _⟩
        · exact .inr (.inr ⟨rfl, e1, by rw [e2]; exact List.Perm.refl _⟩)
      | D => exact .inl ⟨n, rfl, (List.cons.inj (List.perm_singleton.1 hq : p :: r = [l.b.reqP e])).1, by
          have := (List.cons.inj (List.perm_singleton.1 hq : p :: r = [l.b.reqP e])).2
          rw [this]; exact List.Perm.refl _⟩
    | N k zz =>
      cases f with
      | R m => exact absurd hq.length_eq (by simp [Fz.req, Fz.ans])
      | N m z => exact .inr (.inl ⟨m, z, rfl, (List.cons.inj (List.perm_singleton.1 hq : p :: r = [⟨3, d, dataL z⟩])).1, by
          have := (List.cons.inj (List.perm_singleton.1 hq : p :: r = [⟨3, d, dataL z⟩])).2
          rw [this]; exact List.Perm.refl _⟩)
      | A => exact .inr (.inr ⟨rfl, (List.cons.inj (List.perm_singleton.1 hq : p :: r = [⟨2, d, l.a.sent⟩])).1, by
          have := (List.cons.inj (List.perm_singleton.1 hq : p :: r = [⟨2, d, l.a.sent⟩])).2
          rw [this]; exact List.Perm.refl _⟩)
      | D => exact absurd hq.length_eq (by simp [Fz.req, Fz.ans])
    | A =>
      cases f with
      | R m => exact absurd hq.length_eq (by simp [Fz.req, Fz.ans])
      | N m z => exact .inr (.inl ⟨m, z, rfl, (List.cons.inj (List.perm_singleton.1 hq : p :: r = [⟨3, d, dataL z⟩])).1, by
          have := (List.cons.inj (List.perm_singleton.1 hq : p :: r = [⟨3, d, dataL z⟩])).2
          rw [this]; exact List.Perm.refl _⟩)
      | A => exact .inr (.inr ⟨rfl, (List.cons.inj (List.perm_singleton.1 hq : p :: r = [⟨2, d, l.a.sent⟩])).1, by
          have := (List.cons.inj (List.perm_singleton.1 hq : p :: r = [⟨2, d, l.a.sent⟩])).2
          rw [this]; exact List.Perm.refl _⟩)
      | D => exact absurd hq.length_eq (by simp [Fz.req, Fz.ans])
    | D =>
      cases f with
      | R m => exact absurd hq.length_eq (by simp [Fz.req, Fz.ans])
      | N m z => exact .inr (.inl ⟨m, z, rfl, (List.cons.inj (List.perm_singleton.1 hq : p :: r = [⟨3, d, dataL z⟩])).1, by
          have := (List.cons.inj (List.perm_singleton.1 hq : p :: r = [⟨3, d, dataL z⟩])).2
          rw [this]; exact List.Perm.refl _⟩)
      | A => exact .inr (.inr ⟨rfl, (List.cons.inj (List.perm_singleton.1 hq : p :: r = [⟨2, d, l.a.sent⟩])).1, by
          have := (List.cons.inj (List.perm_singleton.1 hq : p :: r = [⟨2, d, l.a.sent⟩])).2
          rw [this]; exact List.Perm.refl _⟩)
      | D => exact absurd hq.length_eq (by simp [Fz.req, Fz.ans])
  have hsa := h.sa
  have hsb := h.sb
  rcases hcase with ⟨n, rfl, rfl, hr⟩ | ⟨n, z, rfl, rfl, hr⟩ | ⟨rfl, rfl, hr⟩
  · have hs : l.a.st = 6 ∨ l.a.st = 7 := by
      rw [hsa]; unfold stOf; cases f.done <;> simp [Fz.acked]
    obtain ⟨g', hdir, heq, hok, hout, hmu, hnk, hreq, hdone, hst⟩ := h.ba.answer h.he hs h.nb
    refine ⟨f, g', d, e, ⟨h.ab.asker heq hok, hdir, ?_, ?_, ?_, ?_, h.hd, h.he, h.na, hnk⟩, .inl rfl, .inr ⟨n, rfl, ?_⟩⟩
    · show (l.a.hear (l.b.reqP e)).st = _
      rw [hst, hsa]
      unfold stOf
      cases g'.acked <;> simp [Fz.acked]
    · show l.b.st = _
      rw [hsb, hdone]; rfl
    · show (l.toB ++ l.a.hearP (l.b.reqP e)).Perm _
      rw [hout, req_eq heq]
      have hB := h.qB
      exact (List.Perm.append_right _ hB).trans (by simp [Fz.ans])
    · show r.Perm _
      rw [hreq, ans_eq heq]; exact hr
    · cases g' with
      | R m => cases hreq
      | N m z => exact .inl ⟨m, z, rfl, by have : 2 * m + 3 < 2 * n + 2 := hmu; omega⟩
      | A => exact .inr rfl
      | D => cases hdone
  · have hs : l.a.st = 6 ∨ l.a.st = 8 := by
      rw [hsa]; unfold stOf; cases g.acked <;> simp [Fz.done]
    obtain ⟨d', hd', hdir, heq, hok, hout, hst, hnk⟩ := h.ab.retry h.hd hs
    refine ⟨.R n, g, d', e, ⟨hdir, h.ba.answerer heq hok, ?_, hsb, ?_, ?_, hd', h.he, h.na, nk_mono h.nb (by show _ ≤ _; rw [hnk]; exact Nat.le_refl _)⟩, .inr (.inl ⟨n, z, rfl, rfl⟩), .inl rfl⟩
    · show (l.a.hear ⟨3, d, dataL z⟩).st = _
      rw [hst, hsa]; rfl
    · show (l.toB ++ l.a.hearP ⟨3, d, dataL z⟩).Perm _
      rw [hout]
      have hB := h.qB
      exact (List.Perm.append_right _ hB).trans (by simp only [Fz.req, List.nil_append]; exact List.perm_append_comm)
    · show r.Perm _
      exact hr.trans (by simp [Fz.ans])
  · have hs : l.a.st = 6 ∨ l.a.st = 8 := by
      rw [hsa]; unfold stOf; cases g.acked <;> simp [Fz.done]
    obtain ⟨hdir, heq, hok, hout, hst, hnk⟩ := h.ab.close h.hd hs
    refine ⟨.D, g, d, e, ⟨hdir, h.ba.answerer heq hok, ?_, hsb, ?_, ?_, h.hd, h.he, trivial, nk_mono h.nb hnk⟩, .inr (.inr ⟨rfl, rfl⟩), .inl rfl⟩
    · show (l.a.hear ⟨2, d, l.a.sent⟩).st = _
      rw [hst, hsa]; unfold stOf; cases g.acked <;> simp [Fz.done]
    · show (l.toB ++ l.a.hearP ⟨2, d, l.a.sent⟩).Perm _
      rw [hout, List.append_nil]; exact h.qB
    · show r.Perm _
      exact hr.trans (by simp [Fz.ans])
def Ln.sweepA (l : Ln) : Ln := ⟨(l.a.hears l.toA).1, l.b, l.toB ++ (l.a.hears l.toA).2, []⟩
def Ln.sweepB (l : Ln) : Ln := ⟨l.a, (l.b.hears l.toB).1, [], l.toA ++ (l.b.hears l.toB).2⟩
def Ln.round (l : Ln) : Ln := l.sweepA.sweepB
theorem Cv.sweepA (ps : List Pq) : ∀ {l : Ln} {f g : Fz} {d e : Nat}, Cv l f g d e → l.toA = ps → ∃ f' g' d' e', Cv l.sweepA f' g' d' e' ∧ FA f f' ∧ GB g g' := by
  induction ps with
  | nil =>
    intro l f g d e h hq
    refine ⟨f, g, d, e, ?_, .inl rfl, .inl rfl⟩
    have : l.sweepA = l := by
      obtain ⟨a, b, toB, toA⟩ := l
      have : toA = [] := hq
      subst this
      show (⟨a, b, toB ++ [], []⟩ : Ln) = _
      rw [List.append_nil]
    rw [this]; exact h
  | cons p r ih =>
    intro l f g d e h hq
    obtain ⟨f1, g1, d1, e1, h1, a1, b1⟩ := h.toA1 hq
    obtain ⟨f2, g2, d2, e2, h2, a2, b2⟩ := ih h1 rfl
    refine ⟨f2, g2, d2, e2, ?_, a1.trans a2, b1.trans b2⟩
    have : l.sweepA = (⟨l.a.hear p, l.b, l.toB ++ l.a.hearP p, r⟩ : Ln).sweepA := by
      unfold Ln.sweepA
      rw [hq]
      simp [RE.hears]
    rw [this]; exact h2
theorem Cv.sweepB {l : Ln} {f g : Fz} {d e : Nat} (h : Cv l f g d e) : ∃ f' g' d' e', Cv l.sweepB f' g' d' e' ∧ GB f f' ∧ FA g g' := by
  obtain ⟨g', f', e', d', h1, h2, h3⟩ := Cv.sweepA _ h.swap rfl
  exact ⟨f', g', d', e', h1.swap, h3, h2⟩
def rkF : Fz → Nat
  | .R n => n + 2
  | .N n _ => n + 2
  | .A => 1
  | .D => 0
def rkG : Fz → Nat
  | .R n => n + 1
  | .N n _ => n + 2
  | .A => 1
  | .D => 0
structure Bt (l : Ln) (i : Nat) : Prop where
  cv : ∃ f g d e, Cv l f g d e ∧ rkF f ≤ i ∧ rkG g ≤ i ∧ ((∃ n, g = .R n) ∨ g = .D)
theorem Bt.round {l : Ln} {i : Nat} (h : Bt l i) : Bt l.round (i - 1) ∧ l.round.toB = [] := by
  obtain ⟨f, g, d, e, h0, hf, hg, hgd⟩ := h.cv
  obtain ⟨f1, g1, d1, e1, h1, a1, b1⟩ := Cv.sweepA _ h0 rfl
  obtain ⟨f2, g2, d2, e2, h2, a2, b2⟩ := Cv.sweepB h1
  have pA : [].Perm (g1.req l.sweepA.b e1 ++ f1.ans l.sweepA.a d1) := h1.qA
  have nA := List.nil_perm.1 pA
  have pB : [].Perm (f2.req l.sweepA.sweepB.a d2 ++ g2.ans l.sweepA.sweepB.b e2) := h2.qB
  have nB := List.nil_perm.1 pB
  refine ⟨⟨f2, g2, d2, e2, h2, ?_, ?_, ?_⟩, rfl⟩
  · -- f: its answer came, a Request went, was answered
    have hf1 : (∃ n, f1 = .R n ∧ n + 2 ≤ i) ∨ f1 = .D := by
      rcases a1 with rfl | ⟨n, z, rfl, rfl⟩ | ⟨rfl, rfl⟩
      · cases f1 with
        | R n => exact .inl ⟨n, rfl, hf⟩
        | N n z => simp [Fz.ans] at nA
        | A => simp [Fz.ans] at nA
        | D => exact .inr rfl
      · exact .inl ⟨n, rfl, hf⟩
      · exact .inr rfl
    rcases hf1 with ⟨n, rfl, hn⟩ | rfl
    · rcases a2 with rfl | ⟨n', e', ⟨m, z, rfl, hm⟩ | rfl⟩
      · simp [Fz.req] at nB
      · cases e'
        show m + 2 ≤ i - 1; omega
      · show 1 ≤ i - 1; omega
    · rcases a2 with rfl | ⟨n', e', _⟩
      · exact Nat.zero_le _
      · cases e'
  · rcases hgd with ⟨n, rfl⟩ | rfl
    · have hn : n + 1 ≤ i := hg
      rcases b1 with rfl | ⟨n', e', ⟨m, z, rfl, hm⟩ | rfl⟩
      · simp [Fz.req] at nA
      · cases e'
        rcases b2 with rfl | ⟨k, z', e'', rfl⟩ | ⟨e'', _⟩
        · simp [Fz.ans] at nB
        · cases e''
          show m + 1 ≤ i - 1; omega
        · cases e''
      · rcases b2 with rfl | ⟨k, z', e'', _⟩ | ⟨_, rfl⟩
        · simp [Fz.ans] at nB
        · cases e''
        · exact Nat.zero_le _
    · rcases b1 with rfl | ⟨n', e', _⟩
      · rcases b2 with rfl | ⟨k, z', e'', _⟩ | ⟨e'', _⟩
        · exact Nat.zero_le _
        · cases e''
        · cases e''
      · cases e'
  · cases g2 with
    | R n => exact .inl ⟨n, rfl⟩
    | N n z => simp [Fz.ans] at nB
    | A => simp [Fz.ans] at nB
    | D => exact .inr rfl
theorem Bt.done {l : Ln} (h : Bt l 0) : l.a.st = 9 ∧ l.b.st = 9 := by
  obtain ⟨f, g, d, e, h0, hf, hg, _⟩ := h.cv
  have hfD : f = .D := by
    cases f with
    | R n => have : n + 2 ≤ 0 := hf; omega
    | N n z => have : n + 2 ≤ 0 := hf; omega
    | A => have : 1 ≤ 0 := hf; omega
    | D => rfl
  have hgD : g = .D := by
    cases g with
    | R n => have : n + 1 ≤ 0 := hg; omega
    | N n z => have : n + 2 ≤ 0 := hg; omega
    | A => have : 1 ≤ 0 := hg; omega
    | D => rfl
  subst hfD hgD
  exact ⟨h0.sa, h0.sb⟩
theorem Suit.bt {LA LB : Nat → List Int} {ma mb : Int} (h : Suit LA LB ma mb) : Bt (newL LA LB ma mb).begin 12 := ⟨_, _, _, _, h.cv, by show 8 + 2 ≤ 12; omega, by show 8 + 1 ≤ 12; omega, .inl ⟨8, rfl⟩⟩
end Go.Proofs.YtoeihlgidakjbaaGreatDoor

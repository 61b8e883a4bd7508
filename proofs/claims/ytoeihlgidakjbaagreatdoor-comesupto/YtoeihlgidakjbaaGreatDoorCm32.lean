/- Two new ends of a pair, opened: plain mathematics. happens, known. within, agree. Comes: anew, and closed: plain mathematics. -/
import Derived.Test.YtoeihlgidakjbaaGreatDoorCm5
import Derived.Test.YtoeihlgidakjbaaGreatDoorCm31
import Derived.Test.YtoeihlgidakjbaaGreatDoorCm6
namespace Go.Proofs.YtoeihlgidakjbaaGreatDoor
open Go.RowKit Go.Lib
theorem sn_any {k v : Nat} {acc want : List Nat} (h : Nat) (ha : v ∈ acc) (hw : v ∈ want) (hl : acc.length ≤ 8) : Sn k acc want h 8 := by
  obtain ⟨i, hi, e⟩ := List.getElem_of_mem ha
  have hp : 0 < acc.length := by omega
  have hm := Nat.mod_lt h hp
  refine .inr ⟨(i + acc.length - h % acc.length) % acc.length, Nat.lt_of_lt_of_le (Nat.mod_lt _ hp) hl, ?_⟩
  have key : (h + (i + acc.length - h % acc.length) % acc.length) % acc.length = i := by
    rw [Nat.add_mod_mod, Nat.add_mod]
    have h2 : (i + acc.length - h % acc.length) % acc.length + h % acc.length = (i + acc.length - h % acc.length) % acc.length + h % acc.length := rfl
    have h3 : (h % acc.length + (i + acc.length - h % acc.length) % acc.length) % acc.length = (h % acc.length + (i + acc.length - h % acc.length)) % acc.length := by rw [Nat.add_mod_mod]
    rw [h3, show h % acc.length + (i + acc.length - h % acc.length) = i + acc.length by omega, Nat.add_mod_right]
    exact Nat.mod_eq_of_lt hi
  rw [key, List.getD, List.getElem?_eq_getElem hi, Option.getD_some, e]
  exact hw
structure Suit (LA LB : Nat → List Int) (ma mb : Int) : Prop where
  la : ∀ i, i < 6 → IsL (LA i)
  lb : ∀ i, i < 6 → IsL (LB i)
  a1 : 1 ≤ ma
  a2 : ma ≤ 65535
  b1 : 1 ≤ mb
  b2 : mb ≤ 65535
  ne : ma ≠ mb
  ab : ∀ i, i < 3 → ∃ v, v ∈ LA i ∧ v ∈ LB (3 + i)
  ba : ∀ i, i < 3 → ∃ v, v ∈ LB i ∧ v ∈ LA (3 + i)
theorem suit_pair (raw : List Int) : Suit (cfgA raw) (cfgB raw) (magA raw) (magB raw) := by
  refine ⟨fun i _ => cfgA_isL _ i, fun i _ => cfgB_isL _ i, (magA_in _).1, (magA_in _).2, (magB_in _).1, (magB_in _).2, by unfold magA magB; omega, fun i hi => ⟨(xN raw i : Int), ?_, ?_⟩, fun i hi => ⟨(yN raw i : Int), ?_, ?_⟩⟩
  · unfold cfgA; rw [if_pos hi]; exact (listL_ok _ _ _ (xN_lt _ _)).2.2.1
  · unfold cfgB; rw [if_neg (by omega), show 3 + i - 3 = i by omega]; exact (listL_ok _ _ _ (xN_lt _ _)).2.2.1
  · unfold cfgB; rw [if_pos hi]; exact (listL_ok _ _ _ (yN_lt _ _)).2.2.1
  · unfold cfgA; rw [if_neg (by omega), show 3 + i - 3 = i by omega]; exact (listL_ok _ _ _ (yN_lt _ _)).2.2.1
theorem Suit.swap {LA LB : Nat → List Int} {ma mb : Int} (h : Suit LA LB ma mb) : Suit LB LA mb ma := ⟨h.lb, h.la, h.b1, h.b2, h.a1, h.a2, fun e => h.ne e.symm, h.ba, h.ab⟩
theorem head_in {l : List Int} (h : IsL l) : (l.headD 0).toNat ∈ l.map Int.toNat := by
  cases l with
  | nil => exact absurd h.1 (by simp)
  | cons x r => simp
def Ln.begin (l : Ln) : Ln := (((l.tell true 3).tell false 3).tell true 1).tell false 1
theorem suit_dir {LA LB : Nat → List Int} {ma mb : Int} (h : Suit LA LB ma mb) : Dir (((newM LA ma).event 3).1.event 1).1 (((newM LB mb).event 3).1.event 1).1 (.R 8) 1 := by
  have oa : (newM LA ma).Ok := (lim_new h.la h.a1 h.a2).ok
  have ob : (newM LB mb).Ok := (lim_new h.lb h.b1 h.b2).ok
  have oa2 : (((newM LA ma).event 3).1.event 1).1.Ok := RE.run_ok (RE.run_ok oa _) _
  have ob2 : (((newM LB mb).event 3).1.event 1).1.Ok := RE.run_ok (RE.run_ok ob _) _
  have len : ∀ i, i < 6 → ((LB i).map Int.toNat).length ≤ 8 := fun i hi => by rw [List.length_map]; exact (h.lb i hi).2.1
  have mem : ∀ i, i < 3 → ∃ v, v ∈ (LA i).map Int.toNat ∧ v ∈ (LB (3 + i)).map Int.toNat := fun i hi => by
    obtain ⟨v, v1, v2⟩ := h.ab i hi
    exact ⟨v.toNat, List.mem_map.2 ⟨v, v1, rfl⟩, List.mem_map.2 ⟨v, v2, rfl⟩⟩
  obtain ⟨v0, p0, q0⟩ := mem 0 (by omega)
  obtain ⟨v1, p1, q1⟩ := mem 1 (by omega)
  obtain ⟨v2, p2, q2⟩ := mem 2 (by omega)
  refine ⟨oa2, ob2, ?_, rfl, rfl, head_in (h.la 0 (by omega)), head_in (h.la 1 (by omega)), head_in (h.la 2 (by omega)), ?_, ?_, ?_⟩
  · show ma.toNat ∉ [mb.toNat]
    have := h.ne; have := h.a1; have := h.b1
    simp only [List.mem_singleton]
    omega
  · exact sn_any 0 q0 p0 (len 3 (by omega))
  · exact sn_any 0 q1 p1 (len 4 (by omega))
  · exact sn_any 0 q2 p2 (len 5 (by omega))
theorem ev_new (L : Nat → List Int) (mg : Int) : (newM L mg).eventP 3 = [] ∧ ((newM L mg).event 3).1.eventP 1 = [(((newM L mg).event 3).1.event 1).1.reqP 1] ∧ (((newM L mg).event 3).1.event 1).1.st = 6 ∧ (((newM L mg).event 3).1.event 1).1.naks = 0 := ⟨rfl, rfl, rfl, rfl⟩
theorem begin_eq (LA LB : Nat → List Int) (ma mb : Int) : (newL LA LB ma mb).begin = ⟨(((newM LA ma).event 3).1.event 1).1, (((newM LB mb).event 3).1.event 1).1, [(((newM LA ma).event 3).1.event 1).1.reqP 1], [(((newM LB mb).event 3).1.event 1).1.reqP 1]⟩ := by
  have h1 : (newL LA LB ma mb).begin = ⟨(((newM LA ma).event 3).1.event 1).1, (((newM LB mb).event 3).1.event 1).1, ([] ++ (newM LA ma).eventP 3) ++ ((newM LA ma).event 3).1.eventP 1, ([] ++ (newM LB mb).eventP 3) ++ ((newM LB mb).event 3).1.eventP 1⟩ := rfl
  rw [h1, (ev_new LA ma).1, (ev_new LB mb).1, (ev_new LA ma).2.1, (ev_new LB mb).2.1]
  rfl
theorem Suit.cv {LA LB : Nat → List Int} {ma mb : Int} (h : Suit LA LB ma mb) : Cv (newL LA LB ma mb).begin (.R 8) (.R 8) 1 1 := by
  have d1 := suit_dir h
  have d2 := suit_dir h.swap
  have e1 := ev_new LA ma
  have e2 := ev_new LB mb
  rw [begin_eq]
  generalize (((newM LA ma).event 3).1.event 1).1 = a at *
  generalize (((newM LB mb).event 3).1.event 1).1 = b at *
  exact ⟨d1, d2, e1.2.2.1, e2.2.2.1, List.Perm.refl _, List.Perm.refl _, by omega, by omega, by show b.naks + 8 ≤ 19; omega, by show a.naks + 8 ≤ 19; omega⟩
structure Cg (m n : RE) : Prop where
  w0 : n.w0 = m.w0
  w1 : n.w1 = m.w1
  w2 : n.w2 = m.w2
  a0 : n.a0 = m.a0
  a1 : n.a1 = m.a1
  a2 : n.a2 = m.a2
theorem RE.Cf.cg {m n : RE} (h : RE.Cf m n) : Cg m n := ⟨h.w0, h.w1, h.w2, h.a0, h.a1, h.a2⟩
theorem Cg.trans {m n o : RE} (h : Cg m n) (g : Cg n o) : Cg m o := ⟨g.w0.trans h.w0, g.w1.trans h.w1, g.w2.trans h.w2, g.a0.trans h.a0, g.a1.trans h.a1, g.a2.trans h.a2⟩
theorem cg_at {m n : RE} (h : Cg m n) (ev : Nat) : Cg m (n.at_ ev).1 := h.trans (n.at_cf ev).cg
theorem cg_event (m : RE) (k : Int) : Cg m (m.event k).1 :=
  RE.event_ind m k (fun n _ => Cg m n) (fun _ => ⟨rfl, rfl, rfl, rfl, rfl, rfl⟩) (fun ev _ _ _ => (m.at_cf ev).cg) (fun ev t _ _ _ _ => cg_at (m := m) (n := { m with tim := t }) ⟨rfl, rfl, rfl, rfl, rfl, rfl⟩ ev)
theorem cg_takeAll (l : List (Nat × Nat)) (m : RE) : Cg m (m.takeAll l) := by
  induction l generalizing m with
  | nil => exact ⟨rfl, rfl, rfl, rfl, rfl, rfl⟩
  | cons x l ih =>
    have h1 : Cg m (m.take1 x) := by
      unfold RE.take1 RE.ask
      repeat' split
      all_goals exact ⟨rfl, rfl, rfl, rfl, rfl, rfl⟩
    exact h1.trans (ih _)
theorem cg_hear (m : RE) (p : Pq) : Cg m (m.hear p) :=
  RE.receive_ind (m.got1 p) (fun n _ => Cg m n) ⟨rfl, rfl, rfl, rfl, rfl, rfl⟩ (fun _ _ _ _ _ => cg_at (m := m) (n := m.got1 p) ⟨rfl, rfl, rfl, rfl, rfl, rfl⟩ 8) (fun _ n _ _ _ _ _ _ => cg_at (m := m) (n := { m.got1 p with loops := n }) ⟨rfl, rfl, rfl, rfl, rfl, rfl⟩ 9) (fun _ n t _ _ _ _ _ _ _ _ => cg_at (m := m) (n := { m.got1 p with loops := n, told := (m.got1 p).told ++ [t] }) ⟨rfl, rfl, rfl, rfl, rfl, rfl⟩ 4) (fun _ _ _ => cg_at (m := m) (n := m.got1 p) ⟨rfl, rfl, rfl, rfl, rfl, rfl⟩ 10) (fun l _ _ _ _ => cg_at (m := m) (n := (m.got1 p).takeAll l) (Cg.trans (m := m) (n := m.got1 p) ⟨rfl, rfl, rfl, rfl, rfl, rfl⟩ (cg_takeAll l (m.got1 p))) 11) (fun ev _ => cg_at (m := m) (n := m.got1 p) ⟨rfl, rfl, rfl, rfl, rfl, rfl⟩ ev)
structure CgL (LA LB : Nat → List Int) (l : Ln) : Prop where
  a : Cg (newM LA 1) l.a
  b : Cg (newM LB 1) l.b
theorem CgL.tell {LA LB : Nat → List Int} {l : Ln} (h : CgL LA LB l) (first : Bool) (k : Int) : CgL LA LB (l.tell first k) := by
  cases first
  · exact ⟨h.a, h.b.trans (cg_event _ _)⟩
  · exact ⟨h.a.trans (cg_event _ _), h.b⟩
theorem CgL.deliver {LA LB : Nat → List Int} {l : Ln} (h : CgL LA LB l) (first lost : Bool) : CgL LA LB (l.deliver first lost).1 := by
  obtain ⟨a, b, toB, toA⟩ := l
  cases first
  · cases toB with
    | nil => exact h
    | cons p r =>
      cases lost
      · exact ⟨h.a, h.b.trans (cg_hear _ _)⟩
      · exact ⟨h.a, h.b⟩
  · cases toA with
    | nil => exact h
    | cons p r =>
      cases lost
      · exact ⟨h.a.trans (cg_hear _ _), h.b⟩
      · exact ⟨h.a, h.b⟩
theorem CgL.settle {LA LB : Nat → List Int} (n : Nat) {l : Ln} (h : CgL LA LB l) : CgL LA LB (l.settle n).1 := by
  induction n generalizing l with
  | zero => exact h
  | succ n ih =>
    have hb : CgL LA LB l.both.1 := (h.deliver true false).deliver false false
    show CgL LA LB (if l.both.2 = true then _ else _ : Ln × Bool).1
    split
    · exact ih hb
    · exact hb
theorem CgL.happens {LA LB : Nat → List Int} {l : Ln} (h : CgL LA LB l) (k : Nat) (first : Bool) : CgL LA LB (l.happens k first) := by
  unfold Ln.happens
  split
  · exact h.tell _ _
  · split
    · exact h.tell _ _
    · split
      · exact h.tell _ _
      · split
        · exact ((show CgL LA LB ({ l with toB := [], toA := [] } : Ln) from ⟨h.a, h.b⟩).tell _ _).tell _ _
        · split
          · exact h.tell _ _
          · split
            · exact h.deliver _ _
            · exact h.deliver _ _
theorem cgl_new (LA LB : Nat → List Int) (ma mb : Int) : CgL LA LB (newL LA LB ma mb) := ⟨⟨rfl, rfl, rfl, rfl, rfl, rfl⟩, ⟨rfl, rfl, rfl, rfl, rfl, rfl⟩⟩
end Go.Proofs.YtoeihlgidakjbaaGreatDoor
namespace Go.Proofs.YtoeihlgidakjbaaGreatDoor
open Go.RowKit Go.Lib
theorem LI.gone0 {w : World} {B : Nat} {v : LV} {l : Ln} (h : LI w B v l) : ∃ v', LI ((w.setCell ⟨v.ln, 17, none⟩ (.slice none 0 0)).setCell ⟨v.ln, 16, none⟩ (.slice none 0 0)) B v' { l with toB := [], toA := [] } ∧ LS w ((w.setCell ⟨v.ln, 17, none⟩ (.slice none 0 0)).setCell ⟨v.ln, 16, none⟩ (.slice none 0 0)) v v' := by
  obtain ⟨h1, s1⟩ := h.setA (.slice none 0 0) [] w (Tch.refl _ _) (.inl ⟨rfl, rfl⟩) (fun b hb => by cases hb)
  obtain ⟨h2, s2⟩ := h1.setB (.slice none 0 0) [] _ (Tch.refl _ _) (.inl ⟨rfl, rfl⟩) (fun b hb => by cases hb)
  exact ⟨_, h2, s1.trans s2⟩
set_option maxRecDepth 100000 in
set_option maxHeartbeats 8000000 in
theorem happens_any {B n : Nat} {v : LV} {l : Ln} (kind : Int) (first : Bool) (w0 w : World) (gz : Gz w0) (hb0 : Below w0.heap.size w0 w) (hB0 : w0.heap.size ≤ B) (h : LI w B v l) (ok : l.Ok n) (hn : n + 400 ≤ 900000000000) (hk1 : -9223372036854775808 ≤ kind) (hk2 : kind < 9223372036854775808) :
    Calls Tryz.prog 21 #[.pointer (some ⟨v.ln, 0, none⟩), .agg #[.int .i64 kind, .bool first]] w fun e w' => e = .returned (.tuple #[]) ∧ ∃ v', LI w' B v' (l.happens (pickN kind 10) first) ∧ LS w w' v v' := by
  have BA : Hid (Below w.heap.size w (w.alloc (.cells #[.int .i64 kind, .bool first] 44))) := (Below.refl _ _).alloc (Nat.le_refl _) _
  have hLW := h.below BA.out
  have HP : Hid (_) := pick_any kind 10 (w.alloc (.cells #[.int .i64 kind, .bool first] 44)) (by omega) (by omega) hk1 hk2
  have HT : Hid (∀ k : Int, Calls Tryz.prog 17 #[.pointer (some ⟨v.ln, 0, none⟩), .bool first, .int .i64 k] (w.alloc (.cells #[.int .i64 kind, .bool first] 44)) fun r w' => r = .returned (.tuple #[]) ∧ ∃ v', LI w' B v' (l.tell first k) ∧ LS (w.alloc (.cells #[.int .i64 kind, .bool first] 44)) w' v v') := fun k => tell_any first k _ hLW ok (by omega)
  have HD : Hid (∀ lost : Bool, Calls Tryz.prog 38 #[.pointer (some ⟨v.ln, 0, none⟩), .bool first, .bool lost] (w.alloc (.cells #[.int .i64 kind, .bool first] 44)) fun e w' => e = .returned (.bool (l.deliver first lost).2) ∧ ∃ v', LI w' B v' (l.deliver first lost).1 ∧ LS (w.alloc (.cells #[.int .i64 kind, .bool first] 44)) w' v v') := fun lost => deliver_any first lost w0 _ gz (hb0.trans (BA.out.mono hb0.size)) hB0 hLW ok (by omega)
  have HLW : Hid (LI (w.alloc (.cells #[.int .i64 kind, .bool first] 44)) B v l ∧ l.Ok n) := ⟨hLW, ok⟩
  have bw : (w.alloc (.cells #[.int .i64 kind, .bool first] 44)).heap[v.ln]? = some (.cells v.cells 49 (0, 0)) := hLW.blk
  have x17 : (w.alloc (.cells #[.int .i64 kind, .bool first] 44)).cell? ⟨v.ln, 17, none⟩ = some v.vA := blk_cell bw
  have x16 : (w.alloc (.cells #[.int .i64 kind, .bool first] 44)).cell? ⟨v.ln, 16, none⟩ = some v.vB := blk_cell bw
  have y17 : (w.alloc (.cells #[.int .i64 kind, .bool first] 44)).frozen? ⟨v.ln, 17, none⟩ = false := blk_free bw
  have y16 : (w.alloc (.cells #[.int .i64 kind, .bool first] 44)).frozen? ⟨v.ln, 16, none⟩ = false := blk_free bw
  have z0 : (w.alloc (.cells #[.int .i64 kind, .bool first] 44)).cell? ⟨w.heap.size, 0, none⟩ = some (.int .i64 kind) := by simp
  have z1 : (w.alloc (.cells #[.int .i64 kind, .bool first] 44)).cell? ⟨w.heap.size, 1, none⟩ = some (.bool first) := by simp
  have hk := pickN_less kind 10 (by decide)
  obtain ⟨k, hke⟩ : ∃ k, k = pickN kind 10 := ⟨_, rfl⟩
  rw [← hke] at HP hk ⊢
  clear h hLW gz hb0 hB0 ok bw hke
  go_enter Tryz.func21, Tryz.ntmps21
  go_wp2_with fail
  generalize w.alloc (.cells #[.int .i64 kind, .bool first] 44) = W at *
  refine Calls.mono HP.out ?_
  rintro e W1 ⟨rfl, rfl⟩
  clear HP
  rcases (by omega : k = 0 ∨ k = 1 ∨ k = 2 ∨ k = 3 ∨ k = 4 ∨ k = 5 ∨ 6 ≤ k) with rfl | rfl | rfl | rfl | rfl | rfl | hk6
  · go_wp2_with fail
    refine Calls.mono (HT.out 1) ?_
    rintro e w2 ⟨rfl, v', hl, hs⟩
    have HF : Hid (LI w2 B v' (l.happens 0 first) ∧ LS w w2 v v') := ⟨hl, LS.pre BA.out hs⟩
    clear hl hs
    go_wp2_with fail
    try go_end0
    exact ⟨rfl, v', HF.out.1, HF.out.2⟩
  · go_wp2_with fail
    refine Calls.mono (HT.out 3) ?_
    rintro e w2 ⟨rfl, v', hl, hs⟩
    have HF : Hid (LI w2 B v' (l.happens 1 first) ∧ LS w w2 v v') := ⟨hl, LS.pre BA.out hs⟩
    clear hl hs
    go_wp2_with fail
    try go_end0
    exact ⟨rfl, v', HF.out.1, HF.out.2⟩
  · go_wp2_with fail
    refine Calls.mono (HT.out 4) ?_
    rintro e w2 ⟨rfl, v', hl, hs⟩
    have HF : Hid (LI w2 B v' (l.happens 2 first) ∧ LS w w2 v v') := ⟨hl, LS.pre BA.out hs⟩
    clear hl hs
    go_wp2_with fail
    try go_end0
    exact ⟨rfl, v', HF.out.1, HF.out.2⟩
  · obtain ⟨v1, hl1, hs1⟩ := HLW.out.1.gone0
    have e1 : v1.ln = v.ln := hs1.ln
    have T1 : Hid (_) := tell_any true 2 _ hl1 HLW.out.2.clear (by omega)
    rw [e1] at T1
    have H1 : Hid (LS W _ v v1) := hs1
    clear hl1 hs1
    go_upto_region 12 with fail
    generalize (W.setCell ⟨v.ln, 17, none⟩ (.slice none 0 0)).setCell ⟨v.ln, 16, none⟩ (.slice none 0 0) = W2 at *
    go_wp2_with fail
    refine Calls.mono T1.out ?_
    rintro e w2 ⟨rfl, v2, hl2, hs2⟩
    have e2 : v2.ln = v.ln := hs2.ln.trans e1
    have T2 : Hid (_) := tell_any false 2 w2 hl2 (HLW.out.2.clear.tell true 2) (by omega)
    rw [e2] at T2
    have H2 : Hid (LS W w2 v v2) := H1.out.trans hs2
    clear hl2 hs2 T1
    go_wp2_with fail
    refine Calls.mono T2.out ?_
    rintro e w3 ⟨rfl, v3, hl3, hs3⟩
    have HF : Hid (LI w3 B v3 (l.happens 3 first) ∧ LS w w3 v v3) := ⟨hl3, LS.pre BA.out (H2.out.trans hs3)⟩
    clear hl3 hs3
    go_wp2_with fail
    try go_end0
    exact ⟨rfl, v3, HF.out.1, HF.out.2⟩
  · go_wp2_with fail
    refine Calls.mono (HT.out 5) ?_
    rintro e w2 ⟨rfl, v', hl, hs⟩
    have HF : Hid (LI w2 B v' (l.happens 4 first) ∧ LS w w2 v v') := ⟨hl, LS.pre BA.out hs⟩
    clear hl hs
    go_wp2_with fail
    try go_end0
    exact ⟨rfl, v', HF.out.1, HF.out.2⟩
  · go_wp2_with fail
    refine Calls.mono (HD.out true) ?_
    rintro e w2 ⟨rfl, v', hl, hs⟩
    have HF : Hid (LI w2 B v' (l.happens 5 first) ∧ LS w w2 v v') := ⟨hl, LS.pre BA.out hs⟩
    clear hl hs
    go_wp2_with fail
    try go_end0
    exact ⟨rfl, v', HF.out.1, HF.out.2⟩
  · have h0 : ((k : Int) == 0) = false := by simp; omega
    have h1 : ((k : Int) == 1) = false := by simp; omega
    have h2 : ((k : Int) == 2) = false := by simp; omega
    have h3 : ((k : Int) == 3) = false := by simp; omega
    have h4 : ((k : Int) == 4) = false := by simp; omega
    have h5 : ((k : Int) == 5) = false := by simp; omega
    have HE : Hid (l.happens k first = (l.deliver first false).1) := by
      show _ = _
      unfold Ln.happens
      rw [if_neg (by omega), if_neg (by omega), if_neg (by omega), if_neg (by omega), if_neg (by omega), if_neg (by omega)]
    go_wp2_with fail
    refine Calls.mono (HD.out false) ?_
    rintro e w2 ⟨rfl, v', hl, hs⟩
    have HF : Hid (LI w2 B v' (l.happens k first) ∧ LS w w2 v v') := ⟨by rw [HE.out]; exact hl, LS.pre BA.out hs⟩
    clear hl hs
    go_wp2_with fail
    try go_end0
    exact ⟨rfl, v', HF.out.1, HF.out.2⟩
def knownL : Ln := ((((newL (cfgA []) (cfgB []) (magA []) (magB [])).tell true 3).tell false 3).tell true 1).tell false 1
theorem known_pure : (knownL.settle 100).2 = true ∧ (knownL.settle 100).1.opened = true := by decide +kernel
theorem CfgAt.shapes {w : World} {X : Nat → Value} {L : Nat → List Int} (h : CfgAt w X L) (mg : Int) : ∃ a0 n0 c0 a1 n1 c1 a2 n2 c2 a3 n3 c3 a4 n4 c4 a5 n5 c5, cfC X mg = #[.slice a0 n0 c0, .slice a1 n1 c1, .slice a2 n2 c2, .slice a3 n3 c3, .slice a4 n4 c4, .slice a5 n5 c5, .int .i64 mg] := by
  obtain ⟨a0, n0, c0, e0, _⟩ := (h 0 (by omega)).2
  obtain ⟨a1, n1, c1, e1, _⟩ := (h 1 (by omega)).2
  obtain ⟨a2, n2, c2, e2, _⟩ := (h 2 (by omega)).2
  obtain ⟨a3, n3, c3, e3, _⟩ := (h 3 (by omega)).2
  obtain ⟨a4, n4, c4, e4, _⟩ := (h 4 (by omega)).2
  obtain ⟨a5, n5, c5, e5, _⟩ := (h 5 (by omega)).2
  refine ⟨a0, n0, c0, a1, n1, c1, a2, n2, c2, a3, n3, c3, a4, n4, c4, a5, n5, c5, ?_⟩
  unfold cfC
  rw [e0, e1, e2, e3, e4, e5]
theorem ints_nil (w : World) : IntsAt w (.slice none 0 0) [] := ⟨none, 0, 0, 0, rfl, fun h => by simp at h, fun k hk => by simp at hk⟩
set_option maxRecDepth 100000 in
set_option maxHeartbeats 8000000 in
theorem known_any (w0 w : World) (gz : Gz w0) (hb0 : Below w0.heap.size w0 w) :
    Calls Tryz.prog 22 #[] w fun e w' => e = .returned (.bool true) ∧ Below w.heap.size w w' := by
  have HP : Hid (_) := pair_any (.slice none 0 0) [] w (ints_nil w) (fun _ h => (nomatch h))
  have HG : Hid (Gz w0 ∧ Below w0.heap.size w0 w) := ⟨gz, hb0⟩
  clear gz hb0
  go_enter Tryz.func22, Tryz.ntmps22
  go_wp2_with fail
  refine Calls.mono HP.out ?_
  rintro e w1 ⟨XA, XB, rfl, hb1, hcf⟩
  have hA : CfgAt w1 XA (cfgA []) := fun i hi => (hcf i hi).1
  have hB : CfgAt w1 XB (cfgB []) := fun i hi => (hcf i hi).2
  obtain ⟨a0, n0, c0, a1, n1, c1, a2, n2, c2, a3, n3, c3, a4, n4, c4, a5, n5, c5, EA⟩ := hA.shapes (magA [])
  obtain ⟨p0, m0, d0, p1, m1, d1, p2, m2, d2, p3, m3, d3, p4, m4, d4, p5, m5, d5, EB⟩ := hB.shapes (magB [])
  have BA : Hid (Below w1.heap.size w1 ((w1.alloc (.cells (cfC XA (magA [])) 31)).alloc (.cells (cfC XB (magB [])) 31))) := ((Below.refl _ _).alloc (Nat.le_refl _) _).alloc (by simp) _
  have HJ : Hid (_) := joined_any XA XB (cfgA []) (cfgB []) (magA []) (magB []) ((w1.alloc (.cells (cfC XA (magA [])) 31)).alloc (.cells (cfC XB (magB [])) 31)) (hA.below BA.out) (hB.below BA.out) (fun i _ => cfgA_isL _ i) (fun i _ => cfgB_isL _ i) (magA_in _).1 (magA_in _).2 (magB_in _).1 (magB_in _).2
  have HB1 : Hid (Below w.heap.size w w1) := hb1
  rw [EA, EB] at HJ BA
  rw [EA, EB]
  clear EA EB hA hB hcf hb1 HP
  go_wp2_with fail
  refine Calls.mono HJ.out ?_
  rintro e w2 ⟨v, rfl, hL, hb2, _⟩
  have hbw : Below w.heap.size w w2 := (HB1.out.trans (BA.out.mono HB1.out.size)).trans (hb2.mono (HB1.out.trans (BA.out.mono HB1.out.size)).size)
  have hL0 : LI w2 w.heap.size v (newL (cfgA []) (cfgB []) (magA []) (magB [])) := by
    have hz := (HB1.out.trans (BA.out.mono HB1.out.size)).size
    exact ⟨hL.blk, Nat.le_trans hz hL.ge, hL.pa.mono hz, hL.pb.mono hz, hL.qB.mono hz, hL.qA.mono hz, hL.d1, hL.d2, hL.d3, hL.eB, hL.eA⟩
  have ok0 : (newL (cfgA []) (cfgB []) (magA []) (magB [])).Ok 0 := newL_ok (fun i _ => cfgA_isL _ i) (fun i _ => cfgB_isL _ i) (magA_in _).1 (magA_in _).2 (magB_in _).1 (magB_in _).2
  have HL0 : Hid (LI w2 w.heap.size v (newL (cfgA []) (cfgB []) (magA []) (magB [])) ∧ Below w.heap.size w w2 ∧ (newL (cfgA []) (cfgB []) (magA []) (magB [])).Ok 0) := ⟨hL0, hbw, ok0⟩
  have T1 : Hid (_) := tell_any true 3 w2 hL0 ok0 (by omega)
  clear hL hb2 hL0 hbw ok0 HJ BA HB1
  go_wp2_with fail
  refine Calls.mono T1.out ?_
  rintro e w3 ⟨rfl, v1, hl1, hs1⟩
  have e1 : v1.ln = v.ln := hs1.ln
  have T2 : Hid (_) := tell_any false 3 w3 hl1 (HL0.out.2.2.tell true 3) (by omega)
  rw [e1] at T2
  have H1 : Hid (LS w2 w3 v v1) := hs1
  clear hl1 hs1 e1 T1
  go_wp2_with fail
  refine Calls.mono T2.out ?_
  rintro e w4 ⟨rfl, v2, hl2, hs2⟩
  have hs2' := H1.out.trans hs2
  have e2 : v2.ln = v.ln := hs2'.ln
  have T3 : Hid (_) := tell_any true 1 w4 hl2 ((HL0.out.2.2.tell true 3).tell false 3) (by omega)
  rw [e2] at T3
  have H2 : Hid (LS w2 w4 v v2) := hs2'
  clear hl2 hs2 hs2' e2 T2 H1
  go_wp2_with fail
  refine Calls.mono T3.out ?_
  rintro e w5 ⟨rfl, v3, hl3, hs3⟩
  have hs3' := H2.out.trans hs3
  have e3 : v3.ln = v.ln := hs3'.ln
  have T4 : Hid (_) := tell_any false 1 w5 hl3 (((HL0.out.2.2.tell true 3).tell false 3).tell true 1) (by omega)
  rw [e3] at T4
  have H3 : Hid (LS w2 w5 v v3) := hs3'
  clear hl3 hs3 hs3' e3 T3 H2
  go_wp2_with fail
  refine Calls.mono T4.out ?_
  rintro e w6 ⟨rfl, v4, hl4, hs4⟩
  have hs4' := H3.out.trans hs4
  have e4 : v4.ln = v.ln := hs4'.ln
  have hbz : Below w0.heap.size w0 w2 := HG.out.2.trans (HL0.out.2.1.mono HG.out.2.size)
  have T5 : Hid (_) := settle_any 100 w0 w6 HG.out.1 (LS.low HL0.out.1 hs4' hbz HG.out.2.size) HG.out.2.size hl4 ((((HL0.out.2.2.tell true 3).tell false 3).tell true 1).tell false 1) (by omega) (by omega)
  rw [e4] at T5
  have H4 : Hid (LS w2 w6 v v4) := hs4'
  clear hl4 hs4 hs4' e4 T4 H3 hbz
  go_wp2_with fail
  refine Calls.mono T5.out ?_
  rintro e w7 ⟨rfl, v5, hl5, hs5⟩
  have hs5' := H4.out.trans hs5
  have e5 : v5.ln = v.ln := hs5'.ln
  have T6 : Hid (_) := opened_any w7 hl5
  rw [e5] at T6
  have H5 : Hid (LS w2 w7 v v5) := hs5'
  have EK : Hid ((knownL.settle 100).2 = true ∧ (knownL.settle 100).1.opened = true) := known_pure
  have K1 : (((((newL (cfgA []) (cfgB []) (magA []) (magB [])).tell true 3).tell false 3).tell true 1).tell false 1).settle 100 = knownL.settle 100 := rfl
  rw [K1] at T6 ⊢
  rw [EK.out.1]
  rw [EK.out.2] at T6
  clear hl5 hs5 hs5' e5 T5 H4 K1
  go_wp2_with fail
  refine Calls.mono T6.out ?_
  rintro e w8 ⟨rfl, hb8⟩
  have HF : Hid (Below w.heap.size w w8) := by
    have h1 : Below w.heap.size w w7 := HL0.out.2.1.trans (H5.out.t.below HL0.out.2.1.size (fun k hk => (HL0.out.1.lt k hk).1))
    exact h1.trans (hb8.mono h1.size)
  clear hb8 T6
  go_wp2_with fail
  go_ret
  exact ⟨rfl, HF.out⟩
end Go.Proofs.YtoeihlgidakjbaaGreatDoor
namespace Go.Proofs.YtoeihlgidakjbaaGreatDoor
open Go.RowKit Go.Lib
set_option maxHeartbeats 1000000 in
theorem kwithin_any (v : Value) (l : List Int) (n : Int) (w : World) (hi : IntsAt w v l) (hl : l.length ≤ 1000) :
    Calls Tryz.prog 40 #[v, .int .i64 n] w fun r w' => r = .returned (.bool (decide (n ∈ l))) ∧ w = w' := by
  obtain ⟨a, cap, g, off, rfl, ha, hc⟩ := hi
  have HA : Hid (0 < l.length → a = some ⟨g, off, none⟩ ∧ g < w.heap.size) := ha
  have HC : Hid (∀ k (h : k < l.length), w.cell? ⟨g, off + k, none⟩ = some (.int .i64 l[k])) := hc
  clear ha hc
  go_enter Tryz.func40, Tryz.ntmps40
  go_wp2_with fail
  go_loopw [5] (fun i wr => ∃ k : Nat, k ≤ l.length ∧ i = .int .i64 (k : Int) ∧ wr = w ∧ Hid (∀ j, j < k → l[j]? ≠ some n)) (fun i _ => l.length - (intOf i).toNat)
  case atStart => exact ⟨0, by omega, rfl, rfl, fun j hj => by omega⟩
  case round =>
    obtain ⟨k, hk, rfl, rfl, HW⟩ := hrel
    by_cases hlt : k < l.length
    · obtain ⟨rfl, _⟩ := HA.out (by omega)
      have hI : (k : Int) < (l.length : Int) := by omega
      have ck := HC.out k hlt
      have HX : Hid (l[k]? = some l[k]) := List.getElem?_eq_getElem hlt
      generalize l[k] = x at *
      by_cases hx : x = n
      · subst hx
        have E : Hid (decide (x ∈ l) = true) := by show _ = _; rw [decide_eq_true (List.mem_of_getElem? HX.out)]
        go_wp2_with fail
        go_ret
        rw [E.out]
        exact ⟨rfl, rfl⟩
      · have hne : (x == n) = false := by simp [hx]
        have HN : Hid (∀ j, j < k + 1 → l[j]? ≠ some n) := fun j hj e => by
          rcases (by omega : j < k ∨ j = k) with q | q
          · exact HW.out j q e
          · subst q; rw [HX.out] at e; exact hx (Option.some.inj e)
        go_wp2_with fail
        exact ⟨⟨k + 1, by omega, by go_num, trivial, HN⟩, by simp [intOf]; omega⟩
    · have hI : ¬ (k : Int) < (l.length : Int) := by omega
      have E : Hid (decide (n ∈ l) = false) := by
        refine decide_eq_false fun hm => ?_
        obtain ⟨j, hj⟩ := List.getElem?_of_mem hm
        have := (List.getElem?_eq_some_iff.1 hj).1
        exact HW.out j (by omega) hj
      go_wp2_with fail
      go_ret
      rw [E.out]
      exact ⟨rfl, rfl⟩
def CfgIn (w : World) (v : LV) (LA LB : Nat → List Int) : Prop := ∀ i, i < 6 → IntsAt w (v.c i) (LA i) ∧ IntsAt w (v.c (7 + i)) (LB i) ∧ IsL (LA i) ∧ IsL (LB i)
theorem CfgIn.below {w w' : World} {v : LV} {LA LB : Nat → List Int} (h : CfgIn w v LA LB) (hb : Below w.heap.size w w') : CfgIn w' v LA LB := fun i hi => ⟨(h i hi).1.below hb, (h i hi).2.1.below hb, (h i hi).2.2⟩
theorem nat_mem {l : List Int} (h : IsL l) (k : Nat) : ((k : Int) ∈ l) ↔ k ∈ l.map Int.toNat := by
  constructor
  · intro q; exact List.mem_map.2 ⟨(k : Int), q, by simp⟩
  · intro q
    obtain ⟨z, hz, e⟩ := List.mem_map.1 q
    have := (h.2.2.1 z hz).1
    have : z = (k : Int) := by omega
    rw [← this]; exact hz
theorem terms_form {w0 w1 w2 : List Nat} {s : List UInt8} (h : IsForm w0 w1 w2 s) : termsI s 0 ∈ w0 ∧ termsI s 1 ∈ w1 ∧ termsI s 2 ∈ w2 := by
  obtain ⟨k0, k1, k2, g, e, h0, h1, h2⟩ := h
  unfold termsI
  rw [e]
  exact ⟨h0, h1, h2⟩
theorem terms_acc {w0 w1 w2 a0 a1 a2 : List Nat} {s : List UInt8} (hf : IsForm w0 w1 w2 s) (h : AccOk a0 a1 a2 s) : termsI s 0 ∈ a0 ∧ termsI s 1 ∈ a1 ∧ termsI s 2 ∈ a2 := by
  obtain ⟨k0, k1, k2, g, e, _⟩ := hf
  have := h k0 k1 k2 g e
  unfold termsI
  rw [e]
  exact this
def Opt (l : Ln) (LA LB : Nat → List Int) (i : Nat) : Prop := ((termsI l.a.sent i : Int) ∈ LA i ∧ (termsI l.a.sent i : Int) ∈ LB (3 + i)) ∧ (termsI l.b.sent i : Int) ∈ LB i ∧ (termsI l.b.sent i : Int) ∈ LA (3 + i)
theorem Ln.Agree.opt {l : Ln} {LA LB : Nat → List Int} (h : l.Agree) (hc : CgL LA LB l) (la : ∀ i, i < 6 → IsL (LA i)) (lb : ∀ i, i < 6 → IsL (LB i)) : (∀ i, i < 3 → Opt l LA LB i) ∧ l.b.agr = l.a.sent ∧ l.a.agr = l.b.sent := by
  obtain ⟨⟨e1, f1, c1⟩, ⟨e2, f2, c2⟩⟩ := h
  obtain ⟨x0, x1, x2⟩ := terms_form f1
  obtain ⟨y0, y1, y2⟩ := terms_acc f1 c1
  obtain ⟨z0, z1, z2⟩ := terms_form f2
  obtain ⟨t0, t1, t2⟩ := terms_acc f2 c2
  rw [hc.a.w0] at x0
  rw [hc.a.w1] at x1
  rw [hc.a.w2] at x2
  rw [hc.b.a0] at y0
  rw [hc.b.a1] at y1
  rw [hc.b.a2] at y2
  rw [hc.b.w0] at z0
  rw [hc.b.w1] at z1
  rw [hc.b.w2] at z2
  rw [hc.a.a0] at t0
  rw [hc.a.a1] at t1
  rw [hc.a.a2] at t2
  refine ⟨fun i hi => ?_, e1, e2⟩
  rcases (by omega : i = 0 ∨ i = 1 ∨ i = 2) with rfl | rfl | rfl
  · exact ⟨⟨(nat_mem (la 0 (by omega)) _).2 x0, (nat_mem (lb 3 (by omega)) _).2 y0⟩, (nat_mem (lb 0 (by omega)) _).2 z0, (nat_mem (la 3 (by omega)) _).2 t0⟩
  · exact ⟨⟨(nat_mem (la 1 (by omega)) _).2 x1, (nat_mem (lb 4 (by omega)) _).2 y1⟩, (nat_mem (lb 1 (by omega)) _).2 z1, (nat_mem (la 4 (by omega)) _).2 t1⟩
  · exact ⟨⟨(nat_mem (la 2 (by omega)) _).2 x2, (nat_mem (lb 5 (by omega)) _).2 y2⟩, (nat_mem (lb 2 (by omega)) _).2 z2, (nat_mem (la 5 (by omega)) _).2 t2⟩
theorem terms_in (a b c d e f : Nat) (ha : a < 65536) (hb : b < 65536) (hc : c < 65536) (hd : d < 65536) (he : e < 65536) (hf : f < 65536) (w : World) : ∃ r : Bool, (Op.equalIn 10000 74 (.agg #[.int .i64 (a : Int), .int .i64 (b : Int), .int .i64 (c : Int)]) (.agg #[.int .i64 (d : Int), .int .i64 (e : Int), .int .i64 (f : Int)])).run Tryz.prog w = .ok r w ∧ (r = true ↔ (a = d ∧ b = e ∧ c = f)) := by
  obtain ⟨i0, hi, _, _, _⟩ := info_parts Tryz.infoI
  have hk : ∀ x : Nat, x < 65536 → Tryz.prog.keyLits 1 3 [.int .i64 (x : Int)] = some [.int .i64 (x : Int)] := by
    intro x hx
    have hwf : (Lit.int .i64 (x : Int)).wf = true := by
      have e1 : IntKind.i64.min = -9223372036854775808 := rfl
      have e2 : IntKind.i64.max = 9223372036854775807 := rfl
      simp only [Lit.wf, e1, e2, Bool.and_eq_true, decide_eq_true_eq]; omega
    simp [Program.keyLits, Tryz.underlying3, hwf]
  have hm : ∀ x y z : Nat, x < 65536 → y < 65536 → z < 65536 → (List.range 3).mapM (fun i => Tryz.prog.keyLits 1 3 (((#[.int .i64 (x : Int), .int .i64 (y : Int), .int .i64 (z : Int)] : Array Value).toList.drop (i * Tryz.prog.cellsOf 3)).take (Tryz.prog.cellsOf 3))) = some [[.int .i64 (x : Int)], [.int .i64 (y : Int)], [.int .i64 (z : Int)]] := by
    intro x y z hx hy hz
    rw [Tryz.cI]
    simp [List.range, List.range.loop, hk x hx, hk y hy, hk z hz]
  obtain ⟨r, hr, hiff⟩ := run_eqItems_plain w (P := Tryz.prog) 9998 (e := 3) (by kernel_rfl) #[.int .i64 (a : Int), .int .i64 (b : Int), .int .i64 (c : Int)] #[.int .i64 (d : Int), .int .i64 (e : Int), .int .i64 (f : Int)] _ _ _ (hm a b c ha hb hc) (hm d e f hd he hf)
  have heq := run_equalIn_array w (P := Tryz.prog) 9999 #[.int .i64 (a : Int), .int .i64 (b : Int), .int .i64 (c : Int)] #[.int .i64 (d : Int), .int .i64 (e : Int), .int .i64 (f : Int)] Tryz.underlying74 hi
  rw [hr] at heq
  refine ⟨r, heq, hiff.trans ?_⟩
  simp only [List.flatten_cons, List.flatten_nil, List.append_nil, List.cons_append, List.nil_append, List.cons.injEq, Lit.int.injEq, true_and, and_true]
  omega
def AgR (l : Ln) (w : World) (e : Ending) (w' : World) : Prop := ∃ b, e = .returned (.bool b) ∧ (l.Agree → b = true) ∧ Below w.heap.size w w'
theorem kwithin_q (v : Value) (l : List Int) (n : Int) (w : World) (m : Nat) (hi : IntsAt w v l) (hl : l.length ≤ 1000) :
    Calls Tryz.prog 40 #[v, .int .i64 n] (w.drewN m) fun r w' => r = .returned (.bool (decide (n ∈ l))) ∧ w' = w.drewN m :=
  (kwithin_any v l n (w.drewN m) hi hl).mono (by rintro e w' ⟨rfl, rfl⟩; exact ⟨rfl, rfl⟩)
set_option maxRecDepth 100000 in
set_option maxHeartbeats 8000000 in
theorem agree_any {B : Nat} {v : LV} {l : Ln} (LA LB : Nat → List Int) (w : World) (h : LI w B v l) (hc : CfgIn w v LA LB) (hg : CgL LA LB l) :
    Calls Tryz.prog 20 #[.pointer (some ⟨v.ln, 0, none⟩)] w fun e w' => AgR l w e w' := by
  have HO : Hid (l.Agree → (∀ i, i < 3 → Opt l LA LB i) ∧ l.b.agr = l.a.sent ∧ l.a.agr = l.b.sent) := fun q => q.opt hg (fun i hi => (hc i hi).2.2.1) (fun i hi => (hc i hi).2.2.2)
  have HL : Hid (LI w B v l ∧ CfgIn w v LA LB) := ⟨h, hc⟩
  have HA : Hid (_) := pagreed h.pa
  have c0 : w.cell? ⟨v.ln, 0, none⟩ = some (.pointer (some ⟨v.la.pb, 0, none⟩)) := blk_cell h.blk
  clear h hc hg
  go_enter Tryz.func20, Tryz.ntmps20
  go_wp2_with fail
  refine Calls.mono HA.out ?_
  rintro e w1 ⟨rfl, hb1⟩
  have TA : Hid (termsV l.a.sent = .agg #[.int .i64 (termsI l.a.sent 0 : Int), .int .i64 (termsI l.a.sent 1 : Int), .int .i64 (termsI l.a.sent 2 : Int)] ∧ termsV l.a.agr = .agg #[.int .i64 (termsI l.a.agr 0 : Int), .int .i64 (termsI l.a.agr 1 : Int), .int .i64 (termsI l.a.agr 2 : Int)]) := ⟨rfl, rfl⟩
  rw [TA.out.1, TA.out.2]
  have BA : Hid (Below w.heap.size w ((w1.alloc (.cells #[.int .i64 (termsI l.a.sent 0 : Int), .int .i64 (termsI l.a.sent 1 : Int), .int .i64 (termsI l.a.sent 2 : Int)] 74)).alloc (.cells #[.int .i64 (termsI l.a.agr 0 : Int), .int .i64 (termsI l.a.agr 1 : Int), .int .i64 (termsI l.a.agr 2 : Int)] 74))) := (hb1.alloc hb1.size _).alloc (by have := hb1.size; simp; omega) _
  have hL2 := HL.out.1.below BA.out
  have c1 : ((w1.alloc (.cells #[.int .i64 (termsI l.a.sent 0 : Int), .int .i64 (termsI l.a.sent 1 : Int), .int .i64 (termsI l.a.sent 2 : Int)] 74)).alloc (.cells #[.int .i64 (termsI l.a.agr 0 : Int), .int .i64 (termsI l.a.agr 1 : Int), .int .i64 (termsI l.a.agr 2 : Int)] 74)).cell? ⟨v.ln, 1, none⟩ = some (.pointer (some ⟨v.lb.pb, 0, none⟩)) := blk_cell hL2.blk
  have HB : Hid (_) := pagreed hL2.pb
  clear hL2 hb1 HA c0
  have Q0 : Hid (((w1.alloc (.cells #[.int .i64 (termsI l.a.sent 0 : Int), .int .i64 (termsI l.a.sent 1 : Int), .int .i64 (termsI l.a.sent 2 : Int)] 74)).alloc (.cells #[.int .i64 (termsI l.a.agr 0 : Int), .int .i64 (termsI l.a.agr 1 : Int), .int .i64 (termsI l.a.agr 2 : Int)] 74)).heap[w1.heap.size]? = some (.cells #[.int .i64 (termsI l.a.sent 0 : Int), .int .i64 (termsI l.a.sent 1 : Int), .int .i64 (termsI l.a.sent 2 : Int)] 74 (0, 0)) ∧ ((w1.alloc (.cells #[.int .i64 (termsI l.a.sent 0 : Int), .int .i64 (termsI l.a.sent 1 : Int), .int .i64 (termsI l.a.sent 2 : Int)] 74)).alloc (.cells #[.int .i64 (termsI l.a.agr 0 : Int), .int .i64 (termsI l.a.agr 1 : Int), .int .i64 (termsI l.a.agr 2 : Int)] 74)).heap[w1.heap.size + 1]? = some (.cells #[.int .i64 (termsI l.a.agr 0 : Int), .int .i64 (termsI l.a.agr 1 : Int), .int .i64 (termsI l.a.agr 2 : Int)] 74 (0, 0))) := ⟨(Below.heap_alloc _ _ _ (by simp)).trans (alloc_at w1 _ _ rfl), alloc_at _ _ _ (by simp)⟩
  go_wp2_with fail
  refine Calls.mono HB.out ?_
  rintro e w2 ⟨rfl, hb2⟩
  have TB : Hid (termsV l.b.sent = .agg #[.int .i64 (termsI l.b.sent 0 : Int), .int .i64 (termsI l.b.sent 1 : Int), .int .i64 (termsI l.b.sent 2 : Int)] ∧ termsV l.b.agr = .agg #[.int .i64 (termsI l.b.agr 0 : Int), .int .i64 (termsI l.b.agr 1 : Int), .int .i64 (termsI l.b.agr 2 : Int)]) := ⟨rfl, rfl⟩
  rw [TB.out.1, TB.out.2]
  have hz1 : w1.heap.size + 1 < w2.heap.size := Nat.lt_of_lt_of_le (blk_lt Q0.out.2) hb2.size
  have B4 : Hid (Below w2.heap.size w2 ((w2.alloc (.cells #[.int .i64 (termsI l.b.sent 0 : Int), .int .i64 (termsI l.b.sent 1 : Int), .int .i64 (termsI l.b.sent 2 : Int)] 74)).alloc (.cells #[.int .i64 (termsI l.b.agr 0 : Int), .int .i64 (termsI l.b.agr 1 : Int), .int .i64 (termsI l.b.agr 2 : Int)] 74))) := ((Below.refl _ _).alloc (Nat.le_refl _) _).alloc (by simp) _
  have Q4 : Hid (((w2.alloc (.cells #[.int .i64 (termsI l.b.sent 0 : Int), .int .i64 (termsI l.b.sent 1 : Int), .int .i64 (termsI l.b.sent 2 : Int)] 74)).alloc (.cells #[.int .i64 (termsI l.b.agr 0 : Int), .int .i64 (termsI l.b.agr 1 : Int), .int .i64 (termsI l.b.agr 2 : Int)] 74)).heap[w2.heap.size]? = some (.cells #[.int .i64 (termsI l.b.sent 0 : Int), .int .i64 (termsI l.b.sent 1 : Int), .int .i64 (termsI l.b.sent 2 : Int)] 74 (0, 0)) ∧ ((w2.alloc (.cells #[.int .i64 (termsI l.b.sent 0 : Int), .int .i64 (termsI l.b.sent 1 : Int), .int .i64 (termsI l.b.sent 2 : Int)] 74)).alloc (.cells #[.int .i64 (termsI l.b.agr 0 : Int), .int .i64 (termsI l.b.agr 1 : Int), .int .i64 (termsI l.b.agr 2 : Int)] 74)).heap[w2.heap.size + 1]? = some (.cells #[.int .i64 (termsI l.b.agr 0 : Int), .int .i64 (termsI l.b.agr 1 : Int), .int .i64 (termsI l.b.agr 2 : Int)] 74 (0, 0))) := ⟨(Below.heap_alloc _ _ _ (by simp)).trans (alloc_at w2 _ _ rfl), alloc_at _ _ _ (by simp)⟩
  have HB2 : Hid (Below w.heap.size w w2) := BA.out.trans (hb2.mono BA.out.size)
  have R0 : Hid (w2.heap[w1.heap.size]? = some (.cells #[.int .i64 (termsI l.a.sent 0 : Int), .int .i64 (termsI l.a.sent 1 : Int), .int .i64 (termsI l.a.sent 2 : Int)] 74 (0, 0)) ∧ w2.heap[w1.heap.size + 1]? = some (.cells #[.int .i64 (termsI l.a.agr 0 : Int), .int .i64 (termsI l.a.agr 1 : Int), .int .i64 (termsI l.a.agr 2 : Int)] 74 (0, 0))) := ⟨(hb2.block _ (by have := blk_lt Q0.out.1; exact this)).trans Q0.out.1, (hb2.block _ (blk_lt Q0.out.2)).trans Q0.out.2⟩
  clear hb2 HB c1 BA
  go_upto_region 3 with fail
  generalize (w2.alloc (.cells #[.int .i64 (termsI l.b.sent 0 : Int), .int .i64 (termsI l.b.sent 1 : Int), .int .i64 (termsI l.b.sent 2 : Int)] 74)).alloc (.cells #[.int .i64 (termsI l.b.agr 0 : Int), .int .i64 (termsI l.b.agr 1 : Int), .int .i64 (termsI l.b.agr 2 : Int)] 74) = W at *
  have kx : ∀ j, W.cell? ⟨w1.heap.size, j, none⟩ = _ := fun j => blk_cell ((B4.out.block _ (by omega)).trans R0.out.1)
  have ky : ∀ j, W.cell? ⟨w1.heap.size + 1, j, none⟩ = _ := fun j => blk_cell ((B4.out.block _ hz1).trans R0.out.2)
  have kp : ∀ j, W.cell? ⟨w2.heap.size, j, none⟩ = _ := fun j => blk_cell Q4.out.1
  have kq : ∀ j, W.cell? ⟨w2.heap.size + 1, j, none⟩ = _ := fun j => blk_cell Q4.out.2
  have HBW : Hid (Below w.heap.size w W) := HB2.out.trans (B4.out.mono HB2.out.size)
  have HLW : Hid (LI W B v l ∧ CfgIn W v LA LB) := ⟨HL.out.1.below HBW.out, HL.out.2.below HBW.out⟩
  clear Q0 Q4 R0 B4 HB2
  have lt := termsI_lt
  obtain ⟨r1, hr1, hf1⟩ := terms_in (termsI l.a.sent 0) (termsI l.a.sent 1) (termsI l.a.sent 2) (termsI l.b.agr 0) (termsI l.b.agr 1) (termsI l.b.agr 2) (lt _ _) (lt _ _) (lt _ _) (lt _ _) (lt _ _) (lt _ _) W
  obtain ⟨r2, hr2, hf2⟩ := terms_in (termsI l.a.agr 0) (termsI l.a.agr 1) (termsI l.a.agr 2) (termsI l.b.sent 0) (termsI l.b.sent 1) (termsI l.b.sent 2) (lt _ _) (lt _ _) (lt _ _) (lt _ _) (lt _ _) (lt _ _) W
  have HF : Hid ((l.Agree → r1 = true) ∧ (l.Agree → r2 = true)) := ⟨fun q => by
      have := (HO.out q).2.1
      exact hf1.2 (by rw [this]; exact ⟨rfl, rfl, rfl⟩), fun q => by
      have := (HO.out q).2.2
      exact hf2.2 (by rw [this]; exact ⟨rfl, rfl, rfl⟩)⟩
  clear hf1 hf2 lt
  cases r1
  · go_wp2_with fail
    go_ret
    exact ⟨false, rfl, HF.out.1, HBW.out⟩
  cases r2
  · go_wp2_with fail
    go_ret
    exact ⟨false, rfl, HF.out.2, HBW.out⟩
  clear HF
  have bl : W.heap[v.ln]? = some (.cells v.cells 49 (0, 0)) := HLW.out.1.blk
  have HBL : Hid (_) := bl
  clear bl
  go_wp2_with fail
  clear hr1 hr2
  go_loopw [7] (fun v7 wr => ∃ k : Nat, k ≤ 3 ∧ v7 = .int .i64 (k : Int) ∧ ∃ n, wr = W.drewN n) (fun v7 _ => 3 - (intOf v7).toNat)
  case atStart => exact ⟨0, by omega, rfl, 0, rfl⟩
  case round =>
    obtain ⟨k, hk, rfl, n, rfl⟩ := hrel
    have HBL2 : Hid ((W.drewN n).heap[v.ln]? = some (.cells v.cells 49 (0, 0))) := HBL.out
    have HC2 : Hid (CfgIn (W.drewN n) v LA LB) := HLW.out.2
    have kx2 : ∀ j, (W.drewN n).cell? ⟨w1.heap.size, j, none⟩ = _ := kx
    have kp2 : ∀ j, (W.drewN n).cell? ⟨w2.heap.size, j, none⟩ = _ := kp
    have HB2 : Hid (Below w.heap.size w (W.drewN n)) := by
      have := HBW.out
      exact ⟨this.os, this.tape, this.output, this.size, this.block⟩
    clear kx ky kp kq
    generalize hwr : W.drewN n = wr at *
    have HWR : Hid (∃ n', wr = W.drewN n') := ⟨n, hwr.symm⟩
    clear hwr
    by_cases hlt : k < 3
    · have len : ∀ (L : List Int), IsL L → L.length ≤ 1000 := fun L hL => by have := hL.2.1; omega
      rcases (by omega : k = 0 ∨ k = 1 ∨ k = 2) with rfl | rfl | rfl
      · have HP : Hid (l.Agree → (decide ((termsI l.a.sent 0 : Int) ∈ LA 0) = true ∧ decide ((termsI l.a.sent 0 : Int) ∈ LB 3) = true) ∧ decide ((termsI l.b.sent 0 : Int) ∈ LB 0) = true ∧ decide ((termsI l.b.sent 0 : Int) ∈ LA 3) = true) := fun q => by
          obtain ⟨⟨q1, q2⟩, q3, q4⟩ := (HO.out q).1 0 (by omega)
          exact ⟨⟨decide_eq_true q1, decide_eq_true q2⟩, decide_eq_true q3, decide_eq_true q4⟩
        have d1 : wr.cell? ⟨v.ln, 2, none⟩ = some (v.c 0) := blk_cell HBL2.out
        have d2 : wr.cell? ⟨v.ln, 5, none⟩ = some (v.c 3) := blk_cell HBL2.out
        have d3 : wr.cell? ⟨v.ln, 9, none⟩ = some (v.c 7) := blk_cell HBL2.out
        have d4 : wr.cell? ⟨v.ln, 12, none⟩ = some (v.c 10) := blk_cell HBL2.out
        have H1 : Hid (∀ m, Calls Tryz.prog 40 #[v.c 0, .int .i64 (termsI l.a.sent 0 : Int)] (wr.drewN m) fun r w' => r = .returned (.bool (decide ((termsI l.a.sent 0 : Int) ∈ LA 0))) ∧ w' = wr.drewN m) := fun m => kwithin_q (v.c 0) (LA 0) _ wr m (HC2.out 0 (by omega)).1 (len _ (HC2.out 0 (by omega)).2.2.1)
        generalize decide ((termsI l.a.sent 0 : Int) ∈ LA 0) = s1 at *
        go_wp2_with fail
        go_quiet ((go_at_call 40; exact Calls.quiet_of_same (H1.out _)))
        have d1q : (wr.drewN nq).cell? ⟨v.ln, 2, none⟩ = some (v.c 0) := d1
        have d2q : (wr.drewN nq).cell? ⟨v.ln, 5, none⟩ = some (v.c 3) := d2
        have d3q : (wr.drewN nq).cell? ⟨v.ln, 9, none⟩ = some (v.c 7) := d3
        have d4q : (wr.drewN nq).cell? ⟨v.ln, 12, none⟩ = some (v.c 10) := d4
        have kx2q : ∀ j, (wr.drewN nq).cell? ⟨w1.heap.size, j, none⟩ = _ := kx2
        have kp2q : ∀ j, (wr.drewN nq).cell? ⟨w2.heap.size, j, none⟩ = _ := kp2
        have HC2q : Hid (CfgIn (wr.drewN nq) v LA LB) := HC2.out
        have HWRq : Hid (∃ n', wr.drewN nq = W.drewN n') := by
          obtain ⟨n', h⟩ := HWR.out
          exact ⟨n' + nq, by rw [h]; simp⟩
        have HB2q : Hid (Below w.heap.size w (wr.drewN nq)) := below_drewN HB2.out nq
        clear d1 d2 d3 d4 kx2 kp2 HC2 HWR HB2 H1
        generalize wr.drewN nq = wr at *
        have H2 : Hid (∀ m, Calls Tryz.prog 40 #[v.c 10, .int .i64 (termsI l.a.sent 0 : Int)] (wr.drewN m) fun r w' => r = .returned (.bool (decide ((termsI l.a.sent 0 : Int) ∈ LB 3))) ∧ w' = wr.drewN m) := fun m => kwithin_q (v.c 10) (LB 3) _ wr m (HC2q.out 3 (by omega)).2.1 (len _ (HC2q.out 3 (by omega)).2.2.2)
        generalize decide ((termsI l.a.sent 0 : Int) ∈ LB 3) = s2 at *
        go_wp2_with fail
        go_quiet ((go_at_call 40; exact Calls.quiet_of_same (H2.out _)))
        have d1qq : (wr.drewN nq).cell? ⟨v.ln, 2, none⟩ = some (v.c 0) := d1q
        have d2qq : (wr.drewN nq).cell? ⟨v.ln, 5, none⟩ = some (v.c 3) := d2q
        have d3qq : (wr.drewN nq).cell? ⟨v.ln, 9, none⟩ = some (v.c 7) := d3q
        have d4qq : (wr.drewN nq).cell? ⟨v.ln, 12, none⟩ = some (v.c 10) := d4q
        have kx2qq : ∀ j, (wr.drewN nq).cell? ⟨w1.heap.size, j, none⟩ = _ := kx2q
        have kp2qq : ∀ j, (wr.drewN nq).cell? ⟨w2.heap.size, j, none⟩ = _ := kp2q
        have HC2qq : Hid (CfgIn (wr.drewN nq) v LA LB) := HC2q.out
        have HWRqq : Hid (∃ n', wr.drewN nq = W.drewN n') := by
          obtain ⟨n', h⟩ := HWRq.out
          exact ⟨n' + nq, by rw [h]; simp⟩
        have HB2qq : Hid (Below w.heap.size w (wr.drewN nq)) := below_drewN HB2q.out nq
        clear d1q d2q d3q d4q kx2q kp2q HC2q HWRq HB2q H2
        generalize wr.drewN nq = wr at *
        have H3 : Hid (∀ m, Calls Tryz.prog 40 #[v.c 7, .int .i64 (termsI l.b.sent 0 : Int)] (wr.drewN m) fun r w' => r = .returned (.bool (decide ((termsI l.b.sent 0 : Int) ∈ LB 0))) ∧ w' = wr.drewN m) := fun m => kwithin_q (v.c 7) (LB 0) _ wr m (HC2qq.out 0 (by omega)).2.1 (len _ (HC2qq.out 0 (by omega)).2.2.2)
        generalize decide ((termsI l.b.sent 0 : Int) ∈ LB 0) = s3 at *
        go_wp2_with fail
        go_quiet ((go_at_call 40; exact Calls.quiet_of_same (H3.out _)))
        have d1qqq : (wr.drewN nq).cell? ⟨v.ln, 2, none⟩ = some (v.c 0) := d1qq
        have d2qqq : (wr.drewN nq).cell? ⟨v.ln, 5, none⟩ = some (v.c 3) := d2qq
        have d3qqq : (wr.drewN nq).cell? ⟨v.ln, 9, none⟩ = some (v.c 7) := d3qq
        have d4qqq : (wr.drewN nq).cell? ⟨v.ln, 12, none⟩ = some (v.c 10) := d4qq
        have kx2qqq : ∀ j, (wr.drewN nq).cell? ⟨w1.heap.size, j, none⟩ = _ := kx2qq
        have kp2qqq : ∀ j, (wr.drewN nq).cell? ⟨w2.heap.size, j, none⟩ = _ := kp2qq
        have HC2qqq : Hid (CfgIn (wr.drewN nq) v LA LB) := HC2qq.out
        have HWRqqq : Hid (∃ n', wr.drewN nq = W.drewN n') := by
          obtain ⟨n', h⟩ := HWRqq.out
          exact ⟨n' + nq, by rw [h]; simp⟩
        have HB2qqq : Hid (Below w.heap.size w (wr.drewN nq)) := below_drewN HB2qq.out nq
        clear d1qq d2qq d3qq d4qq kx2qq kp2qq HC2qq HWRqq HB2qq H3
        generalize wr.drewN nq = wr at *
        have H4 : Hid (∀ m, Calls Tryz.prog 40 #[v.c 3, .int .i64 (termsI l.b.sent 0 : Int)] (wr.drewN m) fun r w' => r = .returned (.bool (decide ((termsI l.b.sent 0 : Int) ∈ LA 3))) ∧ w' = wr.drewN m) := fun m => kwithin_q (v.c 3) (LA 3) _ wr m (HC2qqq.out 3 (by omega)).1 (len _ (HC2qqq.out 3 (by omega)).2.2.1)
        generalize decide ((termsI l.b.sent 0 : Int) ∈ LA 3) = s4 at *
        go_wp2_with fail
        go_quiet ((go_at_call 40; exact Calls.quiet_of_same (H4.out _)))
        have d1qqqq : (wr.drewN nq).cell? ⟨v.ln, 2, none⟩ = some (v.c 0) := d1qqq
        have d2qqqq : (wr.drewN nq).cell? ⟨v.ln, 5, none⟩ = some (v.c 3) := d2qqq
        have d3qqqq : (wr.drewN nq).cell? ⟨v.ln, 9, none⟩ = some (v.c 7) := d3qqq
        have d4qqqq : (wr.drewN nq).cell? ⟨v.ln, 12, none⟩ = some (v.c 10) := d4qqq
        have kx2qqqq : ∀ j, (wr.drewN nq).cell? ⟨w1.heap.size, j, none⟩ = _ := kx2qqq
        have kp2qqqq : ∀ j, (wr.drewN nq).cell? ⟨w2.heap.size, j, none⟩ = _ := kp2qqq
        have HC2qqqq : Hid (CfgIn (wr.drewN nq) v LA LB) := HC2qqq.out
        have HWRqqqq : Hid (∃ n', wr.drewN nq = W.drewN n') := by
          obtain ⟨n', h⟩ := HWRqqq.out
          exact ⟨n' + nq, by rw [h]; simp⟩
        have HB2qqqq : Hid (Below w.heap.size w (wr.drewN nq)) := below_drewN HB2qqq.out nq
        clear d1qqq d2qqq d3qqq d4qqq kx2qqq kp2qqq HC2qqq HWRqqq HB2qqq H4
        generalize wr.drewN nq = wr at *
        cases s1 <;> cases s2 <;> cases s3 <;> cases s4
        case true.true.true.true =>
          go_wp2_with fail
          obtain ⟨n', h'⟩ := HWRqqqq.out
          exact ⟨⟨0 + 1, by omega, by go_num, n', h'⟩, by simp [intOf]⟩
        all_goals
          go_wp2_with fail
          go_ret
          exact ⟨false, rfl, fun q => by have := HP.out q; simp at this, HB2qqqq.out⟩
      · have HP : Hid (l.Agree → (decide ((termsI l.a.sent 1 : Int) ∈ LA 1) = true ∧ decide ((termsI l.a.sent 1 : Int) ∈ LB 4) = true) ∧ decide ((termsI l.b.sent 1 : Int) ∈ LB 1) = true ∧ decide ((termsI l.b.sent 1 : Int) ∈ LA 4) = true) := fun q => by
          obtain ⟨⟨q1, q2⟩, q3, q4⟩ := (HO.out q).1 1 (by omega)
          exact ⟨⟨decide_eq_true q1, decide_eq_true q2⟩, decide_eq_true q3, decide_eq_true q4⟩
        have d1 : wr.cell? ⟨v.ln, 3, none⟩ = some (v.c 1) := blk_cell HBL2.out
        have d2 : wr.cell? ⟨v.ln, 6, none⟩ = some (v.c 4) := blk_cell HBL2.out
        have d3 : wr.cell? ⟨v.ln, 10, none⟩ = some (v.c 8) := blk_cell HBL2.out
        have d4 : wr.cell? ⟨v.ln, 13, none⟩ = some (v.c 11) := blk_cell HBL2.out
        have H1 : Hid (∀ m, Calls Tryz.prog 40 #[v.c 1, .int .i64 (termsI l.a.sent 1 : Int)] (wr.drewN m) fun r w' => r = .returned (.bool (decide ((termsI l.a.sent 1 : Int) ∈ LA 1))) ∧ w' = wr.drewN m) := fun m => kwithin_q (v.c 1) (LA 1) _ wr m (HC2.out 1 (by omega)).1 (len _ (HC2.out 1 (by omega)).2.2.1)
        generalize decide ((termsI l.a.sent 1 : Int) ∈ LA 1) = s1 at *
        go_wp2_with fail
        go_quiet ((go_at_call 40; exact Calls.quiet_of_same (H1.out _)))
        have d1q : (wr.drewN nq).cell? ⟨v.ln, 3, none⟩ = some (v.c 1) := d1
        have d2q : (wr.drewN nq).cell? ⟨v.ln, 6, none⟩ = some (v.c 4) := d2
        have d3q : (wr.drewN nq).cell? ⟨v.ln, 10, none⟩ = some (v.c 8) := d3
        have d4q : (wr.drewN nq).cell? ⟨v.ln, 13, none⟩ = some (v.c 11) := d4
        have kx2q : ∀ j, (wr.drewN nq).cell? ⟨w1.heap.size, j, none⟩ = _ := kx2
        have kp2q : ∀ j, (wr.drewN nq).cell? ⟨w2.heap.size, j, none⟩ = _ := kp2
        have HC2q : Hid (CfgIn (wr.drewN nq) v LA LB) := HC2.out
        have HWRq : Hid (∃ n', wr.drewN nq = W.drewN n') := by
          obtain ⟨n', h⟩ := HWR.out
          exact ⟨n' + nq, by rw [h]; simp⟩
        have HB2q : Hid (Below w.heap.size w (wr.drewN nq)) := below_drewN HB2.out nq
        clear d1 d2 d3 d4 kx2 kp2 HC2 HWR HB2 H1
        generalize wr.drewN nq = wr at *
        have H2 : Hid (∀ m, Calls Tryz.prog 40 #[v.c 11, .int .i64 (termsI l.a.sent 1 : Int)] (wr.drewN m) fun r w' => r = .returned (.bool (decide ((termsI l.a.sent 1 : Int) ∈ LB 4))) ∧ w' = wr.drewN m) := fun m => kwithin_q (v.c 11) (LB 4) _ wr m (HC2q.out 4 (by omega)).2.1 (len _ (HC2q.out 4 (by omega)).2.2.2)
        generalize decide ((termsI l.a.sent 1 : Int) ∈ LB 4) = s2 at *
        go_wp2_with fail
        go_quiet ((go_at_call 40; exact Calls.quiet_of_same (H2.out _)))
        have d1qq : (wr.drewN nq).cell? ⟨v.ln, 3, none⟩ = some (v.c 1) := d1q
        have d2qq : (wr.drewN nq).cell? ⟨v.ln, 6, none⟩ = some (v.c 4) := d2q
        have d3qq : (wr.drewN nq).cell? ⟨v.ln, 10, none⟩ = some (v.c 8) := d3q
        have d4qq : (wr.drewN nq).cell? ⟨v.ln, 13, none⟩ = some (v.c 11) := d4q
        have kx2qq : ∀ j, (wr.drewN nq).cell? ⟨w1.heap.size, j, none⟩ = _ := kx2q
        have kp2qq : ∀ j, (wr.drewN nq).cell? ⟨w2.heap.size, j, none⟩ = _ := kp2q
        have HC2qq : Hid (CfgIn (wr.drewN nq) v LA LB) := HC2q.out
        have HWRqq : Hid (∃ n', wr.drewN nq = W.drewN n') := by
          obtain ⟨n', h⟩ := HWRq.out
          exact ⟨n' + nq, by rw [h]; simp⟩
        have HB2qq : Hid (Below w.heap.size w (wr.drewN nq)) := below_drewN HB2q.out nq
        clear d1q d2q d3q d4q kx2q kp2q HC2q HWRq HB2q H2
        generalize wr.drewN nq = wr at *
        have H3 : Hid (∀ m, Calls Tryz.prog 40 #[v.c 8, .int .i64 (termsI l.b.sent 1 : Int)] (wr.drewN m) fun r w' => r = .returned (.bool (decide ((termsI l.b.sent 1 : Int) ∈ LB 1))) ∧ w' = wr.drewN m) := fun m => kwithin_q (v.c 8) (LB 1) _ wr m (HC2qq.out 1 (by omega)).2.1 (len _ (HC2qq.out 1 (by omega)).2.2.2)
        generalize decide ((termsI l.b.sent 1 : Int) ∈ LB 1) = s3 at *
        go_wp2_with fail
        go_quiet ((go_at_call 40; exact Calls.quiet_of_same (H3.out _)))
        have d1qqq : (wr.drewN nq).cell? ⟨v.ln, 3, none⟩ = some (v.c 1) := d1qq
        have d2qqq : (wr.drewN nq).cell? ⟨v.ln, 6, none⟩ = some (v.c 4) := d2qq
        have d3qqq : (wr.drewN nq).cell? ⟨v.ln, 10, none⟩ = some (v.c 8) := d3qq
        have d4qqq : (wr.drewN nq).cell? ⟨v.ln, 13, none⟩ = some (v.c 11) := d4qq
        have kx2qqq : ∀ j, (wr.drewN nq).cell? ⟨w1.heap.size, j, none⟩ = _ := kx2qq
        have kp2qqq : ∀ j, (wr.drewN nq).cell? ⟨w2.heap.size, j, none⟩ = _ := kp2qq
        have HC2qqq : Hid (CfgIn (wr.drewN nq) v LA LB) := HC2qq.out
        have HWRqqq : Hid (∃ n', wr.drewN nq = W.drewN n') := by
          obtain ⟨n', h⟩ := HWRqq.out
          exact ⟨n' + nq, by rw [h]; simp⟩
        have HB2qqq : Hid (Below w.heap.size w (wr.drewN nq)) := below_drewN HB2qq.out nq
        clear d1qq d2qq d3qq d4qq kx2qq kp2qq HC2qq HWRqq HB2qq H3
        generalize wr.drewN nq = wr at *
        have H4 : Hid (∀ m, Calls Tryz.prog 40 #[v.c 4, .int .i64 (termsI l.b.sent 1 : Int)] (wr.drewN m) fun r w' => r = .returned (.bool (decide ((termsI l.b.sent 1 : Int) ∈ LA 4))) ∧ w' = wr.drewN m) := fun m => kwithin_q (v.c 4) (LA 4) _ wr m (HC2qqq.out 4 (by omega)).1 (len _ (HC2qqq.out 4 (by omega)).2.2.1)
        generalize decide ((termsI l.b.sent 1 : Int) ∈ LA 4) = s4 at *
        go_wp2_with fail
        go_quiet ((go_at_call 40; exact Calls.quiet_of_same (H4.out _)))
        have d1qqqq : (wr.drewN nq).cell? ⟨v.ln, 3, none⟩ = some (v.c 1) := d1qqq
        have d2qqqq : (wr.drewN nq).cell? ⟨v.ln, 6, none⟩ = some (v.c 4) := d2qqq
        have d3qqqq : (wr.drewN nq).cell? ⟨v.ln, 10, none⟩ = some (v.c 8) := d3qqq
        have d4qqqq : (wr.drewN nq).cell? ⟨v.ln, 13, none⟩ = some (v.c 11) := d4qqq
        have kx2qqqq : ∀ j, (wr.drewN nq).cell? ⟨w1.heap.size, j, none⟩ = _ := kx2qqq
        have kp2qqqq : ∀ j, (wr.drewN nq).cell? ⟨w2.heap.size, j, none⟩ = _ := kp2qqq
        have HC2qqqq : Hid (CfgIn (wr.drewN nq) v LA LB) := HC2qqq.out
        have HWRqqqq : Hid (∃ n', wr.drewN nq = W.drewN n') := by
          obtain ⟨n', h⟩ := HWRqqq.out
          exact ⟨n' + nq, by rw [h]; simp⟩
        have HB2qqqq : Hid (Below w.heap.size w (wr.drewN nq)) := below_drewN HB2qqq.out nq
        clear d1qqq d2qqq d3qqq d4qqq kx2qqq kp2qqq HC2qqq HWRqqq HB2qqq H4
        generalize wr.drewN nq = wr at *
        cases s1 <;> cases s2 <;> cases s3 <;> cases s4
        case true.true.true.true =>
          go_wp2_with fail
          obtain ⟨n', h'⟩ := HWRqqqq.out
          exact ⟨⟨1 + 1, by omega, by go_num, n', h'⟩, by simp [intOf]⟩
        all_goals
          go_wp2_with fail
          go_ret
          exact ⟨false, rfl, fun q => by have := HP.out q; simp at this, HB2qqqq.out⟩
      · have HP : Hid (l.Agree → (decide ((termsI l.a.sent 2 : Int) ∈ LA 2) = true ∧ decide ((termsI l.a.sent 2 : Int) ∈ LB 5) = true) ∧ decide ((termsI l.b.sent 2 : Int) ∈ LB 2) = true ∧ decide ((termsI l.b.sent 2 : Int) ∈ LA 5) = true) := fun q => by
          obtain ⟨⟨q1, q2⟩, q3, q4⟩ := (HO.out q).1 2 (by omega)
          exact ⟨⟨decide_eq_true q1, decide_eq_true q2⟩, decide_eq_true q3, decide_eq_true q4⟩
        have d1 : wr.cell? ⟨v.ln, 4, none⟩ = some (v.c 2) := blk_cell HBL2.out
        have d2 : wr.cell? ⟨v.ln, 7, none⟩ = some (v.c 5) := blk_cell HBL2.out
        have d3 : wr.cell? ⟨v.ln, 11, none⟩ = some (v.c 9) := blk_cell HBL2.out
        have d4 : wr.cell? ⟨v.ln, 14, none⟩ = some (v.c 12) := blk_cell HBL2.out
        have H1 : Hid (∀ m, Calls Tryz.prog 40 #[v.c 2, .int .i64 (termsI l.a.sent 2 : Int)] (wr.drewN m) fun r w' => r = .returned (.bool (decide ((termsI l.a.sent 2 : Int) ∈ LA 2))) ∧ w' = wr.drewN m) := fun m => kwithin_q (v.c 2) (LA 2) _ wr m (HC2.out 2 (by omega)).1 (len _ (HC2.out 2 (by omega)).2.2.1)
        generalize decide ((termsI l.a.sent 2 : Int) ∈ LA 2) = s1 at *
        go_wp2_with fail
        go_quiet ((go_at_call 40; exact Calls.quiet_of_same (H1.out _)))
        have d1q : (wr.drewN nq).cell? ⟨v.ln, 4, none⟩ = some (v.c 2) := d1
        have d2q : (wr.drewN nq).cell? ⟨v.ln, 7, none⟩ = some (v.c 5) := d2
        have d3q : (wr.drewN nq).cell? ⟨v.ln, 11, none⟩ = some (v.c 9) := d3
        have d4q : (wr.drewN nq).cell? ⟨v.ln, 14, none⟩ = some (v.c 12) := d4
        have kx2q : ∀ j, (wr.drewN nq).cell? ⟨w1.heap.size, j, none⟩ = _ := kx2
        have kp2q : ∀ j, (wr.drewN nq).cell? ⟨w2.heap.size, j, none⟩ = _ := kp2
        have HC2q : Hid (CfgIn (wr.drewN nq) v LA LB) := HC2.out
        have HWRq : Hid (∃ n', wr.drewN nq = W.drewN n') := by
          obtain ⟨n', h⟩ := HWR.out
          exact ⟨n' + nq, by rw [h]; simp⟩
        have HB2q : Hid (Below w.heap.size w (wr.drewN nq)) := below_drewN HB2.out nq
        clear d1 d2 d3 d4 kx2 kp2 HC2 HWR HB2 H1
        generalize wr.drewN nq = wr at *
        have H2 : Hid (∀ m, Calls Tryz.prog 40 #[v.c 12, .int .i64 (termsI l.a.sent 2 : Int)] (wr.drewN m) fun r w' => r = .returned (.bool (decide ((termsI l.a.sent 2 : Int) ∈ LB 5))) ∧ w' = wr.drewN m) := fun m => kwithin_q (v.c 12) (LB 5) _ wr m (HC2q.out 5 (by omega)).2.1 (len _ (HC2q.out 5 (by omega)).2.2.2)
        generalize decide ((termsI l.a.sent 2 : Int) ∈ LB 5) = s2 at *
        go_wp2_with fail
        go_quiet ((go_at_call 40; exact Calls.quiet_of_same (H2.out _)))
        have d1qq : (wr.drewN nq).cell? ⟨v.ln, 4, none⟩ = some (v.c 2) := d1q
        have d2qq : (wr.drewN nq).cell? ⟨v.ln, 7, none⟩ = some (v.c 5) := d2q
        have d3qq : (wr.drewN nq).cell? ⟨v.ln, 11, none⟩ = some (v.c 9) := d3q
        have d4qq : (wr.drewN nq).cell? ⟨v.ln, 14, none⟩ = some (v.c 12) := d4q
        have kx2qq : ∀ j, (wr.drewN nq).cell? ⟨w1.heap.size, j, none⟩ = _ := kx2q
        have kp2qq : ∀ j, (wr.drewN nq).cell? ⟨w2.heap.size, j, none⟩ = _ := kp2q
        have HC2qq : Hid (CfgIn (wr.drewN nq) v LA LB) := HC2q.out
        have HWRqq : Hid (∃ n', wr.drewN nq = W.drewN n') := by
          obtain ⟨n', h⟩ := HWRq.out
          exact ⟨n' + nq, by rw [h]; simp⟩
        have HB2qq : Hid (Below w.heap.size w (wr.drewN nq)) := below_drewN HB2q.out nq
        clear d1q d2q d3q d4q kx2q kp2q HC2q HWRq HB2q H2
        generalize wr.drewN nq = wr at *
        have H3 : Hid (∀ m, Calls Tryz.prog 40 #[v.c 9, .int .i64 (termsI l.b.sent 2 : Int)] (wr.drewN m) fun r w' => r = .returned (.bool (decide ((termsI l.b.sent 2 : Int) ∈ LB 2))) ∧ w' = wr.drewN m) := fun m => kwithin_q (v.c 9) (LB 2) _ wr m (HC2qq.out 2 (by omega)).2.1 (len _ (HC2qq.out 2 (by omega)).2.2.2)
        generalize decide ((termsI l.b.sent 2 : Int) ∈ LB 2) = s3 at *
        go_wp2_with fail
        go_quiet ((go_at_call 40; exact Calls.quiet_of_same (H3.out _)))
        have d1qqq : (wr.drewN nq).cell? ⟨v.ln, 4, none⟩ = some (v.c 2) := d1qq
        have d2qqq : (wr.drewN nq).cell? ⟨v.ln, 7, none⟩ = some (v.c 5) := d2qq
        have d3qqq : (wr.drewN nq).cell? ⟨v.ln, 11, none⟩ = some (v.c 9) := d3qq
        have d4qqq : (wr.drewN nq).cell? ⟨v.ln, 14, none⟩ = some (v.c 12) := d4qq
        have kx2qqq : ∀ j, (wr.drewN nq).cell? ⟨w1.heap.size, j, none⟩ = _ := kx2qq
        have kp2qqq : ∀ j, (wr.drewN nq).cell? ⟨w2.heap.size, j, none⟩ = _ := kp2qq
        have HC2qqq : Hid (CfgIn (wr.drewN nq) v LA LB) := HC2qq.out
        have HWRqqq : Hid (∃ n', wr.drewN nq = W.drewN n') := by
          obtain ⟨n', h⟩ := HWRqq.out
          exact ⟨n' + nq, by rw [h]; simp⟩
        have HB2qqq : Hid (Below w.heap.size w (wr.drewN nq)) := below_drewN HB2qq.out nq
        clear d1qq d2qq d3qq d4qq kx2qq kp2qq HC2qq HWRqq HB2qq H3
        generalize wr.drewN nq = wr at *
        have H4 : Hid (∀ m, Calls Tryz.prog 40 #[v.c 5, .int .i64 (termsI l.b.sent 2 : Int)] (wr.drewN m) fun r w' => r = .returned (.bool (decide ((termsI l.b.sent 2 : Int) ∈ LA 5))) ∧ w' = wr.drewN m) := fun m => kwithin_q (v.c 5) (LA 5) _ wr m (HC2qqq.out 5 (by omega)).1 (len _ (HC2qqq.out 5 (by omega)).2.2.1)
        generalize decide ((termsI l.b.sent 2 : Int) ∈ LA 5) = s4 at *
        go_wp2_with fail
        go_quiet ((go_at_call 40; exact Calls.quiet_of_same (H4.out _)))
        have d1qqqq : (wr.drewN nq).cell? ⟨v.ln, 4, none⟩ = some (v.c 2) := d1qqq
        have d2qqqq : (wr.drewN nq).cell? ⟨v.ln, 7, none⟩ = some (v.c 5) := d2qqq
        have d3qqqq : (wr.drewN nq).cell? ⟨v.ln, 11, none⟩ = some (v.c 9) := d3qqq
        have d4qqqq : (wr.drewN nq).cell? ⟨v.ln, 14, none⟩ = some (v.c 12) := d4qqq
        have kx2qqqq : ∀ j, (wr.drewN nq).cell? ⟨w1.heap.size, j, none⟩ = _ := kx2qqq
        have kp2qqqq : ∀ j, (wr.drewN nq).cell? ⟨w2.heap.size, j, none⟩ = _ := kp2qqq
        have HC2qqqq : Hid (CfgIn (wr.drewN nq) v LA LB) := HC2qqq.out
        have HWRqqqq : Hid (∃ n', wr.drewN nq = W.drewN n') := by
          obtain ⟨n', h⟩ := HWRqqq.out
          exact ⟨n' + nq, by rw [h]; simp⟩
        have HB2qqqq : Hid (Below w.heap.size w (wr.drewN nq)) := below_drewN HB2qqq.out nq
        clear d1qqq d2qqq d3qqq d4qqq kx2qqq kp2qqq HC2qqq HWRqqq HB2qqq H4
        generalize wr.drewN nq = wr at *
        cases s1 <;> cases s2 <;> cases s3 <;> cases s4
        case true.true.true.true =>
          go_wp2_with fail
          obtain ⟨n', h'⟩ := HWRqqqq.out
          exact ⟨⟨2 + 1, by omega, by go_num, n', h'⟩, by simp [intOf]⟩
        all_goals
          go_wp2_with fail
          go_ret
          exact ⟨false, rfl, fun q => by have := HP.out q; simp at this, HB2qqqq.out⟩
    · have hk3 : k = 3 := by omega
      subst hk3
      go_wp2_with fail
      go_ret
      exact ⟨true, rfl, fun _ => rfl, HB2.out⟩
end Go.Proofs.YtoeihlgidakjbaaGreatDoor
namespace Go.Proofs.YtoeihlgidakjbaaGreatDoor
open Go.RowKit Go.Lib
theorem event_nat {x : RE} {k : Int} {ev : Nat} (h1 : 1 ≤ k) (h4 : k ≤ 4) (he : k.toNat = ev) : x.event k = x.at_ ev ∧ x.eventP k = x.atP ev := by
  subst he
  constructor
  · unfold RE.event; rw [if_pos ⟨h1, h4⟩]
  · unfold RE.eventP; rw [if_pos ⟨h1, h4⟩]
theorem rows_close : ((List.range 10).all fun st => decide (((rowT 4).getD st []).foldl stL st = 0 ∨ ((rowT 4).getD st []).foldl stL st = 2 ∨ ((rowT 4).getD st []).foldl stL st = 4)) = true := by decide +kernel
theorem close_st {x : RE} (ok : x.Ok) : (x.event 4).1.st = 0 ∨ (x.event 4).1.st = 2 ∨ (x.event 4).1.st = 4 := by
  rw [(event_nat (x := x) (k := 4) (ev := 4) (by omega) (by omega) rfl).1, x.at_stL]
  exact of_decide_eq_true (List.all_eq_true.1 rows_close x.st (List.mem_range.2 ok.st))
theorem down_st {x : RE} (h : x.st = 0 ∨ x.st = 2 ∨ x.st = 4) : (x.event 2).1.st = 0 ∧ x.eventP 2 = [] := by
  obtain ⟨e1, e2⟩ := event_nat (x := x) (k := 2) (ev := 2) (by omega) (by omega) rfl
  rw [e1, e2]
  rcases h with h | h | h
  · obtain ⟨r1, r2⟩ := RE.at_row (m := x) (ev := 2) (row := []) h rfl
    rw [r1, r2]; exact ⟨h, rfl⟩
  · obtain ⟨r1, r2⟩ := RE.at_row (m := x) (ev := 2) (row := [48]) h rfl
    rw [r1, r2]; exact ⟨rfl, rfl⟩
  · obtain ⟨r1, r2⟩ := RE.at_row (m := x) (ev := 2) (row := [48]) h rfl
    rw [r1, r2]; exact ⟨rfl, rfl⟩
structure Nu (z : RE) (ps : List Pq) (d : Nat) : Prop where
  hd : d < 256
  st : z.st = 6
  tim : z.tim = 3
  sid : z.sid = (d : Int)
  sent : z.sent = dataL z.asks
  ps : ps = [z.reqP d]
theorem nu_of {y : RE} (h : y.st = 0) : y.eventP 3 = [] ∧ ∃ d, Nu ((y.event 3).1.event 1).1 ((y.event 3).1.eventP 1) d := by
  obtain ⟨e1, e2⟩ := event_nat (x := y) (k := 3) (ev := 3) (by omega) (by omega) rfl
  obtain ⟨r1, r2⟩ := RE.at_row (m := y) (ev := 3) (row := [98, 49]) h rfl
  refine ⟨by rw [e2, r2]; rfl, ?_⟩
  have hs : (y.event 3).1.st = 1 := by rw [e1, r1]; rfl
  generalize (y.event 3).1 = z at *
  obtain ⟨f1, f2⟩ := event_nat (x := z) (k := 1) (ev := 1) (by omega) (by omega) rfl
  obtain ⟨t1, t2⟩ := RE.at_row (m := z) (ev := 1) (row := [105, 114, 54]) hs rfl
  refine ⟨(z.id + 1) % 256, Nat.mod_lt _ (by decide), ?_, ?_, ?_, ?_, ?_⟩
  · rw [f1, t1]; rfl
  · rw [f1, t1]; rfl
  · rw [f1, t1]; rfl
  · rw [f1, t1]; rfl
  · rw [f1, f2, t1, t2]; rfl
def Ln.over (l : Ln) : Ln := { (l.tell true 4).tell false 4 with toB := [], toA := [] }
def Ln.anew (l : Ln) : Ln := (((((l.over.tell true 2).tell false 2).tell true 3).tell false 3).tell true 1).tell false 1
theorem anew_at {l : Ln} (ha : l.a.Ok) (hb : l.b.Ok) : ∃ d e, Nu l.anew.a l.anew.toB d ∧ Nu l.anew.b l.anew.toA e := by
  obtain ⟨a1, a2⟩ := down_st (close_st ha)
  obtain ⟨b1, b2⟩ := down_st (close_st hb)
  have hL : l.anew = ⟨((((l.a.event 4).1.event 2).1.event 3).1.event 1).1, ((((l.b.event 4).1.event 2).1.event 3).1.event 1).1, (([] ++ (l.a.event 4).1.eventP 2) ++ ((l.a.event 4).1.event 2).1.eventP 3) ++ (((l.a.event 4).1.event 2).1.event 3).1.eventP 1, (([] ++ (l.b.event 4).1.eventP 2) ++ ((l.b.event 4).1.event 2).1.eventP 3) ++ (((l.b.event 4).1.event 2).1.event 3).1.eventP 1⟩ := rfl
  obtain ⟨a3, d, a4⟩ := nu_of a1
  obtain ⟨b3, e, b4⟩ := nu_of b1
  rw [a2, a3, b2, b3] at hL
  rw [hL]
  exact ⟨d, e, a4, b4⟩
theorem MgL.over {l : Ln} {ma mb : Nat} (h : MgL l ma mb) : MgL l.over ma mb := ((h.tell true 4).tell false 4).clear
theorem MgL.anew {l : Ln} {ma mb : Nat} (h : MgL l ma mb) : MgL l.anew ma mb := (((((h.over.tell true 2).tell false 2).tell true 3).tell false 3).tell true 1).tell false 1
theorem CgL.anew {LA LB : Nat → List Int} {l : Ln} (h : CgL LA LB l) : CgL LA LB l.anew := by
  have h1 : CgL LA LB l.over := by
    have := (h.tell true 4).tell false 4
    exact ⟨this.a, this.b⟩
  exact (((((h1.tell true 2).tell false 2).tell true 3).tell false 3).tell true 1).tell false 1
theorem Ln.Ok.over {l : Ln} {n : Nat} (h : l.Ok n) : l.over.Ok (n + 400) := ((h.tell true 4).tell false 4).clear
theorem Ln.Ok.anew {l : Ln} {n : Nat} (h : l.Ok n) : l.anew.Ok (n + 1600) := ((((((h.over.tell true 2).tell false 2).tell true 3).tell false 3).tell true 1).tell false 1).mono (by omega)
theorem nu_dir {LA LB : Nat → List Int} {ma mb : Int} (s : Suit LA LB ma mb) {x y : RE} {mx my : Nat} (hx : Mg x mx) (hy : Mg y my) (hne : mx ≠ my) (cx : Cg (newM LA 1) x) (cy : Cg (newM LB 1) y) {ps : List Pq} {d : Nat} (h : Nu x ps d) : Dir x y (.R 8) d := by
  have len : ∀ i, i < 6 → ((LB i).map Int.toNat).length ≤ 8 := fun i hi => by rw [List.length_map]; exact (s.lb i hi).2.1
  have mem : ∀ i, i < 3 → ∃ v, v ∈ (LA i).map Int.toNat ∧ v ∈ (LB (3 + i)).map Int.toNat := fun i hi => by
    obtain ⟨v, v1, v2⟩ := s.ab i hi
    exact ⟨v.toNat, List.mem_map.2 ⟨v, v1, rfl⟩, List.mem_map.2 ⟨v, v2, rfl⟩⟩
  obtain ⟨v0, p0, q0⟩ := mem 0 (by omega)
  obtain ⟨v1, p1, q1⟩ := mem 1 (by omega)
  obtain ⟨v2, p2, q2⟩ := mem 2 (by omega)
  refine ⟨hx.ok, hy.ok, ?_, h.sid, h.sent, hx.kw.1, hx.kw.2.1, hx.kw.2.2, ?_, ?_, ?_⟩
  · rw [hx.mag, hy.mg, List.mem_singleton]; exact hne
  · rw [cx.w0, cy.a0]; exact sn_any _ q0 p0 (len 3 (by omega))
  · rw [cx.w1, cy.a1]; exact sn_any _ q1 p1 (len 4 (by omega))
  · rw [cx.w2, cy.a2]; exact sn_any _ q2 p2 (len 5 (by omega))
def U (s : Nat × Int × Int) : Prop := 2 ≤ s.1 ∧ (4 ≤ s.1 → s.1 ≤ 8 → 1 ≤ s.2.2)
theorem U_at (s : Nat × Int × Int) (h : U s) (hst : s.1 < 10) (ev : Nat) (hev : (8 ≤ ev ∧ ev < 14) ∨ ev = 4) : U (((rowT ev).getD s.1 []).foldl scL s) := by
  obtain ⟨st, c, t⟩ := s
  obtain ⟨h1, h2⟩ := h
  simp only at h1 h2 hst ⊢
  rcases (by omega : st = 2 ∨ st = 3 ∨ st = 4 ∨ st = 5 ∨ st = 6 ∨ st = 7 ∨ st = 8 ∨ st = 9) with rfl | rfl | rfl | rfl | rfl | rfl | rfl | rfl <;> rcases (by omega : ev = 4 ∨ ev = 8 ∨ ev = 9 ∨ ev = 10 ∨ ev = 11 ∨ ev = 12 ∨ ev = 13) with rfl | rfl | rfl | rfl | rfl | rfl | rfl <;> simp [rowT, scL, U] at h2 ⊢ <;> omega
theorem u_at {n x : RE} (hn : n.sc = x.sc) (hs : x.st < 10) (h : U x.sc) (ev : Nat) (hev : (8 ≤ ev ∧ ev < 14) ∨ ev = 4) : U (n.at_ ev).1.sc := by
  have hst : n.st = x.st := congrArg Prod.fst hn
  rw [n.at_sc, hn, hst]
  exact U_at x.sc h hs ev hev
theorem u_hear {x : RE} (ok : x.Ok) (h : U x.sc) {p : Pq} (hc : Code p) : U (x.hear p).sc := by
  have hs := ok.st
  refine RE.receive_ind (x.got1 p) (fun n _ => U n.sc) h (fun _ _ _ _ _ => u_at (n := x.got1 p) rfl hs h 8 (.inl (by omega))) (fun _ n _ _ _ _ _ _ => u_at (n := { x.got1 p with loops := n }) rfl hs h 9 (.inl (by omega))) (fun _ n t _ _ _ _ _ _ _ _ => u_at (n := { x.got1 p with loops := n, told := (x.got1 p).told ++ [t] }) rfl hs h 4 (.inr rfl)) (fun _ _ _ => u_at (n := x.got1 p) rfl hs h 10 (.inl (by omega))) (fun l _ _ _ _ => u_at (n := (x.got1 p).takeAll l) (takeAll_sc l (x.got1 p)).1 hs h 11 (.inl (by omega))) (fun ev hev => ?_)
  have hpc : (x.got1 p).pc = p.c := rfl
  rw [hpc] at hev
  unfold Code at hc
  exact u_at (n := x.got1 p) rfl hs h ev (.inl (by omega))
theorem u_deliver {l : Ln} (c : Cd l) (h : U l.a.sc) (first : Bool) : U (l.deliver first false).1.a.sc := by
  obtain ⟨a, b, toB, toA⟩ := l
  cases first
  · cases toB with
    | nil => exact h
    | cons p r => exact h
  · cases toA with
    | nil => exact h
    | cons p r => exact u_hear c.a h (c.qA p (List.mem_cons_self ..)).1
theorem u_settle (n : Nat) {l : Ln} (c : Cd l) (h : U l.a.sc) : U (l.settle n).1.a.sc := by
  induction n generalizing l with
  | zero => exact h
  | succ n ih =>
    have c1 := c.deliver true
    have hb : U l.both.1.a.sc := u_deliver c1 (u_deliver c h true) false
    show U (if l.both.2 = true then _ else _ : Ln × Bool).1.a.sc
    split
    · exact ih (c1.deliver false) hb
    · exact hb
structure Rest (l : Ln) : Prop where
  cd : Cd l
  qA : l.toA = []
  qB : l.toB = []
  u : U l.a.sc
  or_ : (Fix l ∧ l.opened = true) ∨ 5 ∈ l.a.told ∨ 5 ∈ l.b.told
theorem comes_rest {LA LB : Nat → List Int} {ma mb : Int} (s : Suit LA LB ma mb) {l : Ln} {mx my n : Nat} (hm : MgL l mx my) (hc : CgL LA LB l) (ok : l.Ok n) : (l.anew.settle 300).2 = true ∧ Rest (l.anew.settle 300).1 := by
  obtain ⟨d, e, na, nb⟩ := anew_at (l := l) hm.a.ok hm.b.ok
  have hm' := hm.anew
  have hc' := hc.anew
  have cd := hm'.cd ok.anew
  have cv : Cv0 l.anew (.R 8) (.R 8) d e := ⟨nu_dir s hm'.a hm'.b hm'.ne hc'.a hc'.b na, nu_dir s.swap hm'.b hm'.a (fun q => hm'.ne q.symm) hc'.b hc'.a nb, na.st, nb.st, by rw [na.ps]; exact List.Perm.refl _, by rw [nb.ps]; exact List.Perm.refl _, na.hd, nb.hd⟩
  obtain ⟨h1, h2, h3, h4, h5⟩ := Ou.settle (k := 96) cd (.cv _ _ _ _ cv (by show 2 * 8 + 2 + (2 * 8 + 2) + 60 ≤ 96; omega)) 300 (by omega)
  refine ⟨h1, h2, h3, h4, u_settle 300 cd ?_, h5⟩
  exact ⟨by show 2 ≤ l.anew.a.st; rw [na.st]; omega, fun _ _ => by show (1 : Int) ≤ l.anew.a.tim; rw [na.tim]; omega⟩
theorem Rest.agree {l : Ln} (h : Rest l) (hn : ¬ (5 ∈ l.a.told ∨ 5 ∈ l.b.told)) : l.Agree ∧ l.opened = true := by
  rcases h.or_ with q | q
  · exact ⟨q.1.agree, q.2⟩
  · exact absurd q hn
structure Tk (k : Nat) (l : Ln) : Prop where
  ga : GA l
  qA : l.toA = []
  qB : l.toB = []
  tm : l.a.st = 2 ∨ (l.a.st = 4 ∧ 1 ≤ l.a.tim ∧ 0 ≤ l.a.cnt ∧ 3 * l.a.cnt + l.a.tim + k ≤ 18)
theorem rows_close2 : ((List.range 10).all fun st => decide (st < 2) || decide (((rowT 4).getD st []).foldl stL st = 2 ∨ ((rowT 4).getD st []).foldl stL st = 4)) = true := by decide +kernel
theorem eventP_code {x : RE} (ok : x.Ok) (k : Int) : ∀ q ∈ x.eventP k, Code q ∧ q.Good := by
  have hg := (RE.eventP_few ok k).1
  have key : ∀ q ∈ x.eventP k, Code q := RE.event_ind x k (fun _ ps => ∀ q ∈ ps, Code q) (fun _ _ q => (nomatch q)) (fun ev _ _ _ => RE.atP_code ev (by omega) ok.st) (fun ev t _ _ _ _ => RE.atP_code (m := { x with tim := t }) ev (by omega) ok.st)
  exact fun q hq => ⟨key q hq, hg q hq⟩
theorem event_ok {x : RE} (ok : x.Ok) (k : Int) : (x.event k).1.Ok := by
  have ht : ∀ t, ({ x with tim := t } : RE).Ok := fun t => by
    obtain ⟨st, id, odd, k0, k1, k2, pc, pi, pd, mg, ms, aa, ww⟩ := ok
    exact ⟨st, id, odd, k0, k1, k2, pc, pi, pd, mg, ms, aa, ww⟩
  exact RE.event_ind x k (fun n _ => n.Ok) ht (fun ev _ _ _ => RE.run_ok ok _) (fun ev t _ _ _ _ => RE.run_ok (ht t) _)
theorem Cd.tell {l : Ln} (h : Cd l) (first : Bool) (k : Int) : Cd (l.tell first k) := by
  cases first
  · exact ⟨h.a, event_ok h.b k, h.qB, mem_app h.qA (eventP_code h.b k)⟩
  · exact ⟨event_ok h.a k, h.b, mem_app h.qB (eventP_code h.a k), h.qA⟩
theorem GA.rest {l : Ln} (h : GA l) (hA : l.toA.length ≤ 4) (hB : l.toB.length ≤ 4) : (l.settle 100).2 = true ∧ GA (l.settle 100).1 ∧ (l.settle 100).1.toA = [] ∧ (l.settle 100).1.toB = [] ∧ ((l.settle 100).1.a.st = 4 → (l.settle 100).1.a.sc = l.a.sc) := by
  have := ph_le l
  exact h.settle 100 (by omega)
theorem tk_of {k : Nat} {l : Ln} (h : GA l) (hA : l.toA.length ≤ 4) (hB : l.toB.length ≤ 4) (ht : l.a.st = 2 ∨ (l.a.st = 4 ∧ 1 ≤ l.a.tim ∧ 0 ≤ l.a.cnt ∧ 3 * l.a.cnt + l.a.tim + k ≤ 18)) : (l.settle 100).2 = true ∧ Tk k (l.settle 100).1 := by
  obtain ⟨h1, h2, h3, h4, h5⟩ := h.rest hA hB
  refine ⟨h1, h2, h3, h4, ?_⟩
  rcases h2.st with q | q
  · exact .inl q
  · have e := h5 q
    have e1 : (l.settle 100).1.a.st = l.a.st := congrArg Prod.fst e
    have e2 : (l.settle 100).1.a.cnt = l.a.cnt := congrArg (fun z => z.2.1) e
    have e3 : (l.settle 100).1.a.tim = l.a.tim := congrArg (fun z => z.2.2) e
    rw [e1, e2, e3]; exact ht
theorem Rest.close {l : Ln} {n : Nat} (h : Rest l) (ok : l.Ok n) : ((l.tell true 4).settle 100).2 = true ∧ Tk 0 ((l.tell true 4).settle 100).1 := by
  obtain ⟨e1, e2⟩ := event_nat (x := l.a) (k := 4) (ev := 4) (by omega) (by omega) rfl
  have hu : U (l.a.event 4).1.sc := by rw [e1]; exact u_at (n := l.a) rfl h.cd.a.st h.u 4 (.inr rfl)
  have hst : (l.a.event 4).1.st = 2 ∨ (l.a.event 4).1.st = 4 := by
    rw [e1, l.a.at_stL]
    have h1 := List.all_eq_true.1 rows_close2 l.a.st (List.mem_range.2 h.cd.a.st)
    rw [Bool.or_eq_true] at h1
    rcases h1 with h1 | h1
    · have h2 := of_decide_eq_true h1
      have : 2 ≤ l.a.st := h.u.1
      omega
    · exact of_decide_eq_true h1
  have hj : J (l.a.event 4).1.sc := (ok.tell true 4).a.2
  refine tk_of (l := l.tell true 4) ⟨h.cd.tell true 4, hst⟩ (by show l.toA.length ≤ 4; rw [h.qA]; simp) ?_ ?_
  · show (l.toB ++ l.a.eventP 4).length ≤ 4
    rw [h.qB, List.nil_append]
    exact (RE.eventP_few h.cd.a 4).2
  · rcases hst with q | q
    · exact .inl q
    · refine .inr ⟨q, hu.2 (by show 4 ≤ (l.a.event 4).1.st; omega) (by show (l.a.event 4).1.st ≤ 8; omega), hj.1, ?_⟩
      have j1 : (l.a.event 4).1.cnt ≤ 5 := hj.2.1
      have j2 : (l.a.event 4).1.tim ≤ 3 := hj.2.2.2.1
      show 3 * (l.a.event 4).1.cnt + (l.a.event 4).1.tim + ((0 : Nat) : Int) ≤ 18
      omega
theorem tick_2 {x : RE} (h : x.st = 2) : x.event 5 = (x, []) ∧ x.eventP 5 = [] := by
  have hc : ¬ ((1 : Int) ≤ 5 ∧ (5 : Int) ≤ 4) := by omega
  have h2 : (5 : Int) ≠ 5 ∨ x.st < 4 ∨ 8 < x.st ∨ x.tim ≤ 0 := .inr (.inl (by omega))
  constructor
  · unfold RE.event; rw [if_neg hc, if_pos h2]
  · unfold RE.eventP; rw [if_neg hc, if_pos h2]
theorem tick_4 {x : RE} {k : Nat} (h : x.st = 2 ∨ (x.st = 4 ∧ 1 ≤ x.tim ∧ 0 ≤ x.cnt ∧ 3 * x.cnt + x.tim + k ≤ 18)) : (x.event 5).1.st = 2 ∨ ((x.event 5).1.st = 4 ∧ 1 ≤ (x.event 5).1.tim ∧ 0 ≤ (x.event 5).1.cnt ∧ 3 * (x.event 5).1.cnt + (x.event 5).1.tim + (k + 1 : Nat) ≤ 18) := by
  rcases h with h | ⟨h1, h2, h3, h4⟩
  · rw [(tick_2 h).1]; exact .inl h
  · have hc : ¬ ((1 : Int) ≤ 5 ∧ (5 : Int) ≤ 4) := by omega
    have hd : ¬ ((5 : Int) ≠ 5 ∨ x.st < 4 ∨ 8 < x.st ∨ x.tim ≤ 0) := by omega
    unfold RE.event
    rw [if_neg hc, if_neg hd]
    split
    · rename_i q
      exact .inr ⟨h1, by show 1 ≤ x.tim - 1; omega, h3, by show 3 * x.cnt + (x.tim - 1) + ((k + 1 : Nat) : Int) ≤ 18; omega⟩
    · rename_i q
      split
      · rename_i r
        rw [(RE.at_row (m := ({ x with tim := x.tim - 1 } : RE)) (ev := 6) (row := [101]) h1 rfl).1]
        exact .inr ⟨h1, by show (1 : Int) ≤ 3; omega, by show 0 ≤ x.cnt - 1; omega, by show 3 * (x.cnt - 1) + 3 + ((k + 1 : Nat) : Int) ≤ 18; omega⟩
      · rw [(RE.at_row (m := ({ x with tim := x.tim - 1 } : RE)) (ev := 7) (row := [102, 50]) h1 rfl).1]
        exact .inl rfl
theorem Tk.round {k : Nat} {l : Ln} (h : Tk k l) : (((l.tell true 5).tell false 5).settle 100).2 = true ∧ Tk (k + 1) (((l.tell true 5).tell false 5).settle 100).1 := by
  have ht := tick_4 h.tm
  refine tk_of (l := (l.tell true 5).tell false 5) ⟨(h.ga.cd.tell true 5).tell false 5, ?_⟩ ?_ ?_ ht
  · rcases ht with q | q
    · exact .inl q
    · exact .inr q.1
  · show (l.toA ++ l.b.eventP 5).length ≤ 4
    rw [h.qA, List.nil_append]; exact (RE.eventP_few h.ga.cd.b 5).2
  · show (l.toB ++ l.a.eventP 5).length ≤ 4
    rw [h.qB, List.nil_append]; exact (RE.eventP_few h.ga.cd.a 5).2
theorem Tk.end_ {l : Ln} (h : Tk 40 l) : l.a.st = 2 ∧ l.a.event 5 = (l.a, []) := by
  rcases h.tm with q | q
  · exact ⟨q, (tick_2 q).1⟩
  · omega
theorem mgl_new {LA LB : Nat → List Int} {ma mb : Int} (s : Suit LA LB ma mb) : MgL (newL LA LB ma mb) ma.toNat mb.toNat := by
  refine ⟨⟨(lim_new s.la s.a1 s.a2).ok, rfl, head_in (s.la 0 (by omega)), head_in (s.la 1 (by omega)), head_in (s.la 2 (by omega))⟩, ⟨(lim_new s.lb s.b1 s.b2).ok, rfl, head_in (s.lb 0 (by omega)), head_in (s.lb 1 (by omega)), head_in (s.lb 2 (by omega))⟩, fun _ q => (nomatch q), fun _ q => (nomatch q), ?_⟩
  have := s.ne; have := s.a1; have := s.b1
  omega
end Go.Proofs.YtoeihlgidakjbaaGreatDoor

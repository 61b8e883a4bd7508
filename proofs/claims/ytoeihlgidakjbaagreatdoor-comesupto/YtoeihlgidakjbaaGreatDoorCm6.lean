/- What stays on a line, whatever happens: the magics, the codes, the wishes, the timer: plain mathematics. An end that closes, and what becomes of the packets: plain mathematics. Where nothing is lost both ends come to be opened, or one gives up: plain mathematics. -/
import Derived.Test.YtoeihlgidakjbaaGreatDoorCm5
namespace Go.Proofs.YtoeihlgidakjbaaGreatDoor
open Go.RowKit Go.Lib
def Code (p : Pq) : Prop := p.c = 1 ∨ p.c = 2 ∨ p.c = 3 ∨ p.c = 5 ∨ p.c = 6
namespace RE
theorem runP_code (l : List Nat) (m : RE) (h6 : 106 ∉ l) (h1 : 111 ∉ l) : ∀ p ∈ m.runP l, Code p ∧ (p.c = 5 → 101 ∈ l) ∧ (p.c = 6 → 107 ∈ l) := by
  induction l generalizing m with
  | nil => intro p h; cases h
  | cons c l ih =>
    intro p h
    rcases List.mem_append.1 (show p ∈ m.letterP c ++ (m.letter c).1.runP l from h) with q | q
    · unfold letterP at q
      split at q
      · cases q
      · unfold actP at q
        split at q
        · obtain rfl := List.mem_singleton.1 q; exact ⟨.inl rfl, fun e => by simp at e, fun e => by simp at e⟩
        split at q
        · rename_i e; obtain rfl := List.mem_singleton.1 q; exact ⟨.inr (.inr (.inr (.inl rfl))), fun _ => by simp [e], fun e => by simp at e⟩
        split at q
        · obtain rfl := List.mem_singleton.1 q; exact ⟨.inr (.inl rfl), fun e => by simp at e, fun e => by simp at e⟩
        split at q
        · obtain rfl := List.mem_singleton.1 q; exact ⟨.inr (.inr (.inl rfl)), fun e => by simp at e, fun e => by simp at e⟩
        split at q
        · rename_i e; obtain rfl := List.mem_singleton.1 q; exact ⟨.inr (.inr (.inr (.inr rfl))), fun e => by simp at e, fun _ => by simp [e]⟩
        split at q
        · rename_i e; exact absurd (by simp [e]) h6
        split at q
        · rename_i e; exact absurd (by simp [e]) h1
        · cases q
    · obtain ⟨i1, i2, i3⟩ := ih (m.letter c).1 (fun z => h6 (List.mem_cons_of_mem _ z)) (fun z => h1 (List.mem_cons_of_mem _ z)) p q
      exact ⟨i1, fun e => List.mem_cons_of_mem _ (i2 e), fun e => List.mem_cons_of_mem _ (i3 e)⟩
def rowPlain (ev st : Nat) : Bool := !((rowT ev).getD st []).contains 106 && !((rowT ev).getD st []).contains 111
theorem rows_plain : ((List.range 14).all fun ev => (List.range 10).all fun st => rowPlain ev st) = true := by decide +kernel
theorem row_plain (ev : Nat) (hev : ev < 14) (st : Nat) (hs : st < 10) : 106 ∉ (rowT ev).getD st [] ∧ 111 ∉ (rowT ev).getD st [] := by
  have h1 := List.all_eq_true.1 rows_plain ev (List.mem_range.2 hev)
  have h2 := List.all_eq_true.1 h1 st (List.mem_range.2 hs)
  unfold rowPlain at h2
  rw [Bool.and_eq_true, Bool.not_eq_true', Bool.not_eq_true'] at h2
  refine ⟨fun q => ?_, fun q => ?_⟩
  · rw [List.contains_iff_mem.2 q] at h2; cases h2.1
  · rw [List.contains_iff_mem.2 q] at h2; cases h2.2
theorem atP_code {m : RE} (ev : Nat) (hev : ev < 14) (hs : m.st < 10) : ∀ p ∈ m.atP ev, Code p := fun p hp => (runP_code _ m (row_plain ev hev m.st hs).1 (row_plain ev hev m.st hs).2 p hp).1
theorem runP_nakd (l : List Nat) (m : RE) : ∀ p ∈ m.runP l, p.c = 3 → ∃ n : RE, n.pd = m.pd ∧ n.acc = m.acc ∧ n.mg = m.mg ∧ n.a0 = m.a0 ∧ n.a1 = m.a1 ∧ n.a2 = m.a2 ∧ p.s = dataL (n.nakItems (n.bad ((itemsL n.pd).getD []))).2 := by
  induction l generalizing m with
  | nil => intro p h; cases h
  | cons c l ih =>
    intro p h hc
    rcases List.mem_append.1 (show p ∈ m.letterP c ++ (m.letter c).1.runP l from h) with q | q
    · unfold letterP at q
      split at q
      · cases q
      · unfold actP at q
        split at q
        · obtain rfl := List.mem_singleton.1 q; simp at hc
        split at q
        · obtain rfl := List.mem_singleton.1 q; simp at hc
        split at q
        · obtain rfl := List.mem_singleton.1 q; simp at hc
        split at q
        · obtain rfl := List.mem_singleton.1 q; exact ⟨m, rfl, rfl, rfl, rfl, rfl, rfl, rfl⟩
        split at q
        · obtain rfl := List.mem_singleton.1 q; simp at hc
        split at q
        · obtain rfl := List.mem_singleton.1 q; simp at hc
        split at q
        · obtain rfl := List.mem_singleton.1 q; simp at hc
        · cases q
    · obtain ⟨n, e1, e2, e3, e4, e5, e6, e7⟩ := ih (m.letter c).1 p q hc
      have cf := m.letter_cf c
      exact ⟨n, e1.trans cf.pd, e2.trans (funext fun i => cf.acc i), e3.trans cf.mg, e4.trans cf.a0, e5.trans cf.a1, e6.trans cf.a2, e7⟩
theorem nakItems_ids (L : List (Nat × Nat)) (m : RE) : ∀ x ∈ (m.nakItems L).2, ∃ v, (x.1, v) ∈ L := by
  induction L generalizing m with
  | nil => intro x hx; cases hx
  | cons y L ih =>
    intro x hx
    rcases List.mem_cons.1 (show x ∈ (m.named1 y).2 :: ((m.named1 y).1.nakItems L).2 from hx) with q | q
    · refine ⟨y.2, ?_⟩
      have : (m.named1 y).2.1 = y.1 := by unfold named1; split <;> rfl
      rw [q, this]; simp
    · obtain ⟨v, hv⟩ := ih _ x q
      exact ⟨v, List.mem_cons_of_mem _ hv⟩
end RE
theorem itemsAux_asc : ∀ (s : List UInt8) (p : Nat) (l : List (Nat × Nat)), itemsAux s p = some l → Asc p l
  | [], p, l, h => by cases h; trivial
  | [_], p, l, h => by cases h
  | [_, _], p, l, h => by cases h
  | a :: b :: c :: r, p, l, h => by
    rw [itemsAux] at h
    split at h
    · cases h
    · rename_i hh
      obtain ⟨l', h1, h2⟩ := Option.map_eq_some_iff.1 h
      subst h2
      have hb := UInt8.toNat_lt b
      have hc := UInt8.toNat_lt c
      exact ⟨by simp only; omega, by simp only; omega, by simp only; omega, itemsAux_asc r _ l' h1⟩
structure Mg1 (mx : Nat) (p : Pq) : Prop where
  req : p.c = 1 → ∀ l, itemsL p.s = some l → ∀ v, (4, v) ∈ l → v = mx
  nak : p.c = 3 → ∀ l, itemsL p.s = some l → ∀ v, (4, v) ∉ l
  code : Code p
structure Mg (x : RE) (mx : Nat) : Prop where
  ok : x.Ok
  mg : x.mg = [mx]
  kw : x.KW
theorem Mg.mag {x : RE} {mx : Nat} (h : Mg x mx) : x.mag = mx := by unfold RE.mag; rw [h.mg]; rfl
theorem Mg.asks {x : RE} {mx : Nat} (h : Mg x mx) : ∀ l, itemsL (dataL x.asks) = some l → ∀ v, (4, v) ∈ l → v = mx := by
  intro l hl v hv
  rw [h.ok.items] at hl
  obtain rfl := Option.some.inj hl
  unfold RE.asks at hv
  rw [h.mag] at hv
  simp at hv
  exact hv
theorem Mg.at_ {n : RE} {mx : Nat} (h : Mg n mx) (ev : Nat) (hev : ev < 14) (hn : ev = 9 → ∀ l, itemsL n.pd = some l → ∀ v, (4, v) ∈ l → v ≠ mx) : Mg (n.at_ ev).1 mx ∧ ∀ p ∈ n.atP ev, Mg1 mx p := by
  have cf := n.at_cf ev
  refine ⟨⟨RE.run_ok h.ok _, cf.mg.trans h.mg, by unfold RE.KW; rw [cf.k0, cf.k1, cf.k2, cf.w0, cf.w1, cf.w2]; exact h.kw⟩, fun p hp => ⟨fun e => ?_, fun e => ?_, RE.atP_code ev hev h.ok.st p hp⟩⟩
  · rw [RE.atP_req ev p hp e]; exact h.asks
  · by_cases h9 : ev = 9
    · obtain ⟨m, e1, e2, e3, _, _, _, e7⟩ := RE.runP_nakd _ n p hp e
      intro l hl v hv
      rw [e7] at hl
      cases hit : itemsL n.pd with
      | none =>
        rw [e1, hit] at hl
        have : itemsL (dataL (m.nakItems (m.bad [])).2) = some [] := rfl
        rw [show (none : Option (List (Nat × Nat))).getD [] = [] from rfl, this] at hl
        obtain rfl := Option.some.inj hl
        cases hv
      | some L =>
        rw [e1, hit] at hl
        have hasc : Asc 0 L := itemsAux_asc _ _ _ hit
        have hz : Asc 0 (m.nakItems (m.bad L)).2 := nakItems_asc _ m (hasc.filter _ _) (fun i x hx => by rw [e2] at hx; exact (h.ok.aa i).2.2 x hx)
        rw [show (some L).getD [] = L from rfl, itemsL_data hz] at hl
        obtain rfl := Option.some.inj hl
        obtain ⟨v', hv'⟩ := RE.nakItems_ids _ m _ hv
        obtain ⟨h1, h2⟩ := List.mem_filter.1 hv'
        have h2' : decide (v' ∈ m.mg) = true := h2
        rw [e3, h.mg, decide_eq_true_eq, List.mem_singleton] at h2'
        exact hn h9 L hit v' h1 h2'
    · exact absurd e (RE.atP_nak ev (by omega) h9 h.ok.st p hp)
theorem Mg.event {x : RE} {mx : Nat} (h : Mg x mx) (k : Int) : Mg (x.event k).1 mx ∧ ∀ p ∈ x.eventP k, Mg1 mx p := by
  have ht : ∀ t, Mg ({ x with tim := t } : RE) mx := fun t => by
    obtain ⟨⟨st, id, odd, k0, k1, k2, pc, pi, pd, mg, ms, aa, ww⟩, b, c⟩ := h
    exact ⟨⟨st, id, odd, k0, k1, k2, pc, pi, pd, mg, ms, aa, ww⟩, b, c⟩
  exact RE.event_ind x k (fun n ps => Mg n mx ∧ ∀ p ∈ ps, Mg1 mx p) (fun t => ⟨ht t, fun _ q => (nomatch q)⟩) (fun ev h1 h4 _ => h.at_ ev (by omega) (fun e => by omega)) (fun ev t _ hh _ _ => (ht t).at_ ev (by omega) (fun e => by omega))
theorem takeAll_no4 (l : List (Nat × Nat)) (m : RE) (h : ∀ v, (4, v) ∉ l) : (m.takeAll l).mg = m.mg := by
  induction l generalizing m with
  | nil => rfl
  | cons x l ih =>
    have hx : x.1 ≠ 4 := fun e => h x.2 (by rw [← e]; simp)
    have h1 : (m.take1 x).mg = m.mg := by
      unfold RE.take1 RE.ask
      rw [if_neg hx]
      repeat' split
      all_goals rfl
    exact (ih (m.take1 x) (fun v hv => h v (List.mem_cons_of_mem _ hv))).trans h1
theorem Mg.hear {x : RE} {mx my : Nat} (h : Mg x mx) {p : Pq} (hp : p.Good) (hm : Mg1 my p) (hne : my ≠ mx) : Mg (x.hear p) mx ∧ ∀ q ∈ x.hearP p, Mg1 mx q := by
  have hg : Mg (x.got1 p) mx := ⟨RE.got1_ok h.ok hp, h.mg, h.kw⟩
  have hn : ∀ n, Mg ({ x.got1 p with loops := n } : RE) mx := fun n => by
    obtain ⟨⟨st, id, odd, k0, k1, k2, pc, pi, pd, mg, ms, aa, ww⟩, b, c⟩ := hg
    exact ⟨⟨st, id, odd, k0, k1, k2, pc, pi, pd, mg, ms, aa, ww⟩, b, c⟩
  have ht : ∀ n t, Mg ({ x.got1 p with loops := n, told := (x.got1 p).told ++ [t] } : RE) mx := fun n t => by
    obtain ⟨⟨st, id, odd, k0, k1, k2, pc, pi, pd, mg, ms, aa, ww⟩, b, c⟩ := hg
    exact ⟨⟨st, id, odd, k0, k1, k2, pc, pi, pd, mg, ms, aa, ww⟩, b, c⟩
  refine RE.receive_ind (x.got1 p) (fun n ps => Mg n mx ∧ ∀ q ∈ ps, Mg1 mx q) ⟨hg, fun _ q => (nomatch q)⟩ (fun _ _ _ _ _ => hg.at_ 8 (by omega) (fun e => by omega)) (fun l n hc hi _ _ _ _ => (hn n).at_ 9 (by omega) (fun _ l' hl' v hv => ?_)) (fun _ n t _ _ _ _ _ _ _ _ => (ht n t).at_ 4 (by omega) (fun e => by omega)) (fun _ _ _ => hg.at_ 10 (by omega) (fun e => by omega)) (fun l hc hi _ _ => ?_) (fun ev hev => ?_)
  · have hv' := hm.req hc l' hl' v hv
    rw [hv']; exact hne
  · have tw := RE.takeAll_tw l (m := x.got1 p) h.kw
    have hT : Mg ((x.got1 p).takeAll l) mx := ⟨RE.takeAll_ok l hg.ok, (takeAll_no4 l _ (hm.nak hc l hi)).trans h.mg, tw.kw⟩
    exact hT.at_ 11 (by omega) (fun e => by omega)
  · have hcd := hm.code
    have hpc : (x.got1 p).pc = p.c := rfl
    rw [hpc] at hev
    unfold Code at hcd
    have he : ev = 12 ∨ ev = 13 := by omega
    exact hg.at_ ev (by omega) (fun e => by omega)
structure MgL (l : Ln) (ma mb : Nat) : Prop where
  a : Mg l.a ma
  b : Mg l.b mb
  qB : ∀ p ∈ l.toB, Mg1 ma p
  qA : ∀ p ∈ l.toA, Mg1 mb p
  ne : ma ≠ mb
theorem MgL.swap {l : Ln} {ma mb : Nat} (h : MgL l ma mb) : MgL l.swap mb ma := ⟨h.b, h.a, h.qA, h.qB, fun e => h.ne e.symm⟩
theorem MgL.tellA {l : Ln} {ma mb : Nat} (h : MgL l ma mb) (k : Int) : MgL (l.tell true k) ma mb := ⟨(h.a.event k).1, h.b, mem_app h.qB (h.a.event k).2, h.qA, h.ne⟩
theorem MgL.tell {l : Ln} {ma mb : Nat} (h : MgL l ma mb) (first : Bool) (k : Int) : MgL (l.tell first k) ma mb := by
  cases first
  · rw [l.tell_swap]; exact (h.swap.tellA k).swap
  · exact h.tellA k
theorem MgL.deliverA {l : Ln} {ma mb n : Nat} (h : MgL l ma mb) (ok : l.Ok n) (lost : Bool) : MgL (l.deliver true lost).1 ma mb := by
  obtain ⟨a, b, toB, toA⟩ := l
  cases toA with
  | nil => exact h
  | cons p r =>
    have hp : p.Good := ok.pA p (List.mem_cons_self ..)
    cases lost
    · obtain ⟨s1, s2⟩ := h.a.hear hp (h.qA p (List.mem_cons_self ..)) (fun e => h.ne e.symm)
      exact ⟨s1, h.b, mem_app h.qB s2, fun q hq => h.qA q (List.mem_cons_of_mem _ hq), h.ne⟩
    · exact ⟨h.a, h.b, h.qB, fun q hq => h.qA q (List.mem_cons_of_mem _ hq), h.ne⟩
theorem MgL.deliver {l : Ln} {ma mb n : Nat} (h : MgL l ma mb) (ok : l.Ok n) (first lost : Bool) : MgL (l.deliver first lost).1 ma mb := by
  cases first
  · rw [l.deliver_swap]; exact (h.swap.deliverA ok.swap lost).swap
  · exact h.deliverA ok lost
theorem MgL.clear {l : Ln} {ma mb : Nat} (h : MgL l ma mb) : MgL ({ l with toB := [], toA := [] } : Ln) ma mb := ⟨h.a, h.b, fun _ q => (nomatch q), fun _ q => (nomatch q), h.ne⟩
theorem MgL.happens {l : Ln} {ma mb n : Nat} (h : MgL l ma mb) (ok : l.Ok n) (k : Nat) (first : Bool) : MgL (l.happens k first) ma mb := by
  unfold Ln.happens
  split
  · exact h.tell _ _
  · split
    · exact h.tell _ _
    · split
      · exact h.tell _ _
      · split
        · exact (h.clear.tell _ _).tell _ _
        · split
          · exact h.tell _ _
          · split
            · exact h.deliver ok _ _
            · exact h.deliver ok _ _
end Go.Proofs.YtoeihlgidakjbaaGreatDoor
namespace Go.Proofs.YtoeihlgidakjbaaGreatDoor
open Go.RowKit Go.Lib
def cdL (c : Nat) : List Nat :=
  if 48 ≤ c ∧ c ≤ 57 then [] else if c = 114 then [1] else if c = 101 then [5] else if c = 97 then [2] else if c = 110 then [3] else if c = 107 then [6] else if c = 106 then [7] else if c = 111 then [10] else []
namespace RE
theorem letterP_cd (m : RE) (c : Nat) : (m.letterP c).map Pq.c = cdL c := by
  unfold letterP cdL
  split
  · rfl
  · unfold actP
    repeat' split
    all_goals first | rfl | simp_all
theorem runP_cd (l : List Nat) (m : RE) : (m.runP l).map Pq.c = l.flatMap cdL := by
  induction l generalizing m with
  | nil => rfl
  | cons c l ih =>
    show (m.letterP c ++ (m.letter c).1.runP l).map Pq.c = _
    rw [List.map_append, letterP_cd, ih]; rfl
theorem atP_cd (m : RE) (ev : Nat) : (m.atP ev).map Pq.c = ((rowT ev).getD m.st []).flatMap cdL := runP_cd _ m
theorem at_sc (m : RE) (ev : Nat) : (m.at_ ev).1.sc = ((rowT ev).getD m.st []).foldl scL m.sc := run_sc _ m
end RE
def stL (s c : Nat) : Nat := if 48 ≤ c ∧ c ≤ 57 then c - 48 else s
theorem foldl_st (l : List Nat) (s : Nat × Int × Int) : (l.foldl scL s).1 = l.foldl stL s.1 := by
  induction l generalizing s with
  | nil => rfl
  | cons c l ih =>
    show (l.foldl scL (scL s c)).1 = l.foldl stL (stL s.1 c)
    have : (scL s c).1 = stL s.1 c := by
      unfold scL stL
      repeat' split
      all_goals rfl
    rw [ih, this]
theorem RE.at_stL (m : RE) (ev : Nat) : (m.at_ ev).1.st = ((rowT ev).getD m.st []).foldl stL m.st := by
  have h := m.at_sc ev
  have h1 : (m.at_ ev).1.sc.1 = (((rowT ev).getD m.st []).foldl scL m.sc).1 := by rw [h]
  rw [foldl_st] at h1
  exact h1
def wA (c : Nat) : Nat := if c = 6 then 1 else 2
def wB (c : Nat) : Nat := if c = 1 then 5 else if c = 2 ∨ c = 3 then 3 else if c = 5 then 2 else 1
def sumW (w : Nat → Nat) (l : List Nat) : Nat := (l.map w).sum
def wsum (w : Nat → Nat) (ps : List Pq) : Nat := sumW w (ps.map Pq.c)
theorem wsum_app (w : Nat → Nat) (p q : List Pq) : wsum w (p ++ q) = wsum w p + wsum w q := by unfold wsum sumW; simp
theorem wsum_cons (w : Nat → Nat) (p : Pq) (q : List Pq) : wsum w (p :: q) = w p.c + wsum w q := by unfold wsum sumW; simp
def s9 (st : Nat) : Nat := if st = 9 then 2 else 0
theorem wA_le (c : Nat) : wA c ≤ 2 := by unfold wA; split <;> omega
theorem wB_le (c : Nat) : wB c ≤ 5 := by unfold wB; repeat' split <;> try omega
theorem wsum_le (w : Nat → Nat) (k : Nat) (h : ∀ c, w c ≤ k) (ps : List Pq) : wsum w ps ≤ k * ps.length := by
  induction ps with
  | nil => exact Nat.zero_le _
  | cons p r ih =>
    rw [wsum_cons, List.length_cons, Nat.mul_succ]
    have := h p.c
    omega
def evC (ev : Nat) : Nat := if ev = 8 ∨ ev = 9 ∨ ev = 4 then 1 else if ev = 10 then 2 else if ev = 11 then 3 else if ev = 12 then 5 else 6
def okB (ev st : Nat) : Bool := decide (sumW wA (((rowT ev).getD st []).flatMap cdL) + s9 (((rowT ev).getD st []).foldl stL st) + 1 ≤ wB (evC ev) + s9 st)
theorem rows_okB : ((List.range 14).all fun ev => (List.range 10).all fun st => decide (ev < 8) || okB ev st) = true := by decide +kernel
theorem rows_okB4 : ((List.range 10).all fun st => okB 4 st) = true := by decide +kernel
theorem row_okB {ev st : Nat} (hev : (8 ≤ ev ∧ ev < 14) ∨ ev = 4) (hs : st < 10) : sumW wA (((rowT ev).getD st []).flatMap cdL) + s9 (((rowT ev).getD st []).foldl stL st) + 1 ≤ wB (evC ev) + s9 st := by
  rcases hev with hev | hev
  · have h1 := List.all_eq_true.1 rows_okB ev (List.mem_range.2 hev.2)
    have h2 := List.all_eq_true.1 h1 st (List.mem_range.2 hs)
    rw [Bool.or_eq_true] at h2
    rcases h2 with h2 | h2
    · have := of_decide_eq_true h2; omega
    · exact of_decide_eq_true h2
  · subst hev
    exact of_decide_eq_true (List.all_eq_true.1 rows_okB4 st (List.mem_range.2 hs))
theorem takeAll_sc (l : List (Nat × Nat)) (m : RE) : (m.takeAll l).sc = m.sc ∧ (m.takeAll l).told = m.told := by
  induction l generalizing m with
  | nil => exact ⟨rfl, rfl⟩
  | cons x l ih =>
    have h1 : (m.take1 x).sc = m.sc ∧ (m.take1 x).told = m.told := by
      unfold RE.take1 RE.ask
      repeat' split
      all_goals exact ⟨rfl, rfl⟩
    have h2 := ih (m.take1 x)
    exact ⟨h2.1.trans h1.1, h2.2.trans h1.2⟩
theorem takeAll_st' (l : List (Nat × Nat)) (m : RE) : (m.takeAll l).st = m.st := congrArg Prod.fst (takeAll_sc l m).1
theorem b_at {n : RE} {ev : Nat} (ok : n.st < 10) (hev : (8 ≤ ev ∧ ev < 14) ∨ ev = 4) : wsum wA (n.atP ev) + s9 (n.at_ ev).1.st + 1 ≤ wB (evC ev) + s9 n.st := by
  unfold wsum
  rw [n.atP_cd, n.at_stL]
  exact row_okB hev ok
theorem wB_pos (c : Nat) : 1 ≤ wB c := by unfold wB; repeat' split <;> try omega
theorem wA_pos (c : Nat) : 1 ≤ wA c := by unfold wA; split <;> omega
theorem b_hear {x : RE} (ok : x.Ok) {p : Pq} (hc : Code p) : wsum wA (x.hearP p) + s9 (x.hear p).st + 1 ≤ wB p.c + s9 x.st := by
  have hs := ok.st
  refine RE.receive_ind (x.got1 p) (fun n ps => wsum wA ps + s9 n.st + 1 ≤ wB p.c + s9 x.st) ?_ (fun l h1 _ _ _ => ?_) (fun l n h1 _ _ _ _ _ => ?_) (fun l n t h1 _ _ _ _ _ _ _ => ?_) (fun h1 _ _ => ?_) (fun l h1 _ _ _ => ?_) (fun ev hev => ?_)
  · have := wB_pos p.c
    show 0 + s9 x.st + 1 ≤ _; omega
  · rw [show p.c = evC 8 from h1]; exact b_at (n := x.got1 p) hs (.inl (by omega))
  · rw [show p.c = evC 9 from h1]; exact b_at (n := { x.got1 p with loops := n }) hs (.inl (by omega))
  · rw [show p.c = evC 4 from h1]; exact b_at (n := { x.got1 p with loops := n, told := (x.got1 p).told ++ [t] }) hs (.inr rfl)
  · rw [show p.c = evC 10 from h1]; exact b_at (n := x.got1 p) hs (.inl (by omega))
  · rw [show p.c = evC 11 from h1]
    have e := takeAll_st' l (x.got1 p)
    have := b_at (n := (x.got1 p).takeAll l) (ev := 11) (by rw [e]; exact hs) (.inl (by omega))
    rw [e] at this
    exact this
  · have hpc : (x.got1 p).pc = p.c := rfl
    rw [hpc] at hev
    unfold Code at hc
    have he : (ev = 12 ∧ p.c = 5) ∨ (ev = 13 ∧ p.c = 6) := by omega
    rcases he with ⟨rfl, h1⟩ | ⟨rfl, h1⟩
    · rw [show p.c = evC 12 from h1]; exact b_at (n := x.got1 p) hs (.inl (by omega))
    · rw [show p.c = evC 13 from h1]; exact b_at (n := x.got1 p) hs (.inl (by omega))
structure AR (x n : RE) (ps : List Pq) (c : Nat) : Prop where
  st : n.st = 2 ∨ n.st = 4
  sc : n.st = 4 → n.sc = x.sc
  w : wsum wB ps + 1 ≤ wA c
theorem a_at {x n : RE} {ev : Nat} (hs : x.st = 2 ∨ x.st = 4) (hn : n.sc = x.sc) (hev : 8 ≤ ev ∧ ev < 14) : AR x (n.at_ ev).1 (n.atP ev) (evC ev) := by
  have hst : n.st = x.st := congrArg Prod.fst hn
  have e1 := n.at_sc ev
  have e2 := n.atP_cd ev
  rw [hst, hn] at e1
  rw [hst] at e2
  have hx : ∀ k, k = (n.at_ ev).1.sc → (n.at_ ev).1.st = k.1 := fun k e => by rw [e]; rfl
  have h3 := hx _ e1.symm
  unfold RE.sc at e1 h3
  have hw : wsum wB (n.atP ev) = sumW wB (((rowT ev).getD x.st []).flatMap cdL) := by unfold wsum; rw [e2]
  generalize (n.at_ ev).1 = n' at *
  generalize n.atP ev = ps at *
  rcases hs with hs | hs <;> rcases (by omega : ev = 8 ∨ ev = 9 ∨ ev = 10 ∨ ev = 11 ∨ ev = 12 ∨ ev = 13) with rfl | rfl | rfl | rfl | rfl | rfl <;> rw [hs] at e1 h3 hw <;> refine ⟨?_, ?_, ?_⟩
  all_goals first
    | (rw [hw]; decide)
    | (rw [h3]; decide)
    | (intro q; show (n'.st, n'.cnt, n'.tim) = (x.st, x.cnt, x.tim); rw [e1, hs]; rfl)
    | (intro q; have h4 : n'.st = 2 := h3; omega)
    | exact .inl h3
    | exact .inr h3
theorem a_hear {x : RE} (hs : x.st = 2 ∨ x.st = 4) {p : Pq} (hc : Code p) : AR x (x.hear p) (x.hearP p) p.c := by
  refine RE.receive_ind (x.got1 p) (fun n ps => AR x n ps p.c) ⟨hs, fun _ => rfl, by have := wA_pos p.c; show 0 + 1 ≤ _; omega⟩ (fun l h1 _ _ _ => ?_) (fun l n h1 _ _ _ _ _ => ?_) (fun l n t h1 _ _ _ _ h2 _ _ => ?_) (fun h1 _ _ => ?_) (fun l h1 _ _ _ => ?_) (fun ev hev => ?_)
  · rw [show p.c = evC 8 from h1]; exact a_at (n := x.got1 p) hs rfl (by omega)
  · rw [show p.c = evC 9 from h1]; exact a_at (n := { x.got1 p with loops := n }) hs rfl (by omega)
  · have h2' : x.st = 3 ∨ 6 ≤ x.st := h2
    omega
  · rw [show p.c = evC 10 from h1]; exact a_at (n := x.got1 p) hs rfl (by omega)
  · rw [show p.c = evC 11 from h1]; exact a_at (n := (x.got1 p).takeAll l) hs (takeAll_sc l (x.got1 p)).1 (by omega)
  · have hpc : (x.got1 p).pc = p.c := rfl
    rw [hpc] at hev
    unfold Code at hc
    have he : (ev = 12 ∧ p.c = 5) ∨ (ev = 13 ∧ p.c = 6) := by omega
    rcases he with ⟨rfl, h1⟩ | ⟨rfl, h1⟩
    · rw [show p.c = evC 12 from h1]; exact a_at (n := x.got1 p) hs rfl (by omega)
    · rw [show p.c = evC 13 from h1]; exact a_at (n := x.got1 p) hs rfl (by omega)
theorem RE.letter_told {t : Nat} (m : RE) (c : Nat) (h : t ∈ m.told) : t ∈ (m.letter c).1.told := by
  unfold RE.letter
  split
  · exact h
  · refine RE.act_ind m c (fun r => t ∈ r.1.told) ?_ ?_ ?_ ?_ ?_ ?_ ?_ ?_ ?_ ?_ ?_ ?_ ?_ ?_ ?_
    all_goals first
      | exact h
      | exact List.mem_append.2 (.inl h)
      | skip
    show t ∈ m.nak.1.told
    unfold RE.nak
    obtain ⟨x, y, z, e, _⟩ := RE.nakItems_eq (m.bad ((itemsL m.pd).getD [])) m
    simp only [e]; exact h
theorem RE.run_told {t : Nat} (l : List Nat) (m : RE) (h : t ∈ m.told) : t ∈ (m.run l).1.told := by
  induction l generalizing m with
  | nil => exact h
  | cons c l ih => exact ih (m.letter c).1 (m.letter_told c h)
theorem RE.hear_told {t : Nat} {m : RE} {p : Pq} (h : t ∈ m.told) : t ∈ (m.hear p).told :=
  RE.receive_ind (m.got1 p) (fun n _ => t ∈ n.told) h (fun _ _ _ _ _ => RE.run_told _ _ h) (fun _ _ _ _ _ _ _ _ => RE.run_told _ _ h) (fun _ _ _ _ _ _ _ _ _ _ _ => RE.run_told _ _ (List.mem_append.2 (.inl h))) (fun _ _ _ => RE.run_told _ _ h) (fun l _ _ _ _ => RE.run_told _ _ (by rw [(takeAll_sc l (m.got1 p)).2]; exact h)) (fun _ _ => RE.run_told _ _ h)
structure Cd (l : Ln) : Prop where
  a : l.a.Ok
  b : l.b.Ok
  qB : ∀ p ∈ l.toB, Code p ∧ p.Good
  qA : ∀ p ∈ l.toA, Code p ∧ p.Good
theorem Cd.swap {l : Ln} (h : Cd l) : Cd l.swap := ⟨h.b, h.a, h.qA, h.qB⟩
theorem MgL.cd {l : Ln} {ma mb n : Nat} (h : MgL l ma mb) (ok : l.Ok n) : Cd l := ⟨h.a.ok, h.b.ok, fun p hp => ⟨(h.qB p hp).code, ok.pB p hp⟩, fun p hp => ⟨(h.qA p hp).code, ok.pA p hp⟩⟩
theorem hearP_code {x : RE} (ok : x.Ok) {p : Pq} (hc : Code p) (hg : p.Good) : ∀ q ∈ x.hearP p, Code q ∧ q.Good := by
  have hgd := (RE.hearP_few ok hg).1
  have hs := ok.st
  have key : ∀ q ∈ x.hearP p, Code q := by
    refine RE.receive_ind (x.got1 p) (fun _ ps => ∀ q ∈ ps, Code q) (fun _ q => (nomatch q)) (fun _ _ _ _ _ => RE.atP_code 8 (by omega) hs) (fun _ n _ _ _ _ _ _ => RE.atP_code (m := { x.got1 p with loops := n }) 9 (by omega) hs) (fun _ n t _ _ _ _ _ _ _ _ => RE.atP_code (m := { x.got1 p with loops := n, told := (x.got1 p).told ++ [t] }) 4 (by omega) hs) (fun _ _ _ => RE.atP_code 10 (by omega) hs) (fun l _ _ _ _ => RE.atP_code 11 (by omega) (by rw [takeAll_st']; exact hs)) (fun ev hev => ?_)
    have hpc : (x.got1 p).pc = p.c := rfl
    rw [hpc] at hev
    unfold Code at hc
    exact RE.atP_code ev (by omega) hs
  exact fun q hq => ⟨key q hq, hgd q hq⟩
theorem Cd.deliverA {l : Ln} (h : Cd l) : Cd (l.deliver true false).1 := by
  obtain ⟨a, b, toB, toA⟩ := l
  cases toA with
  | nil => exact h
  | cons p r =>
    obtain ⟨p1, p2⟩ := h.qA p (List.mem_cons_self ..)
    exact ⟨RE.hear_ok h.a p2, h.b, mem_app h.qB (hearP_code h.a p1 p2), fun q hq => h.qA q (List.mem_cons_of_mem _ hq)⟩
theorem Cd.deliver {l : Ln} (h : Cd l) (first : Bool) : Cd (l.deliver first false).1 := by
  cases first
  · rw [l.deliver_swap]; exact h.swap.deliverA.swap
  · exact h.deliverA
def Ln.ph (l : Ln) : Nat := wsum wA l.toA + wsum wB l.toB + s9 l.b.st
structure GA (l : Ln) : Prop where
  cd : Cd l
  st : l.a.st = 2 ∨ l.a.st = 4
theorem GA.toA {l : Ln} (h : GA l) : GA (l.deliver true false).1 ∧ ((l.deliver true false).2 = true → (l.deliver true false).1.ph < l.ph) ∧ ((l.deliver true false).1.a.st = 4 → (l.deliver true false).1.a.sc = l.a.sc) := by
  have hcd := h.cd.deliverA
  obtain ⟨a, b, toB, toA⟩ := l
  cases toA with
  | nil => exact ⟨h, fun q => (nomatch q), fun _ => rfl⟩
  | cons p r =>
    have ar := a_hear h.st (h.cd.qA p (List.mem_cons_self ..)).1
    refine ⟨⟨hcd, ar.st⟩, fun _ => ?_, ar.sc⟩
    show wsum wA r + wsum wB (toB ++ a.hearP p) + s9 b.st < wsum wA (p :: r) + wsum wB toB + s9 b.st
    rw [wsum_app, wsum_cons]
    have : wsum wB (a.hearP p) + 1 ≤ wA p.c := ar.w
    omega
theorem GA.toB {l : Ln} (h : GA l) : GA (l.deliver false false).1 ∧ ((l.deliver false false).2 = true → (l.deliver false false).1.ph < l.ph) ∧ (l.deliver false false).1.a = l.a := by
  have hcd := h.cd.deliver false
  obtain ⟨a, b, toB, toA⟩ := l
  cases toB with
  | nil => exact ⟨h, fun q => (nomatch q), rfl⟩
  | cons p r =>
    have hw : wsum wA (b.hearP p) + s9 (b.hear p).st + 1 ≤ wB p.c + s9 b.st := b_hear h.cd.b (h.cd.qB p (List.mem_cons_self ..)).1
    refine ⟨⟨hcd, h.st⟩, fun _ => ?_, rfl⟩
    show wsum wA (toA ++ b.hearP p) + wsum wB r + s9 (b.hear p).st < wsum wA toA + wsum wB (p :: r) + s9 b.st
    rw [wsum_app, wsum_cons]
    omega
theorem deliver_stuck (l : Ln) (first : Bool) (h : ¬ (l.deliver first false).2 = true) : (l.deliver first false).1 = l ∧ (if first = true then l.toA else l.toB) = [] := by
  obtain ⟨a, b, toB, toA⟩ := l
  cases first
  · cases toB with
    | nil => exact ⟨rfl, rfl⟩
    | cons p r => exact absurd rfl h
  · cases toA with
    | nil => exact ⟨rfl, rfl⟩
    | cons p r => exact absurd rfl h
theorem settle_dn (P : Nat → Ln → Prop) (hP : ∀ k l first, P k l → (l.deliver first false).2 = true → ∃ k', k' < k ∧ P k' (l.deliver first false).1) : ∀ (n k : Nat) (l : Ln), P k l → k < n → (l.settle n).2 = true ∧ (∃ k', P k' (l.settle n).1) ∧ (l.settle n).1.toA = [] ∧ (l.settle n).1.toB = [] := by
  have step : ∀ k l first, P k l → ∃ k', k' ≤ k ∧ P k' (l.deliver first false).1 ∧ ((l.deliver first false).2 = true → k' < k) := fun k l first h => by
    by_cases hm : (l.deliver first false).2 = true
    · obtain ⟨k', h1, h2⟩ := hP k l first h hm
      exact ⟨k', by omega, h2, fun _ => h1⟩
    · rw [(deliver_stuck l first hm).1]
      exact ⟨k, Nat.le_refl _, h, fun q => absurd q hm⟩
  intro n
  induction n with
  | zero => intro k l _ hn; omega
  | succ n ih =>
    intro k l h hn
    obtain ⟨k1, h1, h2, h3⟩ := step k l true h
    obtain ⟨k2, g1, g2, g3⟩ := step k1 _ false h2
    by_cases hb : l.both.2 = true
    · have hE : l.settle (n + 1) = l.both.1.settle n := by show (if l.both.2 = true then _ else _) = _; rw [if_pos hb]
      rw [hE]
      refine ih k2 l.both.1 g2 ?_
      have hor : (l.deliver true false).2 = true ∨ ((l.deliver true false).1.deliver false false).2 = true := by
        have : ((l.deliver true false).2 || ((l.deliver true false).1.deliver false false).2) = true := hb
        simpa using this
      rcases hor with q | q
      · have := h3 q; omega
      · have := g3 q; omega
    · have hE : l.settle (n + 1) = (l.both.1, true) := by show (if l.both.2 = true then _ else _) = _; rw [if_neg hb]
      rw [hE]
      have hnor : ¬ (l.deliver true false).2 = true ∧ ¬ ((l.deliver true false).1.deliver false false).2 = true := by
        have : ¬ ((l.deliver true false).2 || ((l.deliver true false).1.deliver false false).2) = true := hb
        simpa using this
      obtain ⟨s1, s2⟩ := deliver_stuck l true hnor.1
      obtain ⟨t1, t2⟩ := deliver_stuck _ false hnor.2
      have e1 : l.both.1 = l := t1.trans s1
      refine ⟨rfl, ⟨k2, g2⟩, ?_, ?_⟩
      · show l.both.1.toA = []
        rw [e1]; exact s2
      · show l.both.1.toB = []
        rw [e1, ← s1]; exact t2
theorem GA.settle {l : Ln} (h : GA l) (n : Nat) (hn : l.ph < n) : (l.settle n).2 = true ∧ GA (l.settle n).1 ∧ (l.settle n).1.toA = [] ∧ (l.settle n).1.toB = [] ∧ ((l.settle n).1.a.st = 4 → (l.settle n).1.a.sc = l.a.sc) := by
  obtain ⟨h1, ⟨k, h2⟩, h3, h4⟩ := settle_dn (fun k m => GA m ∧ m.ph ≤ k ∧ (m.a.st = 4 → m.a.sc = l.a.sc)) (fun k m first q hm => by
    obtain ⟨q1, q2, q3⟩ := q
    cases first
    · obtain ⟨r1, r2, r3⟩ := q1.toB
      exact ⟨_, Nat.lt_of_lt_of_le (r2 hm) q2, r1, Nat.le_refl _, by rw [r3]; exact q3⟩
    · obtain ⟨r1, r2, r3⟩ := q1.toA
      refine ⟨_, Nat.lt_of_lt_of_le (r2 hm) q2, r1, Nat.le_refl _, fun e => ?_⟩
      have e1 := r3 e
      have e2 : (m.deliver true false).1.a.st = m.a.st := congrArg Prod.fst e1
      rw [e1]; exact q3 (e2.symm.trans e)) n l.ph l ⟨h, Nat.le_refl _, fun _ => rfl⟩ hn
  exact ⟨h1, h2.1, h3, h4, h2.2.2⟩
end Go.Proofs.YtoeihlgidakjbaaGreatDoor
namespace Go.Proofs.YtoeihlgidakjbaaGreatDoor
open Go.RowKit Go.Lib
theorem RE.hear_giveup {y x : RE} {d : Nat} (xo : x.Ok) (hb : y.nakOf x ≠ []) (hm : x.mag ∉ y.mg) (hs : y.st = 6 ∨ y.st = 7) (hn : 20 ≤ y.naks) : (y.hear (x.reqP d)).st = 4 ∧ 5 ∈ (y.hear (x.reqP d)).told := by
  obtain ⟨e1, _⟩ := RE.hear_req y x d xo
  have hm' : x.mag ∉ (y.got1 (x.reqP d)).mg := hm
  have hbb : (y.got1 (x.reqP d)).bad x.asks ≠ [] := fun e => by
    have h1 := (RE.nakItems_of y x hm).1
    rw [show y.bad x.asks = (y.got1 (x.reqP d)).bad x.asks from rfl, e] at h1
    exact hb h1.symm
  have ho := RE.ownF_asks (y.got1 (x.reqP d)) x hm'
  have hn' : 20 ≤ (y.got1 (x.reqP d)).naks := hn
  have ha : (y.got1 (x.reqP d)).st = 3 ∨ 6 ≤ (y.got1 (x.reqP d)).st := by show y.st = 3 ∨ 6 ≤ y.st; omega
  have e2 : ((y.got1 (x.reqP d)).asked x.asks).1 = (({ y.got1 (x.reqP d) with told := (y.got1 (x.reqP d)).told ++ [5] } : RE).at_ 4).1 := by
    unfold RE.asked
    rw [if_neg hbb]
    simp [ho, hn', ha]
  rw [e1, e2]
  have h5 : 5 ∈ (y.got1 (x.reqP d)).told ++ [5] := by simp
  refine ⟨?_, RE.run_told _ _ h5⟩
  rcases hs with hs | hs
  · rw [(RE.at_row (m := ({ y.got1 (x.reqP d) with told := (y.got1 (x.reqP d)).told ++ [5] } : RE)) (ev := 4) (row := [116, 101, 52]) hs rfl).1]; rfl
  · rw [(RE.at_row (m := ({ y.got1 (x.reqP d) with told := (y.got1 (x.reqP d)).told ++ [5] } : RE)) (ev := 4) (row := [116, 101, 52]) hs rfl).1]; rfl
theorem Dir.answer0 {x y : RE} {n d : Nat} (h : Dir x y (.R n) d) (hd : d < 256) (hs : y.st = 6 ∨ y.st = 7) (hn : y.nakOf x = [] ∨ y.naks < 20) :
    ∃ f', Dir x (y.hear (x.reqP d)) f' d ∧ AskEq y (y.hear (x.reqP d)) ∧ (y.hear (x.reqP d)).Ok ∧ y.hearP (x.reqP d) = f'.ans x d ∧ f'.mu < (Fz.R n).mu ∧ f'.req x d = [] ∧ f'.done = false ∧ (y.hear (x.reqP d)).st = (if f'.acked then y.st + 2 else y.st) := by
  have hpg : (x.reqP d).Good := ⟨by show 1 ≤ 1; omega, by show 1 < 256; omega, hd, by show (dataL x.asks).length ≤ 40; rw [dataL_len]; simp [RE.asks]⟩
  obtain ⟨s0, s1, s2⟩ := h.on
  have hok : (y.hear (x.reqP d)).Ok := (RE.hear_ok h.yo hpg)
  by_cases hb : y.nakOf x = []
  · obtain ⟨g0, g1, g2⟩ := RE.nakOf_nil hb
    obtain ⟨⟨t, _, e1⟩, e2⟩ := RE.hear_good (d := d) h.xo g0 g1 g2 h.hm hs
    refine ⟨.A, ⟨h.xo, hok, by rw [e1]; exact h.hm, h.sid, h.sent, h.w0, h.w1, h.w2, ?_⟩, ?_, hok, ?_, ?_, rfl, rfl, ?_⟩
    · rw [e1]; exact ⟨⟨g0, g1, g2⟩, h.sent.symm⟩
    · rw [e1]; exact ⟨rfl, rfl, rfl, rfl, rfl, rfl, rfl, rfl, rfl⟩
    · rw [e2]; show _ = [(⟨2, d, x.sent⟩ : Pq)]; rw [h.sent]
    · show 1 < 2 * n + 2; omega
    · rw [e1]; rfl
  · have hn1 : 1 ≤ n := by
      rcases Nat.eq_zero_or_pos n with q | q
      · subst q
        exfalso
        apply hb
        unfold RE.nakOf
        rw [if_pos s0.zero, if_pos s1.zero, if_pos s2.zero]; rfl
      · exact q
    obtain ⟨m, rfl⟩ : ∃ m, n = m + 1 := ⟨n - 1, by omega⟩
    have hnk : y.naks < 20 := hn.resolve_left hb
    obtain ⟨e1, e2⟩ := RE.hear_bad (d := d) h.xo hb h.hm hs hnk
    obtain ⟨asc, _⟩ := RE.nakOf_asc x h.yo
    have l0 : 0 < y.a0.length := List.length_pos_iff.2 (h.yo.aa 1).1
    have l1 : 0 < y.a1.length := List.length_pos_iff.2 (h.yo.aa 2).1
    have l2 : 0 < y.a2.length := List.length_pos_iff.2 (h.yo.aa 3).1
    have hz3 : ∀ q ∈ y.nakOf x, q.1 ≤ 3 := by
      unfold RE.nakOf
      by_cases h0 : x.k0 ∈ y.a0 <;> by_cases h1 : x.k1 ∈ y.a1 <;> by_cases h2 : x.k2 ∈ y.a2 <;> simp [h0, h1, h2]
    have t1 : x.tk (y.nakOf x) 1 x.k0 = if x.k0 ∈ y.a0 then x.k0 else if y.nextN 1 ∈ x.w0 then y.nextN 1 else x.k0 := by
      unfold RE.tk RE.nakOf RE.want
      by_cases h0 : x.k0 ∈ y.a0 <;> by_cases h1 : x.k1 ∈ y.a1 <;> by_cases h2 : x.k2 ∈ y.a2 <;> simp [h0, h1, h2]
    have t2 : x.tk (y.nakOf x) 2 x.k1 = if x.k1 ∈ y.a1 then x.k1 else if y.nextN 2 ∈ x.w1 then y.nextN 2 else x.k1 := by
      unfold RE.tk RE.nakOf RE.want
      by_cases h0 : x.k0 ∈ y.a0 <;> by_cases h1 : x.k1 ∈ y.a1 <;> by_cases h2 : x.k2 ∈ y.a2 <;> simp [h0, h1, h2]
    have t3 : x.tk (y.nakOf x) 3 x.k2 = if x.k2 ∈ y.a2 then x.k2 else if y.nextN 3 ∈ x.w2 then y.nextN 3 else x.k2 := by
      unfold RE.tk RE.nakOf RE.want
      by_cases h0 : x.k0 ∈ y.a0 <;> by_cases h1 : x.k1 ∈ y.a1 <;> by_cases h2 : x.k2 ∈ y.a2 <;> simp [h0, h1, h2]
    refine ⟨.N m (y.nakOf x), ⟨h.xo, hok, by rw [e1]; exact h.hm, h.sid, h.sent, h.w0, h.w1, h.w2, ⟨⟨?_, ?_, ?_⟩, asc, hb, hz3⟩⟩, ?_, hok, e2, ?_, rfl, rfl, ?_⟩
    · rw [t1, e1]
      by_cases h0 : x.k0 ∈ y.a0
      · rw [if_pos h0]; exact .inl h0
      · show Sn _ y.a0 x.w0 (if x.k0 ∈ y.a0 then y.h0 else y.h0 + 1) m
        rw [if_neg h0, if_neg h0]; exact sn_nak l0 h0 s0
    · rw [t2, e1]
      by_cases h0 : x.k1 ∈ y.a1
      · rw [if_pos h0]; exact .inl h0
      · show Sn _ y.a1 x.w1 (if x.k1 ∈ y.a1 then y.h1 else y.h1 + 1) m
        rw [if_neg h0, if_neg h0]; exact sn_nak l1 h0 s1
    · rw [t3, e1]
      by_cases h0 : x.k2 ∈ y.a2
      · rw [if_pos h0]; exact .inl h0
      · show Sn _ y.a2 x.w2 (if x.k2 ∈ y.a2 then y.h2 else y.h2 + 1) m
        rw [if_neg h0, if_neg h0]; exact sn_nak l2 h0 s2
    · rw [e1]; exact ⟨rfl, rfl, rfl, rfl, rfl, rfl, rfl, rfl, rfl⟩
    · show 2 * m + 3 < 2 * (m + 1) + 2; omega
    · rw [e1]; rfl
structure Cv0 (l : Ln) (f g : Fz) (d e : Nat) : Prop where
  ab : Dir l.a l.b f d
  ba : Dir l.b l.a g e
  sa : l.a.st = stOf f.done g.acked
  sb : l.b.st = stOf g.done f.acked
  qB : l.toB.Perm (f.req l.a d ++ g.ans l.b e)
  qA : l.toA.Perm (g.req l.b e ++ f.ans l.a d)
  hd : d < 256
  he : e < 256
theorem Cv0.swap {l : Ln} {f g : Fz} {d e : Nat} (h : Cv0 l f g d e) : Cv0 l.swap g f e d := ⟨h.ba, h.ab, h.sb, h.sa, h.qA, h.qB, h.he, h.hd⟩
theorem Cv0.toA {l : Ln} {f g : Fz} {d e : Nat} (h : Cv0 l f g d e) {p : Pq} {r : List Pq} (hA : l.toA = p :: r) : (∃ f' g' d' e', Cv0 ⟨l.a.hear p, l.b, l.toB ++ l.a.hearP p, r⟩ f' g' d' e' ∧ f'.mu + g'.mu < f.mu + g.mu) ∨ ((l.a.hear p).st = 4 ∧ 5 ∈ (l.a.hear p).told ∧ r.length ≤ 1 ∧ l.toB.length ≤ 2) := by
  have hq := h.qA
  rw [hA] at hq
  -- which of the two it is
  have hcase : (∃ n, g = .R n ∧ p = l.b.reqP e ∧ r.Perm (f.ans l.a d)) ∨ (∃ n z, f = .N n z ∧ p = ⟨3, d, dataL z⟩ ∧ r.Perm (g.req l.b e)) ∨ (f = .A ∧ p = ⟨2, d, l.a.sent⟩ ∧ r.Perm (g.req l.b e)) := by
    cases g with
    | R n =>
      cases f with
      | R m => exact .inl ⟨n, rfl, by simpa using (List.perm_singleton.1 hq : p :: r = [l.b.reqP e]) |> fun q => (List.cons.inj q).1, by
          have := (List.cons.inj (List.perm_singleton.1 hq : p :: r = [l.b.reqP e])).2
          rw [this]; exact List.Perm.refl _⟩
      | N m z =>
        rcases perm_two (hq : (p :: r).Perm [l.b.reqP e, ⟨3, d, dataL z⟩]) with ⟨e1, e2⟩ | ⟨e1, e2⟩
        · exact .inl ⟨n, rfl, e1, by rw [e2]; exact List.Perm.refl _⟩
        · exact .inr (.inl ⟨m, z, rfl, e1, by rw [e2]; exact List.Perm.refl _⟩)
      | A =>
        rcases perm_two (hq : (p :: r).Perm [l.b.reqP e, ⟨2, d, l.a.sent⟩]) with ⟨e1, e2⟩ | ⟨e1, e2⟩
        · exact .inl ⟨n, rfl, e1, by rw [e2]; exact List.Perm.refl _⟩
        · exact .inr (.inr ⟨rfl, e1, by rw [e2]; exact List.Perm.refl _⟩)
      | D => exact .inl ⟨n, rfl, (List.cons.inj (List.perm_singleton.1 hq : p :: r = [l.b.reqP e])).1, by
          have := (List.cons.inj (List.perm_singleton.1 hq : p :: r = [l.b.reqP e])).2
          rw [this]; exact List.Perm.refl _⟩
    | N k zz =>
      cases f with
      | R m => exact absurd hq.length_eq (by simp [Fz.req, Fz.ans])
      | N m z => exact .inr (.inl ⟨m, z, rfl, (List.cons.inj (List.perm_singleton.1 hq : p :: r = [⟨3, d, dataL z⟩])).1, by
          have := (List.cons.inj (List.perm_singleton.1 hq : p :: r = [⟨3, d, dataL z⟩])).2
          rw [this]; exact List.Perm.refl _⟩)
      | A => exact .inr (.inr ⟨rfl, (List.cons.inj (List.perm_singleton.1 hq : p :: r = [⟨2, d, l.a.sent⟩])).1, by
          have := (List.cons.inj (List.perm_singleton.1 hq : p :: r = [⟨2, d, l.a.sent⟩])).2
          rw [this]; exact List.Perm.refl _⟩)
      | D => exact absurd hq.length_eq (by simp [Fz.req, Fz.ans])
    | A =>
      cases f with
      | R m => exact absurd hq.length_eq (by simp [Fz.req, Fz.ans])
      | N m z => exact .inr (.inl ⟨m, z, rfl, (List.cons.inj (List.perm_singleton.1 hq : p :: r = [⟨3, d, dataL z⟩])).1, by
          have := (List.cons.inj (List.perm_singleton.1 hq : p :: r = [⟨3, d, dataL z⟩])).2
          rw [this]; exact List.Perm.refl _⟩)
      | A => exact .inr (.inr ⟨rfl, (List.cons.inj (List.perm_singleton.1 hq : p :: r = [⟨2, d, l.a.sent⟩])).1, by
          have := (List.cons.inj (List.perm_singleton.1 hq : p :: r = [⟨2, d, l.a.sent⟩])).2
          rw [this]; exact List.Perm.refl _⟩)
      | D => exact absurd hq.length_eq (by simp [Fz.req, Fz.ans])
    | D =>
      cases f with
      | R m => exact absurd hq.length_eq (by simp [Fz.req, Fz.ans])
      | N m z => exact .inr (.inl ⟨m, z, rfl, (List.cons.inj (List.perm_singleton.1 hq : p :: r = [⟨3, d, dataL z⟩])).1, by
          have := (List.cons.inj (List.perm_singleton.1 hq : p :: r = [⟨3, d, dataL z⟩])).2
          rw [this]; exact List.Perm.refl _⟩)
      | A => exact .inr (.inr ⟨rfl, (List.cons.inj (List.perm_singleton.1 hq : p :: r = [⟨2, d, l.a.sent⟩])).1, by
          have := (List.cons.inj (List.perm_singleton.1 hq : p :: r = [⟨2, d, l.a.sent⟩])).2
          rw [this]; exact List.Perm.refl _⟩)
      | D => exact absurd hq.length_eq (by simp [Fz.req, Fz.ans])
  have hsa := h.sa
  have hsb := h.sb
  rcases hcase with ⟨n, rfl, rfl, hr⟩ | ⟨n, z, rfl, rfl, hr⟩ | ⟨rfl, rfl, hr⟩
  · have hs : l.a.st = 6 ∨ l.a.st = 7 := by
      rw [hsa]; unfold stOf; cases f.done <;> simp [Fz.acked]
    by_cases hgv : l.a.nakOf l.b = [] ∨ l.a.naks < 20
    case neg =>
      right
      have hgu := RE.hear_giveup (d := e) h.ba.xo (fun q => hgv (.inl q)) h.ba.hm hs (by have : ¬ l.a.naks < 20 := fun q => hgv (.inr q); omega)
      refine ⟨hgu.1, hgu.2, ?_, ?_⟩
      · rw [hr.length_eq]; cases f <;> simp [Fz.ans]
      · rw [h.qB.length_eq]; cases f <;> simp [Fz.req, Fz.ans]
    left
    obtain ⟨g', hdir, heq, hok, hout, hmu, hreq, hdone, hst⟩ := h.ba.answer0 h.he hs hgv
    refine ⟨f, g', d, e, ⟨h.ab.asker heq hok, hdir, ?_, ?_, ?_, ?_, h.hd, h.he⟩, by omega⟩
    · show (l.a.hear (l.b.reqP e)).st = _
      rw [hst, hsa]
      unfold stOf
      cases g'.acked <;> simp [Fz.acked]
    · show l.b.st = _
      rw [hsb, hdone]; rfl
    · show (l.toB ++ l.a.hearP (l.b.reqP e)).Perm _
      rw [hout, req_eq heq]
      have hB := h.qB
      exact (List.Perm.append_right _ hB).trans (by simp [Fz.ans])
    · show r.Perm _
      rw [hreq, ans_eq heq]; exact hr
  · have hs : l.a.st = 6 ∨ l.a.st = 8 := by
      rw [hsa]; unfold stOf; cases g.acked <;> simp [Fz.done]
    left
    obtain ⟨d', hd', hdir, heq, hok, hout, hst, hnk⟩ := h.ab.retry h.hd hs
    refine ⟨.R n, g, d', e, ⟨hdir, h.ba.answerer heq hok, ?_, hsb, ?_, ?_, hd', h.he⟩, by show 2 * n + 2 + _ < 2 * n + 3 + _; omega⟩
    · show (l.a.hear ⟨3, d, dataL z⟩).st = _
      rw [hst, hsa]; rfl
    · show (l.toB ++ l.a.hearP ⟨3, d, dataL z⟩).Perm _
      rw [hout]
      have hB := h.qB
      exact (List.Perm.append_right _ hB).trans (by simp only [Fz.req, List.nil_append]; exact List.perm_append_comm)
    · show r.Perm _
      exact hr.trans (by simp [Fz.ans])
  · have hs : l.a.st = 6 ∨ l.a.st = 8 := by
      rw [hsa]; unfold stOf; cases g.acked <;> simp [Fz.done]
    left
    obtain ⟨hdir, heq, hok, hout, hst, hnk⟩ := h.ab.close h.hd hs
    refine ⟨.D, g, d, e, ⟨hdir, h.ba.answerer heq hok, ?_, hsb, ?_, ?_, h.hd, h.he⟩, by show 0 + _ < 1 + _; omega⟩
    · show (l.a.hear ⟨2, d, l.a.sent⟩).st = _
      rw [hst, hsa]; unfold stOf; cases g.acked <;> simp [Fz.done]
    · show (l.toB ++ l.a.hearP ⟨2, d, l.a.sent⟩).Perm _
      rw [hout, List.append_nil]; exact h.qB
    · show r.Perm _
      exact hr.trans (by simp [Fz.ans])
theorem Cv0.fix {l : Ln} {f g : Fz} {d e : Nat} (h : Cv0 l f g d e) (hA : l.toA = []) (hB : l.toB = []) : Fix l ∧ l.opened = true := by
  have pA := h.qA
  have pB := h.qB
  rw [hA] at pA
  rw [hB] at pB
  have nA : g.req l.b e ++ f.ans l.a d = [] := List.nil_perm.1 pA
  have nB : f.req l.a d ++ g.ans l.b e = [] := List.nil_perm.1 pB
  have hfD : f = .D := by
    cases f with
    | D => rfl
    | A => simp [Fz.ans] at nA
    | R m => simp [Fz.req] at nB
    | N m z => simp [Fz.ans] at nA
  have hgD : g = .D := by
    cases g with
    | D => rfl
    | A => simp [Fz.ans] at nB
    | R m => simp [Fz.req] at nA
    | N m z => simp [Fz.ans] at nB
  subst hfD hgD
  exact Cv.fix (d := d) (e := e) ⟨h.ab, h.ba, h.sa, h.sb, h.qB, h.qA, h.hd, h.he, trivial, trivial⟩
inductive Ou (k : Nat) (l : Ln) : Prop
  | cv (f g : Fz) (d e : Nat) (h : Cv0 l f g d e) (hk : f.mu + g.mu + 60 ≤ k)
  | ga (h : GA l) (t : 5 ∈ l.a.told) (hk : l.ph ≤ k)
  | gb (h : GA l.swap) (t : 5 ∈ l.b.told) (hk : l.swap.ph ≤ k)
theorem Ou.swap {k : Nat} {l : Ln} (h : Ou k l) : Ou k l.swap := by
  cases h with
  | cv f g d e h hk => exact .cv g f e d h.swap (by omega)
  | ga h t hk => exact .gb h t hk
  | gb h t hk => exact .ga h t hk
theorem ph_le (l : Ln) : l.ph ≤ 2 * l.toA.length + 5 * l.toB.length + 2 := by
  have h1 := wsum_le wA 2 wA_le l.toA
  have h2 := wsum_le wB 5 wB_le l.toB
  have h3 : s9 l.b.st ≤ 2 := by unfold s9; split <;> omega
  unfold Ln.ph
  omega
theorem told_deliver {t : Nat} (l : Ln) (first : Bool) : (t ∈ l.a.told → t ∈ (l.deliver first false).1.a.told) ∧ (t ∈ l.b.told → t ∈ (l.deliver first false).1.b.told) := by
  obtain ⟨a, b, toB, toA⟩ := l
  cases first
  · cases toB with
    | nil => exact ⟨fun h => h, fun h => h⟩
    | cons p r => exact ⟨fun h => h, fun h => RE.hear_told h⟩
  · cases toA with
    | nil => exact ⟨fun h => h, fun h => h⟩
    | cons p r => exact ⟨fun h => RE.hear_told h, fun h => h⟩
theorem Ou.deliverA {k : Nat} {l : Ln} (c : Cd l) (h : Ou k l) (hm : (l.deliver true false).2 = true) : ∃ k', k' < k ∧ Ou k' (l.deliver true false).1 := by
  cases h with
  | cv f g d e h hk =>
    have hcd := c.deliverA
    cases hA : l.toA with
    | nil =>
      have e1 : l.deliver true false = (l, false) := by unfold Ln.deliver; rw [if_pos rfl, hA]
      rw [e1] at hm; cases hm
    | cons p r =>
      have e1 : l.deliver true false = (⟨l.a.hear p, l.b, l.toB ++ l.a.hearP p, r⟩, true) := by unfold Ln.deliver; rw [if_pos rfl, hA]; rfl
      rw [e1] at hcd ⊢
      rcases h.toA hA with ⟨f', g', d', e', h1, h2⟩ | ⟨h1, h2, h3, h4⟩
      · exact ⟨f'.mu + g'.mu + 60, by omega, .cv f' g' d' e' h1 (Nat.le_refl _)⟩
      · refine ⟨59, by omega, .ga ⟨hcd, .inr h1⟩ h2 ?_⟩
        have h5 := ph_le (⟨l.a.hear p, l.b, l.toB ++ l.a.hearP p, r⟩ : Ln)
        have h6 := (RE.hearP_few c.a (c.qA p (by rw [hA]; simp)).2).2
        rw [show (⟨l.a.hear p, l.b, l.toB ++ l.a.hearP p, r⟩ : Ln).toB = l.toB ++ l.a.hearP p from rfl, show (⟨l.a.hear p, l.b, l.toB ++ l.a.hearP p, r⟩ : Ln).toA = r from rfl, List.length_append] at h5
        show (⟨l.a.hear p, l.b, l.toB ++ l.a.hearP p, r⟩ : Ln).ph ≤ 59
        omega
  | ga h t hk =>
    obtain ⟨r1, r2, _⟩ := h.toA
    exact ⟨_, Nat.lt_of_lt_of_le (r2 hm) hk, .ga r1 ((told_deliver l true).1 t) (Nat.le_refl _)⟩
  | gb h t hk =>
    obtain ⟨r1, r2, _⟩ := h.toB
    have e := l.swap.deliver_swap false
    have es : l.swap.swap = l := rfl
    rw [es] at e
    have e1 : (l.swap.deliver false false).1 = (l.deliver true false).1.swap := congrArg Prod.fst e
    have e2 : (l.swap.deliver false false).2 = (l.deliver true false).2 := by rw [e]
    rw [e1] at r1 r2
    rw [e2] at r2
    exact ⟨_, Nat.lt_of_lt_of_le (r2 hm) hk, .gb r1 ((told_deliver l true).2 t) (Nat.le_refl _)⟩
theorem Ou.deliver {k : Nat} {l : Ln} (c : Cd l) (h : Ou k l) (first : Bool) (hm : (l.deliver first false).2 = true) : ∃ k', k' < k ∧ Ou k' (l.deliver first false).1 := by
  cases first
  · rw [l.deliver_swap] at hm ⊢
    obtain ⟨k', h1, h2⟩ := h.swap.deliverA c.swap hm
    exact ⟨k', h1, h2.swap⟩
  · exact h.deliverA c hm
theorem Ou.settle {k : Nat} {l : Ln} (c : Cd l) (h : Ou k l) (n : Nat) (hn : k < n) : (l.settle n).2 = true ∧ Cd (l.settle n).1 ∧ (l.settle n).1.toA = [] ∧ (l.settle n).1.toB = [] ∧ ((Fix (l.settle n).1 ∧ (l.settle n).1.opened = true) ∨ 5 ∈ (l.settle n).1.a.told ∨ 5 ∈ (l.settle n).1.b.told) := by
  obtain ⟨h1, ⟨k', h2, h5⟩, h3, h4⟩ := settle_dn (fun k m => Cd m ∧ Ou k m) (fun k m first q hm => by
    obtain ⟨k', r1, r2⟩ := q.2.deliver q.1 first hm
    exact ⟨k', r1, q.1.deliver first, r2⟩) n k l ⟨c, h⟩ hn
  refine ⟨h1, h2, h3, h4, ?_⟩
  cases h5 with
  | cv f g d e h _ => exact .inl (h.fix h3 h4)
  | ga _ t _ => exact .inr (.inl t)
  | gb _ t _ => exact .inr (.inr t)
end Go.Proofs.YtoeihlgidakjbaaGreatDoor

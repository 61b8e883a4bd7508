/- What bytes from the line keep of an end's numbers: plain mathematics. What ends send, packet by packet; whole frames: plain mathematics. What is gathered stays, whatever an end is told: plain mathematics. Two ends on a line: plain mathematics. What is sent and what is kept, by the letters: plain mathematics. An end that hears itself alone: plain mathematics. -/
import Derived.Test.YtoeihlgidakjbaaGreatDoorPc3
import Derived.Test.YtoeihlgidakjbaaGreatDoorPc2
namespace Go.Proofs.YtoeihlgidakjbaaGreatDoor
open Go.RowKit Go.Lib
namespace RE
def sc (m : RE) : Nat × Int × Int := (m.st, m.cnt, m.tim)
end RE
def scL (s : Nat × Int × Int) (c : Nat) : Nat × Int × Int :=
  if 48 ≤ c ∧ c ≤ 57 then (c - 48, s.2.1, s.2.2)
  else if c = 105 then (s.1, 5, s.2.2)
  else if c = 116 then (s.1, 2, s.2.2)
  else if c = 122 then (s.1, 0, 3)
  else if c = 114 ∨ c = 101 then (s.1, s.2.1 - 1, 3)
  else s
theorem RE.letter_sc (m : RE) (c : Nat) : (m.letter c).1.sc = scL m.sc c := by
  unfold RE.letter scL
  by_cases h : 48 ≤ c ∧ c ≤ 57
  · rw [if_pos h, if_pos h]; rfl
  · rw [if_neg h, if_neg h]
    have hn : m.nak.1.sc = m.sc := by
      obtain ⟨x, y, z, e, _⟩ := RE.nakItems_eq (m.bad ((itemsL m.pd).getD [])) m
      show RE.sc { (m.nakItems (m.bad ((itemsL m.pd).getD []))).1 with naks := _ } = _
      rw [e]; rfl
    unfold RE.act
    by_cases e117 : c = 117
    · subst e117; rfl
    rw [if_neg e117]
    by_cases e100 : c = 100
    · subst e100; rfl
    rw [if_neg e100]
    by_cases e98 : c = 98
    · subst e98; rfl
    rw [if_neg e98]
    by_cases e102 : c = 102
    · subst e102; rfl
    rw [if_neg e102]
    by_cases e105 : c = 105
    · subst e105; rfl
    rw [if_neg e105, if_neg e105]
    by_cases e116 : c = 116
    · subst e116; rfl
    rw [if_neg e116, if_neg e116]
    by_cases e122 : c = 122
    · subst e122; rfl
    rw [if_neg e122, if_neg e122]
    by_cases e114 : c = 114
    · subst e114; rfl
    rw [if_neg e114]
    by_cases e101 : c = 101
    · subst e101; rfl
    rw [if_neg e101, if_neg (show ¬ (c = 114 ∨ c = 101) by omega)]
    by_cases e97 : c = 97
    · subst e97; rfl
    rw [if_neg e97]
    by_cases e110 : c = 110
    · subst e110; exact hn
    rw [if_neg e110]
    by_cases e107 : c = 107
    · subst e107; rfl
    rw [if_neg e107]
    by_cases e106 : c = 106
    · subst e106; rfl
    rw [if_neg e106]
    by_cases e111 : c = 111
    · subst e111; rfl
    rw [if_neg e111]
theorem RE.run_sc (l : List Nat) (m : RE) : (m.run l).1.sc = l.foldl scL m.sc := by
  induction l generalizing m with
  | nil => rfl
  | cons c l ih =>
    show ((m.letter c).1.run l).1.sc = _
    rw [ih, RE.letter_sc]; rfl
def J (s : Nat × Int × Int) : Prop := 0 ≤ s.2.1 ∧ s.2.1 ≤ 5 ∧ 0 ≤ s.2.2 ∧ s.2.2 ≤ 3 ∧ ((s.1 = 7 ∨ s.1 = 9) → s.2.1 = 5)
theorem J_at (s : Nat × Int × Int) (h : J s) (ev : Nat) (hev : ev < 18) (h6 : ev = 6 → 0 < s.2.1) : J (((rowT ev).getD s.1 []).foldl scL s) := by
  obtain ⟨st, c, t⟩ := s
  by_cases hst : st < 10
  · obtain ⟨h1, h2, h3, h4, h5⟩ := h
    simp only at h1 h2 h3 h4 h5 h6 ⊢
    rcases (by omega : st = 0 ∨ st = 1 ∨ st = 2 ∨ st = 3 ∨ st = 4 ∨ st = 5 ∨ st = 6 ∨ st = 7 ∨ st = 8 ∨ st = 9) with rfl | rfl | rfl | rfl | rfl | rfl | rfl | rfl | rfl | rfl <;> rcases (by omega : ev = 0 ∨ ev = 1 ∨ ev = 2 ∨ ev = 3 ∨ ev = 4 ∨ ev = 5 ∨ ev = 6 ∨ ev = 7 ∨ ev = 8 ∨ ev = 9 ∨ ev = 10 ∨ ev = 11 ∨ ev = 12 ∨ ev = 13 ∨ ev = 14 ∨ ev = 15 ∨ ev = 16 ∨ ev = 17) with rfl | rfl | rfl | rfl | rfl | rfl | rfl | rfl | rfl | rfl | rfl | rfl | rfl | rfl | rfl | rfl | rfl | rfl <;> simp [rowT, scL, J] at h5 h6 ⊢ <;> omega
  · have : (rowT ev).getD st [] = [] := by
      have hl : (rowT ev).length ≤ 10 := by
        rcases (by omega : ev = 0 ∨ ev = 1 ∨ ev = 2 ∨ ev = 3 ∨ ev = 4 ∨ ev = 5 ∨ ev = 6 ∨ ev = 7 ∨ ev = 8 ∨ ev = 9 ∨ ev = 10 ∨ ev = 11 ∨ ev = 12 ∨ ev = 13 ∨ ev = 14 ∨ ev = 15 ∨ ev = 16 ∨ ev = 17) with rfl | rfl | rfl | rfl | rfl | rfl | rfl | rfl | rfl | rfl | rfl | rfl | rfl | rfl | rfl | rfl | rfl | rfl <;> decide
      simp only [List.getD]
      rw [List.getElem?_eq_none (by omega)]; rfl
    show J (((rowT ev).getD st []).foldl scL _)
    rw [this]; exact h
theorem RE.at_J {m : RE} (h : J m.sc) (ev : Nat) (hev : ev < 18) (h6 : ev = 6 → 0 < m.cnt) : J (m.at_ ev).1.sc := by
  unfold RE.at_
  rw [RE.run_sc]
  exact J_at m.sc h ev hev h6
structure RE.Gro (m : RE) (n : Nat) : Prop where
  ok : m.Ok
  told : m.told.length ≤ n
  mg : m.mg.length ≤ n + 1
  nk : m.naks ≤ n
  lp : m.loops ≤ n
  h0 : m.h0 ≤ n
  h1 : m.h1 ≤ n
  h2 : m.h2 ≤ n
  sn : m.sent.length ≤ 40
  ag : m.agr.length ≤ 40
  gt : m.got.length ≤ 89
theorem RE.Gro.mono {m : RE} {n k : Nat} (h : m.Gro n) (hn : n ≤ k) : m.Gro k := by
  obtain ⟨ok, h1, h2, h3, h4, h5, h6, h7, sn, ag, gt⟩ := h
  exact ⟨ok, by omega, by omega, by omega, by omega, by omega, by omega, by omega, sn, ag, gt⟩
theorem RE.Gro.lim {m : RE} {n : Nat} (h : m.Gro n) (hj : J m.sc) : m.Lim n := ⟨h.ok, hj.1, hj.2.1, hj.2.2.2.1, h.told, h.mg, h.nk, h.lp, h.h0, h.h1, h.h2, h.sn, h.ag⟩
theorem RE.Lim.gro {m : RE} {n : Nat} (h : m.Lim n) (hg : m.got.length ≤ 89) : m.Gro n := ⟨h.ok, h.told, h.mg, h.nk, h.lp, h.h0, h.h1, h.h2, h.sn, h.ag, hg⟩
theorem RE.letter_gro {m : RE} {n : Nat} (h : m.Gro n) (c : Nat) : (m.letter c).1.Gro (n + 40) := by
  have hok := RE.letter_ok h.ok c
  obtain ⟨ok, h1, h2, h3, h4, h5, h6, h7, sn, ag, gt⟩ := h
  have hpd := ok.pd
  unfold RE.letter at hok ⊢
  split
  · rename_i hc
    rw [if_pos hc] at hok
    exact ⟨hok, by show m.told.length ≤ _; omega, by show m.mg.length ≤ _; omega, by show m.naks ≤ _; omega, by show m.loops ≤ _; omega, by show m.h0 ≤ _; omega, by show m.h1 ≤ _; omega, by show m.h2 ≤ _; omega, sn, ag, gt⟩
  · rename_i hc
    rw [if_neg hc] at hok
    have hl : ∀ r : RE × List UInt8, r = m.act c → r.1.Ok := fun r e => e ▸ hok
    clear hok
    refine RE.act_ind m c (fun r => r.1.Ok → r.1.Gro (n + 40)) ?_ ?_ ?_ ?_ ?_ ?_ ?_ ?_ ?_ ?_ ?_ ?_ ?_ ?_ ?_ (hl _ rfl)
    case isFalse.refine_11 =>
      intro ho
      obtain ⟨x, y, z, e, k1, k2, k3⟩ := RE.nakItems_eq (m.bad ((itemsL m.pd).getD [])) m
      have hb := m.bads_len
      have e2 : m.nak.1 = { m with h0 := x, h1 := y, h2 := z, naks := m.naks + 1 } := by
        show ({ (m.nakItems (m.bad ((itemsL m.pd).getD []))).1 with naks := (m.nakItems (m.bad ((itemsL m.pd).getD []))).1.naks + 1 } : RE) = _
        rw [e]
      rw [e2] at ho ⊢
      exact ⟨ho, by show m.told.length ≤ _; omega, by show m.mg.length ≤ _; omega, by show m.naks + 1 ≤ _; omega, by show m.loops ≤ _; omega, by show x ≤ _; omega, by show y ≤ _; omega, by show z ≤ _; omega, sn, ag, gt⟩
    all_goals
      intro ho
      refine ⟨ho, ?_, ?_, ?_, ?_, ?_, ?_, ?_, ?_, ?_, gt⟩ <;> simp [RE.request, dataL_len, RE.asks] <;> omega
theorem RE.run_gro (l : List Nat) {m : RE} {n : Nat} (h : m.Gro n) : (m.run l).1.Gro (n + 40 * l.length) := by
  induction l generalizing m n with
  | nil => exact h
  | cons c l ih =>
    have := ih (RE.letter_gro h c)
    exact this.mono (by simp; omega)
theorem RE.at_gro {m : RE} {n : Nat} (h : m.Gro n) (ev : Nat) (hev : ev < 18) : (m.at_ ev).1.Gro (n + 160) := by
  have := RE.run_gro ((rowT ev).getD m.st []) h
  have h2 := (rowT_small ev hev m.st h.ok.st).1
  exact this.mono (by omega)
def RE.Both (m : RE) (n : Nat) : Prop := m.Gro n ∧ J m.sc
theorem RE.Both.mono {m : RE} {n k : Nat} (h : m.Both n) (hn : n ≤ k) : m.Both k := ⟨h.1.mono hn, h.2⟩
theorem RE.at_both {m : RE} {n : Nat} (h : m.Both n) (ev : Nat) (hev : ev < 18) (h6 : ev ≠ 6) : (m.at_ ev).1.Both (n + 160) := ⟨RE.at_gro h.1 ev hev, RE.at_J h.2 ev hev (fun e => absurd e h6)⟩
theorem RE.told_both {m : RE} {n : Nat} (h : m.Both n) (x : Nat) : ({ m with told := m.told ++ [x] } : RE).Both (n + 1) := by
  obtain ⟨⟨ok, h1, h2, h3, h4, h5, h6, h7, sn, ag, gt⟩, hj⟩ := h
  refine ⟨⟨⟨ok.st, ok.id, ok.odd, ok.k0, ok.k1, ok.k2, ok.pc, ok.pi, ok.pd, ok.mg, ok.ms, ok.aa, ok.ww⟩, ?_, ?_, ?_, ?_, ?_, ?_, ?_, sn, ag, gt⟩, hj⟩ <;> simp <;> omega
theorem RE.loop_both {m : RE} {n : Nat} (h : m.Both n) : ({ m with loops := m.loops + 1 } : RE).Both (n + 1) := by
  obtain ⟨⟨ok, h1, h2, h3, h4, h5, h6, h7, sn, ag, gt⟩, hj⟩ := h
  refine ⟨⟨⟨ok.st, ok.id, ok.odd, ok.k0, ok.k1, ok.k2, ok.pc, ok.pi, ok.pd, ok.mg, ok.ms, ok.aa, ok.ww⟩, ?_, ?_, ?_, ?_, ?_, ?_, ?_, sn, ag, gt⟩, hj⟩ <;> simp <;> omega
theorem RE.asked_both {m : RE} {n : Nat} (h : m.Both n) (l : List (Nat × Nat)) : (m.asked l).1.Both (n + 170) := by
  by_cases hb : m.bad l = []
  · rw [RE.asked_0 hb]; exact (RE.at_both h 8 (by omega) (by omega)).mono (by omega)
  · by_cases ha : m.st = 3 ∨ 6 ≤ m.st
    · cases ho : m.ownF l
      · by_cases hn : 20 ≤ m.naks
        · rw [RE.asked_n5 hb ha ho hn]; exact (RE.at_both (RE.told_both h 5) 4 (by omega) (by omega)).mono (by omega)
        · rw [RE.asked_n9 hb ho hn]; exact (RE.at_both h 9 (by omega) (by omega)).mono (by omega)
      · have h1 := RE.loop_both h
        by_cases hl : 3 < m.loops + 1
        · rw [RE.asked_6 hb ha ho hl]; exact (RE.at_both (RE.told_both h1 6) 4 (by omega) (by omega)).mono (by omega)
        · by_cases hn : 20 ≤ m.naks
          · rw [RE.asked_o5 hb ha ho hl hn]; exact (RE.at_both (RE.told_both h1 5) 4 (by omega) (by omega)).mono (by omega)
          · rw [RE.asked_o9 hb ha ho hl hn]; exact (RE.at_both h1 9 (by omega) (by omega)).mono (by omega)
    · rw [RE.asked_x hb ha]; exact (RE.at_both h 9 (by omega) (by omega)).mono (by omega)
theorem RE.take1_both {m : RE} {n : Nat} (h : m.Both n) (x : Nat × Nat) : (m.take1 x).Both (n + 1) := by
  have hok := RE.take1_ok h.1.ok x
  obtain ⟨⟨ok, h1, h2, h3, h4, h5, h6, h7, sn, ag, gt⟩, hj⟩ := h
  unfold RE.take1 at hok ⊢
  split
  · rename_i hc
    rw [if_pos hc] at hok
    refine ⟨⟨hok, ?_, ?_, ?_, ?_, ?_, ?_, ?_, sn, ag, gt⟩, hj⟩ <;> simp <;> omega
  · rename_i hc
    rw [if_neg hc] at hok
    split
    · rename_i hd
      rw [if_pos hd] at hok
      unfold RE.ask at hok ⊢
      split
      · rename_i e; rw [if_pos e] at hok
        refine ⟨⟨hok, ?_, ?_, ?_, ?_, ?_, ?_, ?_, sn, ag, gt⟩, hj⟩ <;> simp <;> omega
      · rename_i e; rw [if_neg e] at hok
        split
        · rename_i e; rw [if_pos e] at hok
          refine ⟨⟨hok, ?_, ?_, ?_, ?_, ?_, ?_, ?_, sn, ag, gt⟩, hj⟩ <;> simp <;> omega
        · rename_i e; rw [if_neg e] at hok
          refine ⟨⟨hok, ?_, ?_, ?_, ?_, ?_, ?_, ?_, sn, ag, gt⟩, hj⟩ <;> simp <;> omega
    · exact ⟨⟨ok, by omega, by omega, by omega, by omega, by omega, by omega, by omega, sn, ag, gt⟩, hj⟩
theorem RE.takeAll_both (l : List (Nat × Nat)) {m : RE} {n : Nat} (h : m.Both n) : (m.takeAll l).Both (n + l.length) := by
  induction l generalizing m n with
  | nil => exact h
  | cons x l ih =>
    have := ih (RE.take1_both h x)
    exact this.mono (by simp; omega)
theorem RE.receive_both {m : RE} {n : Nat} (h : m.Both n) : m.receive.1.Both (n + 200) := by
  have h0 : m.Both (n + 200) := h.mono (by omega)
  unfold RE.receive
  split
  · split
    · split
      · exact (RE.asked_both h _).mono (by omega)
      · exact h0
    · exact h0
  · split
    · split
      · exact (RE.at_both h 10 (by omega) (by omega)).mono (by omega)
      · exact h0
    · split
      · split
        · rename_i l hl
          split
          · exact h0
          · have hll : l.length ≤ 40 := Nat.le_trans (itemsAux_len _ _ _ hl) h.1.ok.pd
            exact (RE.at_both (RE.takeAll_both l h) 11 (by omega) (by omega)).mono (by omega)
        · exact h0
      · split
        · exact (RE.at_both h 12 (by omega) (by omega)).mono (by omega)
        · split
          · exact (RE.at_both h 13 (by omega) (by omega)).mono (by omega)
          · split
            · split
              · exact h0
              · split
                · exact (RE.at_both h 16 (by omega) (by omega)).mono (by omega)
                · exact (RE.at_both h 15 (by omega) (by omega)).mono (by omega)
            · split
              · exact (RE.at_both h 17 (by omega) (by omega)).mono (by omega)
              · split
                · exact h0
                · exact (RE.at_both h 14 (by omega) (by omega)).mono (by omega)
theorem RE.got_both {m : RE} {n : Nat} (h : m.Both n) (s : List UInt8) (hs : s.length ≤ 89) : ({ m with got := s } : RE).Both n := by
  obtain ⟨⟨ok, h1, h2, h3, h4, h5, h6, h7, sn, ag, gt⟩, hj⟩ := h
  exact ⟨⟨⟨ok.st, ok.id, ok.odd, ok.k0, ok.k1, ok.k2, ok.pc, ok.pi, ok.pd, ok.mg, ok.ms, ok.aa, ok.ww⟩, h1, h2, h3, h4, h5, h6, h7, sn, ag, hs⟩, hj⟩
theorem RE.come_both {m : RE} {n : Nat} (h : m.Both n) (p : UInt8 × UInt8 × List UInt8) (hp : p.2.2.length ≤ 40) : (m.come p).Both n := by
  obtain ⟨⟨ok, h1, h2, h3, h4, h5, h6, h7, sn, ag, gt⟩, hj⟩ := h
  exact ⟨⟨⟨ok.st, ok.id, ok.odd, ok.k0, ok.k1, ok.k2, p.1.toNat_lt, p.2.1.toNat_lt, hp, ok.mg, ok.ms, ok.aa, ok.ww⟩, h1, h2, h3, h4, h5, h6, h7, sn, ag, gt⟩, hj⟩
theorem RE.byte1_both {m : RE} {n : Nat} (h : m.Both n) (b : UInt8) : (m.byte1 b).1.Both (n + 200) := by
  have h0 : m.Both (n + 200) := h.mono (by omega)
  unfold RE.byte1
  split
  · show (if m.got.length ≤ 88 then { m with got := m.got ++ [b] } else m : RE).Both _
    split
    · exact RE.got_both h0 _ (by simp; omega)
    · exact h0
  · split
    · exact RE.got_both h0 _ (by simp)
    · split
      · exact RE.got_both h0 _ (by simp)
      · rename_i p hp
        exact RE.receive_both (RE.come_both (RE.got_both h _ (by simp)) p (unframeL_len hp))
theorem RE.bytes_both {m : RE} {n : Nat} (h : m.Both n) : ∀ k (l : List UInt8), l.length = k → (m.bytes l).1.Both (n + 200 * k) ∧ (n ≤ 1000000000000 → 200 * k ≤ 1000000000000 → (m.bytes l).2.length ≤ 4000 * k)
  | 0, l, hl => by
    have : l = [] := List.eq_nil_of_length_eq_zero hl
    subst this
    exact ⟨h, fun _ _ => Nat.le_refl _⟩
  | k + 1, l, hl => by
    have hne : l ≠ [] := fun e => by rw [e] at hl; simp at hl
    have e := List.dropLast_concat_getLast hne
    have hd : l.dropLast.length = k := by rw [List.length_dropLast]; omega
    obtain ⟨h1, h2⟩ := RE.bytes_both h k l.dropLast hd
    rw [← e, RE.bytes_snoc]
    refine ⟨(RE.byte1_both h1 _).mono (by omega), fun a b => ?_⟩
    have h3 := h2 a (by omega)
    have hf : (m.bytes l.dropLast).1.Fine 1 := ⟨h1.1.ok, ((h1.1.lim h1.2).fit (by omega)).less (by omega)⟩
    have h4 := RE.byte1_len hf (l.getLast hne)
    simp only [List.length_append]; omega
theorem RE.event_both {m : RE} {n : Nat} (h : m.Both n) (k : Int) : (m.event k).1.Both (n + 160) := by
  have hl : m.tim - 1 ≥ 0 → RE.Both { m with tim := m.tim - 1 } n := fun ht => by
    obtain ⟨⟨ok, h1, h2, h3, h4, h5, h6, h7, sn, ag, gt⟩, j1, j2, j3, j4, j5⟩ := h
    exact ⟨⟨⟨ok.st, ok.id, ok.odd, ok.k0, ok.k1, ok.k2, ok.pc, ok.pi, ok.pd, ok.mg, ok.ms, ok.aa, ok.ww⟩, h1, h2, h3, h4, h5, h6, h7, sn, ag, gt⟩, j1, j2, ht, by show m.tim - 1 ≤ 3; have : m.tim ≤ 3 := j4; omega, j5⟩
  unfold RE.event
  split
  · exact RE.at_both h _ (by omega) (by omega)
  · split
    · exact h.mono (by omega)
    · split
      · exact (hl (by omega)).mono (by omega)
      · split
        · rename_i hc
          exact ⟨RE.at_gro (hl (by omega)).1 6 (by omega), RE.at_J (hl (by omega)).2 6 (by omega) (fun _ => hc)⟩
        · exact RE.at_both (hl (by omega)) 7 (by omega) (by omega)
end Go.Proofs.YtoeihlgidakjbaaGreatDoor
namespace Go.Proofs.YtoeihlgidakjbaaGreatDoor
open Go.RowKit Go.Lib
structure Pq where
  c : Nat
  d : Nat
  s : List UInt8
def Pq.line (p : Pq) : List UInt8 := lineL p.c p.d p.s
def Pq.Good (p : Pq) : Prop := 1 ≤ p.c ∧ p.c < 256 ∧ p.d < 256 ∧ p.s.length ≤ 40
namespace RE
def actP (m : RE) (c : Nat) : List Pq :=
  if c = 114 then [⟨1, (m.id + 1) % 256, dataL m.asks⟩]
  else if c = 101 then [⟨5, (m.id + 1) % 256, []⟩]
  else if c = 97 then [⟨2, m.pi, m.pd⟩]
  else if c = 110 then [⟨3, m.pi, dataL (m.nakItems (m.bad ((itemsL m.pd).getD []))).2⟩]
  else if c = 107 then [⟨6, m.pi, []⟩]
  else if c = 106 then [⟨7, (m.odd + 1) % 256, (UInt8.ofNat m.pc :: UInt8.ofNat m.pi :: m.pd).take 40⟩]
  else if c = 111 then [⟨10, m.pi, m.pd⟩]
  else []
def letterP (m : RE) (c : Nat) : List Pq := if 48 ≤ c ∧ c ≤ 57 then [] else m.actP c
def runP (m : RE) : List Nat → List Pq
  | [] => []
  | c :: r => m.letterP c ++ runP (m.letter c).1 r
def atP (m : RE) (ev : Nat) : List Pq := m.runP ((rowT ev).getD m.st [])
def eventP (m : RE) (k : Int) : List Pq :=
  if 1 ≤ k ∧ k ≤ 4 then m.atP k.toNat
  else if k ≠ 5 ∨ m.st < 4 ∨ 8 < m.st ∨ m.tim ≤ 0 then []
  else if 0 < m.tim - 1 then []
  else if 0 < m.cnt then { m with tim := m.tim - 1 }.atP 6
  else { m with tim := m.tim - 1 }.atP 7
def askedP (m : RE) (l : List (Nat × Nat)) : List Pq :=
  if m.bad l = [] then m.atP 8
  else
    let m1 := if (m.st = 3 ∨ 6 ≤ m.st) ∧ m.ownF l = true then { m with loops := m.loops + 1 } else m
    if (m.st = 3 ∨ 6 ≤ m.st) ∧ m.ownF l = true ∧ 3 < m1.loops then { m1 with told := m1.told ++ [6] }.atP 4
    else if (m.st = 3 ∨ 6 ≤ m.st) ∧ 20 ≤ m.naks then { m1 with told := m1.told ++ [5] }.atP 4
    else m1.atP 9
def receiveP (m : RE) : List Pq :=
  if m.pc = 1 then (match itemsL m.pd with | some l => if l.length = 4 then m.askedP l else [] | none => [])
  else if m.pc = 2 then (if (m.pi : Int) = m.sid ∧ m.pd = m.sent then m.atP 10 else [])
  else if m.pc = 3 then (match itemsL m.pd with | some l => if l = [] ∨ (m.pi : Int) ≠ m.sid then [] else (m.takeAll l).atP 11 | none => [])
  else if m.pc = 5 then m.atP 12
  else if m.pc = 6 then m.atP 13
  else if m.pc = 7 then (match m.pd with | [] => [] | c :: _ => if c.toNat = 1 ∨ c.toNat = 2 ∨ c.toNat = 3 ∨ c.toNat = 5 ∨ c.toNat = 6 then m.atP 16 else m.atP 15)
  else if m.pc = 9 then m.atP 17
  else if m.pc = 10 then []
  else m.atP 14
def got1 (m : RE) (p : Pq) : RE := { m with pc := p.c, pi := p.d, pd := p.s }
def hear (m : RE) (p : Pq) : RE := (m.got1 p).receive.1
def hearP (m : RE) (p : Pq) : List Pq := (m.got1 p).receiveP
theorem act_out (m : RE) (c : Nat) : (m.act c).2 = (m.actP c).flatMap Pq.line := by
  by_cases e117 : c = 117
  · subst e117; rfl
  by_cases e100 : c = 100
  · subst e100; rfl
  by_cases e98 : c = 98
  · subst e98; rfl
  by_cases e102 : c = 102
  · subst e102; rfl
  by_cases e105 : c = 105
  · subst e105; rfl
  by_cases e116 : c = 116
  · subst e116; rfl
  by_cases e122 : c = 122
  · subst e122; rfl
  by_cases e114 : c = 114
  · subst e114; exact (List.append_nil _).symm
  by_cases e101 : c = 101
  · subst e101; exact (List.append_nil _).symm
  by_cases e97 : c = 97
  · subst e97; exact (List.append_nil _).symm
  by_cases e110 : c = 110
  · subst e110; exact (List.append_nil _).symm
  by_cases e107 : c = 107
  · subst e107; exact (List.append_nil _).symm
  by_cases e106 : c = 106
  · subst e106; exact (List.append_nil _).symm
  by_cases e111 : c = 111
  · subst e111; exact (List.append_nil _).symm
  unfold act actP
  rw [if_neg e117, if_neg e100, if_neg e98, if_neg e102, if_neg e105, if_neg e116, if_neg e122, if_neg e114, if_neg e101, if_neg e97, if_neg e110, if_neg e107, if_neg e106, if_neg e111, if_neg e114, if_neg e101, if_neg e97, if_neg e110, if_neg e107, if_neg e106, if_neg e111]
  rfl
theorem letter_out (m : RE) (c : Nat) : (m.letter c).2 = (m.letterP c).flatMap Pq.line := by
  unfold letter letterP
  split
  · rfl
  · exact m.act_out c
theorem run_out (l : List Nat) (m : RE) : (m.run l).2 = (m.runP l).flatMap Pq.line := by
  induction l generalizing m with
  | nil => rfl
  | cons c l ih =>
    show (m.letter c).2 ++ ((m.letter c).1.run l).2 = (m.letterP c ++ (m.letter c).1.runP l).flatMap Pq.line
    rw [List.flatMap_append, ih, letter_out]
theorem at_out (m : RE) (ev : Nat) : (m.at_ ev).2 = (m.atP ev).flatMap Pq.line := run_out _ m
theorem event_out (m : RE) (k : Int) : (m.event k).2 = (m.eventP k).flatMap Pq.line := by
  unfold event eventP
  split
  · exact at_out _ _
  · split
    · rfl
    · split
      · rfl
      · split <;> exact at_out _ _
theorem asked_out (m : RE) (l : List (Nat × Nat)) : (m.asked l).2 = (m.askedP l).flatMap Pq.line := by
  unfold asked askedP
  split
  · exact at_out _ _
  · dsimp only
    generalize (if (m.st = 3 ∨ 6 ≤ m.st) ∧ m.ownF l = true then { m with loops := m.loops + 1 } else m) = m1
    split
    · exact at_out _ _
    · split <;> exact at_out _ _
theorem receive_out (m : RE) : m.receive.2 = m.receiveP.flatMap Pq.line := by
  unfold receive receiveP
  split
  · cases itemsL m.pd with
    | none => rfl
    | some l =>
      dsimp only
      split
      · exact asked_out _ _
      · rfl
  · split
    · split
      · exact at_out _ _
      · rfl
    · split
      · cases itemsL m.pd with
        | none => rfl
        | some l =>
          dsimp only
          split
          · rfl
          · exact at_out _ _
      · split
        · exact at_out _ _
        · split
          · exact at_out _ _
          · split
            · cases m.pd with
              | nil => rfl
              | cons c t =>
                dsimp only
                split <;> exact at_out _ _
            · split
              · exact at_out _ _
              · split
                · rfl
                · exact at_out _ _
theorem got1_ok {m : RE} (h : m.Ok) {p : Pq} (hp : p.Good) : (m.got1 p).Ok := by
  obtain ⟨st, id, odd, k0, k1, k2, pc, pi, pd, mg, ms, aa, ww⟩ := h
  exact ⟨st, id, odd, k0, k1, k2, hp.2.1, hp.2.2.1, hp.2.2.2, mg, ms, aa, ww⟩
theorem got1_both {m : RE} {n : Nat} (h : m.Both n) {p : Pq} (hp : p.Good) : (m.got1 p).Both n := by
  obtain ⟨⟨ok, h1, h2, h3, h4, h5, h6, h7, sn, ag, gt⟩, hj⟩ := h
  exact ⟨⟨got1_ok ok hp, h1, h2, h3, h4, h5, h6, h7, sn, ag, gt⟩, hj⟩
theorem hear_both {m : RE} {n : Nat} (h : m.Both n) {p : Pq} (hp : p.Good) : (m.hear p).Both (n + 200) := receive_both (got1_both h hp)
end RE
theorem itemsAux_len3 : ∀ (s : List UInt8) (p : Nat) (l : List (Nat × Nat)), itemsAux s p = some l → 3 * l.length ≤ s.length
  | [], p, l, h => by cases h; simp
  | [_], p, l, h => by cases h
  | [_, _], p, l, h => by cases h
  | a :: b :: c :: r, p, l, h => by
    rw [itemsAux] at h
    split at h
    · cases h
    · obtain ⟨l', h1, h2⟩ := Option.map_eq_some_iff.1 h
      subst h2
      have := itemsAux_len3 r _ l' h1
      simp only [List.length_cons]; omega
theorem RE.bads_len3 (m : RE) : 3 * (m.bad ((itemsL m.pd).getD [])).length ≤ m.pd.length := by
  have h1 : (m.bad ((itemsL m.pd).getD [])).length ≤ ((itemsL m.pd).getD []).length := List.length_filter_le _ _
  cases h : itemsL m.pd with
  | none => simp [RE.bad]
  | some l => rw [h] at h1; have := itemsAux_len3 _ _ _ h; simp at h1 ⊢; omega
namespace RE
theorem actP_good {m : RE} (ok : m.Ok) (c : Nat) : ∀ p ∈ m.actP c, p.Good := by
  have hp := ok.pd
  have hi := ok.pi
  have h3 := m.bads_len3
  intro p
  unfold actP
  split
  · intro h; obtain rfl := List.mem_singleton.1 h; exact ⟨Nat.le_of_ble_eq_true rfl, Nat.le_of_ble_eq_true rfl, Nat.mod_lt _ (by decide), by simp [dataL_len, asks]⟩
  split
  · intro h; obtain rfl := List.mem_singleton.1 h; exact ⟨Nat.le_of_ble_eq_true rfl, Nat.le_of_ble_eq_true rfl, Nat.mod_lt _ (by decide), by simp⟩
  split
  · intro h; obtain rfl := List.mem_singleton.1 h; exact ⟨Nat.le_of_ble_eq_true rfl, Nat.le_of_ble_eq_true rfl, hi, hp⟩
  split
  · intro h; obtain rfl := List.mem_singleton.1 h; exact ⟨Nat.le_of_ble_eq_true rfl, Nat.le_of_ble_eq_true rfl, hi, by simp only [dataL_len, nakItems_len]; omega⟩
  split
  · intro h; obtain rfl := List.mem_singleton.1 h; exact ⟨Nat.le_of_ble_eq_true rfl, Nat.le_of_ble_eq_true rfl, hi, by simp⟩
  split
  · intro h; obtain rfl := List.mem_singleton.1 h; exact ⟨Nat.le_of_ble_eq_true rfl, Nat.le_of_ble_eq_true rfl, Nat.mod_lt _ (by decide), by simp only [List.length_take]; omega⟩
  split
  · intro h; obtain rfl := List.mem_singleton.1 h; exact ⟨Nat.le_of_ble_eq_true rfl, Nat.le_of_ble_eq_true rfl, hi, hp⟩
  · intro h; cases h
theorem runP_good (l : List Nat) {m : RE} (ok : m.Ok) : ∀ p ∈ m.runP l, p.Good := by
  induction l generalizing m with
  | nil => intro p h; cases h
  | cons c l ih =>
    intro p h
    rcases List.mem_append.1 (show p ∈ m.letterP c ++ (m.letter c).1.runP l from h) with q | q
    · unfold letterP at q
      split at q
      · cases q
      · exact actP_good ok c p q
    · exact ih (letter_ok ok c) p q
theorem runP_len (l : List Nat) (m : RE) : (m.runP l).length ≤ l.length := by
  induction l generalizing m with
  | nil => exact Nat.le_refl _
  | cons c l ih =>
    have h1 : (m.letterP c).length ≤ 1 := by
      unfold letterP actP
      repeat' split
      all_goals simp
    show (m.letterP c ++ (m.letter c).1.runP l).length ≤ _
    rw [List.length_append, List.length_cons]
    have := ih (m.letter c).1
    omega
def Few (ps : List Pq) : Prop := (∀ p ∈ ps, p.Good) ∧ ps.length ≤ 4
theorem few_nil : Few [] := ⟨fun _ h => (nomatch h), by simp⟩
theorem atP_few {m : RE} (ok : m.Ok) (ev : Nat) (hev : ev < 18) : Few (m.atP ev) :=
  ⟨runP_good _ ok, Nat.le_trans (runP_len _ m) (rowT_small ev hev m.st ok.st).1⟩
theorem eventP_few {m : RE} (ok : m.Ok) (k : Int) : Few (m.eventP k) := by
  have hk : ({ m with tim := m.tim - 1 } : RE).Ok := by
    obtain ⟨st, id, odd, k0, k1, k2, pc, pi, pd, mg, ms, aa, ww⟩ := ok
    exact ⟨st, id, odd, k0, k1, k2, pc, pi, pd, mg, ms, aa, ww⟩
  unfold eventP
  split
  · exact atP_few ok _ (by omega)
  · split
    · exact few_nil
    · split
      · exact few_nil
      · split <;> exact atP_few hk _ (by omega)
theorem askedP_few {m : RE} (ok : m.Ok) (l : List (Nat × Nat)) : Few (m.askedP l) := by
  unfold askedP
  split
  · exact atP_few ok _ (by omega)
  · dsimp only
    have h1 : (if (m.st = 3 ∨ 6 ≤ m.st) ∧ m.ownF l = true then { m with loops := m.loops + 1 } else m).Ok := by
      split
      · obtain ⟨st, id, odd, k0, k1, k2, pc, pi, pd, mg, ms, aa, ww⟩ := ok
        exact ⟨st, id, odd, k0, k1, k2, pc, pi, pd, mg, ms, aa, ww⟩
      · exact ok
    generalize (if (m.st = 3 ∨ 6 ≤ m.st) ∧ m.ownF l = true then { m with loops := m.loops + 1 } else m) = m1 at *
    have h2 : ∀ x, ({ m1 with told := m1.told ++ [x] } : RE).Ok := fun x => by
      obtain ⟨st, id, odd, k0, k1, k2, pc, pi, pd, mg, ms, aa, ww⟩ := h1
      exact ⟨st, id, odd, k0, k1, k2, pc, pi, pd, mg, ms, aa, ww⟩
    split
    · exact atP_few (h2 6) _ (by omega)
    · split
      · exact atP_few (h2 5) _ (by omega)
      · exact atP_few h1 _ (by omega)
theorem receiveP_few {m : RE} (ok : m.Ok) : Few m.receiveP := by
  unfold receiveP
  split
  · cases itemsL m.pd with
    | none => exact few_nil
    | some l =>
      dsimp only
      split
      · exact askedP_few ok _
      · exact few_nil
  · split
    · split
      · exact atP_few ok _ (by omega)
      · exact few_nil
    · split
      · cases itemsL m.pd with
        | none => exact few_nil
        | some l =>
          dsimp only
          split
          · exact few_nil
          · exact atP_few (takeAll_ok l ok) _ (by omega)
      · split
        · exact atP_few ok _ (by omega)
        · split
          · exact atP_few ok _ (by omega)
          · split
            · cases m.pd with
              | nil => exact few_nil
              | cons c t =>
                dsimp only
                split <;> exact atP_few ok _ (by omega)
            · split
              · exact atP_few ok _ (by omega)
              · split
                · exact few_nil
                · exact atP_few ok _ (by omega)
theorem hearP_few {m : RE} (ok : m.Ok) {p : Pq} (hp : p.Good) : Few (m.hearP p) := receiveP_few (got1_ok ok hp)
end RE
def Pq.body (p : Pq) : List UInt8 := escL (content (UInt8.ofNat p.c) (UInt8.ofNat p.d) p.s)
theorem Pq.line_eq (p : Pq) : p.line = 126 :: (p.body ++ [126]) := rfl
theorem Pq.body_noflag (p : Pq) : ∀ c ∈ p.body, ¬ c.toNat = 126 := escL_noflag _
theorem Pq.body_len (p : Pq) (h : p.Good) : 4 ≤ p.body.length ∧ p.body.length ≤ 88 := by
  have := escL_len (content (UInt8.ofNat p.c) (UInt8.ofNat p.d) p.s)
  rw [content_len] at this
  have h4 := h.2.2.2
  unfold Pq.body
  omega
theorem Pq.line_len (p : Pq) (h : p.Good) : p.line.length ≤ 90 := by
  have := p.body_len h
  rw [p.line_eq]
  simp only [List.length_cons, List.length_append, List.length_nil]; omega
theorem Pq.read (p : Pq) (h : p.Good) : unframeL p.body = some (UInt8.ofNat p.c, UInt8.ofNat p.d, p.s) := by
  have hu : unesc p.body = some (content (UInt8.ofNat p.c) (UInt8.ofNat p.d) p.s) := by
    unfold unesc
    have : un p.body [] false = some (content (UInt8.ofNat p.c) (UInt8.ofNat p.d) p.s) := rd_escL' _
    rw [this]
    have h4 := h.2.2.2
    simp only [content_len]
    rw [if_pos (by omega)]
  have hs := sumL_lt (headOf (UInt8.ofNat p.c) (UInt8.ofNat p.d) p.s)
  unfold unframeL
  rw [hu]
  have hlen : (content (UInt8.ofNat p.c) (UInt8.ofNat p.d) p.s).length - 2 = (headOf (UInt8.ofNat p.c) (UInt8.ofNat p.d) p.s).length := by rw [content_len, headOf_len]; omega
  have e1 : (content (UInt8.ofNat p.c) (UInt8.ofNat p.d) p.s).take ((content (UInt8.ofNat p.c) (UInt8.ofNat p.d) p.s).length - 2) = UInt8.ofNat p.c :: UInt8.ofNat p.d :: p.s := by
    rw [hlen]; unfold content; exact List.take_left
  have e2 : (content (UInt8.ofNat p.c) (UInt8.ofNat p.d) p.s).drop ((content (UInt8.ofNat p.c) (UInt8.ofNat p.d) p.s).length - 2) = [UInt8.ofNat (sumL (headOf (UInt8.ofNat p.c) (UInt8.ofNat p.d) p.s) % 256), UInt8.ofNat (sumL (headOf (UInt8.ofNat p.c) (UInt8.ofNat p.d) p.s) / 256)] := by
    rw [hlen]; unfold content; exact List.drop_left
  simp only [e1, e2]
  refine if_pos ⟨?_, ?_⟩
  · show le16 _ _ = sumL (headOf (UInt8.ofNat p.c) (UInt8.ofNat p.d) p.s)
    unfold le16
    generalize sumL (headOf (UInt8.ofNat p.c) (UInt8.ofNat p.d) p.s) = z at *
    rw [UInt8.toNat_ofNat_of_lt' (by show z % 256 < 256; omega), UInt8.toNat_ofNat_of_lt' (by show z / 256 < 256; omega)]
    omega
  · rw [UInt8.toNat_ofNat_of_lt' (by exact h.2.1)]; have := h.1; omega
theorem RE.bytes_cons (m : RE) (b : UInt8) (l : List UInt8) : m.bytes (b :: l) = (((m.byte1 b).1.bytes l).1, (m.byte1 b).2 ++ ((m.byte1 b).1.bytes l).2) := by
  have : ∀ (l : List UInt8) (m : RE) (o : List UInt8), l.foldl (fun (r : RE × List UInt8) b => ((r.1.byte1 b).1, r.2 ++ (r.1.byte1 b).2)) (m, o) = ((m.bytes l).1, o ++ (m.bytes l).2) := by
    intro l
    induction l with
    | nil => intro m o; simp [RE.bytes]
    | cons c l ih =>
      intro m o
      unfold RE.bytes
      rw [List.foldl_cons, List.foldl_cons, ih, ih]
      simp
  unfold RE.bytes
  rw [List.foldl_cons, this]
  simp [RE.bytes]
theorem RE.bytes_app (m : RE) (l r : List UInt8) : m.bytes (l ++ r) = (((m.bytes l).1.bytes r).1, (m.bytes l).2 ++ ((m.bytes l).1.bytes r).2) := by
  induction l generalizing m with
  | nil => simp [RE.bytes]
  | cons b l ih => rw [List.cons_append, RE.bytes_cons, ih, RE.bytes_cons]; simp
theorem RE.bytes_plain (l : List UInt8) (m : RE) (h : ∀ c ∈ l, ¬ c.toNat = 126) (hl : m.got.length + l.length ≤ 88) : m.bytes l = ({ m with got := m.got ++ l }, []) := by
  induction l generalizing m with
  | nil => simp [RE.bytes]
  | cons b l ih =>
    have hb : m.byte1 b = ({ m with got := m.got ++ [b] }, []) := by
      unfold RE.byte1
      rw [if_pos (h b (by simp)), if_pos (by simp at hl; omega)]
    rw [RE.bytes_cons, hb]
    rw [ih { m with got := m.got ++ [b] } (fun c hc => h c (by simp [hc])) (by simp at hl ⊢; omega)]
    simp
theorem RE.bytes_line (m : RE) (p : Pq) (h : p.Good) (hg : m.got = []) : m.bytes p.line = (m.hear p, (m.hearP p).flatMap Pq.line) := by
  have h1 : m.byte1 126 = (m, []) := by
    unfold RE.byte1
    rw [if_neg (by decide), if_pos (.inl hg)]
    have : ({ m with got := [] } : RE) = m := by rw [← hg]
    rw [this]
  have hbl := p.body_len h
  rw [p.line_eq, RE.bytes_cons, h1, RE.bytes_app, RE.bytes_plain p.body m p.body_noflag (by rw [hg]; simp; omega)]
  have e0 : m.got ++ p.body = p.body := by rw [hg]; rfl
  rw [e0]
  have hlast : ({ m with got := p.body } : RE).bytes [126] = (m.hear p, (m.hearP p).flatMap Pq.line) := by
    rw [RE.bytes_cons]
    have : ({ m with got := p.body } : RE).byte1 126 = (m.hear p, (m.hearP p).flatMap Pq.line) := by
      unfold RE.byte1
      rw [if_neg (by decide), if_neg (by show ¬ (p.body = [] ∨ 88 < p.body.length); rintro (e | e); · rw [e] at hbl; simp at hbl
                                         · omega)]
      have hr : unframeL ({ m with got := p.body } : RE).got = some (UInt8.ofNat p.c, UInt8.ofNat p.d, p.s) := p.read h
      rw [hr]
      have : ((({ { m with got := p.body } with got := [] } : RE)).come (UInt8.ofNat p.c, UInt8.ofNat p.d, p.s)) = m.got1 p := by
        unfold RE.come RE.got1
        simp only
        rw [UInt8.toNat_ofNat_of_lt' (by exact h.2.1), UInt8.toNat_ofNat_of_lt' (by exact h.2.2.1), ← hg]
      dsimp only
      rw [this]
      exact Prod.ext rfl (RE.receive_out _)
    rw [this]
    simp [RE.bytes]
  rw [hlast]
  simp
def frStep (s : List (List UInt8) × Option (List UInt8)) (b : UInt8) : List (List UInt8) × Option (List UInt8) :=
  if b.toNat ≠ 126 then (s.1, s.2.map (· ++ [b])) else match s.2 with
    | none => (s.1, some [b])
    | some c => (s.1 ++ [c ++ [b]], none)
def framesL (l : List UInt8) : List (List UInt8) := (l.foldl frStep ([], none)).1
theorem frStep_plain (l : List UInt8) (h : ∀ c ∈ l, ¬ c.toNat = 126) (o : List (List UInt8)) (c : List UInt8) : l.foldl frStep (o, some c) = (o, some (c ++ l)) := by
  induction l generalizing c with
  | nil => simp
  | cons b l ih =>
    rw [List.foldl_cons]
    have : frStep (o, some c) b = (o, some (c ++ [b])) := by unfold frStep; rw [if_pos (h b (by simp))]; rfl
    rw [this, ih (fun x hx => h x (by simp [hx]))]
    simp
theorem frames_fold (ps : List Pq) (o : List (List UInt8)) : (ps.flatMap Pq.line).foldl frStep (o, none) = (o ++ ps.map Pq.line, none) := by
  induction ps generalizing o with
  | nil => simp
  | cons p ps ih =>
    have h1 : p.line.foldl frStep (o, none) = (o ++ [p.line], none) := by
      rw [p.line_eq, List.foldl_cons]
      have : frStep (o, none) 126 = (o, some [126]) := rfl
      rw [this, List.foldl_append, frStep_plain _ p.body_noflag]
      rfl
    rw [List.flatMap_cons, List.foldl_append, h1, ih]
    simp
theorem framesL_lines (ps : List Pq) : framesL (ps.flatMap Pq.line) = ps.map Pq.line := by
  unfold framesL; rw [frames_fold]; rfl
end Go.Proofs.YtoeihlgidakjbaaGreatDoor
namespace Go.Proofs.YtoeihlgidakjbaaGreatDoor
open Go.RowKit Go.Lib
theorem RE.letter_got (m : RE) (c : Nat) : (m.letter c).1.got = m.got := by
  unfold RE.letter
  split
  · rfl
  · refine RE.act_ind m c (fun r => r.1.got = m.got) ?_ ?_ ?_ ?_ ?_ ?_ ?_ ?_ ?_ ?_ ?_ ?_ ?_ ?_ ?_
    all_goals first
      | rfl
      | skip
    show (m.nak).1.got = m.got
    unfold RE.nak
    obtain ⟨x, y, z, e, _⟩ := RE.nakItems_eq (m.bad ((itemsL m.pd).getD [])) m
    simp only [e]
theorem RE.run_got (l : List Nat) (m : RE) : (m.run l).1.got = m.got := by
  induction l generalizing m with
  | nil => rfl
  | cons c l ih => exact (ih _).trans (m.letter_got c)
theorem RE.event_got (m : RE) (k : Int) : (m.event k).1.got = m.got := by
  unfold RE.event
  split
  · exact RE.run_got _ m
  · split
    · rfl
    · split
      · rfl
      · split <;> exact RE.run_got _ _
end Go.Proofs.YtoeihlgidakjbaaGreatDoor
namespace Go.Proofs.YtoeihlgidakjbaaGreatDoor
open Go.RowKit Go.Lib
theorem RE.asked_got (m : RE) (l : List (Nat × Nat)) : (m.asked l).1.got = m.got := by
  unfold RE.asked
  split
  · exact RE.run_got _ _
  · dsimp only
    have h1 : (if (m.st = 3 ∨ 6 ≤ m.st) ∧ m.ownF l = true then { m with loops := m.loops + 1 } else m).got = m.got := by split <;> rfl
    generalize (if (m.st = 3 ∨ 6 ≤ m.st) ∧ m.ownF l = true then { m with loops := m.loops + 1 } else m) = m1 at *
    split
    · exact (RE.run_got _ _).trans h1
    · split
      · exact (RE.run_got _ _).trans h1
      · exact (RE.run_got _ _).trans h1
theorem RE.take1_got (m : RE) (x : Nat × Nat) : (m.take1 x).got = m.got := by
  unfold RE.take1 RE.ask
  repeat' split
  all_goals rfl
theorem RE.takeAll_got (l : List (Nat × Nat)) (m : RE) : (m.takeAll l).got = m.got := by
  induction l generalizing m with
  | nil => rfl
  | cons x l ih => exact (ih (m.take1 x)).trans (m.take1_got x)
theorem RE.receive_got (m : RE) : m.receive.1.got = m.got := by
  unfold RE.receive
  split
  · cases itemsL m.pd with
    | none => rfl
    | some l =>
      dsimp only
      split
      · exact RE.asked_got _ _
      · rfl
  · split
    · split
      · exact RE.run_got _ _
      · rfl
    · split
      · cases itemsL m.pd with
        | none => rfl
        | some l =>
          dsimp only
          split
          · rfl
          · exact (RE.run_got _ _).trans (RE.takeAll_got _ _)
      · split
        · exact RE.run_got _ _
        · split
          · exact RE.run_got _ _
          · split
            · cases m.pd with
              | nil => rfl
              | cons c t =>
                dsimp only
                split <;> exact RE.run_got _ _
            · split
              · exact RE.run_got _ _
              · split
                · rfl
                · exact RE.run_got _ _
theorem RE.hear_got (m : RE) (p : Pq) : (m.hear p).got = m.got := RE.receive_got (m.got1 p)
structure Ln where
  a : RE
  b : RE
  toB : List Pq
  toA : List Pq
namespace Ln
def tell (l : Ln) (first : Bool) (k : Int) : Ln :=
  if first = true then ⟨(l.a.event k).1, l.b, l.toB ++ l.a.eventP k, l.toA⟩ else ⟨l.a, (l.b.event k).1, l.toB, l.toA ++ l.b.eventP k⟩
def deliver (l : Ln) (first lost : Bool) : Ln × Bool :=
  if first = true then match l.toA with
    | [] => (l, false)
    | p :: r => (if lost = true then ⟨l.a, l.b, l.toB, r⟩ else ⟨l.a.hear p, l.b, l.toB ++ l.a.hearP p, r⟩, true)
  else match l.toB with
    | [] => (l, false)
    | p :: r => (if lost = true then ⟨l.a, l.b, r, l.toA⟩ else ⟨l.a, l.b.hear p, r, l.toA ++ l.b.hearP p⟩, true)
def both (l : Ln) : Ln × Bool := let x := l.deliver true false; let y := x.1.deliver false false; (y.1, x.2 || y.2)
def settle (l : Ln) : Nat → Ln × Bool
  | 0 => (l, false)
  | n + 1 => if l.both.2 = true then settle l.both.1 n else (l.both.1, true)
def opened (l : Ln) : Bool := decide (l.a.st = 9) && decide (l.b.st = 9)
structure Ok (l : Ln) (n : Nat) : Prop where
  a : l.a.Both n
  b : l.b.Both n
  ga : l.a.got = []
  gb : l.b.got = []
  pB : ∀ p ∈ l.toB, p.Good
  pA : ∀ p ∈ l.toA, p.Good
  lB : l.toB.length ≤ n
  lA : l.toA.length ≤ n
theorem Ok.mono {l : Ln} {n k : Nat} (h : l.Ok n) (hn : n ≤ k) : l.Ok k := ⟨h.a.mono hn, h.b.mono hn, h.ga, h.gb, h.pB, h.pA, Nat.le_trans h.lB hn, Nat.le_trans h.lA hn⟩
theorem Ok.tell {l : Ln} {n : Nat} (h : l.Ok n) (first : Bool) (k : Int) : (l.tell first k).Ok (n + 200) := by
  unfold Ln.tell
  split
  · have hf := RE.eventP_few h.a.1.ok k
    refine ⟨(RE.event_both h.a k).mono (by omega), h.b.mono (by omega), (RE.event_got _ _).trans h.ga, h.gb, ?_, h.pA, ?_, Nat.le_trans h.lA (by omega)⟩
    · intro p hp
      rcases List.mem_append.1 hp with q | q
      · exact h.pB p q
      · exact hf.1 p q
    · have := h.lB; have := hf.2; simp only [List.length_append]; omega
  · have hf := RE.eventP_few h.b.1.ok k
    refine ⟨h.a.mono (by omega), (RE.event_both h.b k).mono (by omega), h.ga, (RE.event_got _ _).trans h.gb, h.pB, ?_, Nat.le_trans h.lB (by omega), ?_⟩
    · intro p hp
      rcases List.mem_append.1 hp with q | q
      · exact h.pA p q
      · exact hf.1 p q
    · have := h.lA; have := hf.2; simp only [List.length_append]; omega
theorem Ok.deliver {l : Ln} {n : Nat} (h : l.Ok n) (first lost : Bool) : (l.deliver first lost).1.Ok (n + 200) := by
  unfold Ln.deliver
  split
  · cases hA : l.toA with
    | nil => exact h.mono (by omega)
    | cons p r =>
      have hpg : p.Good := h.pA p (by rw [hA]; simp)
      have hr : ∀ q ∈ r, q.Good := fun q hq => h.pA q (by rw [hA]; simp [hq])
      have hl : r.length ≤ n := by have := h.lA; rw [hA] at this; simp at this; omega
      dsimp only
      split
      · exact ⟨h.a.mono (by omega), h.b.mono (by omega), h.ga, h.gb, h.pB, hr, Nat.le_trans h.lB (by omega), Nat.le_trans hl (by omega)⟩
      · have hf := RE.hearP_few h.a.1.ok hpg
        refine ⟨RE.hear_both h.a hpg, h.b.mono (by omega), (RE.hear_got _ _).trans h.ga, h.gb, ?_, hr, ?_, Nat.le_trans hl (by omega)⟩
        · intro q hq
          rcases List.mem_append.1 hq with x | x
          · exact h.pB q x
          · exact hf.1 q x
        · have := h.lB; have := hf.2; simp only [List.length_append]; omega
  · cases hB : l.toB with
    | nil => exact h.mono (by omega)
    | cons p r =>
      have hpg : p.Good := h.pB p (by rw [hB]; simp)
      have hr : ∀ q ∈ r, q.Good := fun q hq => h.pB q (by rw [hB]; simp [hq])
      have hl : r.length ≤ n := by have := h.lB; rw [hB] at this; simp at this; omega
      dsimp only
      split
      · exact ⟨h.a.mono (by omega), h.b.mono (by omega), h.ga, h.gb, hr, h.pA, Nat.le_trans hl (by omega), Nat.le_trans h.lA (by omega)⟩
      · have hf := RE.hearP_few h.b.1.ok hpg
        refine ⟨h.a.mono (by omega), RE.hear_both h.b hpg, h.ga, (RE.hear_got _ _).trans h.gb, hr, ?_, Nat.le_trans hl (by omega), ?_⟩
        · intro q hq
          rcases List.mem_append.1 hq with x | x
          · exact h.pA q x
          · exact hf.1 q x
        · have := h.lA; have := hf.2; simp only [List.length_append]; omega
theorem Ok.clear {l : Ln} {n : Nat} (h : l.Ok n) : ({ l with toB := [], toA := [] } : Ln).Ok n :=
  ⟨h.a, h.b, h.ga, h.gb, fun _ x => (nomatch x), fun _ x => (nomatch x), Nat.zero_le _, Nat.zero_le _⟩
theorem Ok.both {l : Ln} {n : Nat} (h : l.Ok n) : l.both.1.Ok (n + 400) := (h.deliver true false).deliver false false
theorem Ok.settle (k : Nat) {l : Ln} {n : Nat} (h : l.Ok n) : (l.settle k).1.Ok (n + 400 * k) := by
  induction k generalizing l n with
  | zero => exact h
  | succ k ih =>
    unfold Ln.settle
    split
    · exact (ih h.both).mono (by omega)
    · exact h.both.mono (by omega)
def Each (P : RE → Prop) (l : Ln) : Prop := P l.a ∧ P l.b
section
variable {P : RE → Prop} (ev : ∀ m k, P m → P (m.event k).1) (hr : ∀ m p, P m → P (m.hear p))
include ev in
theorem Each.tell {l : Ln} (h : l.Each P) (first : Bool) (k : Int) : (l.tell first k).Each P := by
  unfold Ln.tell
  split
  · exact ⟨ev _ _ h.1, h.2⟩
  · exact ⟨h.1, ev _ _ h.2⟩
include hr in
theorem Each.deliver {l : Ln} (h : l.Each P) (first lost : Bool) : (l.deliver first lost).1.Each P := by
  unfold Ln.deliver
  split
  · cases l.toA with
    | nil => exact h
    | cons p r =>
      dsimp only
      split
      · exact h
      · exact ⟨hr _ _ h.1, h.2⟩
  · cases l.toB with
    | nil => exact h
    | cons p r =>
      dsimp only
      split
      · exact h
      · exact ⟨h.1, hr _ _ h.2⟩
include ev hr in
end
end Ln
end Go.Proofs.YtoeihlgidakjbaaGreatDoor
namespace Go.Proofs.YtoeihlgidakjbaaGreatDoor
open Go.RowKit Go.Lib
namespace RE
theorem receive_ind (m : RE) (P : RE → List Pq → Prop) (h0 : P m [])
    (h8 : ∀ l, m.pc = 1 → itemsL m.pd = some l → l.length = 4 → m.bad l = [] → P (m.at_ 8).1 (m.atP 8))
    (h9 : ∀ l n, m.pc = 1 → itemsL m.pd = some l → l.length = 4 → m.bad l ≠ [] → (m.ownF l = false → n = m.loops) → (¬ (m.st = 3 ∨ 6 ≤ m.st) ∨ m.naks < 20) → P ({ m with loops := n }.at_ 9).1 ({ m with loops := n }.atP 9))
    (h4 : ∀ l n t, m.pc = 1 → itemsL m.pd = some l → l.length = 4 → m.bad l ≠ [] → (t = 5 ∨ t = 6) → (m.st = 3 ∨ 6 ≤ m.st) → (t = 6 → m.ownF l = true) → (t = 5 → 20 ≤ m.naks) → P ({ m with loops := n, told := m.told ++ [t] }.at_ 4).1 ({ m with loops := n, told := m.told ++ [t] }.atP 4))
    (h10 : m.pc = 2 → (m.pi : Int) = m.sid → m.pd = m.sent → P (m.at_ 10).1 (m.atP 10))
    (h11 : ∀ l, m.pc = 3 → itemsL m.pd = some l → l ≠ [] → (m.pi : Int) = m.sid → P ((m.takeAll l).at_ 11).1 ((m.takeAll l).atP 11))
    (hx : ∀ ev, (ev = 12 ∧ m.pc = 5) ∨ (ev = 13 ∧ m.pc = 6) ∨ (ev = 16 ∧ m.pc = 7) ∨ (ev = 15 ∧ m.pc = 7) ∨ (ev = 17 ∧ m.pc = 9) ∨ (ev = 14 ∧ m.pc ≠ 1 ∧ m.pc ≠ 2 ∧ m.pc ≠ 3 ∧ m.pc ≠ 5 ∧ m.pc ≠ 6 ∧ m.pc ≠ 7 ∧ m.pc ≠ 9 ∧ m.pc ≠ 10) → P (m.at_ ev).1 (m.atP ev)) :
    P m.receive.1 m.receiveP := by
  unfold receive receiveP
  by_cases c1 : m.pc = 1
  · rw [if_pos c1, if_pos c1]
    cases hi : itemsL m.pd with
    | none => exact h0
    | some l =>
      dsimp only
      by_cases hl : l.length = 4
      · rw [if_pos hl, if_pos hl]
        unfold asked askedP
        by_cases hb : m.bad l = []
        · rw [if_pos hb, if_pos hb]; exact h8 l c1 hi hl hb
        · rw [if_neg hb, if_neg hb]
          dsimp only
          by_cases ho : (m.st = 3 ∨ 6 ≤ m.st) ∧ m.ownF l = true
          · rw [if_pos ho]
            by_cases h3 : (m.st = 3 ∨ 6 ≤ m.st) ∧ m.ownF l = true ∧ 3 < m.loops + 1
            · rw [if_pos h3, if_pos h3]; exact h4 l (m.loops + 1) 6 c1 hi hl hb (.inr rfl) ho.1 (fun _ => ho.2) (fun e => by omega)
            · rw [if_neg h3, if_neg h3]
              by_cases hn : (m.st = 3 ∨ 6 ≤ m.st) ∧ 20 ≤ m.naks
              · rw [if_pos hn, if_pos hn]; exact h4 l (m.loops + 1) 5 c1 hi hl hb (.inl rfl) ho.1 (fun e => by omega) (fun _ => hn.2)
              · rw [if_neg hn, if_neg hn]; exact h9 l (m.loops + 1) c1 hi hl hb (fun e => by rw [ho.2] at e; cases e) (.inr (by have := ho.1; omega))
          · rw [if_neg ho]
            by_cases h3 : (m.st = 3 ∨ 6 ≤ m.st) ∧ m.ownF l = true ∧ 3 < m.loops
            · exact absurd ⟨h3.1, h3.2.1⟩ ho
            · rw [if_neg h3, if_neg h3]
              by_cases hn : (m.st = 3 ∨ 6 ≤ m.st) ∧ 20 ≤ m.naks
              · rw [if_pos hn, if_pos hn]; exact h4 l m.loops 5 c1 hi hl hb (.inl rfl) hn.1 (fun e => by omega) (fun _ => hn.2)
              · rw [if_neg hn, if_neg hn]; exact h9 l m.loops c1 hi hl hb (fun _ => rfl) (by
                  by_cases q : m.st = 3 ∨ 6 ≤ m.st
                  · exact .inr (by omega)
                  · exact .inl q)
      · rw [if_neg hl, if_neg hl]; exact h0
  · rw [if_neg c1, if_neg c1]
    by_cases c2 : m.pc = 2
    · rw [if_pos c2, if_pos c2]
      by_cases hh : (m.pi : Int) = m.sid ∧ m.pd = m.sent
      · rw [if_pos hh, if_pos hh]; exact h10 c2 hh.1 hh.2
      · rw [if_neg hh, if_neg hh]; exact h0
    · rw [if_neg c2, if_neg c2]
      by_cases c3 : m.pc = 3
      · rw [if_pos c3, if_pos c3]
        cases hi : itemsL m.pd with
        | none => exact h0
        | some l =>
          dsimp only
          by_cases hh : l = [] ∨ (m.pi : Int) ≠ m.sid
          · rw [if_pos hh, if_pos hh]; exact h0
          · rw [if_neg hh, if_neg hh]; exact h11 l c3 hi (fun e => hh (.inl e)) (Classical.byContradiction fun e => hh (.inr e))
      · rw [if_neg c3, if_neg c3]
        by_cases c5 : m.pc = 5
        · rw [if_pos c5, if_pos c5]; exact hx 12 (.inl ⟨rfl, c5⟩)
        · rw [if_neg c5, if_neg c5]
          by_cases c6 : m.pc = 6
          · rw [if_pos c6, if_pos c6]; exact hx 13 (.inr (.inl ⟨rfl, c6⟩))
          · rw [if_neg c6, if_neg c6]
            by_cases c7 : m.pc = 7
            · rw [if_pos c7, if_pos c7]
              cases m.pd with
              | nil => exact h0
              | cons c t =>
                dsimp only
                by_cases hh : c.toNat = 1 ∨ c.toNat = 2 ∨ c.toNat = 3 ∨ c.toNat = 5 ∨ c.toNat = 6
                · rw [if_pos hh, if_pos hh]; exact hx 16 (.inr (.inr (.inl ⟨rfl, c7⟩)))
                · rw [if_neg hh, if_neg hh]; exact hx 15 (.inr (.inr (.inr (.inl ⟨rfl, c7⟩))))
            · rw [if_neg c7, if_neg c7]
              by_cases c9 : m.pc = 9
              · rw [if_pos c9, if_pos c9]; exact hx 17 (.inr (.inr (.inr (.inr (.inl ⟨rfl, c9⟩)))))
              · rw [if_neg c9, if_neg c9]
                by_cases c10 : m.pc = 10
                · rw [if_pos c10, if_pos c10]; exact h0
                · rw [if_neg c10, if_neg c10]; exact hx 14 (.inr (.inr (.inr (.inr (.inr ⟨rfl, c1, c2, c3, c5, c6, c7, c9, c10⟩)))))
theorem event_ind (m : RE) (k : Int) (P : RE → List Pq → Prop) (h0 : ∀ t : Int, P { m with tim := t } [])
    (hx : ∀ ev : Nat, 1 ≤ ev → ev ≤ 4 → k = (ev : Int) → P (m.at_ ev).1 (m.atP ev)) (ht : ∀ (ev : Nat) (t : Int), k = 5 → (ev = 6 ∨ ev = 7) → 4 ≤ m.st → m.st ≤ 8 → P ({ m with tim := t }.at_ ev).1 ({ m with tim := t }.atP ev)) : P (m.event k).1 (m.eventP k) := by
  unfold event eventP
  by_cases h1 : 1 ≤ k ∧ k ≤ 4
  · rw [if_pos h1, if_pos h1]; exact hx k.toNat (by omega) (by omega) (by omega)
  · rw [if_neg h1, if_neg h1]
    by_cases h2 : k ≠ 5 ∨ m.st < 4 ∨ 8 < m.st ∨ m.tim ≤ 0
    · rw [if_pos h2, if_pos h2]; exact h0 m.tim
    · rw [if_neg h2, if_neg h2]
      by_cases h3 : 0 < m.tim - 1
      · rw [if_pos h3, if_pos h3]; exact h0 _
      · rw [if_neg h3, if_neg h3]
        by_cases h4 : 0 < m.cnt
        · rw [if_pos h4, if_pos h4]; exact ht 6 _ (by omega) (.inl rfl) (by omega) (by omega)
        · rw [if_neg h4, if_neg h4]; exact ht 7 _ (by omega) (.inr rfl) (by omega) (by omega)
structure Cf (m n : RE) : Prop where
  w0 : n.w0 = m.w0
  w1 : n.w1 = m.w1
  w2 : n.w2 = m.w2
  a0 : n.a0 = m.a0
  a1 : n.a1 = m.a1
  a2 : n.a2 = m.a2
  k0 : n.k0 = m.k0
  k1 : n.k1 = m.k1
  k2 : n.k2 = m.k2
  mg : n.mg = m.mg
  pc : n.pc = m.pc
  pi : n.pi = m.pi
  pd : n.pd = m.pd
theorem Cf.refl (m : RE) : Cf m m := ⟨rfl, rfl, rfl, rfl, rfl, rfl, rfl, rfl, rfl, rfl, rfl, rfl, rfl⟩
theorem Cf.trans {m n o : RE} (h : Cf m n) (g : Cf n o) : Cf m o := ⟨g.w0.trans h.w0, g.w1.trans h.w1, g.w2.trans h.w2, g.a0.trans h.a0, g.a1.trans h.a1, g.a2.trans h.a2, g.k0.trans h.k0, g.k1.trans h.k1, g.k2.trans h.k2, g.mg.trans h.mg, g.pc.trans h.pc, g.pi.trans h.pi, g.pd.trans h.pd⟩
theorem letter_cf (m : RE) (c : Nat) : Cf m (m.letter c).1 := by
  unfold letter
  split
  · exact ⟨rfl, rfl, rfl, rfl, rfl, rfl, rfl, rfl, rfl, rfl, rfl, rfl, rfl⟩
  · refine act_ind m c (fun r => Cf m r.1) ?_ ?_ ?_ ?_ ?_ ?_ ?_ ?_ ?_ ?_ ?_ ?_ ?_ ?_ ?_
    all_goals first
      | exact ⟨rfl, rfl, rfl, rfl, rfl, rfl, rfl, rfl, rfl, rfl, rfl, rfl, rfl⟩
      | skip
    obtain ⟨x, y, z, e, _⟩ := nakItems_eq (m.bad ((itemsL m.pd).getD [])) m
    have e2 : m.nak.1 = { m with h0 := x, h1 := y, h2 := z, naks := m.naks + 1 } := by
      show ({ (m.nakItems (m.bad ((itemsL m.pd).getD []))).1 with naks := (m.nakItems (m.bad ((itemsL m.pd).getD []))).1.naks + 1 } : RE) = _
      rw [e]
    show Cf m m.nak.1
    rw [e2]
    exact ⟨rfl, rfl, rfl, rfl, rfl, rfl, rfl, rfl, rfl, rfl, rfl, rfl, rfl⟩
theorem run_cf (l : List Nat) (m : RE) : Cf m (m.run l).1 := by
  induction l generalizing m with
  | nil => exact Cf.refl m
  | cons c l ih => exact (m.letter_cf c).trans (ih _)
theorem at_cf (m : RE) (ev : Nat) : Cf m (m.at_ ev).1 := run_cf _ m
theorem Cf.asks {m n : RE} (h : Cf m n) : n.asks = m.asks := by unfold RE.asks RE.mag; rw [h.k0, h.k1, h.k2, h.mg]
theorem Cf.want {m n : RE} (h : Cf m n) (i : Nat) : n.want i = m.want i := by unfold RE.want; rw [h.w0, h.w1, h.w2]
theorem Cf.acc {m n : RE} (h : Cf m n) (i : Nat) : n.acc i = m.acc i := by unfold RE.acc; rw [h.a0, h.a1, h.a2]
theorem runP_what (l : List Nat) (m : RE) : ∀ p ∈ m.runP l, (p.c = 1 → p.s = dataL m.asks) ∧ (p.c = 2 → 97 ∈ l ∧ p.d = m.pi ∧ p.s = m.pd) := by
  induction l generalizing m with
  | nil => intro p h; cases h
  | cons c l ih =>
    intro p h
    rcases List.mem_append.1 (show p ∈ m.letterP c ++ (m.letter c).1.runP l from h) with q | q
    · unfold letterP at q
      split at q
      · cases q
      · unfold actP at q
        split at q
        · obtain rfl := List.mem_singleton.1 q; exact ⟨fun _ => rfl, fun e => by simp at e⟩
        split at q
        · obtain rfl := List.mem_singleton.1 q; exact ⟨fun e => by simp at e, fun e => by simp at e⟩
        split at q
        · rename_i e; obtain rfl := List.mem_singleton.1 q; exact ⟨fun e => by simp at e, fun _ => ⟨by simp [e], rfl, rfl⟩⟩
        split at q
        · obtain rfl := List.mem_singleton.1 q; exact ⟨fun e => by simp at e, fun e => by simp at e⟩
        split at q
        · obtain rfl := List.mem_singleton.1 q; exact ⟨fun e => by simp at e, fun e => by simp at e⟩
        split at q
        · obtain rfl := List.mem_singleton.1 q; exact ⟨fun e => by simp at e, fun e => by simp at e⟩
        split at q
        · obtain rfl := List.mem_singleton.1 q; exact ⟨fun e => by simp at e, fun e => by simp at e⟩
        · cases q
    · have hc := m.letter_cf c
      obtain ⟨i1, i2⟩ := ih _ p q
      exact ⟨fun e => by rw [i1 e, hc.asks], fun e => ⟨by simp [(i2 e).1], by rw [(i2 e).2.1, hc.pi], by rw [(i2 e).2.2, hc.pd]⟩⟩
theorem no_ack : ∀ ev, ev < 18 → ev ≠ 8 → ∀ st, st < 10 → 97 ∉ (rowT ev).getD st [] := by decide +kernel
theorem atP_req {m : RE} (ev : Nat) : ∀ p ∈ m.atP ev, p.c = 1 → p.s = dataL m.asks := fun p hp => (runP_what _ m p hp).1
theorem atP_ack {m : RE} (ev : Nat) (hev : ev < 18) (h8 : ev ≠ 8) (hs : m.st < 10) : ∀ p ∈ m.atP ev, p.c ≠ 2 := fun p hp e => no_ack ev hev h8 m.st hs ((runP_what _ m p hp).2 e).1
def stL (s c : Nat) : Nat := if 48 ≤ c ∧ c ≤ 57 then c - 48 else s
theorem letter_st (m : RE) (c : Nat) : (m.letter c).1.st = stL m.st c := by
  have := m.letter_sc c
  unfold sc scL at this
  unfold stL
  split
  · rename_i h; rw [if_pos h] at this; exact congrArg Prod.fst this
  · rename_i h
    rw [if_neg h] at this
    have h1 := congrArg Prod.fst this
    simp only at h1
    rw [h1]
    repeat' split
    all_goals rfl
theorem run_stL (l : List Nat) (m : RE) : (m.run l).1.st = l.foldl stL m.st := by
  induction l generalizing m with
  | nil => rfl
  | cons c l ih =>
    show ((m.letter c).1.run l).1.st = _
    rw [ih, letter_st]; rfl
theorem at_st (m : RE) (ev : Nat) : (m.at_ ev).1.st = ((rowT ev).getD m.st []).foldl stL m.st := run_stL _ m
theorem st_lt : ∀ ev, ev < 18 → ∀ st, st < 10 → ((rowT ev).getD st []).foldl stL st < 10 := by decide +kernel
def keepsSt (e x y : Nat) : Bool := (List.range 18).all fun ev => (List.range 10).all fun st => ev == e || st == x || st == y || (((rowT ev).getD st []).foldl stL st != x && ((rowT ev).getD st []).foldl stL st != y)
theorem keepsSt_of {e x y : Nat} (h : keepsSt e x y = true) (ev : Nat) (hev : ev < 18) (he : ev ≠ e) (st : Nat) (hs : st < 10) (hx : st ≠ x) (hy : st ≠ y) : ((rowT ev).getD st []).foldl stL st ≠ x ∧ ((rowT ev).getD st []).foldl stL st ≠ y := by
  have h1 := List.all_eq_true.1 h ev (List.mem_range.2 hev)
  have h2 := List.all_eq_true.1 h1 st (List.mem_range.2 hs)
  simpa [he, hx, hy] using h2
theorem st_79 (ev : Nat) (hev : ev < 18) (he : ev ≠ 10) (st : Nat) (hs : st < 10) (hx : st ≠ 7) (hy : st ≠ 9) : ((rowT ev).getD st []).foldl stL st ≠ 7 ∧ ((rowT ev).getD st []).foldl stL st ≠ 9 := keepsSt_of (by decide +kernel) ev hev he st hs hx hy
theorem st_89 (ev : Nat) (hev : ev < 18) (he : ev ≠ 8) (st : Nat) (hs : st < 10) (hx : st ≠ 8) (hy : st ≠ 9) : ((rowT ev).getD st []).foldl stL st ≠ 8 ∧ ((rowT ev).getD st []).foldl stL st ≠ 9 := keepsSt_of (by decide +kernel) ev hev he st hs hx hy
end RE
def Asc : Nat → List (Nat × Nat) → Prop
  | _, [] => True
  | p, x :: r => p < x.1 ∧ x.1 ≤ 4 ∧ x.2 < 65536 ∧ Asc x.1 r
theorem itemsAux_data : ∀ (l : List (Nat × Nat)) (p : Nat), Asc p l → itemsAux (dataL l) p = some l
  | [], p, _ => rfl
  | x :: r, p, h => by
    obtain ⟨h1, h2, h3, h4⟩ := h
    have e : dataL (x :: r) = UInt8.ofNat x.1 :: UInt8.ofNat (x.2 % 256) :: UInt8.ofNat (x.2 / 256) :: dataL r := rfl
    have e1 : (UInt8.ofNat x.1).toNat = x.1 := UInt8.toNat_ofNat_of_lt' (by show x.1 < 256; omega)
    have e2 : (UInt8.ofNat (x.2 % 256)).toNat = x.2 % 256 := UInt8.toNat_ofNat_of_lt' (by show x.2 % 256 < 256; omega)
    have e3 : (UInt8.ofNat (x.2 / 256)).toNat = x.2 / 256 := UInt8.toNat_ofNat_of_lt' (by show x.2 / 256 < 256; omega)
    rw [e, itemsAux, e1, e2, e3, if_neg (by omega), itemsAux_data r x.1 h4]
    have : x.2 % 256 + 256 * (x.2 / 256) = x.2 := by omega
    rw [this]; rfl
theorem itemsL_data {l : List (Nat × Nat)} (h : Asc 0 l) : itemsL (dataL l) = some l := itemsAux_data l 0 h
theorem RE.Ok.asc {m : RE} (h : m.Ok) : Asc 0 m.asks := by
  obtain ⟨_, _, _, _, hm⟩ := h.mag
  have := h.k0; have := h.k1; have := h.k2
  exact ⟨by show 0 < 1; omega, by show 1 ≤ 4; omega, by show m.k0 < 65536; omega, by show 1 < 2; omega, by show 2 ≤ 4; omega, by show m.k1 < 65536; omega, by show 2 < 3; omega, by show 3 ≤ 4; omega, by show m.k2 < 65536; omega, by show 3 < 4; omega, by show 4 ≤ 4; omega, by show m.mag < 65536; omega, trivial⟩
theorem RE.Ok.items {m : RE} (h : m.Ok) : itemsL (dataL m.asks) = some m.asks := itemsL_data h.asc
theorem RE.mag_mem {m : RE} (h : m.Ok) : m.mag ∈ m.mg := by
  obtain ⟨k, hk, _, e, _⟩ := h.mag
  rw [← e]; exact List.getElem_mem hk
namespace RE
def kk (m : RE) (o : Nat) : Nat := if o = 1 then m.k0 else if o = 2 then m.k1 else m.k2
theorem kk_asks (m : RE) (o : Nat) (ho : 1 ≤ o) (h3 : o ≤ 3) : (o, m.kk o) ∈ m.asks := by
  rcases (by omega : o = 1 ∨ o = 2 ∨ o = 3) with rfl | rfl | rfl <;> simp [asks, kk]
theorem Cf.kk {m n : RE} (h : Cf m n) (o : Nat) : n.kk o = m.kk o := by unfold RE.kk; rw [h.k0, h.k1, h.k2]
structure Wt (m : RE) (o : Nat) : Prop where
  ok : m.Ok
  k : 200 ≤ m.kk o
  w : ∀ v ∈ m.want o, 200 ≤ v
  s7 : m.st ≠ 7
  s9 : m.st ≠ 9
def Far (o : Nat) (p : Pq) : Prop := p.c = 1 → ∃ l v, itemsL p.s = some l ∧ (o, v) ∈ l ∧ 200 ≤ v
theorem Wt.at_ {m : RE} {o : Nat} (h : m.Wt o) (ho : 1 ≤ o) (h3 : o ≤ 3) (ev : Nat) (hev : ev < 18) (h10 : ev ≠ 10) : (m.at_ ev).1.Wt o ∧ ∀ p ∈ m.atP ev, Far o p := by
  have cf := m.at_cf ev
  have hst := m.at_st ev
  obtain ⟨q7, q9⟩ := st_79 ev hev h10 m.st h.ok.st h.s7 h.s9
  refine ⟨⟨run_ok h.ok _, by rw [cf.kk]; exact h.k, by rw [cf.want]; exact h.w, by rw [hst]; exact q7, by rw [hst]; exact q9⟩, fun p hp hc => ?_⟩
  rw [atP_req ev p hp hc]
  exact ⟨_, _, h.ok.items, m.kk_asks o ho h3, h.k⟩
theorem Wt.take1 {m : RE} {o : Nat} (h : m.Wt o) (ho : 1 ≤ o) (h3 : o ≤ 3) (x : Nat × Nat) (hx : 1 ≤ x.1) (hx4 : x.1 ≤ 4) : (m.take1 x).Wt o := by
  have hok := take1_ok h.ok x
  unfold RE.take1 at hok ⊢
  split
  · rename_i e; rw [if_pos e] at hok; exact ⟨hok, h.k, h.w, h.s7, h.s9⟩
  · rename_i e
    rw [if_neg e] at hok
    split
    · rename_i hw
      rw [if_pos hw] at hok
      refine ⟨hok, ?_, ?_, ?_, ?_⟩
      · by_cases hoe : x.1 = o
        · have : (m.ask x.1 x.2).kk o = x.2 := by
            subst hoe
            rcases (by omega : x.1 = 1 ∨ x.1 = 2 ∨ x.1 = 3) with q | q | q <;> rw [q] <;> rfl
          rw [this]
          exact h.w _ (hoe ▸ hw)
        · have : (m.ask x.1 x.2).kk o = m.kk o := by
            rcases (by omega : x.1 = 1 ∨ x.1 = 2 ∨ x.1 = 3) with q | q | q <;> rcases (by omega : o = 1 ∨ o = 2 ∨ o = 3) with r | r | r <;> rw [q, r] <;> first | rfl | (exfalso; omega)
          rw [this]; exact h.k
      · have : (m.ask x.1 x.2).want o = m.want o := by unfold RE.ask; repeat' split
                                                       all_goals rfl
        rw [this]; exact h.w
      · have : (m.ask x.1 x.2).st = m.st := by unfold RE.ask; repeat' split
                                               all_goals rfl
        rw [this]; exact h.s7
      · have : (m.ask x.1 x.2).st = m.st := by unfold RE.ask; repeat' split
                                               all_goals rfl
        rw [this]; exact h.s9
    · exact h
theorem Wt.takeAll (l : List (Nat × Nat)) {m : RE} {o : Nat} (h : m.Wt o) (ho : 1 ≤ o) (h3 : o ≤ 3) (hl : ∀ x ∈ l, 1 ≤ x.1 ∧ x.1 ≤ 4) : (m.takeAll l).Wt o := by
  induction l generalizing m with
  | nil => exact h
  | cons x l ih => exact ih (h.take1 ho h3 x (hl x (by simp)).1 (hl x (by simp)).2) (fun y hy => hl y (by simp [hy]))
end RE
theorem itemsAux_ids : ∀ (s : List UInt8) (p : Nat) (l : List (Nat × Nat)), itemsAux s p = some l → ∀ x ∈ l, 1 ≤ x.1 ∧ x.1 ≤ 4
  | [], p, l, h => by cases h; intro x hx; cases hx
  | [_], p, l, h => by cases h
  | [_, _], p, l, h => by cases h
  | a :: b :: c :: r, p, l, h => by
    rw [itemsAux] at h
    split at h
    · cases h
    · rename_i hh
      obtain ⟨l', h1, h2⟩ := Option.map_eq_some_iff.1 h
      subst h2
      have := itemsAux_ids r _ l' h1
      intro x hx
      rcases List.mem_cons.1 hx with rfl | hx
      · simp only; omega
      · exact this x hx
namespace RE
theorem Wt.event {m : RE} {o : Nat} (h : m.Wt o) (ho : 1 ≤ o) (h3 : o ≤ 3) (k : Int) : (m.event k).1.Wt o ∧ ∀ p ∈ m.eventP k, Far o p := by
  have ht : ∀ t, ({ m with tim := t } : RE).Wt o := fun t => by
    obtain ⟨⟨st, id, odd, k0, k1, k2, pc, pi, pd, mg, ms, aa, ww⟩, a, b, c, d⟩ := h
    exact ⟨⟨st, id, odd, k0, k1, k2, pc, pi, pd, mg, ms, aa, ww⟩, a, b, c, d⟩
  refine event_ind m k (fun n ps => n.Wt o ∧ ∀ p ∈ ps, Far o p) (fun t => ⟨ht t, fun _ x => (nomatch x)⟩) (fun ev h1 h4 _ => h.at_ ho h3 ev (by omega) (by omega)) (fun ev t _ hh _ _ => (ht t).at_ ho h3 ev (by omega) (by omega))
theorem Wt.hear {m : RE} {o : Nat} (h : m.Wt o) (ho : 1 ≤ o) (h3 : o ≤ 3) (p : Pq) (hp : p.Good) (h2 : p.c ≠ 2) : (m.hear p).Wt o ∧ ∀ q ∈ m.hearP p, Far o q := by
  have hg : (m.got1 p).Wt o := ⟨got1_ok h.ok hp, h.k, h.w, h.s7, h.s9⟩
  have hgn : ∀ n, ({ m.got1 p with loops := n } : RE).Wt o := fun n => by
    obtain ⟨⟨st, id, odd, k0, k1, k2, pc, pi, pd, mg, ms, aa, ww⟩, a, b, c, d⟩ := hg
    exact ⟨⟨st, id, odd, k0, k1, k2, pc, pi, pd, mg, ms, aa, ww⟩, a, b, c, d⟩
  have hgt : ∀ n t, ({ m.got1 p with loops := n, told := (m.got1 p).told ++ [t] } : RE).Wt o := fun n t => by
    obtain ⟨⟨st, id, odd, k0, k1, k2, pc, pi, pd, mg, ms, aa, ww⟩, a, b, c, d⟩ := hg
    exact ⟨⟨st, id, odd, k0, k1, k2, pc, pi, pd, mg, ms, aa, ww⟩, a, b, c, d⟩
  refine receive_ind (m.got1 p) (fun n ps => n.Wt o ∧ ∀ q ∈ ps, Far o q) ⟨hg, fun _ x => (nomatch x)⟩ (fun l _ _ _ _ => hg.at_ ho h3 8 (by omega) (by omega)) (fun l n _ _ _ _ _ _ => (hgn n).at_ ho h3 9 (by omega) (by omega)) (fun l n t _ _ _ _ _ _ _ _ => (hgt n t).at_ ho h3 4 (by omega) (by omega)) (fun e => absurd e h2) (fun l _ hi _ _ => (hg.takeAll l ho h3 (itemsAux_ids _ _ _ hi)).at_ ho h3 11 (by omega) (by omega)) (fun ev hev => hg.at_ ho h3 ev (by omega) (by omega))
structure Nt (m : RE) (o : Nat) : Prop where
  st : m.st < 10
  a : ∀ v ∈ m.acc o, v < 200
theorem Nt.at_ {m : RE} {o : Nat} (h : m.Nt o) (ev : Nat) (hev : ev < 18) (h8 : ev ≠ 8) : (m.at_ ev).1.Nt o ∧ ∀ p ∈ m.atP ev, p.c ≠ 2 :=
  ⟨⟨by rw [m.at_st ev]; exact st_lt ev hev m.st h.st, by rw [(m.at_cf ev).acc]; exact h.a⟩, atP_ack ev hev h8 h.st⟩
theorem Nt.event {m : RE} {o : Nat} (h : m.Nt o) (k : Int) : (m.event k).1.Nt o ∧ ∀ p ∈ m.eventP k, p.c ≠ 2 := by
  have ht : ∀ t, ({ m with tim := t } : RE).Nt o := fun t => ⟨h.st, h.a⟩
  refine event_ind m k (fun n ps => n.Nt o ∧ ∀ p ∈ ps, p.c ≠ 2) (fun t => ⟨ht t, fun _ x => (nomatch x)⟩) (fun ev h1 h4 _ => h.at_ ev (by omega) (by omega)) (fun ev t _ hh _ _ => (ht t).at_ ev (by omega) (by omega))
theorem takeAll_nt (l : List (Nat × Nat)) {m : RE} {o : Nat} (h : m.Nt o) : (m.takeAll l).Nt o := by
  induction l generalizing m with
  | nil => exact h
  | cons x l ih =>
    refine ih ?_
    unfold RE.take1 RE.ask
    repeat' split
    all_goals exact ⟨h.st, h.a⟩
theorem Nt.hear {m : RE} {o : Nat} (h : m.Nt o) (ho : 1 ≤ o) (h3 : o ≤ 3) (p : Pq) (hf : Far o p) : (m.hear p).Nt o ∧ ∀ q ∈ m.hearP p, q.c ≠ 2 := by
  have hg : (m.got1 p).Nt o := ⟨h.st, h.a⟩
  refine receive_ind (m.got1 p) (fun n ps => n.Nt o ∧ ∀ q ∈ ps, q.c ≠ 2) ⟨hg, fun _ x => (nomatch x)⟩ (fun l hc hi _ hb => ?_) (fun l n _ _ _ _ _ _ => Nt.at_ (m := { m.got1 p with loops := n }) ⟨hg.st, hg.a⟩ 9 (by omega) (by omega)) (fun l n t _ _ _ _ _ _ _ _ => Nt.at_ (m := { m.got1 p with loops := n, told := (m.got1 p).told ++ [t] }) ⟨hg.st, hg.a⟩ 4 (by omega) (by omega)) (fun _ _ _ => hg.at_ 10 (by omega) (by omega)) (fun l _ hi _ _ => (takeAll_nt l hg).at_ 11 (by omega) (by omega)) (fun ev hev => hg.at_ ev (by omega) (by omega))
  obtain ⟨l', v, h1, h2, h4⟩ := hf hc
  have : l' = l := Option.some.inj (h1.symm.trans hi)
  subst this
  exfalso
  have hm : (o, v) ∈ (m.got1 p).bad l' := by
    refine List.mem_filter.2 ⟨h2, ?_⟩
    unfold isBad
    rw [if_neg (by show ¬ o = 4; omega)]
    have : v ∉ (m.got1 p).acc o := fun q => by have := hg.a v q; omega
    simp [this]
  rw [hb] at hm
  cases hm
end RE
structure Nv (o : Nat) (x y : RE) (out back : List Pq) : Prop where
  x : x.Wt o
  y : y.Nt o
  out : ∀ p ∈ out, RE.Far o p
  back : ∀ p ∈ back, p.c ≠ 2
theorem mem_app {α : Type} {P : α → Prop} {l r : List α} (h : ∀ x ∈ l, P x) (g : ∀ x ∈ r, P x) : ∀ x ∈ l ++ r, P x := fun x hx => (List.mem_append.1 hx).elim (h x) (g x)
namespace Nv
variable {o : Nat} {x y : RE} {out back : List Pq} (ho : 1 ≤ o) (h3 : o ≤ 3)
include ho h3
theorem xev (h : Nv o x y out back) (k : Int) : Nv o (x.event k).1 y (out ++ x.eventP k) back := ⟨(h.x.event ho h3 k).1, h.y, mem_app h.out (h.x.event ho h3 k).2, h.back⟩
theorem yhear {p : Pq} (h : Nv o x y (p :: out) back) : Nv o x (y.hear p) out (back ++ y.hearP p) :=
  ⟨h.x, (h.y.hear ho h3 p (h.out p (by simp))).1, fun q hq => h.out q (by simp [hq]), mem_app h.back (h.y.hear ho h3 p (h.out p (by simp))).2⟩
theorem xhear {p : Pq} (hp : p.Good) (h : Nv o x y out (p :: back)) : Nv o (x.hear p) y (out ++ x.hearP p) back :=
  ⟨(h.x.hear ho h3 p hp (h.back p (by simp))).1, h.y, mem_app h.out (h.x.hear ho h3 p hp (h.back p (by simp))).2, fun q hq => h.back q (by simp [hq])⟩
omit ho h3
theorem yev (h : Nv o x y out back) (k : Int) : Nv o x (y.event k).1 out (back ++ y.eventP k) := ⟨h.x, (h.y.event k).1, h.out, mem_app h.back (h.y.event k).2⟩
theorem dropo {p : Pq} (h : Nv o x y (p :: out) back) : Nv o x y out back := ⟨h.x, h.y, fun q hq => h.out q (by simp [hq]), h.back⟩
theorem dropb {p : Pq} (h : Nv o x y out (p :: back)) : Nv o x y out back := ⟨h.x, h.y, h.out, fun q hq => h.back q (by simp [hq])⟩
theorem clear (h : Nv o x y out back) : Nv o x y [] [] := ⟨h.x, h.y, fun _ q => (nomatch q), fun _ q => (nomatch q)⟩
end Nv
namespace Ln
def Nev (l : Ln) (o : Nat) (way : Bool) : Prop := if way = true then Nv o l.a l.b l.toB l.toA else Nv o l.b l.a l.toA l.toB
theorem Nev.tell {l : Ln} {o : Nat} {way : Bool} (ho : 1 ≤ o) (h3 : o ≤ 3) (h : l.Nev o way) (first : Bool) (k : Int) : (l.tell first k).Nev o way := by
  unfold Nev at h ⊢
  unfold Ln.tell
  cases way <;> cases first <;> simp only [if_true, if_false, Bool.false_eq_true] at h ⊢
  · exact h.xev ho h3 k
  · exact h.yev k
  · exact h.yev k
  · exact h.xev ho h3 k
theorem Nev.deliver {l : Ln} {o : Nat} {way : Bool} {n : Nat} (ho : 1 ≤ o) (h3 : o ≤ 3) (ok : l.Ok n) (h : l.Nev o way) (first lost : Bool) : (l.deliver first lost).1.Nev o way := by
  unfold Nev at h ⊢
  unfold Ln.deliver
  obtain ⟨a, b, toB, toA⟩ := l
  cases first
  · simp only [if_false, Bool.false_eq_true]
    cases toB with
    | nil => exact h
    | cons p r =>
      have hp : p.Good := ok.pB p (by simp)
      cases way <;> cases lost <;> simp only [if_true, if_false, Bool.false_eq_true] at h ⊢
      · exact h.xhear ho h3 hp
      · exact h.dropb
      · exact h.yhear ho h3
      · exact h.dropo
  · simp only [if_true]
    cases toA with
    | nil => exact h
    | cons p r =>
      have hp : p.Good := ok.pA p (by simp)
      cases way <;> cases lost <;> simp only [if_true, if_false, Bool.false_eq_true] at h ⊢
      · exact h.yhear ho h3
      · exact h.dropo
      · exact h.xhear ho h3 hp
      · exact h.dropb
end Ln
end Go.Proofs.YtoeihlgidakjbaaGreatDoor
namespace Go.Proofs.YtoeihlgidakjbaaGreatDoor
open Go.RowKit Go.Lib
namespace RE
def Mine (mg : List Nat) (p : Pq) : Prop := p.c = 1 → ∃ l v, itemsL p.s = some l ∧ (4, v) ∈ l ∧ v ∈ mg
structure Lo (m : RE) : Prop where
  ok : m.Ok
  s8 : m.st ≠ 8
  s9 : m.st ≠ 9
theorem Mine.mono {mg mg' : List Nat} {p : Pq} (h : Mine mg p) (hm : ∀ x ∈ mg, x ∈ mg') : Mine mg' p := fun e => by
  obtain ⟨l, v, h1, h2, h3⟩ := h e
  exact ⟨l, v, h1, h2, hm v h3⟩
def LoS (m n : RE) (ps : List Pq) : Prop := n.Lo ∧ (∀ x ∈ m.mg, x ∈ n.mg) ∧ ∀ p ∈ ps, Mine n.mg p
theorem Lo.at_ {m : RE} (h : m.Lo) (ev : Nat) (hev : ev < 18) (h8 : ev ≠ 8) : LoS m (m.at_ ev).1 (m.atP ev) := by
  have cf := m.at_cf ev
  have hst := m.at_st ev
  obtain ⟨q8, q9⟩ := st_89 ev hev h8 m.st h.ok.st h.s8 h.s9
  refine ⟨⟨run_ok h.ok _, by rw [hst]; exact q8, by rw [hst]; exact q9⟩, fun x hx => by rw [cf.mg]; exact hx, fun p hp hc => ?_⟩
  rw [atP_req ev p hp hc, cf.mg]
  exact ⟨_, m.mag, h.ok.items, by simp [asks], mag_mem h.ok⟩
theorem take1_mgs (m : RE) (x : Nat × Nat) : ∀ y ∈ m.mg, y ∈ (m.take1 x).mg := by
  intro y hy
  unfold take1 ask
  repeat' split
  all_goals first
    | exact hy
    | exact List.mem_append.2 (.inl hy)
theorem takeAll_mgs (l : List (Nat × Nat)) (m : RE) : ∀ y ∈ m.mg, y ∈ (m.takeAll l).mg := by
  induction l generalizing m with
  | nil => intro y hy; exact hy
  | cons x l ih => intro y hy; exact ih (m.take1 x) y (m.take1_mgs x y hy)
structure Tk (m n : RE) : Prop where
  st : n.st = m.st
  sid : n.sid = m.sid
  id : n.id = m.id
  loops : n.loops = m.loops
  naks : n.naks = m.naks
  told : n.told = m.told
theorem takeAll_tk (l : List (Nat × Nat)) (m : RE) : Tk m (m.takeAll l) := by
  induction l generalizing m with
  | nil => exact ⟨rfl, rfl, rfl, rfl, rfl, rfl⟩
  | cons x l ih =>
    have h1 := ih (m.take1 x)
    have h2 : Tk m (m.take1 x) := by
      unfold take1 ask
      repeat' split
      all_goals exact ⟨rfl, rfl, rfl, rfl, rfl, rfl⟩
    exact ⟨h1.st.trans h2.st, h1.sid.trans h2.sid, h1.id.trans h2.id, h1.loops.trans h2.loops, h1.naks.trans h2.naks, h1.told.trans h2.told⟩
theorem Lo.event {m : RE} (h : m.Lo) (k : Int) : LoS m (m.event k).1 (m.eventP k) := by
  have ht : ∀ t, ({ m with tim := t } : RE).Lo := fun t => by
    obtain ⟨⟨st, id, odd, k0, k1, k2, pc, pi, pd, mg, ms, aa, ww⟩, a, b⟩ := h
    exact ⟨⟨st, id, odd, k0, k1, k2, pc, pi, pd, mg, ms, aa, ww⟩, a, b⟩
  exact event_ind m k (fun n ps => LoS m n ps) (fun t => ⟨ht t, fun _ x => x, fun _ x => (nomatch x)⟩) (fun ev h1 h4 _ => h.at_ ev (by omega) (by omega)) (fun ev t _ hh _ _ => (ht t).at_ ev (by omega) (by omega))
theorem Lo.hear {m : RE} (h : m.Lo) (p : Pq) (hp : p.Good) (hm : Mine m.mg p) : LoS m (m.hear p) (m.hearP p) := by
  have hg : (m.got1 p).Lo := ⟨got1_ok h.ok hp, h.s8, h.s9⟩
  have hgn : ∀ n, ({ m.got1 p with loops := n } : RE).Lo := fun n => by
    obtain ⟨⟨st, id, odd, k0, k1, k2, pc, pi, pd, mg, ms, aa, ww⟩, a, b⟩ := hg
    exact ⟨⟨st, id, odd, k0, k1, k2, pc, pi, pd, mg, ms, aa, ww⟩, a, b⟩
  have hgt : ∀ n t, ({ m.got1 p with loops := n, told := (m.got1 p).told ++ [t] } : RE).Lo := fun n t => by
    obtain ⟨⟨st, id, odd, k0, k1, k2, pc, pi, pd, mg, ms, aa, ww⟩, a, b⟩ := hg
    exact ⟨⟨st, id, odd, k0, k1, k2, pc, pi, pd, mg, ms, aa, ww⟩, a, b⟩
  refine receive_ind (m.got1 p) (fun n ps => LoS (m.got1 p) n ps) ⟨hg, fun _ x => x, fun _ x => (nomatch x)⟩ (fun l hc hi _ hb => ?_) (fun l n _ _ _ _ _ _ => (hgn n).at_ 9 (by omega) (by omega)) (fun l n t _ _ _ _ _ _ _ _ => (hgt n t).at_ 4 (by omega) (by omega)) (fun _ _ _ => hg.at_ 10 (by omega) (by omega)) (fun l _ hi _ _ => ?_) (fun ev hev => hg.at_ ev (by omega) (by omega))
  · obtain ⟨l', v, h1, h2, h4⟩ := hm hc
    have : l' = l := Option.some.inj (h1.symm.trans hi)
    subst this
    exfalso
    have hm : (4, v) ∈ (m.got1 p).bad l' := by
      refine List.mem_filter.2 ⟨h2, ?_⟩
      unfold isBad
      rw [if_pos rfl]
      exact decide_eq_true h4
    rw [hb] at hm
    cases hm
  · have tk := takeAll_tk l (m.got1 p)
    have hl : ((m.got1 p).takeAll l).Lo := ⟨takeAll_ok l hg.ok, by rw [tk.st]; exact hg.s8, by rw [tk.st]; exact hg.s9⟩
    obtain ⟨a1, a2, a3⟩ := hl.at_ 11 (by omega) (by omega)
    exact ⟨a1, fun x hx => a2 x (takeAll_mgs l (m.got1 p) x hx), a3⟩
end RE
theorem Asc.mono {p q : Nat} {l : List (Nat × Nat)} (h : Asc p l) (hq : q ≤ p) : Asc q l := by
  cases l with
  | nil => trivial
  | cons x r => exact ⟨by have := h.1; omega, h.2.1, h.2.2.1, h.2.2.2⟩
theorem Asc.filter (f : Nat × Nat → Bool) (l : List (Nat × Nat)) {p : Nat} (h : Asc p l) : Asc p (l.filter f) := by
  induction l generalizing p with
  | nil => trivial
  | cons x r ih =>
    obtain ⟨h1, h2, h3, h4⟩ := h
    rw [List.filter_cons]
    split
    · exact ⟨h1, h2, h3, ih h4⟩
    · exact ih (h4.mono (by omega))
theorem nakItems_asc (L : List (Nat × Nat)) (m : RE) {p : Nat} (h : Asc p L) (ha : ∀ i, ∀ x ∈ m.acc i, x < 256) : Asc p (m.nakItems L).2 := by
  induction L generalizing m p with
  | nil => trivial
  | cons y L ih =>
    obtain ⟨h1, h2, h3, h4⟩ := h
    show Asc p ((m.named1 y).2 :: ((m.named1 y).1.nakItems L).2)
    obtain ⟨a, b, c, e, _⟩ := m.named1_eq y
    have hr := ih (m.named1 y).1 h4 (by rw [e]; exact ha)
    have hf : (m.named1 y).2.1 = y.1 ∧ (m.named1 y).2.2 < 65536 := by
      unfold RE.named1
      split
      · have := getD_lt (m.acc y.1) (m.hint y.1 % (m.acc y.1).length) 256 (ha y.1) (by decide)
        exact ⟨rfl, by simp only; omega⟩
      · exact ⟨rfl, by simp only; omega⟩
    exact ⟨by rw [hf.1]; exact h1, by rw [hf.1]; exact h2, hf.2, by rw [hf.1]; exact hr⟩
namespace RE
structure Ph (m : RE) (ps : List Pq) (i : Nat) : Prop where
  ok : m.Ok
  r : i ≤ 6 → i % 2 = 0 → m.st = 6 ∧ m.loops = i / 2 ∧ m.naks = i / 2 ∧ ∃ d : Nat, d < 256 ∧ m.sid = (d : Int) ∧ ps = [⟨1, d, dataL m.asks⟩]
  n : i ≤ 6 → i % 2 = 1 → m.st = 6 ∧ m.loops = (i + 1) / 2 ∧ m.naks = (i + 1) / 2 ∧ ∃ (d : Nat) (z : List (Nat × Nat)), d < 256 ∧ m.sid = (d : Int) ∧ ps = [⟨3, d, dataL z⟩] ∧ Asc 0 z ∧ z ≠ [] ∧ z.length ≤ 4
  e : i = 7 → m.st = 4 ∧ 6 ∈ m.told ∧ ∃ x : Nat, x < 256 ∧ ps = [⟨5, x, []⟩]
  k : i = 8 → m.st = 4 ∧ 6 ∈ m.told ∧ ∃ x : Nat, x < 256 ∧ ps = [⟨6, x, []⟩]
  f : i = 9 → m.st = 2 ∧ 6 ∈ m.told ∧ ps = []
  le : i ≤ 9
theorem asks_own {m : RE} (h : m.Ok) : m.ownF m.asks = true := by
  unfold ownF asks
  simp [mag_mem h]
theorem asks_bad {m : RE} (h : m.Ok) : (4, m.mag) ∈ m.bad m.asks := by
  refine List.mem_filter.2 ⟨by simp [asks], ?_⟩
  unfold isBad
  rw [if_pos rfl]
  exact decide_eq_true (mag_mem h)
theorem askedP_6 {m : RE} {l : List (Nat × Nat)} (h : m.bad l ≠ []) (ha : m.st = 3 ∨ 6 ≤ m.st) (ho : m.ownF l = true) (hl : 3 < m.loops + 1) : m.askedP l = { m with loops := m.loops + 1, told := m.told ++ [6] }.atP 4 := by
  unfold RE.askedP; rw [if_neg h]; simp only [ha, ho, and_self, if_true, hl]
theorem askedP_o9 {m : RE} {l : List (Nat × Nat)} (h : m.bad l ≠ []) (ha : m.st = 3 ∨ 6 ≤ m.st) (ho : m.ownF l = true) (hl : ¬ 3 < m.loops + 1) (hn : ¬ 20 ≤ m.naks) : m.askedP l = { m with loops := m.loops + 1 }.atP 9 := by
  unfold RE.askedP; rw [if_neg h]; simp only [ha, ho, and_self, if_true, hl, and_false, if_false, hn]
theorem at_row {m : RE} {ev st : Nat} {row : List Nat} (h : m.st = st) (hr : (rowT ev).getD st [] = row) : m.at_ ev = m.run row ∧ m.atP ev = m.runP row := by
  subst h; subst hr; exact ⟨rfl, rfl⟩
theorem req_hear (m : RE) (d : Nat) (ok : m.Ok) : (m.hear ⟨1, d, dataL m.asks⟩) = ((m.got1 ⟨1, d, dataL m.asks⟩).asked m.asks).1 ∧ m.hearP ⟨1, d, dataL m.asks⟩ = (m.got1 ⟨1, d, dataL m.asks⟩).askedP m.asks := by
  have hi : itemsL (m.got1 ⟨1, d, dataL m.asks⟩).pd = some m.asks := ok.items
  constructor
  · show (m.got1 ⟨1, d, dataL m.asks⟩).receive.1 = _
    unfold receive
    rw [if_pos (by rfl), hi]
    rfl
  · show (m.got1 ⟨1, d, dataL m.asks⟩).receiveP = _
    unfold receiveP
    rw [if_pos (by rfl), hi]
    rfl
theorem Ph.next {m : RE} {ps : List Pq} {i : Nat} (h : m.Ph ps i) (hi : i < 9) : ∃ p, ps = [p] ∧ p.Good ∧ (m.hear p).Ph (m.hearP p) (i + 1) := by
  have hok := h.ok
  rcases (by omega : (i < 6 ∧ i % 2 = 0) ∨ (i ≤ 6 ∧ i % 2 = 1) ∨ i = 6 ∨ i = 7 ∨ i = 8) with q | q | q | q | q
  · obtain ⟨hst, hlp, hnk, d, hd, hsid, rfl⟩ := h.r (by omega) q.2
    have hg : (⟨1, d, dataL m.asks⟩ : Pq).Good := ⟨by show 1 ≤ 1; omega, by show 1 < 256; omega, hd, by show (dataL m.asks).length ≤ 40; rw [dataL_len]; simp [asks]⟩
    refine ⟨_, rfl, hg, ?_⟩
    obtain ⟨e1, e2⟩ := req_hear m d hok
    have hb : (m.got1 ⟨1, d, dataL m.asks⟩).bad m.asks ≠ [] := fun e => by
      have := asks_bad hok
      rw [show m.bad m.asks = (m.got1 ⟨1, d, dataL m.asks⟩).bad m.asks from rfl, e] at this
      cases this
    have ho : (m.got1 ⟨1, d, dataL m.asks⟩).ownF m.asks = true := by
      show m.ownF m.asks = true
      exact asks_own hok
    have ha : (m.got1 ⟨1, d, dataL m.asks⟩).st = 3 ∨ 6 ≤ (m.got1 ⟨1, d, dataL m.asks⟩).st := .inr (by show 6 ≤ m.st; omega)
    have hl3 : ¬ 3 < (m.got1 ⟨1, d, dataL m.asks⟩).loops + 1 := by show ¬ 3 < m.loops + 1; omega
    have hn20 : ¬ 20 ≤ (m.got1 ⟨1, d, dataL m.asks⟩).naks := by show ¬ 20 ≤ m.naks; omega
    rw [asked_o9 hb ha ho hl3 hn20] at e1
    have e3 : (m.got1 ⟨1, d, dataL m.asks⟩).askedP m.asks = ({ m.got1 ⟨1, d, dataL m.asks⟩ with loops := (m.got1 ⟨1, d, dataL m.asks⟩).loops + 1 } : RE).atP 9 := askedP_o9 hb ha ho hl3 hn20
    rw [e3] at e2
    -- the letter n, in the state 6
    obtain ⟨N, hN⟩ : ∃ N : RE, N = { m.got1 ⟨1, d, dataL m.asks⟩ with loops := (m.got1 ⟨1, d, dataL m.asks⟩).loops + 1 } := ⟨_, rfl⟩
    rw [← hN] at e1 e2
    have hNst : N.st = 6 := by rw [hN]; exact hst
    have hNok : N.Ok := by
      rw [hN]
      obtain ⟨st, id, odd, k0, k1, k2, pc, pi, pd, mg, ms, aa, ww⟩ := got1_ok hok hg
      exact ⟨st, id, odd, k0, k1, k2, pc, pi, pd, mg, ms, aa, ww⟩
    have e4 : N.at_ 9 = ((N.nak.1), N.nak.2 ++ []) := (at_row (row := [110]) hNst rfl).1
    have e5 : N.atP 9 = [⟨3, N.pi, dataL (N.nakItems (N.bad ((itemsL N.pd).getD []))).2⟩] := (at_row (row := [110]) hNst rfl).2
    have hit : (itemsL N.pd).getD [] = m.asks := by
      have : N.pd = dataL m.asks := by rw [hN]; rfl
      rw [this, hok.items]; rfl
    have hbN : N.bad m.asks = m.bad m.asks := by rw [hN]; rfl
    rw [hit, hbN] at e5
    have hasc : Asc 0 (N.nakItems (m.bad m.asks)).2 := nakItems_asc _ N (hok.asc.filter _ _) (fun i x hx => (hNok.aa i).2.2 x hx)
    have hlen : (N.nakItems (m.bad m.asks)).2.length = (m.bad m.asks).length := nakItems_len _ _
    have hb1 : 0 < (m.bad m.asks).length := List.length_pos_of_mem (asks_bad hok)
    have hb4 : (m.bad m.asks).length ≤ 4 := by
      have : (m.bad m.asks).length ≤ m.asks.length := List.length_filter_le _ _
      simpa [asks] using this
    obtain ⟨x, y, z, e6, _⟩ := nakItems_eq (N.bad ((itemsL N.pd).getD [])) N
    have e7 : N.nak.1 = { N with h0 := x, h1 := y, h2 := z, naks := N.naks + 1 } := by
      show ({ (N.nakItems (N.bad ((itemsL N.pd).getD []))).1 with naks := (N.nakItems (N.bad ((itemsL N.pd).getD []))).1.naks + 1 } : RE) = _
      rw [e6]
    have hM : m.hear ⟨1, d, dataL m.asks⟩ = { N with h0 := x, h1 := y, h2 := z, naks := N.naks + 1 } := by rw [e1, e4]; exact e7
    have hMok : (m.hear ⟨1, d, dataL m.asks⟩).Ok := by
      rw [hM]
      obtain ⟨st, id, odd, k0, k1, k2, pc, pi, pd, mg, ms, aa, ww⟩ := hNok
      exact ⟨st, id, odd, k0, k1, k2, pc, pi, pd, mg, ms, aa, ww⟩
    refine ⟨hMok, fun _ a => by omega, fun _ _ => ?_, fun a => by omega, fun a => by omega, fun a => by omega, by omega⟩
    rw [e2, e5]
    refine ⟨by rw [hM]; exact hNst, ?_, ?_, d, (N.nakItems (m.bad m.asks)).2, hd, by rw [hM, hN]; exact hsid, by rw [hN]; rfl, hasc, ?_, by omega⟩
    · rw [hM, hN]; show m.loops + 1 = _; omega
    · rw [hM, hN]; show m.naks + 1 = _; omega
    · intro e; rw [e] at hlen; simp at hlen; omega
  · obtain ⟨hst, hlp, hnk, d, z, hd, hsid, rfl, hasc, hz, hz4⟩ := h.n q.1 q.2
    have hg : (⟨3, d, dataL z⟩ : Pq).Good := ⟨by show 1 ≤ 3; omega, by show 3 < 256; omega, hd, by show (dataL z).length ≤ 40; rw [dataL_len]; omega⟩
    refine ⟨_, rfl, hg, ?_⟩
    have hit : itemsL (m.got1 ⟨3, d, dataL z⟩).pd = some z := itemsL_data hasc
    have hns : ¬ (z = [] ∨ ((m.got1 ⟨3, d, dataL z⟩).pi : Int) ≠ (m.got1 ⟨3, d, dataL z⟩).sid) := by
      rintro (a | a)
      · exact hz a
      · exact a hsid.symm
    have e1 : m.hear ⟨3, d, dataL z⟩ = (((m.got1 ⟨3, d, dataL z⟩).takeAll z).at_ 11).1 := by
      show (m.got1 ⟨3, d, dataL z⟩).receive.1 = _
      unfold receive
      rw [if_neg (by show ¬ 3 = 1; omega), if_neg (by show ¬ 3 = 2; omega), if_pos (by rfl), hit]
      dsimp only
      rw [if_neg hns]
    have e2 : m.hearP ⟨3, d, dataL z⟩ = ((m.got1 ⟨3, d, dataL z⟩).takeAll z).atP 11 := by
      show (m.got1 ⟨3, d, dataL z⟩).receiveP = _
      unfold receiveP
      rw [if_neg (by show ¬ 3 = 1; omega), if_neg (by show ¬ 3 = 2; omega), if_pos (by rfl), hit]
      dsimp only
      rw [if_neg hns]
    have tk := takeAll_tk z (m.got1 ⟨3, d, dataL z⟩)
    have hNok : ((m.got1 ⟨3, d, dataL z⟩).takeAll z).Ok := takeAll_ok z (got1_ok hok hg)
    obtain ⟨N, hN⟩ : ∃ N : RE, N = (m.got1 ⟨3, d, dataL z⟩).takeAll z := ⟨_, rfl⟩
    rw [← hN] at e1 e2 tk hNok
    have hNst : N.st = 6 := tk.st.trans hst
    have e4 : (N.at_ 11).1 = { N with cnt := 5 - 1, tim := 3, id := (N.id + 1) % 256, sent := dataL N.asks, sid := (((N.id + 1) % 256 : Nat) : Int) } := congrArg Prod.fst (at_row (row := [105, 114]) hNst rfl).1
    have e5 : N.atP 11 = [⟨1, (N.id + 1) % 256, dataL N.asks⟩] := (at_row (row := [105, 114]) hNst rfl).2
    have hM : m.hear ⟨3, d, dataL z⟩ = { N with cnt := 5 - 1, tim := 3, id := (N.id + 1) % 256, sent := dataL N.asks, sid := (((N.id + 1) % 256 : Nat) : Int) } := by rw [e1, e4]
    have hMok : (m.hear ⟨3, d, dataL z⟩).Ok := by
      rw [e1]; exact run_ok hNok _
    refine ⟨hMok, fun _ _ => ?_, fun _ a => by omega, fun a => by omega, fun a => by omega, fun a => by omega, by omega⟩
    rw [e2, e5]
    refine ⟨by rw [hM]; exact hNst, ?_, ?_, (N.id + 1) % 256, Nat.mod_lt _ (by decide), by rw [hM], by rw [hM]; rfl⟩
    · rw [hM]; show N.loops = _; rw [tk.loops]; show m.loops = _; omega
    · rw [hM]; show N.naks = _; rw [tk.naks]; show m.naks = _; omega
  · obtain ⟨hst, hlp, hnk, d, hd, hsid, rfl⟩ := h.r (by omega) (by omega)
    have hg : (⟨1, d, dataL m.asks⟩ : Pq).Good := ⟨by show 1 ≤ 1; omega, by show 1 < 256; omega, hd, by show (dataL m.asks).length ≤ 40; rw [dataL_len]; simp [asks]⟩
    refine ⟨_, rfl, hg, ?_⟩
    obtain ⟨e1, e2⟩ := req_hear m d hok
    have hb : (m.got1 ⟨1, d, dataL m.asks⟩).bad m.asks ≠ [] := fun e => by
      have := asks_bad hok
      rw [show m.bad m.asks = (m.got1 ⟨1, d, dataL m.asks⟩).bad m.asks from rfl, e] at this
      cases this
    have ho : (m.got1 ⟨1, d, dataL m.asks⟩).ownF m.asks = true := by
      show m.ownF m.asks = true
      exact asks_own hok
    have ha : (m.got1 ⟨1, d, dataL m.asks⟩).st = 3 ∨ 6 ≤ (m.got1 ⟨1, d, dataL m.asks⟩).st := .inr (by show 6 ≤ m.st; omega)
    have hl3 : 3 < (m.got1 ⟨1, d, dataL m.asks⟩).loops + 1 := by show 3 < m.loops + 1; omega
    rw [asked_6 hb ha ho hl3] at e1
    have e3 : (m.got1 ⟨1, d, dataL m.asks⟩).askedP m.asks = ({ m.got1 ⟨1, d, dataL m.asks⟩ with loops := (m.got1 ⟨1, d, dataL m.asks⟩).loops + 1, told := (m.got1 ⟨1, d, dataL m.asks⟩).told ++ [6] } : RE).atP 4 := askedP_6 hb ha ho hl3
    rw [e3] at e2
    obtain ⟨N, hN⟩ : ∃ N : RE, N = { m.got1 ⟨1, d, dataL m.asks⟩ with loops := (m.got1 ⟨1, d, dataL m.asks⟩).loops + 1, told := (m.got1 ⟨1, d, dataL m.asks⟩).told ++ [6] } := ⟨_, rfl⟩
    rw [← hN] at e1 e2
    have hNst : N.st = 6 := by rw [hN]; exact hst
    have hNok : N.Ok := by
      rw [hN]
      obtain ⟨st, id, odd, k0, k1, k2, pc, pi, pd, mg, ms, aa, ww⟩ := got1_ok hok hg
      exact ⟨st, id, odd, k0, k1, k2, pc, pi, pd, mg, ms, aa, ww⟩
    have e4 : (N.at_ 4).1 = { N with cnt := 2 - 1, tim := 3, id := (N.id + 1) % 256, st := 4 } := congrArg Prod.fst (at_row (row := [116, 101, 52]) hNst rfl).1
    have e5 : N.atP 4 = [⟨5, (N.id + 1) % 256, []⟩] := (at_row (row := [116, 101, 52]) hNst rfl).2
    refine ⟨by rw [e1]; exact run_ok hNok _, fun a _ => by omega, fun a _ => by omega, fun _ => ?_, fun a => by omega, fun a => by omega, by omega⟩
    rw [e2, e5, e1, e4]
    exact ⟨rfl, by rw [hN]; simp, _, Nat.mod_lt _ (by decide), rfl⟩
  · obtain ⟨hst, h6, x, hx, rfl⟩ := h.e q
    have hg : (⟨5, x, []⟩ : Pq).Good := ⟨by show 1 ≤ 5; omega, by show 5 < 256; omega, hx, by show 0 ≤ 40; omega⟩
    refine ⟨_, rfl, hg, ?_⟩
    have e1 : m.hear ⟨5, x, []⟩ = m.got1 ⟨5, x, []⟩ := by
      show ((m.got1 ⟨5, x, []⟩).run ((rowT 12).getD m.st [])).1 = _
      rw [hst]; rfl
    have e2 : m.hearP ⟨5, x, []⟩ = [⟨6, x, []⟩] := by
      show (m.got1 ⟨5, x, []⟩).runP ((rowT 12).getD m.st []) = _
      rw [hst]; rfl
    refine ⟨by rw [e1]; exact got1_ok hok hg, fun a _ => by omega, fun a _ => by omega, fun a => by omega, fun _ => ?_, fun a => by omega, by omega⟩
    rw [e1, e2]
    exact ⟨hst, h6, x, hx, rfl⟩
  · obtain ⟨hst, h6, x, hx, rfl⟩ := h.k q
    have hg : (⟨6, x, []⟩ : Pq).Good := ⟨by show 1 ≤ 6; omega, by show 6 < 256; omega, hx, by show 0 ≤ 40; omega⟩
    refine ⟨_, rfl, hg, ?_⟩
    have e1 : m.hear ⟨6, x, []⟩ = { m.got1 ⟨6, x, []⟩ with told := m.told ++ [4], st := 2 } := by
      show ((m.got1 ⟨6, x, []⟩).run ((rowT 13).getD m.st [])).1 = _
      rw [hst]; rfl
    have e2 : m.hearP ⟨6, x, []⟩ = [] := by
      show (m.got1 ⟨6, x, []⟩).runP ((rowT 13).getD m.st []) = _
      rw [hst]; rfl
    refine ⟨?_, fun a _ => by omega, fun a _ => by omega, fun a => by omega, fun a => by omega, fun _ => ?_, by omega⟩
    · rw [e1]
      obtain ⟨st, id, odd, k0, k1, k2, pc, pi, pd, mg, ms, aa, ww⟩ := got1_ok hok hg
      exact ⟨by show 2 < 10; omega, id, odd, k0, k1, k2, pc, pi, pd, mg, ms, aa, ww⟩
    · rw [e1, e2]
      exact ⟨rfl, List.mem_append.2 (.inl h6), rfl⟩
theorem Ph.begin (L : Nat → List Int) (mg : Int) (h : ∀ i, i < 6 → IsL (L i)) (h1 : 1 ≤ mg) (h2 : mg ≤ 65535) :
    (newM L mg).eventP 3 = [] ∧ (((newM L mg).event 3).1.event 1).1.Ph (((newM L mg).event 3).1.eventP 1) 0 := by
  have ok : (newM L mg).Ok := (lim_new h h1 h2).ok
  refine ⟨rfl, ?_⟩
  have e1 : (((newM L mg).event 3).1.event 1).1.Ok := run_ok (run_ok ok _) _
  exact ⟨e1, fun _ _ => ⟨rfl, rfl, rfl, 1, by omega, rfl, rfl⟩, fun _ a => by omega, fun a => by omega, fun a => by omega, fun a => by omega, by omega⟩
end RE
end Go.Proofs.YtoeihlgidakjbaaGreatDoor

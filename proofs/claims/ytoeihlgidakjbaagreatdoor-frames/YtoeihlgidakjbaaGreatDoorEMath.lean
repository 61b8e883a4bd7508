/- The end as plain mathematics: what its numbers keep to. -/
import Derived.Test.YtoeihlgidakjbaaGreatDoorRefM
namespace Go.Proofs.YtoeihlgidakjbaaGreatDoor
open Go.RowKit Go.Lib

/-- Items in memory: two cells each. -/
def itemC (l : List (Nat × Nat)) : List Value := l.flatMap fun x => [Value.int .i64 (x.1 : Int), Value.int .i64 (x.2 : Int)]
theorem itemC_len (l : List (Nat × Nat)) : (itemC l).length = l.length * 2 := by
  induction l with
  | nil => rfl
  | cons x l ih => simp only [itemC, List.flatMap_cons, List.length_append] at ih ⊢; simp at ih ⊢; omega
theorem itemC_get (l : List (Nat × Nat)) (k : Nat) (h : k < l.length) : (itemC l)[k * 2]? = some (.int .i64 ((l[k]).1 : Int)) ∧ (itemC l)[k * 2 + 1]? = some (.int .i64 ((l[k]).2 : Int)) := by
  induction l generalizing k with
  | nil => simp at h
  | cons x l ih =>
    cases k with
    | zero => simp [itemC]
    | succ k =>
      have := ih k (by simpa using h)
      have e : itemC (x :: l) = [Value.int .i64 (x.1 : Int), Value.int .i64 (x.2 : Int)] ++ itemC l := rfl
      rw [e, show (k + 1) * 2 = k * 2 + 2 from by omega, List.getElem?_append_right (by simp), List.getElem?_append_right (by simp)]
      simpa [show k * 2 + 2 + 1 - 2 = k * 2 + 1 from by omega] using this
theorem dataL_take (l : List (Nat × Nat)) (k : Nat) (h : k < l.length) : dataL (l.take (k + 1)) = dataL (l.take k) ++ itemL (l[k]).1 (l[k]).2 := by
  rw [List.take_add_one, List.getElem?_eq_getElem h]
  unfold dataL
  rw [List.flatMap_append]; rfl
theorem dataL_len (l : List (Nat × Nat)) : (dataL l).length = 3 * l.length := by
  induction l with
  | nil => rfl
  | cons x l ih =>
    have e : dataL (x :: l) = itemL x.1 x.2 ++ dataL l := rfl
    rw [e, List.length_append, ih]; simp [itemL, twoL]; omega
/-- Items that lie in a slice. -/
def ItemsIn (w : World) (v : Value) (l : List (Nat × Nat)) : Prop := ∃ a cap g, v = .slice a l.length cap ∧ (0 < l.length → a = some ⟨g, 0, none⟩ ∧ g < w.heap.size) ∧ ∀ k (h : k < l.length), w.cell? ⟨g, k * 2, none⟩ = some (.int .i64 ((l[k]).1 : Int)) ∧ w.cell? ⟨g, k * 2 + 1, none⟩ = some (.int .i64 ((l[k]).2 : Int))
theorem itemsIn_own {w : World} {B e : Nat} {v : Value} {l : List (Nat × Nat)} (h : w.ownsRow B e 2 v l.length (itemC l)) : ItemsIn w v l := by
  have h0 := h
  rcases h.2 with ⟨rfl, hz⟩ | ⟨g, cap, cur, rfl, _, hg, _⟩
  · exact ⟨none, 0, 0, by rw [hz], fun h => by omega, fun k hk => by omega⟩
  · refine ⟨_, cap, g, rfl, fun _ => ⟨rfl, (Array.getElem?_eq_some_iff.1 hg).1⟩, fun k hk => ?_⟩
    have hc := h0.cells (g := g) rfl
    have := itemC_get l k hk
    have hadd : ∀ j, (⟨g, 0, none⟩ : Addr).add j = ⟨g, j, none⟩ := fun j => by unfold Addr.add; split <;> simp_all
    exact ⟨by rw [← hadd]; exact hc _ _ this.1, by rw [← hadd]; exact hc _ _ this.2⟩
/-- The bounds of an end's numbers. -/
structure RE.Ok (m : RE) : Prop where
  st : m.st < 10
  id : m.id < 256
  odd : m.odd < 256
  k0 : m.k0 < 256
  k1 : m.k1 < 256
  k2 : m.k2 < 256
  pc : m.pc < 256
  pi : m.pi < 256
  pd : m.pd.length ≤ 40
  mg : m.mg ≠ []
  ms : ∀ x ∈ m.mg, x < 65536
  aa : ∀ i, m.acc i ≠ [] ∧ (m.acc i).length ≤ 8 ∧ ∀ x ∈ m.acc i, x < 256
  ww : ∀ i, m.want i ≠ [] ∧ (m.want i).length ≤ 8 ∧ ∀ x ∈ m.want i, x < 256
theorem RE.Ok.mag {m : RE} (h : m.Ok) : ∃ k, ∃ hk : k < m.mg.length, k + 1 = m.mg.length ∧ m.mg[k] = m.mag ∧ m.mag < 65536 := by
  obtain ⟨k, hk⟩ : ∃ k, k + 1 = m.mg.length := ⟨m.mg.length - 1, by have := List.length_pos_iff.2 h.mg; omega⟩
  have hlt : k < m.mg.length := by omega
  have e : m.mag = m.mg[k] := by
    unfold RE.mag
    rw [List.getLast?_eq_getElem?, show m.mg.length - 1 = k by omega, List.getElem?_eq_getElem hlt]; rfl
  exact ⟨k, hlt, hk, e.symm, by rw [e]; exact h.ms _ (List.getElem_mem hlt)⟩
theorem asks_ok {m : RE} (h : m.Ok) : ∀ x ∈ m.asks, x.1 < 256 ∧ x.2 < 65536 := by
  obtain ⟨_, _, _, _, hm⟩ := h.mag
  have h0 := h.k0
  have h1 := h.k1
  have h2 := h.k2
  intro x hx
  simp only [RE.asks, List.mem_cons, List.not_mem_nil, or_false] at hx
  rcases hx with rfl | rfl | rfl | rfl <;> simp only <;> omega
/-- What must be small enough, with room for k more. -/
structure RE.Fit (m : RE) (k : Nat) : Prop where
  told : m.told.length + k ≤ 17000000000000
  mg : m.mg.length + k ≤ 17000000000000
  c0 : -1000000 + (k : Int) ≤ m.cnt
  c1 : m.cnt ≤ 5
  nk : m.naks + k ≤ 1000000000000000
  lp : m.loops + k ≤ 1000000000000000
  h0 : m.h0 + k ≤ 1000000000000000
  h1 : m.h1 + k ≤ 1000000000000000
  h2 : m.h2 + k ≤ 1000000000000000
theorem RE.hinted_eq (m : RE) (i : Nat) : ∃ x y z, m.hinted i = { m with h0 := x, h1 := y, h2 := z } ∧ x ≤ m.h0 + 1 ∧ y ≤ m.h1 + 1 ∧ z ≤ m.h2 + 1 := by
  unfold RE.hinted
  split
  · exact ⟨m.h0 + 1, m.h1, m.h2, rfl, by omega, by omega, by omega⟩
  · split
    · exact ⟨m.h0, m.h1 + 1, m.h2, rfl, by omega, by omega, by omega⟩
    · exact ⟨m.h0, m.h1, m.h2 + 1, rfl, by omega, by omega, by omega⟩
theorem RE.named1_eq (m : RE) (p : Nat × Nat) : ∃ x y z, (m.named1 p).1 = { m with h0 := x, h1 := y, h2 := z } ∧ x ≤ m.h0 + 1 ∧ y ≤ m.h1 + 1 ∧ z ≤ m.h2 + 1 := by
  unfold RE.named1
  split
  · exact m.hinted_eq p.1
  · exact ⟨m.h0, m.h1, m.h2, rfl, by omega, by omega, by omega⟩
theorem RE.nakItems_eq (l : List (Nat × Nat)) (m : RE) : ∃ x y z, (m.nakItems l).1 = { m with h0 := x, h1 := y, h2 := z } ∧ x ≤ m.h0 + l.length ∧ y ≤ m.h1 + l.length ∧ z ≤ m.h2 + l.length := by
  induction l generalizing m with
  | nil => exact ⟨m.h0, m.h1, m.h2, rfl, by simp, by simp, by simp⟩
  | cons p l ih =>
    obtain ⟨x, y, z, e, h1, h2, h3⟩ := m.named1_eq p
    obtain ⟨x', y', z', e', k1, k2, k3⟩ := ih (m.named1 p).1
    refine ⟨x', y', z', ?_, ?_, ?_, ?_⟩
    · show ((m.named1 p).1.nakItems l).1 = _
      rw [e', e]
    all_goals rw [e] at k1 k2 k3; simp only [List.length_cons] at *; omega
theorem itemsAux_len : ∀ (s : List UInt8) (p : Nat) (l : List (Nat × Nat)), itemsAux s p = some l → l.length ≤ s.length
  | [], p, l, h => by simp [itemsAux] at h; subst h; simp
  | [_], p, l, h => by simp [itemsAux] at h
  | [_, _], p, l, h => by simp [itemsAux] at h
  | a :: b :: c :: r, p, l, h => by
    rw [itemsAux] at h
    split at h
    · cases h
    · obtain ⟨l', h1, rfl⟩ := Option.map_eq_some_iff.1 h
      have := itemsAux_len r _ l' h1
      simp; omega
theorem RE.bads_len (m : RE) : (m.bad ((itemsL m.pd).getD [])).length ≤ m.pd.length := by
  refine Nat.le_trans (List.length_filter_le _ _) ?_
  cases h : itemsL m.pd with
  | none => simp
  | some l => exact itemsAux_len _ _ _ h
theorem RE.act_ind (m : RE) (c : Nat) (P : RE × List UInt8 → Prop) (h117 : P ({ m with told := m.told ++ [1], naks := 0 }, [])) (h100 : P ({ m with told := m.told ++ [2] }, [])) (h98 : P ({ m with told := m.told ++ [3] }, [])) (h102 : P ({ m with told := m.told ++ [4] }, [])) (h105 : P ({ m with cnt := 5 }, [])) (h116 : P ({ m with cnt := 2 }, [])) (h122 : P ({ m with cnt := 0, tim := 3 }, [])) (h114 : P ({ m with cnt := m.cnt - 1, tim := 3 }.request)) (h101 : P ({ m with cnt := m.cnt - 1, tim := 3, id := (m.id + 1) % 256 }, lineL 5 ((m.id + 1) % 256) [])) (h97 : P ({ m with naks := 0, agr := m.pd }, lineL 2 m.pi m.pd)) (h110 : P (m.nak)) (h107 : P (m, lineL 6 m.pi [])) (h106 : P ({ m with odd := (m.odd + 1) % 256 }, lineL 7 ((m.odd + 1) % 256) ((UInt8.ofNat m.pc :: UInt8.ofNat m.pi :: m.pd).take 40))) (h111 : P (m, lineL 10 m.pi m.pd)) (h0 : P (m, [])) : P (m.act c) := by
  unfold RE.act
  by_cases e117 : c = 117
  · rw [if_pos e117]; exact h117
  rw [if_neg e117]
  by_cases e100 : c = 100
  · rw [if_pos e100]; exact h100
  rw [if_neg e100]
  by_cases e98 : c = 98
  · rw [if_pos e98]; exact h98
  rw [if_neg e98]
  by_cases e102 : c = 102
  · rw [if_pos e102]; exact h102
  rw [if_neg e102]
  by_cases e105 : c = 105
  · rw [if_pos e105]; exact h105
  rw [if_neg e105]
  by_cases e116 : c = 116
  · rw [if_pos e116]; exact h116
  rw [if_neg e116]
  by_cases e122 : c = 122
  · rw [if_pos e122]; exact h122
  rw [if_neg e122]
  by_cases e114 : c = 114
  · rw [if_pos e114]; exact h114
  rw [if_neg e114]
  by_cases e101 : c = 101
  · rw [if_pos e101]; exact h101
  rw [if_neg e101]
  by_cases e97 : c = 97
  · rw [if_pos e97]; exact h97
  rw [if_neg e97]
  by_cases e110 : c = 110
  · rw [if_pos e110]; exact h110
  rw [if_neg e110]
  by_cases e107 : c = 107
  · rw [if_pos e107]; exact h107
  rw [if_neg e107]
  by_cases e106 : c = 106
  · rw [if_pos e106]; exact h106
  rw [if_neg e106]
  by_cases e111 : c = 111
  · rw [if_pos e111]; exact h111
  rw [if_neg e111]
  exact h0
theorem RE.act_ok {m : RE} (h : m.Ok) (c : Nat) : (m.act c).1.Ok := by
  obtain ⟨st, id, odd, k0, k1, k2, pc, pi, pd, mg, ms, aa, ww⟩ := h
  have hi : (m.id + 1) % 256 < 256 := Nat.mod_lt _ (by decide)
  have ho : (m.odd + 1) % 256 < 256 := Nat.mod_lt _ (by decide)
  refine RE.act_ind m c (fun r => r.1.Ok) ?_ ?_ ?_ ?_ ?_ ?_ ?_ ?_ ?_ ?_ ?_ ?_ ?_ ?_ ?_
  all_goals first
    | exact ⟨st, id, odd, k0, k1, k2, pc, pi, pd, mg, ms, aa, ww⟩
    | exact ⟨st, hi, odd, k0, k1, k2, pc, pi, pd, mg, ms, aa, ww⟩
    | exact ⟨st, id, ho, k0, k1, k2, pc, pi, pd, mg, ms, aa, ww⟩
    | skip
  · unfold RE.nak
    obtain ⟨x, y, z, e, _⟩ := RE.nakItems_eq (m.bad ((itemsL m.pd).getD [])) m
    simp only [e]
    exact ⟨st, id, odd, k0, k1, k2, pc, pi, pd, mg, ms, aa, ww⟩
theorem RE.letter_ok {m : RE} (h : m.Ok) (c : Nat) : (m.letter c).1.Ok := by
  unfold RE.letter
  split
  · obtain ⟨st, id, odd, k0, k1, k2, pc, pi, pd, mg, ms, aa, ww⟩ := h
    exact ⟨by show c - 48 < 10; omega, id, odd, k0, k1, k2, pc, pi, pd, mg, ms, aa, ww⟩
  · exact RE.act_ok h c
theorem RE.act_fit {m : RE} {k : Nat} (h : m.Fit (k + 100)) (ok : m.Ok) (c : Nat) : (m.act c).1.Fit k := by
  obtain ⟨told, mg, c0, c1, nk, lp, h0, h1, h2⟩ := h
  have hp := ok.pd
  refine RE.act_ind m c (fun r => r.1.Fit k) ?_ ?_ ?_ ?_ ?_ ?_ ?_ ?_ ?_ ?_ ?_ ?_ ?_ ?_ ?_
  all_goals first
    | (constructor <;> simp only [RE.request, List.length_append, List.length_cons, List.length_nil] <;> omega)
    | skip
  unfold RE.nak
  obtain ⟨x, y, z, e, hx, hy, hz⟩ := RE.nakItems_eq (m.bad ((itemsL m.pd).getD [])) m
  have hb := m.bads_len
  simp only [e]
  constructor <;> simp only <;> omega
theorem RE.letter_fit {m : RE} {k : Nat} (h : m.Fit (k + 100)) (ok : m.Ok) (c : Nat) : (m.letter c).1.Fit k := by
  unfold RE.letter
  split
  · obtain ⟨told, mg, c0, c1, nk, lp, h0, h1, h2⟩ := h
    constructor <;> simp only <;> omega
  · exact RE.act_fit h ok c
theorem RE.run_ok {m : RE} (h : m.Ok) (l : List Nat) : (m.run l).1.Ok := by
  induction l generalizing m with
  | nil => exact h
  | cons c l ih => exact ih (RE.letter_ok h c)
theorem RE.run_fit {m : RE} {k : Nat} (l : List Nat) (h : m.Fit (k + 100 * l.length)) (ok : m.Ok) : (m.run l).1.Fit k := by
  induction l generalizing m with
  | nil => exact h
  | cons c l ih => exact ih (RE.letter_fit (by rw [List.length_cons] at h; rw [show k + 100 * l.length + 100 = k + 100 * (l.length + 1) by omega]; exact h) ok c) (RE.letter_ok ok c)
theorem lineL_len (c d : Nat) (s : List UInt8) : (lineL c d s).length ≤ 2 * s.length + 10 := by
  unfold lineL encl
  have := (escL_len (content (UInt8.ofNat c) (UInt8.ofNat d) s)).2
  rw [content_len] at this
  simp only [List.length_cons, List.length_append, List.length_nil]; omega
theorem RE.nakItems_len (l : List (Nat × Nat)) (m : RE) : (m.nakItems l).2.length = l.length := by
  induction l generalizing m with
  | nil => rfl
  | cons p l ih => show ((m.named1 p).1.nakItems l).2.length + 1 = _; rw [ih]; rfl
theorem RE.act_len {m : RE} (ok : m.Ok) (c : Nat) : (m.act c).2.length ≤ 1000 := by
  have hp := ok.pd
  refine RE.act_ind m c (fun r => r.2.length ≤ 1000) ?_ ?_ ?_ ?_ ?_ ?_ ?_ ?_ ?_ ?_ ?_ ?_ ?_ ?_ ?_
  all_goals first
    | (show 0 ≤ _; omega)
    | skip
  · refine Nat.le_trans (lineL_len _ _ _) ?_
    rw [dataL_len]; simp [RE.asks]
  · exact Nat.le_trans (lineL_len _ _ _) (by simp)
  · refine Nat.le_trans (lineL_len _ _ _) (by omega)
  · unfold RE.nak
    refine Nat.le_trans (lineL_len _ _ _) ?_
    rw [dataL_len, RE.nakItems_len]
    have := m.bads_len
    omega
  · exact Nat.le_trans (lineL_len _ _ _) (by simp)
  · refine Nat.le_trans (lineL_len _ _ _) ?_
    rw [List.length_take]; omega
  · refine Nat.le_trans (lineL_len _ _ _) (by omega)
theorem rowT_small : ∀ ev, ev < 18 → ∀ st, st < 10 → ((rowT ev).getD st []).length ≤ 4 ∧ (∀ c ∈ (rowT ev).getD st [], c < 256) ∧ (rowT ev).length = 10 := by decide +kernel
/-- A new end, of a configuration. -/
def newM (L : Nat → List Int) (mg : Int) : RE := ⟨(L 0).map Int.toNat, (L 1).map Int.toNat, (L 2).map Int.toNat, (L 3).map Int.toNat, (L 4).map Int.toNat, (L 5).map Int.toNat, 0, [], [], 0, 0, 0, 0, [], -1, [], 0, 0, [], 0, 0, ((L 0).headD 0).toNat, ((L 1).headD 0).toNat, ((L 2).headD 0).toNat, 0, 0, 0, [mg.toNat]⟩
def lastW (l : List (Nat × Nat)) : Nat := (l.getLast?.map (·.1)).getD 0
theorem lastW_snoc (l : List (Nat × Nat)) (x : Nat × Nat) : lastW (l ++ [x]) = x.1 := by simp [lastW]
theorem itemsAux_bad (a b c : UInt8) (r : List UInt8) (p : Nat) (h : a.toNat < 1 ∨ 4 < a.toNat ∨ a.toNat ≤ p) : itemsAux (a :: b :: c :: r) p = none := by rw [itemsAux, if_pos h]
theorem itemsAux_next (a b c : UInt8) (r : List UInt8) (p : Nat) (h : ¬ (a.toNat < 1 ∨ 4 < a.toNat ∨ a.toNat ≤ p)) : itemsAux (a :: b :: c :: r) p = (itemsAux r a.toNat).map ((a.toNat, b.toNat + 256 * c.toNat) :: ·) := by rw [itemsAux, if_neg h]
theorem itemsAux_odd : ∀ (s : List UInt8) (p : Nat), s.length % 3 ≠ 0 → itemsAux s p = none
  | [], p, h => by simp at h
  | [_], p, h => rfl
  | [_, _], p, h => rfl
  | a :: b :: c :: r, p, h => by
    have := itemsAux_odd r a.toNat (by simp at h; omega)
    rw [itemsAux, this]; split <;> rfl
theorem lastW_get (l : List (Nat × Nat)) (q : Nat) (h : q + 1 = l.length) : (itemC l)[q * 2]? = some (.int .i64 (lastW l : Int)) := by
  rw [(itemC_get l q (by omega)).1]
  unfold lastW
  rw [List.getLast?_eq_getElem?, show l.length - 1 = q by omega, List.getElem?_eq_getElem (by omega)]; rfl
def termsI (s : List UInt8) (i : Nat) : Nat := (((itemsL s).getD []).getD i (0, 0)).2
def termsV (s : List UInt8) : Value := .agg #[iv (termsI s 0), iv (termsI s 1), iv (termsI s 2)]
def tC (k : Nat) (l : List (Nat × Nat)) : Array Value := #[if 0 < k then iv (l.getD 0 (0, 0)).2 else .int .i64 0, if 1 < k then iv (l.getD 1 (0, 0)).2 else .int .i64 0, if 2 < k then iv (l.getD 2 (0, 0)).2 else .int .i64 0]
theorem tC_next (k : Nat) (h : k < 3) (l : List (Nat × Nat)) : (tC k l).setIfInBounds k (iv (l.getD k (0, 0)).2) = tC (k + 1) l := by
  rcases (by omega : k = 0 ∨ k = 1 ∨ k = 2) with rfl | rfl | rfl <;> rfl
theorem tC_end (k : Nat) (l : List (Nat × Nat)) (h : k = 3 ∨ l.length ≤ k) : tC k l = #[iv (l.getD 0 (0, 0)).2, iv (l.getD 1 (0, 0)).2, iv (l.getD 2 (0, 0)).2] := by
  have z : ∀ i, ¬ i < k → i < 3 → iv (l.getD i (0, 0)).2 = .int .i64 0 := by
    intro i hi h3
    have hl : l.length ≤ i := by omega
    rw [List.getD, List.getElem?_eq_none hl]; rfl
  unfold tC
  have t : ∀ i, i < 3 → (if i < k then iv (l.getD i (0, 0)).2 else .int .i64 0) = iv (l.getD i (0, 0)).2 := by
    intro i h3
    by_cases hi : i < k
    · rw [if_pos hi]
    · rw [if_neg hi, z i hi h3]
  rw [t 0 (by omega), t 1 (by omega), t 2 (by omega)]
theorem Tryz.size3 : (Tryz.prog.info? 74).map (·.size) = some 3 := by kernel_rfl
/-- The last magic that is named: is it one that the end has or had? -/
def RE.ownF (m : RE) (l : List (Nat × Nat)) : Bool := l.foldl (fun a x => if x.1 = 4 then decide (x.2 ∈ m.mg) else a) false
theorem RE.ownF_snoc (m : RE) (l : List (Nat × Nat)) (x : Nat × Nat) : m.ownF (l ++ [x]) = if x.1 = 4 then decide (x.2 ∈ m.mg) else m.ownF l := by simp [RE.ownF]
theorem RE.bad_snoc (m : RE) (l : List (Nat × Nat)) (x : Nat × Nat) : m.bad (l ++ [x]) = m.bad l ++ (if m.isBad x then [x] else []) := by
  unfold RE.bad
  rw [List.filter_append]
  congr 1
  by_cases h : m.isBad x = true <;> simp [h]
theorem RE.nakItems_snoc (l : List (Nat × Nat)) (m : RE) (x : Nat × Nat) : m.nakItems (l ++ [x]) = (((m.nakItems l).1.named1 x).1, (m.nakItems l).2 ++ [((m.nakItems l).1.named1 x).2]) := by
  induction l generalizing m with
  | nil => simp [RE.nakItems]
  | cons y l ih => simp [RE.nakItems, ih]
theorem itemsAux_rng : ∀ (s : List UInt8) (p : Nat) (l : List (Nat × Nat)), itemsAux s p = some l → ∀ x ∈ l, 1 ≤ x.1 ∧ x.1 ≤ 4 ∧ x.2 < 65536
  | [], p, l, h => by simp [itemsAux] at h; subst h; simp
  | [_], p, l, h => by simp [itemsAux] at h
  | [_, _], p, l, h => by simp [itemsAux] at h
  | a :: b :: c :: r, p, l, h => by
    rw [itemsAux] at h
    split at h
    · cases h
    · rename_i hn
      obtain ⟨l', h1, rfl⟩ := Option.map_eq_some_iff.1 h
      have := itemsAux_rng r _ l' h1
      intro x hx
      rcases List.mem_cons.1 hx with rfl | hx
      · have hb := UInt8.toNat_lt b
        have hc := UInt8.toNat_lt c
        simp only; omega
      · exact this x hx
/-- Items in memory, one turned. -/
theorem itemC_set (l1 l2 : List (Nat × Nat)) (x : Nat × Nat) (n : Nat) : (itemC (l1 ++ x :: l2)).set (l1.length * 2 + 1) (.int .i64 (n : Int)) = itemC (l1 ++ (x.1, n) :: l2) := by
  have e : ∀ y, itemC (l1 ++ y :: l2) = itemC l1 ++ ([Value.int .i64 (y.1 : Int), Value.int .i64 (y.2 : Int)] ++ itemC l2) := fun y => by simp [itemC]
  rw [e x, e (x.1, n), List.set_append_right _ _ (by rw [itemC_len]; omega), itemC_len, show l1.length * 2 + 1 - l1.length * 2 = 1 by omega]
  rfl
theorem ItemsIn.drew {w : World} {v : Value} {l : List (Nat × Nat)} (h : ItemsIn w v l) : ItemsIn w.drew v l := h
theorem RE.nak_same (l : List (Nat × Nat)) (m : RE) : (m.nakItems l).1.acc = m.acc := by
  obtain ⟨x, y, z, e, _⟩ := RE.nakItems_eq l m
  rw [e]; rfl
theorem RE.hint_le (l : List (Nat × Nat)) (m : RE) (i : Nat) (N : Nat) (h0 : m.h0 ≤ N) (h1 : m.h1 ≤ N) (h2 : m.h2 ≤ N) : (m.nakItems l).1.hint i ≤ N + l.length := by
  obtain ⟨x, y, z, e, hx, hy, hz⟩ := RE.nakItems_eq l m
  rw [e]
  unfold RE.hint
  simp only
  split
  · omega
  · split <;> omega
theorem RE.nakItems_rng (L : List (Nat × Nat)) (m : RE) (ha : ∀ i, ∀ x ∈ m.acc i, x < 256) (hL : ∀ x ∈ L, x.1 ≤ 4) : ∀ x ∈ (m.nakItems L).2, x.1 < 256 ∧ x.2 < 65536 := by
  induction L generalizing m with
  | nil => intro x hx; cases hx
  | cons y L ih =>
    intro x hx
    have hx' : x ∈ (m.named1 y).2 :: ((m.named1 y).1.nakItems L).2 := hx
    rcases List.mem_cons.1 hx' with rfl | hx'
    · have hy := hL y (by simp)
      unfold RE.named1
      split
      · have := getD_lt (m.acc y.1) (m.hint y.1 % (m.acc y.1).length) 256 (ha y.1) (by decide)
        simp only; omega
      · simp only; omega
    · refine ih (m.named1 y).1 ?_ (fun z hz => hL z (by simp [hz])) x hx'
      obtain ⟨p, q, r, e, _⟩ := m.named1_eq y
      rw [e]; exact ha
theorem accNe {m : RE} (ok : m.Ok) (i : Nat) : 0 < (m.acc i).length := List.length_pos_iff.2 (ok.aa i).1
def okLetter (c : Nat) : Bool := (Nat.ble 48 c && Nat.ble c 57) || [117, 100, 98, 102, 105, 116, 122, 114, 101].contains c || [97, 110, 107, 106, 111].contains c
def allOk : Bool := (List.range 18).all fun ev => (List.range 10).all fun st => ((rowT ev).getD st []).all okLetter
theorem all_ok : allOk = true := by decide +kernel
theorem all_letters (ev : Nat) (h : ev < 18) (st : Nat) (hs : st < 10) (c : Nat) (hc : c ∈ (rowT ev).getD st []) : (48 ≤ c ∧ c ≤ 57) ∨ c ∈ [117, 100, 98, 102, 105, 116, 122, 114, 101] ∨ c ∈ [97, 110, 107, 106, 111] := by
  have h1 := List.all_eq_true.1 all_ok ev (List.mem_range.2 h)
  have h2 := List.all_eq_true.1 h1 st (List.mem_range.2 hs)
  have h3 := List.all_eq_true.1 h2 c hc
  unfold okLetter at h3
  rw [Bool.or_eq_true, Bool.or_eq_true, Bool.and_eq_true, Nat.ble_eq, Nat.ble_eq, List.contains_iff_mem, List.contains_iff_mem] at h3
  rcases h3 with (h3 | h3) | h3
  · exact .inl h3
  · exact .inr (.inl h3)
  · exact .inr (.inr h3)
namespace RE
/-- What is asked for from now on. -/
def ask (m : RE) (i n : Nat) : RE := if i = 1 then { m with k0 := n } else if i = 2 then { m with k1 := n } else { m with k2 := n }
end RE
namespace RE
/-- An item of a Nak. -/
def take1 (m : RE) (x : Nat × Nat) : RE := if x.1 = 4 then { m with mg := m.mg ++ [(5 * m.mag + 3) % 65536] } else if x.2 ∈ m.want x.1 then m.ask x.1 x.2 else m
end RE
namespace RE
def takeAll (m : RE) (l : List (Nat × Nat)) : RE := l.foldl take1 m
end RE
namespace RE
/-- A Request. -/
def asked (m : RE) (l : List (Nat × Nat)) : RE × List UInt8 :=
  if m.bad l = [] then m.at_ 8
  else
    let m1 := if (m.st = 3 ∨ 6 ≤ m.st) ∧ m.ownF l = true then { m with loops := m.loops + 1 } else m
    if (m.st = 3 ∨ 6 ≤ m.st) ∧ m.ownF l = true ∧ 3 < m1.loops then { m1 with told := m1.told ++ [6] }.at_ 4
    else if (m.st = 3 ∨ 6 ≤ m.st) ∧ 20 ≤ m.naks then { m1 with told := m1.told ++ [5] }.at_ 4
    else m1.at_ 9
end RE
namespace RE
/-- A packet that has come. -/
def receive (m : RE) : RE × List UInt8 :=
  if m.pc = 1 then (match itemsL m.pd with | some l => if l.length = 4 then m.asked l else (m, []) | none => (m, []))
  else if m.pc = 2 then (if (m.pi : Int) = m.sid ∧ m.pd = m.sent then m.at_ 10 else (m, []))
  else if m.pc = 3 then (match itemsL m.pd with | some l => if l = [] ∨ (m.pi : Int) ≠ m.sid then (m, []) else (m.takeAll l).at_ 11 | none => (m, []))
  else if m.pc = 5 then m.at_ 12
  else if m.pc = 6 then m.at_ 13
  else if m.pc = 7 then (match m.pd with | [] => (m, []) | c :: _ => if c.toNat = 1 ∨ c.toNat = 2 ∨ c.toNat = 3 ∨ c.toNat = 5 ∨ c.toNat = 6 then m.at_ 16 else m.at_ 15)
  else if m.pc = 9 then m.at_ 17
  else if m.pc = 10 then (m, [])
  else m.at_ 14
end RE
theorem RE.take1_ok {m : RE} (h : m.Ok) (x : Nat × Nat) : (m.take1 x).Ok := by
  obtain ⟨st, id, odd, k0, k1, k2, pc, pi, pd, mg, ms, aa, ww⟩ := h
  unfold RE.take1
  split
  · refine ⟨st, id, odd, k0, k1, k2, pc, pi, pd, by simp, ?_, aa, ww⟩
    intro y hy
    rcases List.mem_append.1 hy with q | q
    · exact ms y q
    · have : y = (5 * m.mag + 3) % 65536 := by simpa using q
      omega
  · split
    · rename_i hin
      have hn := (ww x.1).2.2 _ hin
      unfold RE.ask
      split
      · exact ⟨st, id, odd, hn, k1, k2, pc, pi, pd, mg, ms, aa, ww⟩
      · split
        · exact ⟨st, id, odd, k0, hn, k2, pc, pi, pd, mg, ms, aa, ww⟩
        · exact ⟨st, id, odd, k0, k1, hn, pc, pi, pd, mg, ms, aa, ww⟩
    · exact ⟨st, id, odd, k0, k1, k2, pc, pi, pd, mg, ms, aa, ww⟩
theorem RE.takeAll_ok (l : List (Nat × Nat)) {m : RE} (h : m.Ok) : (m.takeAll l).Ok := by
  induction l generalizing m with
  | nil => exact h
  | cons x l ih => exact ih (RE.take1_ok h x)
theorem RE.takeAll_snoc (m : RE) (l : List (Nat × Nat)) (x : Nat × Nat) : m.takeAll (l ++ [x]) = (m.takeAll l).take1 x := by simp [RE.takeAll]
theorem RE.take1_mg (m : RE) (x : Nat × Nat) : (m.take1 x).mg.length ≤ m.mg.length + 1 := by
  unfold RE.take1
  split
  · simp
  · split
    · unfold RE.ask; split
      · simp
      · split <;> simp
    · simp
theorem RE.takeAll_mg (m : RE) (l : List (Nat × Nat)) : (m.takeAll l).mg.length ≤ m.mg.length + l.length := by
  induction l generalizing m with
  | nil => exact Nat.le_refl _
  | cons x l ih =>
    have h1 := ih (m.take1 x)
    have h2 := m.take1_mg x
    show ((m.take1 x).takeAll l).mg.length ≤ _
    rw [List.length_cons]; omega
theorem RE.Fit.less {m : RE} {j k : Nat} (h : m.Fit k) (hj : j ≤ k) : m.Fit j := by
  obtain ⟨a, b, c, d, e, f, g, i, l⟩ := h
  exact ⟨by omega, by omega, by omega, d, by omega, by omega, by omega, by omega, by omega⟩
/-- The state's answer, in the code's words. -/
def RE.ans (m : RE) : Bool := ((m.st : Int) == 3) || decide ((m.st : Int) ≥ 6)
theorem RE.ans_iff (m : RE) : m.ans = true ↔ (m.st = 3 ∨ 6 ≤ m.st) := by
  unfold RE.ans
  rw [Bool.or_eq_true, beq_iff_eq, decide_eq_true_iff]
  omega
theorem RE.asked_0 {m : RE} {l : List (Nat × Nat)} (h : m.bad l = []) : m.asked l = m.at_ 8 := by unfold RE.asked; rw [if_pos h]
theorem RE.asked_6 {m : RE} {l : List (Nat × Nat)} (h : m.bad l ≠ []) (ha : m.st = 3 ∨ 6 ≤ m.st) (ho : m.ownF l = true) (hl : 3 < m.loops + 1) : m.asked l = { m with loops := m.loops + 1, told := m.told ++ [6] }.at_ 4 := by
  unfold RE.asked; rw [if_neg h]; simp only [ha, ho, and_self, if_true, hl]
theorem RE.asked_o5 {m : RE} {l : List (Nat × Nat)} (h : m.bad l ≠ []) (ha : m.st = 3 ∨ 6 ≤ m.st) (ho : m.ownF l = true) (hl : ¬ 3 < m.loops + 1) (hn : 20 ≤ m.naks) : m.asked l = { m with loops := m.loops + 1, told := m.told ++ [5] }.at_ 4 := by
  unfold RE.asked; rw [if_neg h]; simp only [ha, ho, and_self, if_true, hl, and_false, if_false, hn]
theorem RE.asked_o9 {m : RE} {l : List (Nat × Nat)} (h : m.bad l ≠ []) (ha : m.st = 3 ∨ 6 ≤ m.st) (ho : m.ownF l = true) (hl : ¬ 3 < m.loops + 1) (hn : ¬ 20 ≤ m.naks) : m.asked l = { m with loops := m.loops + 1 }.at_ 9 := by
  unfold RE.asked; rw [if_neg h]; simp only [ha, ho, and_self, if_true, hl, and_false, if_false, hn]
theorem RE.asked_n5 {m : RE} {l : List (Nat × Nat)} (h : m.bad l ≠ []) (ha : m.st = 3 ∨ 6 ≤ m.st) (ho : m.ownF l = false) (hn : 20 ≤ m.naks) : m.asked l = { m with told := m.told ++ [5] }.at_ 4 := by
  unfold RE.asked; rw [if_neg h]; simp [ha, ho, hn]
theorem RE.asked_n9 {m : RE} {l : List (Nat × Nat)} (h : m.bad l ≠ []) (ho : m.ownF l = false) (hn : ¬ 20 ≤ m.naks) : m.asked l = m.at_ 9 := by
  unfold RE.asked; rw [if_neg h]; simp [ho, hn]
theorem RE.asked_x {m : RE} {l : List (Nat × Nat)} (h : m.bad l ≠ []) (ha : ¬ (m.st = 3 ∨ 6 ≤ m.st)) : m.asked l = m.at_ 9 := by
  unfold RE.asked; rw [if_neg h]; simp [ha]
theorem ItemsIn.below {w w' : World} {v : Value} {l : List (Nat × Nat)} (h : ItemsIn w v l) (hb : Below w.heap.size w w') : ItemsIn w' v l := by
  obtain ⟨a, cap, g, rfl, ha, hc⟩ := h
  refine ⟨a, cap, g, rfl, fun h0 => ⟨(ha h0).1, Nat.lt_of_lt_of_le (ha h0).2 hb.size⟩, fun k hk => ?_⟩
  have hg := (ha (by omega)).2
  exact ⟨(hb.cell (p := ⟨g, k * 2, none⟩) hg).trans (hc k hk).1, (hb.cell (p := ⟨g, k * 2 + 1, none⟩) hg).trans (hc k hk).2⟩
theorem RE.take1_fit {m : RE} {k : Nat} (h : m.Fit (k + 1)) (x : Nat × Nat) : (m.take1 x).Fit k := by
  obtain ⟨a1, a2, a3, a4, a5, a6, a7, a8, a9⟩ := h
  unfold RE.take1
  split
  · exact ⟨by simp; omega, by simp; omega, by simp; omega, a4, by simp; omega, by simp; omega, by simp; omega, by simp; omega, by simp; omega⟩
  · split
    · unfold RE.ask
      split
      · exact ⟨by simp; omega, by simp; omega, by simp; omega, a4, by simp; omega, by simp; omega, by simp; omega, by simp; omega, by simp; omega⟩
      · split <;> exact ⟨by simp; omega, by simp; omega, by simp; omega, a4, by simp; omega, by simp; omega, by simp; omega, by simp; omega, by simp; omega⟩
    · exact ⟨by omega, by omega, by omega, a4, by omega, by omega, by omega, by omega, by omega⟩
theorem RE.takeAll_fit (l : List (Nat × Nat)) {m : RE} {k : Nat} (h : m.Fit (k + l.length)) : (m.takeAll l).Fit k := by
  induction l generalizing m with
  | nil => exact h
  | cons x l ih => exact ih (RE.take1_fit (by rw [List.length_cons] at h; exact h) x)
end Go.Proofs.YtoeihlgidakjbaaGreatDoor

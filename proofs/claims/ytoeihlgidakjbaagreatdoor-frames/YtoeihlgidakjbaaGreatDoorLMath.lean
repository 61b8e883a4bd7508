/- Lined's mathematics: escapes read back give the content; a byte less, or a bit turned, never does. -/
import Derived.Test.YtoeihlgidakjbaaGreatDoorMath
namespace Go.Proofs.YtoeihlgidakjbaaGreatDoor
open Go.RowKit

/-- The reading as a list alone: none, or what is gathered, behind a prefix. -/
theorem un_acc : ∀ (l acc : List UInt8) (e : Bool), un l acc e = (un l [] e).map (acc ++ ·) := by
  intro l
  induction l with
  | nil => intro acc e; cases e <;> simp [un]
  | cons c r ih =>
    intro acc e
    unfold un
    split
    · simp
    · split
      · exact ih _ _
      · rw [ih (acc ++ _), ih ([] ++ _)]
        cases un r [] false <;> simp
def rd (l : List UInt8) : Option (List UInt8) := un l [] false
theorem rd_nil : rd [] = some [] := rfl
theorem rd_flag {c : UInt8} {r : List UInt8} (h : c.toNat = 126) : rd (c :: r) = none := un_flag h
theorem rd_esc_nil {c : UInt8} (h : c.toNat = 125) : rd [c] = none := by unfold rd; rw [un_esc h]; rfl
theorem rd_esc_flag {c d : UInt8} {r : List UInt8} (h : c.toNat = 125) (h2 : d.toNat = 126) : rd (c :: d :: r) = none := by unfold rd; rw [un_esc h, un_flag h2]
theorem rd_esc {c d : UInt8} {r : List UInt8} (h : c.toNat = 125) (h2 : ¬ d.toNat = 126) : rd (c :: d :: r) = (rd r).map ((d ^^^ 32) :: ·) := by
  unfold rd; rw [un_esc h, un_turn h2, un_acc]; rfl
theorem rd_plain {c : UInt8} {r : List UInt8} (h1 : ¬ c.toNat = 126) (h2 : ¬ c.toNat = 125) : rd (c :: r) = (rd r).map (c :: ·) := by
  unfold rd; rw [un_plain h1 h2, un_acc]; rfl
theorem x32 (c : UInt8) : (c ^^^ 32) ^^^ 32 = c := by rw [UInt8.xor_assoc]; simp
theorem x32_ne (c : UInt8) : ¬ c ^^^ 32 = c := by
  intro h
  have : c ^^^ (c ^^^ 32) = c ^^^ c := by rw [h]
  rw [← UInt8.xor_assoc] at this; simp at this
theorem esc_cases (c : UInt8) : (esc c = [125, c ^^^ 32] ∧ (c = 126 ∨ c = 125)) ∨ (esc c = [c] ∧ ¬ c.toNat = 126 ∧ ¬ c.toNat = 125) := by
  by_cases h : c.toNat = 126 ∨ c.toNat = 125
  · refine .inl ⟨by unfold esc; rw [if_pos h], ?_⟩
    rcases h with h | h
    · exact .inl (UInt8.toNat_inj.1 h)
    · exact .inr (UInt8.toNat_inj.1 h)
  · exact .inr ⟨by unfold esc; rw [if_neg h], by omega, by omega⟩
/-- What is escaped is read again. -/
theorem rd_escL (l r : List UInt8) : rd (escL l ++ r) = (rd r).map (l ++ ·) := by
  induction l with
  | nil => simp [escL]
  | cons c l ih =>
    rw [escL_cons, List.append_assoc]
    rcases esc_cases c with ⟨h, h2⟩ | ⟨h, h2, h3⟩
    · rw [h]
      show rd (125 :: (c ^^^ 32) :: (escL l ++ r)) = _
      rw [rd_esc (by rfl) (by rcases h2 with rfl | rfl <;> decide), ih, x32]
      cases rd r <;> simp
    · rw [h]
      show rd (c :: (escL l ++ r)) = _
      rw [rd_plain h2 h3, ih]
      cases rd r <;> simp
theorem rd_escL' (l : List UInt8) : rd (escL l) = some l := by
  have := rd_escL l []
  simpa [rd_nil] using this
/-- No flag is among what is escaped. -/
theorem escL_noflag (l : List UInt8) : ∀ c ∈ escL l, ¬ c.toNat = 126 := by
  intro c hc
  simp only [escL, List.mem_flatMap] at hc
  obtain ⟨d, _, hd⟩ := hc
  rcases esc_cases d with ⟨h, h2⟩ | ⟨h, h2, h3⟩
  · rw [h] at hd
    simp at hd
    rcases hd with rfl | rfl
    · decide
    · rcases h2 with rfl | rfl <;> decide
  · rw [h] at hd; simp at hd; subst hd; exact h2

/-- What is escaped begins with no flag, and its first byte is the escape just where its second one is of two. -/
theorem escL_head (l : List UInt8) : escL l = [] ∧ l = [] ∨ (∃ c t, l = c :: t ∧ escL l = 125 :: (c ^^^ 32) :: escL t ∧ (c = 126 ∨ c = 125)) ∨ (∃ c t, l = c :: t ∧ escL l = c :: escL t ∧ ¬ c.toNat = 126 ∧ ¬ c.toNat = 125) := by
  cases l with
  | nil => exact .inl ⟨rfl, rfl⟩
  | cons c t =>
    rw [escL_cons]
    rcases esc_cases c with ⟨h, h2⟩ | ⟨h, h2, h3⟩
    · exact .inr (.inl ⟨c, t, rfl, by rw [h]; rfl, h2⟩)
    · exact .inr (.inr ⟨c, t, rfl, by rw [h]; rfl, h2, h3⟩)

/-- Behind an escape that has lost its byte, or that a byte has become: never the content that it was (with one byte 'x' ahead), nor one that is as long. -/
theorem rd_swallow (l : List UInt8) (x : UInt8) : ¬ rd (125 :: escL l) = some (x :: l) := by
  intro h
  rcases escL_head l with ⟨h1, h2⟩ | ⟨c, t, h1, h2, h3⟩ | ⟨c, t, h1, h2, h3, h4⟩
  · rw [h1, rd_esc_nil (by rfl)] at h; simp at h
  · rw [h2, rd_esc (by rfl) (by decide)] at h
    have hc : ¬ (c ^^^ 32).toNat = 126 ∧ ¬ (c ^^^ 32).toNat = 125 := by rcases h3 with rfl | rfl <;> decide
    rw [rd_plain hc.1 hc.2, rd_escL'] at h
    rw [h1] at h
    simp at h
    exact x32_ne c h.2
  · rw [h2] at h
    rw [rd_esc (by rfl) h3, rd_escL'] at h
    rw [h1] at h
    simp at h

/-- A byte less. -/
theorem rd_less : ∀ (l : List UInt8) (n : Nat), n < (escL l).length → ¬ rd ((escL l).eraseIdx n) = some l := by
  intro l
  induction l with
  | nil => intro n hn; simp [escL] at hn
  | cons c l ih =>
    intro n hn h
    rw [escL_cons] at hn h
    rcases esc_cases c with ⟨h1, h2⟩ | ⟨h1, h2, h3⟩
    · rw [h1] at hn h
      have hc : ¬ (c ^^^ 32).toNat = 126 ∧ ¬ (c ^^^ 32).toNat = 125 := by rcases h2 with rfl | rfl <;> decide
      match n, hn, h with
      | 0, _, h =>
        have h' : rd ((c ^^^ 32) :: escL l) = some (c :: l) := h
        rw [rd_plain hc.1 hc.2, rd_escL'] at h'
        simp at h'
        exact x32_ne c h'
      | 1, _, h =>
        have h' : rd (125 :: escL l) = some (c :: l) := h
        exact rd_swallow l c h'
      | n + 2, hn, h =>
        have h' : rd (125 :: (c ^^^ 32) :: (escL l).eraseIdx n) = some (c :: l) := h
        rw [rd_esc (by rfl) hc.1, x32] at h'
        have hn' : n < (escL l).length := by simp at hn; omega
        refine ih n hn' ?_
        cases hx : rd ((escL l).eraseIdx n) with
        | none => rw [hx] at h'; simp at h'
        | some s => rw [hx] at h'; simp at h'; rw [h']
    · rw [h1] at hn h
      match n, hn, h with
      | 0, _, h =>
        have h' : rd (escL l) = some (c :: l) := h
        rw [rd_escL'] at h'
        simp at h'
      | n + 1, hn, h =>
        have h' : rd (c :: (escL l).eraseIdx n) = some (c :: l) := h
        rw [rd_plain h2 h3] at h'
        have hn' : n < (escL l).length := by simp at hn; omega
        refine ih n hn' ?_
        cases hx : rd ((escL l).eraseIdx n) with
        | none => rw [hx] at h'; simp at h'
        | some s => rw [hx] at h'; simp at h'; rw [h']

/-- A byte that is another one. -/
theorem rd_turned : ∀ (l : List UInt8) (n : Nat) (x : UInt8), n < (escL l).length → ¬ (escL l)[n]? = some x → ¬ rd ((escL l).set n x) = some l := by
  intro l
  induction l with
  | nil => intro n x hn; simp [escL] at hn
  | cons c l ih =>
    intro n x hn hx h
    have hE := escL_cons l c
    simp only [hE] at hn hx h
    rcases esc_cases c with ⟨h1, h2⟩ | ⟨h1, h2, h3⟩
    · have hc : ¬ (c ^^^ 32).toNat = 126 ∧ ¬ (c ^^^ 32).toNat = 125 := by rcases h2 with rfl | rfl <;> decide
      simp only [h1] at hn hx h
      match n, hn, hx, h with
      | 0, _, hx, h =>
        have h' : rd (x :: (c ^^^ 32) :: escL l) = some (c :: l) := h
        have hx' : ¬ x = 125 := fun e => hx (by rw [e]; rfl)
        by_cases h6 : x.toNat = 126
        · rw [rd_flag h6] at h'; simp at h'
        · have h5 : ¬ x.toNat = 125 := fun e => hx' (UInt8.toNat_inj.1 e)
          rw [rd_plain h6 h5, rd_plain hc.1 hc.2, rd_escL'] at h'
          simp at h'
      | 1, _, hx, h =>
        have h' : rd (125 :: x :: escL l) = some (c :: l) := h
        have hx' : ¬ x = c ^^^ 32 := fun e => hx (by rw [e]; rfl)
        by_cases h6 : x.toNat = 126
        · rw [rd_esc_flag (by rfl) h6] at h'; simp at h'
        · rw [rd_esc (by rfl) h6, rd_escL'] at h'
          simp at h'
          exact hx' (by rw [← h', x32])
      | n + 2, hn, hx, h =>
        have h' : rd (125 :: (c ^^^ 32) :: (escL l).set n x) = some (c :: l) := h
        rw [rd_esc (by rfl) hc.1, x32] at h'
        have hn' : n < (escL l).length := by simp at hn; omega
        have hx' : ¬ (escL l)[n]? = some x := hx
        refine ih n x hn' hx' ?_
        cases hy : rd ((escL l).set n x) with
        | none => rw [hy] at h'; simp at h'
        | some s => rw [hy] at h'; simp at h'; rw [h']
    · simp only [h1] at hn hx h
      match n, hn, hx, h with
      | 0, _, hx, h =>
        have h' : rd (x :: escL l) = some (c :: l) := h
        have hx' : ¬ x = c := fun e => hx (by rw [e]; rfl)
        by_cases h6 : x.toNat = 126
        · rw [rd_flag h6] at h'; simp at h'
        · by_cases h5 : x.toNat = 125
          · have e : x = 125 := UInt8.toNat_inj.1 h5
            rw [e] at h'
            exact rd_swallow l c h'
          · rw [rd_plain h6 h5, rd_escL'] at h'
            simp at h'
            exact hx' h'
      | n + 1, hn, hx, h =>
        have h' : rd (c :: (escL l).set n x) = some (c :: l) := h
        rw [rd_plain h2 h3] at h'
        have hn' : n < (escL l).length := by simp at hn; omega
        have hx' : ¬ (escL l)[n]? = some x := hx
        refine ih n x hn' hx' ?_
        cases hy : rd ((escL l).set n x) with
        | none => rw [hy] at h'; simp at h'
        | some s => rw [hy] at h'; simp at h'; rw [h']

/-- A frame's content, its pieces: what is read from a content's bytes on the line. -/
theorem unesc_escL {l : List UInt8} (h1 : 4 ≤ l.length) (h2 : l.length ≤ 44) : unesc (escL l) = some l := unesc_some (rd_escL' l) h1 h2
theorem unesc_rd {l s : List UInt8} (h : unesc l = some s) : rd l = some s ∧ 4 ≤ s.length ∧ s.length ≤ 44 := by
  unfold unesc at h
  cases hx : un l [] false with
  | none => rw [hx] at h; simp at h
  | some t =>
    rw [hx] at h
    simp only at h
    split at h
    · rename_i hh; cases h; exact ⟨hx, hh⟩
    · cases h
end Go.Proofs.YtoeihlgidakjbaaGreatDoor

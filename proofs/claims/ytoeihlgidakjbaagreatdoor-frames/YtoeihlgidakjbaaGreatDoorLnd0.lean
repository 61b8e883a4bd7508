/- What Lined's walk stands on: Frame as it reads, what Unframe answers at a packet's own bytes and at others. -/
import Derived.Test.YtoeihlgidakjbaaGreatDoorUnf
namespace Go.Proofs.YtoeihlgidakjbaaGreatDoor
open Go.RowKit

theorem owns_below {w w' : World} {B e s : Nat} {v : Value} {n : Nat} {xs : List Value} (h : w.ownsRow B e s v n xs) (hb : Below w.heap.size w w') : w'.ownsRow B e s v n xs := by
  obtain ⟨h1, h2⟩ := h
  refine ⟨h1, ?_⟩
  rcases h2 with h | ⟨g, cap, cur, e1, e2, e3, e4⟩
  · exact .inl h
  · exact .inr ⟨g, cap, cur, e1, e2, (hb.block g (lt_of_block e3)).trans e3, e4⟩

theorem encl_len (l : List UInt8) : (encl l).length = (escL l).length + 2 := by simp [encl]
theorem rd_encl {w : World} {g : Nat} {l : List UInt8} (h : Rd w g 0 (encl l)) :
    w.cell? ⟨g, 0, none⟩ = some (.int .u8 126) ∧ w.cell? ⟨g, (escL l).length + 1, none⟩ = some (.int .u8 126) ∧ Rd w g 1 (escL l) := by
  refine ⟨by simpa [encl] using h 0 (by simp [encl]), by simpa [encl] using h ((escL l).length + 1) (by simp [encl]), ?_⟩
  intro k hk
  have := h (k + 1) (by rw [encl_len]; omega)
  rw [show 1 + k = 0 + (k + 1) from by omega]
  simpa [encl, List.getElem_append_left hk] using this

set_option maxHeartbeats 1000000 in
theorem frame_rd (c d : UInt8) (s : ByteArray) (w : World) (hn : s.size ≤ 40) (h0 : 0 < c.toNat) :
    Calls Tryz.prog 51 #[.agg #[.int .i64 (c.toNat : Int), .int .i64 (d.toNat : Int), .string s]] w fun e w' => ∃ g cap, e = .returned (.tuple #[.slice (some ⟨g, 0, none⟩) ((escL (content c d s.data.toList)).length + 2) cap, .int .i64 0]) ∧
      w'.cell? ⟨g, 0, none⟩ = some (.int .u8 126) ∧ w'.cell? ⟨g, (escL (content c d s.data.toList)).length + 1, none⟩ = some (.int .u8 126) ∧ Rd w' g 1 (escL (content c d s.data.toList)) ∧ w.heap.size ≤ g ∧ g < w'.heap.size ∧ (escL (content c d s.data.toList)).length + 2 ≤ cap ∧ cap ≤ maxLen ∧ Below w.heap.size w w' := by
  refine (frame_yes c d s w hn h0).mono ?_
  rintro e w' ⟨v, rfl, hown, hb⟩
  obtain ⟨_, g, cap, rfl, h1, h2, h3, h4, h5⟩ := owns_rd hown (by rw [encl_len]; omega)
  obtain ⟨r1, r2, r3⟩ := rd_encl h5
  rw [encl_len] at h3 ⊢
  exact ⟨g, cap, rfl, r1, r2, r3, h1, h2, h3, h4, hb⟩

/-- Two bytes are a number's lower and higher one. -/
theorem le16_iff (x y : UInt8) (n : Nat) (_hn : n < 65536) : le16 x y = n ↔ x = UInt8.ofNat (n % 256) ∧ y = UInt8.ofNat (n / 256) := by
  have hx := UInt8.toNat_lt x
  have hy := UInt8.toNat_lt y
  unfold le16
  constructor
  · intro h
    refine ⟨UInt8.toNat_inj.1 ?_, UInt8.toNat_inj.1 ?_⟩ <;> rw [UInt8.toNat_ofNat'] <;> omega
  · rintro ⟨rfl, rfl⟩
    rw [UInt8.toNat_ofNat', UInt8.toNat_ofNat']; omega
theorem content_of {c d : UInt8} {t : List UInt8} {x y : UInt8} (h : le16 x y = sumL (c :: d :: t)) : (c :: d :: t) ++ [x, y] = content c d t := by
  obtain ⟨h1, h2⟩ := (le16_iff x y _ (sumL_lt _)).1 h
  unfold content headOf
  rw [h1, h2]
theorem content_split {c d c' d' : UInt8} {s t : List UInt8} {x y : UInt8} (h : content c d s = (c' :: d' :: t) ++ [x, y]) : c' = c ∧ d' = d ∧ t = s ∧ le16 x y = sumL (c :: d :: s) := by
  unfold content headOf at h
  have := List.append_inj' h (by simp)
  obtain ⟨h1, h2⟩ := this
  simp at h1 h2
  obtain ⟨rfl, rfl, rfl⟩ := h1
  refine ⟨rfl, rfl, rfl, ?_⟩
  rw [le16_iff _ _ _ (sumL_lt _)]
  exact ⟨h2.1.symm, h2.2.symm⟩

/-- A packet's own bytes are read as that packet. -/
theorem unf_self {c d : UInt8} {s : List UInt8} {v : Value} {n : Int} (hs : s.length ≤ 40) (h0 : 0 < c.toNat) (h : UnfR (escL (content c d s)) v n) : v = pktV c d s ∧ n = 0 := by
  have hu : unesc (escL (content c d s)) = some (content c d s) := unesc_escL (by rw [content_len]; omega) (by rw [content_len]; omega)
  rcases h with ⟨h1, _⟩ | ⟨c', d', t, x, y, h1, h2⟩
  · rw [hu] at h1; cases h1
  · rw [hu] at h1
    obtain ⟨rfl, rfl, rfl, e⟩ := content_split (Option.some.inj h1)
    rcases h2 with ⟨h2, _⟩ | ⟨_, h2, _⟩ | ⟨_, _, h3, h4⟩
    · exact absurd e h2
    · omega
    · exact ⟨h3, h4⟩
/-- What Unframe answers: a number that is not 0, or a packet whose content was read. -/
theorem unf_cases {l : List UInt8} {v : Value} {n : Int} (h : UnfR l v n) : (v = zeroP ∧ (n == 0) = false) ∨ (∃ c d t, v = pktV c d t ∧ n = 0 ∧ rd l = some (content c d t) ∧ t.length ≤ 40) := by
  rcases h with ⟨_, h1, rfl⟩ | ⟨c, d, t, x, y, h1, h2⟩
  · exact .inl ⟨h1, by decide⟩
  · rcases h2 with ⟨_, h3, rfl⟩ | ⟨_, _, h3, rfl⟩ | ⟨h3, _, h4, rfl⟩
    · exact .inl ⟨h3, by decide⟩
    · exact .inl ⟨h3, by decide⟩
    · obtain ⟨r1, _, r2⟩ := unesc_rd h1
      refine .inr ⟨c, d, t, h4, rfl, ?_, ?_⟩
      · rw [r1, content_of h3]
      · simp at r2; omega

theorem unframe_len {aS aC aF aL aO aH : Addr} (b off cap N : Nat) (l : List UInt8) (w : World) (hgl : Gl w aS aC aF aL aO aH) (hr : Rd w b off l) (hbl : b < w.heap.size) (hn : l.length ≤ 140737488351232) (hN : l.length = N) :
    Calls Tryz.prog 47 #[.slice (some ⟨b, off, none⟩) N cap] w fun e w' => Below w.heap.size w w' ∧ ∃ v n, e = .returned (.tuple #[v, .int .i64 n]) ∧ UnfR l v n := by
  subst hN; exact unframe_any b off cap l w hgl hr hbl hn
/-- '!=' of two packets of which a part differs. -/
theorem neq_run {a1 a2 c d : Int} {s1 s : ByteArray} (h : ¬ (a1 = c ∧ a2 = d ∧ s1.toList = s.toList)) (w : World) :
    (binOp .neq 27 (.agg #[.int .i64 a1, .int .i64 a2, .string s1]) (.agg #[.int .i64 c, .int .i64 d, .string s])).run Tryz.prog w = .ok (.bool true) w := by
  go_simp
  intro h1 h2 h3
  exact h ⟨h1, h2, h3⟩
/-- What Unframe answers at bytes that are not read as the content of a packet: a number that is not 0, or another packet. -/
theorem unf_other {l : List UInt8} {v : Value} {n : Int} {c d : UInt8} {s : ByteArray} (h : UnfR l v n) (hne : ¬ rd l = some (content c d s.data.toList)) :
    ∃ a1 a2 s1, v = .agg #[.int .i64 a1, .int .i64 a2, .string s1] ∧ ((n != 0) = true ∨ (n = 0 ∧ ∀ w, (binOp .neq 27 (.agg #[.int .i64 a1, .int .i64 a2, .string s1]) (.agg #[.int .i64 (c.toNat : Int), .int .i64 (d.toNat : Int), .string s])).run Tryz.prog w = .ok (.bool true) w)) := by
  rcases unf_cases h with ⟨rfl, h1⟩ | ⟨c', d', t, rfl, h1, h2, _⟩
  · exact ⟨_, _, _, rfl, .inl (by simpa [bne] using h1)⟩
  · refine ⟨_, _, _, rfl, .inr ⟨h1, fun w => neq_run ?_ w⟩⟩
    rintro ⟨e1, e2, e3⟩
    have x1 : c' = c := UInt8.toNat_inj.1 (by omega)
    have x2 : d' = d := UInt8.toNat_inj.1 (by omega)
    subst x1 x2
    rw [ByteArray.toList_eq, ByteArray.toList_eq] at e3
    apply hne
    rw [h2]
    have : t = s.data.toList := by simpa using e3
    rw [this]
end Go.Proofs.YtoeihlgidakjbaaGreatDoor

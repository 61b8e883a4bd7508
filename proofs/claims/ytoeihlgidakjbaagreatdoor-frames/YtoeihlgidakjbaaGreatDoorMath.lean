/- The plain mathematics of packets on the line: the sum, escapes, contents; no program in it. -/
import Derived.WalkKit
import Derived.Laws.BitsAllLaws
namespace Go.Proofs.YtoeihlgidakjbaaGreatDoor
open Go.RowKit

/-- The sum of bytes, one byte more. -/
def sumStep (s : Nat) (c : UInt8) : Nat := (s * 17 + c.toNat) % 65536
def sumL (l : List UInt8) : Nat := l.foldl sumStep 1
theorem sumL_lt (l : List UInt8) : sumL l < 65536 := by
  unfold sumL
  have : ∀ (l : List UInt8) (s : Nat), s < 65536 → l.foldl sumStep s < 65536 := by
    intro l; induction l with
    | nil => intro s h; simpa using h
    | cons c r ih => intro s _; simp only [List.foldl_cons]; exact ih _ (by unfold sumStep; omega)
  exact this l 1 (by omega)
theorem sumL_snoc (l : List UInt8) (c : UInt8) : sumL (l ++ [c]) = (sumL l * 17 + c.toNat) % 65536 := by simp [sumL, sumStep]

/-- The value of a byte. -/
def bv (c : UInt8) : Value := .int .u8 (c.toNat : Int)

/-- A slice's value reads, in a world, as bytes. -/
def Rd (w : World) (b off : Nat) (l : List UInt8) : Prop := ∀ k (h : k < l.length), w.cell? ⟨b, off + k, none⟩ = some (.int .u8 ((l[k]).toNat : Int))
theorem rd_below {B : Nat} {w w' : World} {b off : Nat} {l : List UInt8} (h : Rd w b off l) (hb : Below B w w') (hB : b < B) : Rd w' b off l :=
  fun k hk => (hb.cell (p := ⟨b, off + k, none⟩) hB).trans (h k hk)
theorem take_snoc (l : List UInt8) (k : Nat) (h : k < l.length) : l.take (k + 1) = l.take k ++ [l[k]] := by
  rw [List.take_succ_eq_append_getElem h]

/-- A byte on the line; bytes on the line; a content between two flags. -/
def esc (c : UInt8) : List UInt8 := if c.toNat = 126 ∨ c.toNat = 125 then [125, c ^^^ 32] else [c]
def escL (l : List UInt8) : List UInt8 := l.flatMap esc
def encl (l : List UInt8) : List UInt8 := 126 :: (escL l ++ [126])
theorem esc_len (c : UInt8) : 1 ≤ (esc c).length ∧ (esc c).length ≤ 2 := by unfold esc; split <;> simp
theorem escL_snoc (l : List UInt8) (c : UInt8) : escL (l ++ [c]) = escL l ++ esc c := by simp [escL]
theorem escL_cons (l : List UInt8) (c : UInt8) : escL (c :: l) = esc c ++ escL l := by simp [escL]
theorem escL_len (l : List UInt8) : l.length ≤ (escL l).length ∧ (escL l).length ≤ 2 * l.length := by
  induction l with
  | nil => simp [escL]
  | cons c r ih => have := esc_len c; simp [escL_cons]; omega
theorem escL_take (l : List UInt8) (k : Nat) (h : k < l.length) : escL (l.take (k + 1)) = escL (l.take k) ++ esc l[k] := by rw [take_snoc l k h, escL_snoc]
theorem byte_xor (c : UInt8) : bits .xor .u8 (c.toNat : Int) 32 = ((c ^^^ 32).toNat : Int) := by
  have h := u8_xor_nat c.toNat 32 (UInt8.toNat_lt c) (by decide)
  rw [show ((32 : Nat) : Int) = 32 from rfl] at h
  rw [h, UInt8.toNat_xor]; rfl
theorem below_own {B : Nat} {w wr w1 : World} {v : Value} {n : Nat} {xs : List Value} {e s : Nat} (hnx : Below B w wr) (hB : B ≤ wr.heap.size) (hown : wr.ownsRow B e s v n xs) (o : Obj) (hg : (wr.alloc o).grownBy w1 v.ownBlock) : Below B w w1 :=
  (hnx.alloc hB o).grown hg (by simp; omega) (fun k hk => (hown.lt k hk).1)

theorem owns_mono {w : World} {B B' e s : Nat} {v : Value} {n : Nat} {xs : List Value} (h : w.ownsRow B e s v n xs) (hB : B' ≤ B) : w.ownsRow B' e s v n xs := by
  obtain ⟨h1, h2⟩ := h
  refine ⟨h1, ?_⟩
  rcases h2 with h | ⟨g, cap, cur, e1, e2, e3⟩
  · exact .inl h
  · exact .inr ⟨g, cap, cur, e1, Nat.le_trans hB e2, e3⟩
/-- A slice that owns bytes reads as these. -/
theorem owns_rd {w : World} {B e : Nat} {v : Value} {n : Nat} {l : List UInt8} (h : w.ownsRow B e 1 v n (l.map bv)) (h0 : 0 < l.length) :
    n = l.length ∧ ∃ g cap, v = .slice (some ⟨g, 0, none⟩) l.length cap ∧ B ≤ g ∧ g < w.heap.size ∧ l.length ≤ cap ∧ cap ≤ maxLen ∧ Rd w g 0 l := by
  have hl : n = l.length := by have := h.1; simp at this; omega
  subst hl
  refine ⟨rfl, ?_⟩
  obtain ⟨h1, h2⟩ := h
  rcases h2 with ⟨_, h⟩ | ⟨g, cap, cur, rfl, e2, e3, e4, e5, e6, e7⟩
  · omega
  · refine ⟨g, cap, rfl, e2, ?_, e4, e5, ?_⟩
    · rcases Nat.lt_or_ge g w.heap.size with h | h
      · exact h
      · simp [Array.getElem?_eq_none h] at e3
    · intro k hk
      have hh : w.ownsRow B e 1 (.slice (some ⟨g, 0, none⟩) l.length cap) l.length (l.map bv) := ⟨h1, .inr ⟨g, cap, cur, rfl, e2, e3, e4, e5, e6, e7⟩⟩
      have := hh.cellAt k (by omega)
      simpa [bv, List.getElem?_eq_getElem hk] using this
theorem below_cell3 {w w1 : World} {a b c : Value} {T : Nat} (h : Below (w.heap.size + 1) (w.alloc (.cells #[a, b, c] T)) w1) :
    w1.cell? ⟨w.heap.size, 0, none⟩ = some a ∧ w1.cell? ⟨w.heap.size, 1, none⟩ = some b ∧ w1.cell? ⟨w.heap.size, 2, none⟩ = some c :=
  ⟨(h.cell (p := ⟨w.heap.size, 0, none⟩) (by simp)).trans (by simp), (h.cell (p := ⟨w.heap.size, 1, none⟩) (by simp)).trans (by simp), (h.cell (p := ⟨w.heap.size, 2, none⟩) (by simp)).trans (by simp)⟩
/-- A packet's content. -/
def headOf (c d : UInt8) (s : List UInt8) : List UInt8 := c :: d :: s
def content (c d : UInt8) (s : List UInt8) : List UInt8 := headOf c d s ++ [UInt8.ofNat (sumL (headOf c d s) % 256), UInt8.ofNat (sumL (headOf c d s) / 256)]
theorem headOf_len (c d : UInt8) (s : List UInt8) : (headOf c d s).length = s.length + 2 := by simp [headOf]
theorem content_len (c d : UInt8) (s : List UInt8) : (content c d s).length = s.length + 4 := by simp [content, headOf]

/-- Escapes taken away; none: a flag, or an escape that escapes nothing. -/
def un : List UInt8 → List UInt8 → Bool → Option (List UInt8)
  | [], acc, e => if e then none else some acc
  | c :: r, acc, e => if c.toNat = 126 then none else if c.toNat = 125 ∧ e = false then un r acc true else un r (acc ++ [if e then c ^^^ 32 else c]) false
/-- What is between two flags, as a content; none: no frame. -/
def unesc (l : List UInt8) : Option (List UInt8) := match un l [] false with
  | none => none
  | some s => if 4 ≤ s.length ∧ s.length ≤ 44 then some s else none
theorem un_flag {c : UInt8} {r acc : List UInt8} {e : Bool} (h : c.toNat = 126) : un (c :: r) acc e = none := by simp [un, h]
theorem un_esc {c : UInt8} {r acc : List UInt8} (h : c.toNat = 125) : un (c :: r) acc false = un r acc true := by simp [un, h]
theorem un_plain {c : UInt8} {r acc : List UInt8} (h1 : ¬ c.toNat = 126) (h2 : ¬ c.toNat = 125) : un (c :: r) acc false = un r (acc ++ [c]) false := by simp [un, h1, h2]
theorem un_turn {c : UInt8} {r acc : List UInt8} (h1 : ¬ c.toNat = 126) : un (c :: r) acc true = un r (acc ++ [c ^^^ 32]) false := by simp [un, h1]
theorem un_len : ∀ (l acc : List UInt8) (e : Bool) (s : List UInt8), un l acc e = some s → acc.length ≤ s.length := by
  intro l
  induction l with
  | nil => intro acc e s h; unfold un at h; split at h <;> simp_all
  | cons c r ih =>
    intro acc e s h
    unfold un at h
    split at h
    · simp at h
    · split at h
      · exact ih _ _ _ h
      · have := ih _ _ _ h; simp at this; omega
theorem unesc_none {l : List UInt8} (h : un l [] false = none) : unesc l = none := by simp [unesc, h]
theorem unesc_long {l r acc : List UInt8} (x : UInt8) (h : un l [] false = un r (acc ++ [x]) false) (ha : acc.length = 44) : unesc l = none := by
  unfold unesc
  rw [h]
  cases hs : un r (acc ++ [x]) false with
  | none => rfl
  | some s => have := un_len _ _ _ _ hs; simp at this; simp; omega
theorem unesc_short {l acc : List UInt8} (h : un l [] false = some acc) (ha : acc.length < 4) : unesc l = none := by simp [unesc, h]; omega
theorem unesc_some {l acc : List UInt8} (h : un l [] false = some acc) (h1 : 4 ≤ acc.length) (h2 : acc.length ≤ 44) : unesc l = some acc := by simp [unesc, h, h1, h2]
theorem drop_cons' (l : List UInt8) (k : Nat) (h : k < l.length) : l.drop k = l[k] :: l.drop (k + 1) := List.drop_eq_getElem_cons h
end Go.Proofs.YtoeihlgidakjbaaGreatDoor

/- The plain mathematics of packets on the line: the sum, escapes, contents; no program in it. sumOf returns the document's sum of the bytes that its slice reads as; the world stays. enclose returns new memory that reads as the content between two flags, with escapes; nothing old turns. contentOf returns new memory that reads as the packet's content; nothing old turns. IsPacket, Write and Frame: Frame refuses what is no packet, and else returns new memory that reads as the packet's bytes on the line; nothing old turns. -/
import Derived.WalkKit
import Derived.Laws.BitsAllLaws
import Derived.Test.YtoeihlgidakjbaaGreatDoorProg
import Derived.WalkSpells
import Derived.WalkLawsBesides
import Derived.Lib.AppendStr
namespace Go.Proofs.YtoeihlgidakjbaaGreatDoor
open Go.RowKit
def sumStep (s : Nat) (c : UInt8) : Nat := (s * 17 + c.toNat) % 65536
def sumL (l : List UInt8) : Nat := l.foldl sumStep 1
theorem sumL_lt (l : List UInt8) : sumL l < 65536 := by
  unfold sumL
  have : ∀ (l : List UInt8) (s : Nat), s < 65536 → l.foldl sumStep s < 65536 := by
    intro l; induction l with
    | nil => intro s h; simpa using h
    | cons c r ih => intro s _; simp only [List.foldl_cons]; exact ih _ (by unfold sumStep; omega)
  exact this l 1 (by omega)
theorem sumL_snoc (l : List UInt8) (c : UInt8) : sumL (l ++ [c]) = (sumL l * 17 + c.toNat) % 65536 := by simp [sumL, sumStep]
def bv (c : UInt8) : Value := .int .u8 (c.toNat : Int)
def Rd (w : World) (b off : Nat) (l : List UInt8) : Prop := ∀ k (h : k < l.length), w.cell? ⟨b, off + k, none⟩ = some (.int .u8 ((l[k]).toNat : Int))
theorem rd_below {B : Nat} {w w' : World} {b off : Nat} {l : List UInt8} (h : Rd w b off l) (hb : Below B w w') (hB : b < B) : Rd w' b off l :=
  fun k hk => (hb.cell (p := ⟨b, off + k, none⟩) hB).trans (h k hk)
theorem take_snoc (l : List UInt8) (k : Nat) (h : k < l.length) : l.take (k + 1) = l.take k ++ [l[k]] := by
  rw [List.take_succ_eq_append_getElem h]
def esc (c : UInt8) : List UInt8 := if c.toNat = 126 ∨ c.toNat = 125 then [125, c ^^^ 32] else [c]
def escL (l : List UInt8) : List UInt8 := l.flatMap esc
def encl (l : List UInt8) : List UInt8 := 126 :: (escL l ++ [126])
theorem esc_len (c : UInt8) : 1 ≤ (esc c).length ∧ (esc c).length ≤ 2 := by unfold esc; split <;> simp
theorem escL_snoc (l : List UInt8) (c : UInt8) : escL (l ++ [c]) = escL l ++ esc c := by simp [escL]
theorem escL_cons (l : List UInt8) (c : UInt8) : escL (c :: l) = esc c ++ escL l := by simp [escL]
theorem escL_len (l : List UInt8) : l.length ≤ (escL l).length ∧ (escL l).length ≤ 2 * l.length := by
  induction l with
  | nil => simp [escL]
  | cons c r ih => have := esc_len c; simp [escL_cons]; omega
theorem escL_take (l : List UInt8) (k : Nat) (h : k < l.length) : escL (l.take (k + 1)) = escL (l.take k) ++ esc l[k] := by rw [take_snoc l k h, escL_snoc]
theorem byte_xor (c : UInt8) : bits .xor .u8 (c.toNat : Int) 32 = ((c ^^^ 32).toNat : Int) := by
  have h := u8_xor_nat c.toNat 32 (UInt8.toNat_lt c) (by decide)
  rw [show ((32 : Nat) : Int) = 32 from rfl] at h
  rw [h, UInt8.toNat_xor]; rfl
theorem below_own {B : Nat} {w wr w1 : World} {v : Value} {n : Nat} {xs : List Value} {e s : Nat} (hnx : Below B w wr) (hB : B ≤ wr.heap.size) (hown : wr.ownsRow B e s v n xs) (o : Obj) (hg : (wr.alloc o).grownBy w1 v.ownBlock) : Below B w w1 :=
  (hnx.alloc hB o).grown hg (by simp; omega) (fun k hk => (hown.lt k hk).1)
theorem owns_mono {w : World} {B B' e s : Nat} {v : Value} {n : Nat} {xs : List Value} (h : w.ownsRow B e s v n xs) (hB : B' ≤ B) : w.ownsRow B' e s v n xs := by
  obtain ⟨h1, h2⟩ := h
  refine ⟨h1, ?_⟩
  rcases h2 with h | ⟨g, cap, cur, e1, e2, e3⟩
  · exact .inl h
  · exact .inr ⟨g, cap, cur, e1, Nat.le_trans hB e2, e3⟩
theorem owns_rd {w : World} {B e : Nat} {v : Value} {n : Nat} {l : List UInt8} (h : w.ownsRow B e 1 v n (l.map bv)) (h0 : 0 < l.length) :
    n = l.length ∧ ∃ g cap, v = .slice (some ⟨g, 0, none⟩) l.length cap ∧ B ≤ g ∧ g < w.heap.size ∧ l.length ≤ cap ∧ cap ≤ maxLen ∧ Rd w g 0 l := by
  have hl : n = l.length := by have := h.1; simp at this; omega
  subst hl
  refine ⟨rfl, ?_⟩
  obtain ⟨h1, h2⟩ := h
  rcases h2 with ⟨_, h⟩ | ⟨g, cap, cur, rfl, e2, e3, e4, e5, e6, e7⟩
  · omega
  · refine ⟨g, cap, rfl, e2, ?_, e4, e5, ?_⟩
    · rcases Nat.lt_or_ge g w.heap.size with h | h
      · exact h
      · simp [Array.getElem?_eq_none h] at e3
    · intro k hk
      have hh : w.ownsRow B e 1 (.slice (some ⟨g, 0, none⟩) l.length cap) l.length (l.map bv) := ⟨h1, .inr ⟨g, cap, cur, rfl, e2, e3, e4, e5, e6, e7⟩⟩
      have := hh.cellAt k (by omega)
      simpa [bv, List.getElem?_eq_getElem hk] using this
theorem below_cell3 {w w1 : World} {a b c : Value} {T : Nat} (h : Below (w.heap.size + 1) (w.alloc (.cells #[a, b, c] T)) w1) :
    w1.cell? ⟨w.heap.size, 0, none⟩ = some a ∧ w1.cell? ⟨w.heap.size, 1, none⟩ = some b ∧ w1.cell? ⟨w.heap.size, 2, none⟩ = some c :=
  ⟨(h.cell (p := ⟨w.heap.size, 0, none⟩) (by simp)).trans (by simp), (h.cell (p := ⟨w.heap.size, 1, none⟩) (by simp)).trans (by simp), (h.cell (p := ⟨w.heap.size, 2, none⟩) (by simp)).trans (by simp)⟩
def headOf (c d : UInt8) (s : List UInt8) : List UInt8 := c :: d :: s
def content (c d : UInt8) (s : List UInt8) : List UInt8 := headOf c d s ++ [UInt8.ofNat (sumL (headOf c d s) % 256), UInt8.ofNat (sumL (headOf c d s) / 256)]
theorem headOf_len (c d : UInt8) (s : List UInt8) : (headOf c d s).length = s.length + 2 := by simp [headOf]
theorem content_len (c d : UInt8) (s : List UInt8) : (content c d s).length = s.length + 4 := by simp [content, headOf]
def un : List UInt8 → List UInt8 → Bool → Option (List UInt8)
  | [], acc, e => if e then none else some acc
  | c :: r, acc, e => if c.toNat = 126 then none else if c.toNat = 125 ∧ e = false then un r acc true else un r (acc ++ [if e then c ^^^ 32 else c]) false
def unesc (l : List UInt8) : Option (List UInt8) := match un l [] false with
  | none => none
  | some s => if 4 ≤ s.length ∧ s.length ≤ 44 then some s else none
theorem un_flag {c : UInt8} {r acc : List UInt8} {e : Bool} (h : c.toNat = 126) : un (c :: r) acc e = none := by simp [un, h]
theorem un_esc {c : UInt8} {r acc : List UInt8} (h : c.toNat = 125) : un (c :: r) acc false = un r acc true := by simp [un, h]
theorem un_plain {c : UInt8} {r acc : List UInt8} (h1 : ¬ c.toNat = 126) (h2 : ¬ c.toNat = 125) : un (c :: r) acc false = un r (acc ++ [c]) false := by simp [un, h1, h2]
theorem un_turn {c : UInt8} {r acc : List UInt8} (h1 : ¬ c.toNat = 126) : un (c :: r) acc true = un r (acc ++ [c ^^^ 32]) false := by simp [un, h1]
theorem un_len : ∀ (l acc : List UInt8) (e : Bool) (s : List UInt8), un l acc e = some s → acc.length ≤ s.length := by
  intro l
  induction l with
  | nil => intro acc e s h; unfold un at h; split at h <;> simp_all
  | cons c r ih =>
    intro acc e s h
    unfold un at h
    split at h
    · simp at h
    · split at h
      · exact ih _ _ _ h
      · have := ih _ _ _ h; simp at this; omega
theorem unesc_none {l : List UInt8} (h : un l [] false = none) : unesc l = none := by simp [unesc, h]
theorem unesc_long {l r acc : List UInt8} (x : UInt8) (h : un l [] false = un r (acc ++ [x]) false) (ha : acc.length = 44) : unesc l = none := by
  unfold unesc
  rw [h]
  cases hs : un r (acc ++ [x]) false with
  | none => rfl
  | some s => have := un_len _ _ _ _ hs; simp at this; simp; omega
theorem unesc_short {l acc : List UInt8} (h : un l [] false = some acc) (ha : acc.length < 4) : unesc l = none := by simp [unesc, h]; omega
theorem unesc_some {l acc : List UInt8} (h : un l [] false = some acc) (h1 : 4 ≤ acc.length) (h2 : acc.length ≤ 44) : unesc l = some acc := by simp [unesc, h, h1, h2]
theorem drop_cons' (l : List UInt8) (k : Nat) (h : k < l.length) : l.drop k = l[k] :: l.drop (k + 1) := List.drop_eq_getElem_cons h
end Go.Proofs.YtoeihlgidakjbaaGreatDoor
namespace Go.Proofs.YtoeihlgidakjbaaGreatDoor
open Go.RowKit
theorem u16_step (s c : Nat) (_hs : s < 65536) (_hc : c < 256) : IntKind.u16.wrap (IntKind.u16.wrap ((s : Int) * 17) + IntKind.u16.wrap (c : Int)) = (((s * 17 + c) % 65536 : Nat) : Int) := by
  simp only [IntKind.wrap, IntKind.signed, IntKind.bits, Bool.false_and, Bool.false_eq_true, if_false]
  omega
set_option maxHeartbeats 400000 in
theorem sumOf_any (b off cap : Nat) (l : List UInt8) (w : World) (hr : Rd w b off l) (hn : l.length ≤ 2000000) :
    Calls Tryz.prog 126 #[.slice (some ⟨b, off, none⟩) l.length cap] w fun e w' => e = .returned (.int .u16 (sumL l : Int)) ∧ w = w' := by
  go_enter Tryz.func126, Tryz.ntmps126
  go_wp2
  go_loop [3, 8] (fun s i => ∃ k : Nat, k ≤ l.length ∧ i = .int .i64 k ∧ s = .int .u16 (sumL (l.take k) : Int)) (fun _ i => l.length - (intOf i).toNat)
  case atStart => exact ⟨0, Nat.zero_le _, rfl, rfl⟩
  case round =>
    obtain ⟨k, hk, rfl, rfl⟩ := hrel
    have hs := sumL_lt (l.take k)
    by_cases hlt : k < l.length
    · have hc := hr k hlt
      have hsn := sumL_snoc (l.take k) l[k]
      have HS : Hid (sumL (l.take (k + 1)) = (sumL (l.take k) * 17 + (l[k]).toNat) % 65536) := by rw [take_snoc l k hlt]; exact hsn
      clear hsn
      go_wp2
      go_round
      case rel => exact ⟨k + 1, by omega, by go_num, by rw [HS.out, u16_step _ _ hs (UInt8.toNat_lt _)]⟩
      case measure => simp [intOf]; omega
    · go_wp2
      go_ret
      have hl : l.take k = l := List.take_of_length_le (by omega)
      rw [hl]
      exact ⟨rfl, rfl⟩
theorem ret_int {k : IntKind} {a b : Int} (h : a = b) : Ending.returned (.int k a) = .returned (.int k b) := by rw [h]
def pickN (c : Int) (n : Nat) : Nat := (if c < 0 then -(c + 1) else c).toNat % n
theorem neg_tm (c : Int) (n : Nat) (h : c < 0) : -((c + 1).tmod (n : Int)) = -(c + 1) % (n : Int) := by
  rw [← Int.neg_tmod, Int.tmod_eq_emod_of_nonneg (by omega)]
end Go.Proofs.YtoeihlgidakjbaaGreatDoor
namespace Go.Proofs.YtoeihlgidakjbaaGreatDoor
open Go.RowKit
theorem Tryz.infoB : (Tryz.prog.info? 5).map (fun i => (i.zero, i.size, i.bytes)) = some (some (.int .u8 0), 1, 1) := by kernel_rfl
set_option maxHeartbeats 1000000 in
theorem enclose_any (b off cap : Nat) (l : List UInt8) (w : World) (hr : Rd w b off l) (hbl : b < w.heap.size) (hn : l.length ≤ 2000000) :
    Calls Tryz.prog 112 #[.slice (some ⟨b, off, none⟩) l.length cap] w fun e w' => ∃ v, e = .returned v ∧ w'.ownsRow w.heap.size 5 1 v (encl l).length ((encl l).map bv) ∧ Below w.heap.size w w' := by
  obtain ⟨i0, hi, hz0, hz1, hz2⟩ := info_parts Tryz.infoB
  go_enter Tryz.func112, Tryz.ntmps112
  go_wp2_with (first | (at_make; refine wpList_make_own _ rfl _ _ 52 rfl w.heap.size 5 i0 (.int .u8 0) 1 Tryz.underlying52 hi hz0 hz1 .i64 .i64 _ (2 * l.length + 2) rfl rfl (by omega) (by rw [hz2]; omega) (by unfold maxLen; omega) (Nat.le_refl _) ?_; intro w0 hown0 hgrow0) | (at_builtin; refine wpList_append_own _ rfl (.tmp 11) (.tmp 12) 52 rfl w.heap.size 5 i0 (.int .u8 0) 1 1 Tryz.underlying52 hi hz0 hz1 hz2 rfl (by decide) _ _ _ rfl (hown0.alloc _) ⟨w0.heap.size, 0, none⟩ 1 1 [.int .u8 126] rfl rfl (cell_one_new _ _ _) (by intro u hu; simp at hu; subst hu; rfl) (by unfold maxLen; omega) (by omega) (by have := hgrow0.size; simp; omega) ?_; intro v1 w1 hown1 hgrow1 _))
  have hb0 : Below w.heap.size w w0 := (Below.refl _ _).grown hgrow0 (Nat.le_refl _) (fun k hk => by cases hk)
  have hb1 : Below w.heap.size w w1 := below_own hb0 hb0.size hown0 _ hgrow1
  have R1 : w1.ownsRow w.heap.size 5 1 v1 (1 + (escL (l.take 0)).length) ((126 :: escL (l.take 0)).map bv) := hown1
  clear hown1 hgrow1 hb0 hown0 hgrow0
  go_loopw [3, 16] (fun v i wr => ∃ k : Nat, k ≤ l.length ∧ i = .int .i64 k ∧ wr.ownsRow w.heap.size 5 1 v (1 + (escL (l.take k)).length) ((126 :: escL (l.take k)).map bv) ∧ Below w.heap.size w wr) (fun _ i _ => l.length - (intOf i).toNat)
  case atStart => exact ⟨0, Nat.zero_le _, rfl, R1, hb1⟩
  case round =>
    obtain ⟨k, hk, rfl, hown, hnx⟩ := hrel
    have hle := escL_len (l.take k)
    have hlt' : (l.take k).length ≤ k := List.length_take_le _ _
    clear R1 hb1
    by_cases hlt : k < l.length
    · have hc : wr.cell? ⟨b, off + k, none⟩ = some (.int .u8 ((l[k]).toNat : Int)) := (hnx.cell hbl).trans (hr k hlt)
      have HS : Hid (escL (l.take (k + 1)) = escL (l.take k) ++ esc l[k]) := escL_take l k hlt
      have HB := hnx
      generalize l[k] = c at hc HS
      by_cases h6 : c.toNat = 126 ∨ c.toNat = 125
      · have HE : Hid (esc c = [125, c ^^^ 32]) := by unfold esc; rw [if_pos h6]; exact rfl
        have HR : Hid (∀ (v2 : Value) (w2 : World), w2.ownsRow w.heap.size 5 1 v2 (1 + (escL (l.take k)).length + 2) (((126 :: escL (l.take k)).map bv) ++ [.int .u8 125, .int .u8 (bits .xor .u8 (c.toNat : Int) 32)]) → w2.ownsRow w.heap.size 5 1 v2 (1 + (escL (l.take (k + 1))).length) ((126 :: escL (l.take (k + 1))).map bv)) := by
          intro v2 w2 h
          rw [HS.out, HE.out]
          rw [byte_xor] at h
          simpa [bv, Nat.add_assoc] using h
        rcases h6 with h6 | h6
        · have h1 : ((c.toNat : Int) == 126) = true := by simp; omega
          clear h6
          go_wp2_with (first | (at_builtin; refine wpList_append_own _ rfl (.tmp 26) (.tmp 29) 52 rfl w.heap.size 5 i0 (.int .u8 0) 1 1 Tryz.underlying52 hi hz0 hz1 hz2 rfl (by decide) _ _ _ rfl (hown.alloc _) ⟨wr.heap.size, 0, none⟩ 2 2 [.int .u8 125, .int .u8 (bits .xor .u8 (c.toNat : Int) 32)] rfl rfl (cell_two_new _ _ _ _) (by intro u hu; simp at hu; rcases hu with rfl | rfl <;> rfl) (by unfold maxLen; omega) (by omega) (by have := hnx.size; simp; omega) ?_; intro v2 w2 hown2 hgrow2 _))
          go_roundw
          case rel => exact ⟨k + 1, by omega, by go_num, HR.out _ _ hown2, below_own HB HB.size hown _ hgrow2⟩
          case measure => simp [intOf]; omega
        · have h1 : ((c.toNat : Int) == 126) = false := by simp; omega
          have h2 : ((c.toNat : Int) == 125) = true := by simp; omega
          clear h6
          go_wp2_with (first | (at_builtin; refine wpList_append_own _ rfl (.tmp 26) (.tmp 29) 52 rfl w.heap.size 5 i0 (.int .u8 0) 1 1 Tryz.underlying52 hi hz0 hz1 hz2 rfl (by decide) _ _ _ rfl (hown.alloc _) ⟨wr.heap.size, 0, none⟩ 2 2 [.int .u8 125, .int .u8 (bits .xor .u8 (c.toNat : Int) 32)] rfl rfl (cell_two_new _ _ _ _) (by intro u hu; simp at hu; rcases hu with rfl | rfl <;> rfl) (by unfold maxLen; omega) (by omega) (by have := hnx.size; simp; omega) ?_; intro v2 w2 hown2 hgrow2 _))
          go_roundw
          case rel => exact ⟨k + 1, by omega, by go_num, HR.out _ _ hown2, below_own HB HB.size hown _ hgrow2⟩
          case measure => simp [intOf]; omega
      · have HE : Hid (esc c = [c]) := by unfold esc; rw [if_neg h6]; exact rfl
        have HR : Hid (∀ (v2 : Value) (w2 : World), w2.ownsRow w.heap.size 5 1 v2 (1 + (escL (l.take k)).length + 1) (((126 :: escL (l.take k)).map bv) ++ [.int .u8 (c.toNat : Int)]) → w2.ownsRow w.heap.size 5 1 v2 (1 + (escL (l.take (k + 1))).length) ((126 :: escL (l.take (k + 1))).map bv)) := by
          intro v2 w2 h
          rw [HS.out, HE.out]
          simpa [bv, Nat.add_assoc] using h
        have h1 : ((c.toNat : Int) == 126) = false := by simp; omega
        have h2 : ((c.toNat : Int) == 125) = false := by simp; omega
        clear h6
        go_wp2_with (first | (at_builtin; refine wpList_append_own _ rfl (.tmp 31) (.tmp 33) 52 rfl w.heap.size 5 i0 (.int .u8 0) 1 1 Tryz.underlying52 hi hz0 hz1 hz2 rfl (by decide) _ _ _ rfl (hown.alloc _) ⟨wr.heap.size, 0, none⟩ 1 1 [.int .u8 (c.toNat : Int)] rfl rfl (cell_one_new _ _ _) (by intro u hu; simp at hu; subst hu; rfl) (by unfold maxLen; omega) (by omega) (by have := hnx.size; simp; omega) ?_; intro v2 w2 hown2 hgrow2 _))
        go_roundw
        case rel => exact ⟨k + 1, by omega, by go_num, HR.out _ _ hown2, below_own HB HB.size hown _ hgrow2⟩
        case measure => simp [intOf]; omega
    · have hl : l.take k = l := List.take_of_length_le (by omega)
      rw [hl] at hown
      have hle := escL_len l
      clear hl
      go_wp2_with (first | (at_builtin; refine wpList_append_own _ rfl (.tmp 36) (.tmp 37) 52 rfl w.heap.size 5 i0 (.int .u8 0) 1 1 Tryz.underlying52 hi hz0 hz1 hz2 rfl (by decide) _ _ _ rfl (hown.alloc _) ⟨wr.heap.size, 0, none⟩ 1 1 [.int .u8 126] rfl rfl (cell_one_new _ _ _) (by intro u hu; simp at hu; subst hu; rfl) (by unfold maxLen; omega) (by omega) (by have := hnx.size; simp; omega) ?_; intro v2 w2 hown2 hgrow2 _))
      go_ret
      refine ⟨_, rfl, ?_, below_own hnx hnx.size hown _ hgrow2⟩
      have e : (encl l).length = 1 + (escL l).length + 1 := by simp [encl]; omega
      have e2 : (encl l).map bv = (126 :: escL l).map bv ++ [.int .u8 126] := by simp [encl, bv]
      rw [e, e2]; exact hown2
end Go.Proofs.YtoeihlgidakjbaaGreatDoor
namespace Go.Proofs.YtoeihlgidakjbaaGreatDoor
open Go.RowKit Go.Lib
theorem wrap_u8_byte (c : UInt8) : IntKind.u8.wrap (c.toNat : Int) = (c.toNat : Int) := by
  have := UInt8.toNat_lt c
  simp only [IntKind.wrap, IntKind.signed, IntKind.bits, Bool.false_and, Bool.false_eq_true, if_false]
  omega
theorem own_head {w : World} {B : Nat} {v : Value} {c d : UInt8} {s : ByteArray} (h : w.ownsRow B 5 1 v (2 + s.size) ([.int .u8 (c.toNat : Int), .int .u8 (d.toNat : Int)] ++ strCells s)) :
    ∃ g cap, v = .slice (some ⟨g, 0, none⟩) (headOf c d s.data.toList).length cap ∧ Rd w g 0 (headOf c d s.data.toList) ∧ w.ownsRow B 5 1 v (headOf c d s.data.toList).length ((headOf c d s.data.toList).map bv) := by
  have e : [.int .u8 (c.toNat : Int), .int .u8 (d.toNat : Int)] ++ strCells s = (headOf c d s.data.toList).map bv := by
    simp [headOf, strCells, bv]
  rw [e] at h
  obtain ⟨hn, g, cap, h1, _, _, _, _, h2⟩ := owns_rd h (by simp [headOf])
  rw [hn] at h
  exact ⟨g, cap, h1, h2, h⟩
theorem own_content {w3 : World} {B : Nat} {v : Value} {c d : UInt8} {s : List UInt8} (hs : sumL (headOf c d s) < 65536)
    (h : w3.ownsRow (B + 1) 5 1 v ((headOf c d s).length + 2) (List.map bv (headOf c d s) ++ [Value.int IntKind.u8 ((sumL (headOf c d s) : Int) % 256), Value.int IntKind.u8 ((sumL (headOf c d s) : Int) / 256)])) :
    w3.ownsRow B 5 1 v (content c d s).length ((content c d s).map bv) := by
  have e1 : (content c d s).length = (headOf c d s).length + 2 := by simp [content]
  have e2 : (content c d s).map bv = List.map bv (headOf c d s) ++ [Value.int IntKind.u8 ((sumL (headOf c d s) : Int) % 256), Value.int IntKind.u8 ((sumL (headOf c d s) : Int) / 256)] := by
    generalize hx : sumL (headOf c d s) = x at *
    have h1 : ((UInt8.ofNat (x % 256)).toNat : Int) = (x : Int) % 256 := by rw [UInt8.toNat_ofNat']; omega
    have h2 : ((UInt8.ofNat (x / 256)).toNat : Int) = (x : Int) / 256 := by rw [UInt8.toNat_ofNat']; omega
    simp only [content, hx, List.map_append, List.map_cons, List.map_nil, bv, h1, h2]
  rw [e1, e2]
  exact owns_mono h (Nat.le_succ _)
theorem below_box {w w3 : World} {o : Obj} (h : Below (w.heap.size + 1) (w.alloc o) w3) : Below w.heap.size w w3 :=
  ((Below.refl _ _).alloc (Nat.le_refl _) o).trans (h.mono (Nat.le_succ _))
set_option maxHeartbeats 1000000 in
theorem contentOf_any (c d : UInt8) (s : ByteArray) (w : World) (hn : s.size ≤ 1000000) :
    Calls Tryz.prog 113 #[.agg #[.int .i64 (c.toNat : Int), .int .i64 (d.toNat : Int), .string s]] w fun e w' => ∃ v, e = .returned v ∧ w'.ownsRow w.heap.size 5 1 v (content c d s.data.toList).length ((content c d s.data.toList).map bv) ∧ Below w.heap.size w w' := by
  obtain ⟨i0, hi, hz0, hz1, hz2⟩ := info_parts Tryz.infoB
  have hhl : (headOf c d s.data.toList).length ≤ 2000000 := by rw [headOf_len]; simp; omega
  have hsl := sumL_lt (headOf c d s.data.toList)
  have hwc := wrap_u8_byte c
  have hwd := wrap_u8_byte d
  go_enter Tryz.func113, Tryz.ntmps113
  go_wp2_with (first | (at_make; go_must (refine wpList_make_own _ rfl _ _ 52 rfl (w.heap.size + 1) 5 i0 (.int .u8 0) 1 Tryz.underlying52 hi hz0 hz1 .i64 .i64 _ (2 + s.size + 2) rfl rfl (by omega) (by rw [hz2]; omega) (by unfold maxLen; omega) (by simp) ?_; intro w0 hownX hgrow0; have hown0 : w0.ownsRow (w.heap.size + 1) 5 1 (.slice (some ⟨w.heap.size + 1, 0, none⟩) 0 (2 + s.size + 2)) 0 [] := (by simpa using hownX); clear hownX; have hb0 : Below (w.heap.size + 1) (w.alloc (.cells #[.int .i64 (c.toNat : Int), .int .i64 (d.toNat : Int), .string s] 27)) w0 := (Below.refl _ _).grown hgrow0 (by simp) (fun k hk => by cases hk); clear hgrow0; obtain ⟨f0, f1, f2⟩ := below_cell3 hb0; have z0 := hb0.size; simp at z0)) | (at_builtin; refine wpList_append_own _ rfl (.tmp 11) (.tmp 18) 52 rfl (w.heap.size + 1) 5 i0 (.int .u8 0) 1 1 Tryz.underlying52 hi hz0 hz1 hz2 rfl (by decide) _ 0 [] rfl (hown0.alloc _) ⟨w0.heap.size, 0, none⟩ 2 2 [.int .u8 (c.toNat : Int), .int .u8 (d.toNat : Int)] rfl rfl (cell_two_new _ _ _ _) (by intro u hu; simp at hu; rcases hu with rfl | rfl <;> rfl) (by unfold maxLen; omega) (by omega) (by simp; omega) ?_; intro v1 w1 hown1 hgrow1 _; have hb1 := below_own hb0 z0 hown0 _ hgrow1; clear hgrow1; obtain ⟨g0, g1, g2⟩ := below_cell3 hb1; have z1 := hb1.size; simp at z1) | (at_builtin; refine wpList_append_own_string _ rfl (.tmp 20) (.tmp 22) 52 9 rfl (w.heap.size + 1) 5 i0 Tryz.underlying52 Tryz.underlying9 hi hz0 hz1 hz2 _ 2 [.int .u8 (c.toNat : Int), .int .u8 (d.toNat : Int)] rfl hown1 s rfl (by unfold maxLen; omega) (by omega) (by omega) ?_; intro v2 w2 hown2 hgrow2 _; have hb2 : Below (w.heap.size + 1) (w.alloc (.cells #[.int .i64 (c.toNat : Int), .int .i64 (d.toNat : Int), .string s] 27)) w2 := hb1.grown hgrow2 z1 (fun k hk => (hown1.lt k hk).1); clear hgrow2; have z2 := hb2.size; simp at z2; obtain ⟨g, cap, hv, hrd, hown4⟩ := own_head hown2; clear hown2; subst hv)  | (go_at_call 126; refine (sumOf_any g 0 cap (headOf c d s.data.toList) _ hrd hhl).mono ?_; rintro e w' ⟨rfl, rfl⟩) | (at_builtin; refine wpList_append_own _ rfl (.tmp 26) (.tmp 32) 52 rfl (w.heap.size + 1) 5 i0 (.int .u8 0) 1 1 Tryz.underlying52 hi hz0 hz1 hz2 rfl (by decide) _ (headOf c d s.data.toList).length _ rfl (hown4.alloc _) ⟨w2.heap.size, 0, none⟩ 2 2 _ rfl rfl (cell_two_new _ _ _ _) (by intro u hu; simp at hu; rcases hu with rfl | rfl <;> rfl) (by unfold maxLen; omega) (by omega) (by simp; omega) ?_; intro v3 w3 hown3 hgrow3 _))
  go_ret
  exact ⟨_, rfl, own_content hsl hown3, below_box (below_own hb2 z2 hown4 _ hgrow3)⟩
end Go.Proofs.YtoeihlgidakjbaaGreatDoor
namespace Go.Proofs.YtoeihlgidakjbaaGreatDoor
open Go.RowKit
set_option maxHeartbeats 1000000 in
theorem write_any (c d : UInt8) (s : ByteArray) (w : World) (hn : s.size ≤ 1000000) :
    Calls Tryz.prog 77 #[.agg #[.int .i64 (c.toNat : Int), .int .i64 (d.toNat : Int), .string s]] w fun e w' => ∃ v, e = .returned v ∧ w'.ownsRow w.heap.size 5 1 v (encl (content c d s.data.toList)).length ((encl (content c d s.data.toList)).map bv) ∧ Below w.heap.size w w' := by
  have hcl : (content c d s.data.toList).length ≤ 2000000 := by rw [content_len]; simp; omega
  have hc0 : 0 < (content c d s.data.toList).length := by rw [content_len]; omega
  go_enter Tryz.func77, Tryz.ntmps77
  go_wp2_with fail
  refine (contentOf_any c d s _ hn).mono ?_
  rintro e w1 ⟨v1, rfl, hown1, hb1⟩
  obtain ⟨hn1, g, cap, rfl, hg1, hg2, _, _, hrd⟩ := owns_rd hown1 hc0
  have hbb : Below w.heap.size w w1 := ((Below.refl _ _).alloc (Nat.le_refl _) _).trans (hb1.mono (by simp))
  clear hown1 hn1
  go_wp2_with fail
  refine (enclose_any g 0 cap (content c d s.data.toList) w1 hrd hg2 hcl).mono ?_
  rintro e w2 ⟨v2, rfl, hown2, hb2⟩
  go_wp2_with fail
  go_ret
  exact ⟨_, rfl, owns_mono hown2 hbb.size, hbb.trans (hb2.mono hbb.size)⟩
end Go.Proofs.YtoeihlgidakjbaaGreatDoor

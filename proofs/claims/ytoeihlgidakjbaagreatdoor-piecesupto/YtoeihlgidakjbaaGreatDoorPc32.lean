/- What an end tells goes by turns: plain mathematics. spoken, Spoken. gave; Looped's memory. -/
import Derived.Test.YtoeihlgidakjbaaGreatDoorPc4
import Derived.Test.YtoeihlgidakjbaaGreatDoorPc31
namespace Go.Proofs.YtoeihlgidakjbaaGreatDoor
open Go.RowKit Go.Lib
end Go.Proofs.YtoeihlgidakjbaaGreatDoor
namespace Go.Proofs.YtoeihlgidakjbaaGreatDoor
open Go.RowKit Go.Lib
end Go.Proofs.YtoeihlgidakjbaaGreatDoor
namespace Go.Proofs.YtoeihlgidakjbaaGreatDoor
open Go.RowKit Go.Lib
set_option maxHeartbeats 400000 in
theorem kpick_any (c : Int) (n : Nat) (w : World) (h0 : 0 < n) (hn : n ≤ 1000000000000000) (hc1 : -9223372036854775808 ≤ c) (hc2 : c < 9223372036854775808) :
    Calls Tryz.prog 26 #[.int .i64 c, .int .i64 n] w fun e w' => e = .returned (.int .i64 (pickN c n : Int)) ∧ w = w' := by
  have hz : ((n : Int) == 0) = false := by simp; omega
  by_cases hneg : c < 0
  · have hp : ((pickN c n : Nat) : Int) = (-(c + 1)) % (n : Int) := by
      unfold pickN; rw [if_pos hneg, Int.natCast_emod, Int.toNat_of_nonneg (by omega)]
    rw [hp]; clear hp
    go_enter Tryz.func26, Tryz.ntmps26
    go_wp2
    go_ret
    exact ⟨ret_int (neg_tm c n hneg), rfl⟩
  · have hp : ((pickN c n : Nat) : Int) = c % (n : Int) := by
      unfold pickN; rw [if_neg hneg, Int.natCast_emod, Int.toNat_of_nonneg (by omega)]
    rw [hp]; clear hp
    go_enter Tryz.func26, Tryz.ntmps26
    go_wp2
    go_ret
    exact ⟨rfl, rfl⟩
def gaveL (l : List Nat) : Prop := 5 ∈ l ∨ 6 ∈ l
instance (l : List Nat) : Decidable (gaveL l) := inferInstanceAs (Decidable (5 ∈ l ∨ 6 ∈ l))
structure LoI (w : World) (B : Nat) (l : PLay) (m : RE) (v : Value) (ps : List Pq) (n : Nat) : Prop where
  pe : PE w B l m
  q : QRow w B v ps
  d : ∀ b, v.ownBlock = some b → ¬ l.has b
  lo : m.Lo
  both : m.Both n
  got : m.got = []
  mine : ∀ p ∈ ps, RE.Mine m.mg p
  good : ∀ p ∈ ps, p.Good
  pos : 0 < ps.length
  len : ps.length ≤ n
theorem LoI.next {w w1 w2 w3 : World} {B n : Nat} {l l' : PLay} {m m' : RE} {v v3 : Value} {ps qs : List Pq} (h : LoI w B l m v ps n) (hp : PE w1 B l' m') (hi : ∀ b, l'.has b → l.has b ∨ w.heap.size ≤ b)
    (hlo : RE.LoS m m' qs) (hb : m'.Both (n + 200)) (hg : m'.got = []) (hf : RE.Few qs) (hb2 : Below w1.heap.size w1 w2) (hq3 : QRow w3 B v3 (ps ++ qs)) (ht3 : Tch (fun b => v.ownBlock = some b) w2 w3) (ho3 : ∀ b, v3.ownBlock = some b → v.ownBlock = some b ∨ w2.heap.size ≤ b) :
    LoI w3 B l' m' v3 (ps ++ qs) (n + 200) := by
  have hp2 := hp.tch (Tch.of_below (S := fun _ => False) hb2) (fun _ _ x => x)
  have vn : ∀ b, v.ownBlock = some b → ¬ l'.has b := fun b hb' hx => by
    rcases hi b hx with q | q
    · exact h.d b hb' q
    · have := (h.q.lt b hb').2; omega
  refine ⟨hp2.tch ht3 (fun b hb' e => vn b e hb'), hq3, fun b hb' hx => ?_, hlo.1, hb, hg, ?_, ?_, ?_, ?_⟩
  · rcases ho3 b hb' with q | q
    · exact vn b q hx
    · have := (hp2.lt b hx).2; omega
  · exact mem_app (fun p hp' => (h.mine p hp').mono hlo.2.1) hlo.2.2
  · exact mem_app h.good hf.1
  · have := h.pos; simp only [List.length_append]; omega
  · have := h.len; have := hf.2; simp only [List.length_append]; omega
theorem pevent_at (w : World) (B : Nat) (l : PLay) (m : RE) (k : Int) (pb : Nat) (e : l.pb = pb) {n : Nat} (h : PE w B l m) (hb : m.Both n) (hn : n ≤ 900000000000) :
    Calls Tryz.prog 25 #[.pointer (some ⟨pb, 0, none⟩), .int .i64 k] w fun r w' => ∃ (v : Value) (l' : PLay), r = .returned v ∧ w'.ownsRow w.heap.size 5 1 v ((m.eventP k).flatMap Pq.line).length (((m.eventP k).flatMap Pq.line).map bv) ∧ PE w' B l' (m.event k).1 ∧ l'.pb = pb ∧ Tch l.has w w' ∧ (∀ b, l'.has b → l.has b ∨ w.heap.size ≤ b) ∧ ∀ b, v.ownBlock = some b → ¬ l'.has b := by
  subst e
  rw [← RE.event_out]
  exact pevent_all w B l m k h hb.2.2.2.1 ((hb.1.lim hb.2).mono (by omega))
theorem pbytes_at (w0 w : World) (B : Nat) (l : PLay) (m : RE) (va : Value) (s : List UInt8) (m' : RE) (qs : List Pq) (hs : m.bytes s = (m', qs.flatMap Pq.line)) (pb : Nat) (e : l.pb = pb) {n : Nat} (gz : Gz w0) (hb0 : Below w0.heap.size w0 w) (hB0 : w0.heap.size ≤ B) (h : PE w B l m) (hb : m.Both n) (hn : n ≤ 900000000000) (hg : m.got = []) (hl : s.length ≤ 1000000) (hva : BytesAt w l.has va s) :
    Calls Tryz.prog 29 #[.pointer (some ⟨pb, 0, none⟩), va] w fun r w' => ∃ (v : Value) (l' : PLay), r = .returned v ∧ w'.ownsRow w.heap.size 5 1 v (qs.flatMap Pq.line).length ((qs.flatMap Pq.line).map bv) ∧ PE w' B l' m' ∧ l'.pb = pb ∧ Tch l.has w w' ∧ (∀ b, l'.has b → l.has b ∨ w.heap.size ≤ b) ∧ ∀ b, v.ownBlock = some b → ¬ l'.has b := by
  subst e
  obtain ⟨aS, aC, aF, aL, aO, aH, gr, gt⟩ := gz
  refine (prgB.bytes w0 w B l m va s gr gt hb0 hB0 h ⟨hb.2, by rw [hg]; simp⟩ ((hb.1.lim hb.2).mono (by omega)) (by omega) hva).mono ?_
  rintro r w' ⟨vb, l', rfl, ho, hp', hpb, ht, hi, hown⟩
  rw [hs] at ho hp'
  exact ⟨vb, l', rfl, ho, hp', hpb, ht, hi, hown⟩
end Go.Proofs.YtoeihlgidakjbaaGreatDoor

/- What an end tells goes by turns: plain mathematics. spoken, Spoken. gave; Looped's memory. -/
import Derived.Test.YtoeihlgidakjbaaGreatDoorCm4
import Derived.Test.YtoeihlgidakjbaaGreatDoorCm32
namespace Go.Proofs.YtoeihlgidakjbaaGreatDoor
open Go.RowKit Go.Lib
end Go.Proofs.YtoeihlgidakjbaaGreatDoor
namespace Go.Proofs.YtoeihlgidakjbaaGreatDoor
open Go.RowKit Go.Lib
def ActsAt (w : World) (v : Value) (n : Nat) (K : Nat → Int) (F : Nat → Bool) : Prop := ∃ a cap g off, v = .slice a n cap ∧ (0 < n → a = some ⟨g, off, none⟩ ∧ g < w.heap.size) ∧ ∀ i, i < n → w.cell? ⟨g, off + i * 2, none⟩ = some (.int .i64 (K i)) ∧ w.cell? ⟨g, off + i * 2 + 1, none⟩ = some (.bool (F i)) ∧ -9223372036854775808 ≤ K i ∧ K i < 9223372036854775808
end Go.Proofs.YtoeihlgidakjbaaGreatDoor
namespace Go.Proofs.YtoeihlgidakjbaaGreatDoor
open Go.RowKit Go.Lib
def gaveL (l : List Nat) : Prop := 5 ∈ l ∨ 6 ∈ l
instance (l : List Nat) : Decidable (gaveL l) := inferInstanceAs (Decidable (5 ∈ l ∨ 6 ∈ l))
theorem gaveL_take (l : List Nat) (k : Nat) (hk : k < l.length) (h : ¬ gaveL (l.take k)) : gaveL (l.take (k + 1)) ↔ (l[k] = 5 ∨ l[k] = 6) := by
  unfold gaveL at h ⊢
  rw [List.take_succ_eq_append_getElem hk, List.mem_append, List.mem_append, List.mem_singleton, List.mem_singleton]
  constructor
  · rintro ((q | q) | (q | q))
    · exact absurd (.inl q) h
    · exact .inl q.symm
    · exact absurd (.inr q) h
    · exact .inr q.symm
  · rintro (q | q)
    · exact .inl (.inr q.symm)
    · exact .inr (.inr q.symm)
theorem gaveL_mono {l : List Nat} {k : Nat} (h : gaveL (l.take k)) : gaveL l := h.imp List.mem_of_mem_take List.mem_of_mem_take
set_option maxRecDepth 100000 in
set_option maxHeartbeats 4000000 in
theorem gave_any {B : Nat} {l : PLay} {m : RE} (w : World) (h : PE w B l m) (hn : m.told.length ≤ 1000000000000) :
    Calls Tryz.prog 23 #[.pointer (some ⟨l.pb, 0, none⟩)] w fun e w' => e = .returned (.bool (decide (gaveL m.told))) ∧ Below w.heap.size w w' := by
  have HT : Hid (_) := ptold h (by omega)
  clear h
  go_enter Tryz.func23, Tryz.ntmps23
  go_wp2_with fail
  refine Calls.mono HT.out ?_
  rintro e w1 ⟨vt, rfl, ho, hb⟩
  obtain ⟨a, cap, g, hv, ha, _, hc⟩ := own_shape ho
  subst hv
  have HC : Hid (∀ j (hj : j < m.told.length), w1.cell? ⟨g, j, none⟩ = some (.int .i64 (m.told[j] : Int))) := fun j hj => by
    rw [hc j hj, List.getElem?_map, List.getElem?_eq_getElem hj]; rfl
  have HA : Hid (0 < m.told.length → a = some ⟨g, 0, none⟩) := ha
  have HB : Hid (Below w.heap.size w w1) := hb
  clear ho ha hc hb HT
  go_wp2_with fail
  go_loopw [4] (fun v4 wr => ∃ (k : Nat), k ≤ m.told.length ∧ v4 = .int .i64 (k : Int) ∧ Hid (¬ gaveL (m.told.take k)) ∧ wr = w1) (fun v4 _ => m.told.length - (intOf v4).toNat)
  case atStart => exact ⟨0, Nat.zero_le _, rfl, fun q => by unfold gaveL at q; simp at q, rfl⟩
  case round =>
    obtain ⟨k, hk, rfl, HK, rfl⟩ := hrel
    by_cases hlt : k < m.told.length
    · have hI : (k : Int) < (m.told.length : Int) := by omega
      obtain rfl := HA.out (by omega)
      have ck := HC.out k hlt
      have HX : Hid (_) := gaveL_take m.told k hlt HK.out
      have HM : Hid (gaveL (m.told.take (k + 1)) → gaveL m.told) := gaveL_mono
      generalize m.told[k] = x at *
      by_cases h5 : x = 5
      · subst h5
        have HE : Hid (decide (gaveL m.told) = true) := decide_eq_true (HM.out (HX.out.2 (.inl rfl)))
        clear HX HM
        go_wp2_with fail
        go_ret
        rw [HE.out]
        exact ⟨rfl, HB.out⟩
      · have h5' : ((x : Int) == 5) = false := by simp; omega
        by_cases h6 : x = 6
        · subst h6
          have HE : Hid (decide (gaveL m.told) = true) := decide_eq_true (HM.out (HX.out.2 (.inr rfl)))
          clear HX HM
          go_wp2_with fail
          go_ret
          rw [HE.out]
          exact ⟨rfl, HB.out⟩
        · have h6' : ((x : Int) == 6) = false := by simp; omega
          have HE : Hid (¬ gaveL (m.told.take (k + 1))) := fun q => (HX.out.1 q).elim h5 h6
          clear HX HM
          go_wp2_with fail
          exact ⟨⟨k + 1, by omega, by go_num, HE, trivial⟩, by simp [intOf]; omega⟩
    · have hI : ¬ (k : Int) < (m.told.length : Int) := by omega
      have HE : Hid (decide (gaveL m.told) = false) := by
        have h1 := HK.out
        rw [List.take_of_length_le (by omega)] at h1
        exact decide_eq_false h1
      go_wp2_with fail
      go_ret
      rw [HE.out]
      exact ⟨rfl, HB.out⟩
structure LoI (w : World) (B : Nat) (l : PLay) (m : RE) (v : Value) (ps : List Pq) (n : Nat) : Prop where
  pe : PE w B l m
  q : QRow w B v ps
  d : ∀ b, v.ownBlock = some b → ¬ l.has b
  lo : m.Lo
  both : m.Both n
  got : m.got = []
  mine : ∀ p ∈ ps, RE.Mine m.mg p
  good : ∀ p ∈ ps, p.Good
  pos : 0 < ps.length
  len : ps.length ≤ n
theorem LoI.next {w w1 w2 w3 : World} {B n : Nat} {l l' : PLay} {m m' : RE} {v v3 : Value} {ps qs : List Pq} (h : LoI w B l m v ps n) (hp : PE w1 B l' m') (hi : ∀ b, l'.has b → l.has b ∨ w.heap.size ≤ b)
    (hlo : RE.LoS m m' qs) (hb : m'.Both (n + 200)) (hg : m'.got = []) (hf : RE.Few qs) (hb2 : Below w1.heap.size w1 w2) (hq3 : QRow w3 B v3 (ps ++ qs)) (ht3 : Tch (fun b => v.ownBlock = some b) w2 w3) (ho3 : ∀ b, v3.ownBlock = some b → v.ownBlock = some b ∨ w2.heap.size ≤ b) :
    LoI w3 B l' m' v3 (ps ++ qs) (n + 200) := by
  have hp2 := hp.tch (Tch.of_below (S := fun _ => False) hb2) (fun _ _ x => x)
  have vn : ∀ b, v.ownBlock = some b → ¬ l'.has b := fun b hb' hx => by
    rcases hi b hx with q | q
    · exact h.d b hb' q
    · have := (h.q.lt b hb').2; omega
  refine ⟨hp2.tch ht3 (fun b hb' e => vn b e hb'), hq3, fun b hb' hx => ?_, hlo.1, hb, hg, ?_, ?_, ?_, ?_⟩
  · rcases ho3 b hb' with q | q
    · exact vn b q hx
    · have := (hp2.lt b hx).2; omega
  · exact mem_app (fun p hp' => (h.mine p hp').mono hlo.2.1) hlo.2.2
  · exact mem_app h.good hf.1
  · have := h.pos; simp only [List.length_append]; omega
  · have := h.len; have := hf.2; simp only [List.length_append]; omega
theorem pevent_at (w : World) (B : Nat) (l : PLay) (m : RE) (k : Int) (pb : Nat) (e : l.pb = pb) {n : Nat} (h : PE w B l m) (hb : m.Both n) (hn : n ≤ 900000000000) :
    Calls Tryz.prog 25 #[.pointer (some ⟨pb, 0, none⟩), .int .i64 k] w fun r w' => ∃ (v : Value) (l' : PLay), r = .returned v ∧ w'.ownsRow w.heap.size 5 1 v ((m.eventP k).flatMap Pq.line).length (((m.eventP k).flatMap Pq.line).map bv) ∧ PE w' B l' (m.event k).1 ∧ l'.pb = pb ∧ Tch l.has w w' ∧ (∀ b, l'.has b → l.has b ∨ w.heap.size ≤ b) ∧ ∀ b, v.ownBlock = some b → ¬ l'.has b := by
  subst e
  rw [← RE.event_out]
  exact pevent_all w B l m k h hb.2.2.2.1 ((hb.1.lim hb.2).mono (by omega))
end Go.Proofs.YtoeihlgidakjbaaGreatDoor

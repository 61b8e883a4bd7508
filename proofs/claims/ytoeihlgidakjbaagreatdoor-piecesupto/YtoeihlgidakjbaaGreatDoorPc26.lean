/- A line in memory: two ends, two queues. pick returns the number that it picks; the world stays. The keeps' at and list. -/
import Derived.Test.YtoeihlgidakjbaaGreatDoorPc6
import Derived.Test.YtoeihlgidakjbaaGreatDoorPc4
import Derived.Test.YtoeihlgidakjbaaGreatDoorPc25
import Derived.Test.YtoeihlgidakjbaaGreatDoorProg
import Derived.Test.YtoeihlgidakjbaaGreatDoorPc1
import Derived.WalkSpells
import Derived.WalkLawsBesides
import Derived.Test.YtoeihlgidakjbaaGreatDoorPc3
namespace Go.Proofs.YtoeihlgidakjbaaGreatDoor
open Go.RowKit Go.Lib
def PLay.has (l : PLay) (b : Nat) : Prop := inE l.pb l.v.vals b
structure LV where
  ln : Nat
  la : PLay
  lb : PLay
  c : Nat → Value
  vB : Value
  vA : Value
def LV.cells (v : LV) : Array Value := #[.pointer (some ⟨v.la.pb, 0, none⟩), .pointer (some ⟨v.lb.pb, 0, none⟩), v.c 0, v.c 1, v.c 2, v.c 3, v.c 4, v.c 5, v.c 6, v.c 7, v.c 8, v.c 9, v.c 10, v.c 11, v.c 12, v.c 13, v.vB, v.vA]
def LV.has (v : LV) (b : Nat) : Prop := b = v.ln ∨ v.la.has b ∨ v.lb.has b ∨ v.vB.ownBlock = some b ∨ v.vA.ownBlock = some b
structure LI (w : World) (B : Nat) (v : LV) (l : Ln) : Prop where
  blk : w.heap[v.ln]? = some (.cells v.cells 49 (0, 0))
  ge : B ≤ v.ln
  pa : PE w B v.la l.a
  pb : PE w B v.lb l.b
  qB : QRow w B v.vB l.toB
  qA : QRow w B v.vA l.toA
  d1 : ¬ v.la.has v.ln
  d2 : ¬ v.lb.has v.ln
  d3 : ∀ b, v.la.has b → ¬ v.lb.has b
  eB : ∀ b, v.vB.ownBlock = some b → b ≠ v.ln ∧ ¬ v.la.has b ∧ ¬ v.lb.has b ∧ v.vA.ownBlock ≠ some b
  eA : ∀ b, v.vA.ownBlock = some b → b ≠ v.ln ∧ ¬ v.la.has b ∧ ¬ v.lb.has b
theorem LI.lt {w : World} {B : Nat} {v : LV} {l : Ln} (h : LI w B v l) : ∀ b, v.has b → B ≤ b ∧ b < w.heap.size := by
  rintro b (rfl | x | x | x | x)
  · exact ⟨h.ge, blk_lt h.blk⟩
  · exact h.pa.lt b x
  · exact h.pb.lt b x
  · exact h.qB.lt b x
  · exact h.qA.lt b x
theorem LI.of_tch {w w' : World} {B : Nat} {v : LV} {l : Ln} {S : Nat → Prop} (h : LI w B v l) (ht : Tch S w w') (hs : ∀ b, v.has b → ¬ S b) : LI w' B v l :=
  ⟨(ht.block _ (blk_lt h.blk) (hs _ (.inl rfl))).trans h.blk, h.ge, h.pa.tch ht (fun b x => hs b (.inr (.inl x))), h.pb.tch ht (fun b x => hs b (.inr (.inr (.inl x)))), h.qB.of_tch ht (fun b x => hs b (.inr (.inr (.inr (.inl x))))), h.qA.of_tch ht (fun b x => hs b (.inr (.inr (.inr (.inr x))))), h.d1, h.d2, h.d3, h.eB, h.eA⟩
theorem LI.below {w w' : World} {B : Nat} {v : LV} {l : Ln} (h : LI w B v l) (hb : Below w.heap.size w w') : LI w' B v l := h.of_tch (S := fun _ => False) (Tch.of_below hb) (fun _ _ x => x)
structure LS (w w' : World) (v v' : LV) : Prop where
  ln : v'.ln = v.ln
  c : v'.c = v.c
  t : Tch v.has w w'
  i : ∀ b, v'.has b → v.has b ∨ w.heap.size ≤ b
theorem LS.refl (w : World) (v : LV) : LS w w v v := ⟨rfl, rfl, Tch.refl _ _, fun _ h => .inl h⟩
theorem LS.trans {w w1 w2 : World} {v v1 v2 : LV} (h : LS w w1 v v1) (g : LS w1 w2 v1 v2) : LS w w2 v v2 := by
  refine ⟨g.ln.trans h.ln, g.c.trans h.c, Tch.restrict ((h.t.mono fun _ x => .inl x).trans (g.t.mono fun b x => ?_)), fun b x => ?_⟩
  · exact h.i b x
  · rcases g.i b x with y | y
    · exact h.i b y
    · exact .inr (Nat.le_trans h.t.size y)
theorem LS.new {w w1 : World} {v : LV} (hb : Below w.heap.size w w1) : LS w w1 v v := ⟨rfl, rfl, Tch.of_below hb, fun _ h => .inl h⟩
theorem LS.pre {w w1 w2 : World} {v v2 : LV} (hb : Below w.heap.size w w1) (g : LS w1 w2 v v2) : LS w w2 v v2 := (LS.new hb).trans g
theorem LI.setB {w : World} {B : Nat} {v : LV} {l : Ln} (h : LI w B v l) (x : Value) (qs : List Pq) (w0 : World) (ht : Tch (fun b => v.vB.ownBlock = some b) w w0) (hq : QRow w0 B x qs) (hx : ∀ b, x.ownBlock = some b → v.vB.ownBlock = some b ∨ w.heap.size ≤ b) :
    LI (w0.setCell ⟨v.ln, 16, none⟩ x) B { v with vB := x } { l with toB := qs } ∧ LS w (w0.setCell ⟨v.ln, 16, none⟩ x) v { v with vB := x } := by
  have hln : ¬ v.vB.ownBlock = some v.ln := fun e => (h.eB _ e).1 rfl
  have hblk : w0.heap[v.ln]? = some (.cells v.cells 49 (0, 0)) := (ht.block _ (blk_lt h.blk) hln).trans h.blk
  have hs : Tch (fun b => b = v.ln) w0 (w0.setCell ⟨v.ln, 16, none⟩ x) := Tch.set _ _ _ _ rfl
  have hxn : ∀ b, x.ownBlock = some b → b ≠ v.ln ∧ ¬ v.la.has b ∧ ¬ v.lb.has b ∧ v.vA.ownBlock ≠ some b := by
    intro b hb
    rcases hx b hb with y | y
    · exact h.eB b y
    · exact ⟨fun e => by have := blk_lt h.blk; omega, fun e => by have := (h.pa.lt b e).2; omega, fun e => by have := (h.pb.lt b e).2; omega, fun e => by have := (h.qA.lt b e).2; omega⟩
  have all : Tch v.has w (w0.setCell ⟨v.ln, 16, none⟩ x) := (ht.mono fun b y => .inr (.inr (.inr (.inl y)))).trans (hs.mono fun b y => .inl y)
  have ha : ∀ b, v.la.has b → ¬ (v.vB.ownBlock = some b) ∧ b ≠ v.ln := fun b y => ⟨fun e => (h.eB b e).2.1 y, fun e => h.d1 (e ▸ y)⟩
  have hb : ∀ b, v.lb.has b → ¬ (v.vB.ownBlock = some b) ∧ b ≠ v.ln := fun b y => ⟨fun e => (h.eB b e).2.2.1 y, fun e => h.d2 (e ▸ y)⟩
  refine ⟨⟨?_, h.ge, (h.pa.tch ht (fun b y => (ha b y).1)).tch hs (fun b y => (ha b y).2), (h.pb.tch ht (fun b y => (hb b y).1)).tch hs (fun b y => (hb b y).2), hq.of_tch hs (fun b y => (hxn b y).1), (h.qA.of_tch ht (fun b y e => (h.eB b e).2.2.2 y)).of_tch hs (fun b y => (h.eA b y).1), h.d1, h.d2, h.d3, hxn, h.eA⟩, ⟨rfl, rfl, all, ?_⟩⟩
  · rw [blk_set hblk]; rfl
  · rintro b (y | y | y | y | y)
    · exact .inl (.inl y)
    · exact .inl (.inr (.inl y))
    · exact .inl (.inr (.inr (.inl y)))
    · rcases hx b y with z | z
      · exact .inl (.inr (.inr (.inr (.inl z))))
      · exact .inr z
    · exact .inl (.inr (.inr (.inr (.inr y))))
theorem LI.setA {w : World} {B : Nat} {v : LV} {l : Ln} (h : LI w B v l) (x : Value) (qs : List Pq) (w0 : World) (ht : Tch (fun b => v.vA.ownBlock = some b) w w0) (hq : QRow w0 B x qs) (hx : ∀ b, x.ownBlock = some b → v.vA.ownBlock = some b ∨ w.heap.size ≤ b) :
    LI (w0.setCell ⟨v.ln, 17, none⟩ x) B { v with vA := x } { l with toA := qs } ∧ LS w (w0.setCell ⟨v.ln, 17, none⟩ x) v { v with vA := x } := by
  have hln : ¬ v.vA.ownBlock = some v.ln := fun e => (h.eA _ e).1 rfl
  have hblk : w0.heap[v.ln]? = some (.cells v.cells 49 (0, 0)) := (ht.block _ (blk_lt h.blk) hln).trans h.blk
  have hs : Tch (fun b => b = v.ln) w0 (w0.setCell ⟨v.ln, 17, none⟩ x) := Tch.set _ _ _ _ rfl
  have hxn : ∀ b, x.ownBlock = some b → b ≠ v.ln ∧ ¬ v.la.has b ∧ ¬ v.lb.has b ∧ v.vB.ownBlock ≠ some b := by
    intro b hb
    rcases hx b hb with y | y
    · exact ⟨(h.eA b y).1, (h.eA b y).2.1, (h.eA b y).2.2, fun e => (h.eB b e).2.2.2 y⟩
    · exact ⟨fun e => by have := blk_lt h.blk; omega, fun e => by have := (h.pa.lt b e).2; omega, fun e => by have := (h.pb.lt b e).2; omega, fun e => by have := (h.qB.lt b e).2; omega⟩
  have all : Tch v.has w (w0.setCell ⟨v.ln, 17, none⟩ x) := (ht.mono fun b y => .inr (.inr (.inr (.inr y)))).trans (hs.mono fun b y => .inl y)
  have ha : ∀ b, v.la.has b → ¬ (v.vA.ownBlock = some b) ∧ b ≠ v.ln := fun b y => ⟨fun e => (h.eA b e).2.1 y, fun e => h.d1 (e ▸ y)⟩
  have hb : ∀ b, v.lb.has b → ¬ (v.vA.ownBlock = some b) ∧ b ≠ v.ln := fun b y => ⟨fun e => (h.eA b e).2.2 y, fun e => h.d2 (e ▸ y)⟩
  refine ⟨⟨?_, h.ge, (h.pa.tch ht (fun b y => (ha b y).1)).tch hs (fun b y => (ha b y).2), (h.pb.tch ht (fun b y => (hb b y).1)).tch hs (fun b y => (hb b y).2), (h.qB.of_tch ht (fun b y e => (h.eB b y).2.2.2 e)).of_tch hs (fun b y => (h.eB b y).1), hq.of_tch hs (fun b y => (hxn b y).1), h.d1, h.d2, h.d3, fun b y => ⟨(h.eB b y).1, (h.eB b y).2.1, (h.eB b y).2.2.1, fun e => (hxn b e).2.2.2 y⟩, fun b y => ⟨(hxn b y).1, (hxn b y).2.1, (hxn b y).2.2.1⟩⟩, ⟨rfl, rfl, all, ?_⟩⟩
  · rw [blk_set hblk]; rfl
  · rintro b (y | y | y | y | y)
    · exact .inl (.inl y)
    · exact .inl (.inr (.inl y))
    · exact .inl (.inr (.inr (.inl y)))
    · exact .inl (.inr (.inr (.inr (.inl y))))
    · rcases hx b y with z | z
      · exact .inl (.inr (.inr (.inr (.inr z))))
      · exact .inr z
theorem LI.endA {w w' : World} {B : Nat} {v : LV} {l : Ln} (h : LI w B v l) (la' : PLay) (a' : RE) (hp : PE w' B la' a') (hpb : la'.pb = v.la.pb) (ht : Tch v.la.has w w') (hi : ∀ b, la'.has b → v.la.has b ∨ w.heap.size ≤ b) :
    LI w' B { v with la := la' } { l with a := a' } ∧ LS w w' v { v with la := la' } := by
  have nw : ∀ b, b < w.heap.size → ¬ v.la.has b → ¬ la'.has b := fun b h1 h2 y => by
    rcases hi b y with z | z
    · exact h2 z
    · omega
  have hB : ∀ b, v.vB.ownBlock = some b → ¬ v.la.has b := fun b y => (h.eB b y).2.1
  have hA : ∀ b, v.vA.ownBlock = some b → ¬ v.la.has b := fun b y => (h.eA b y).2.1
  refine ⟨⟨?_, h.ge, hp, h.pb.tch ht (fun b y z => h.d3 b z y), h.qB.of_tch ht hB, h.qA.of_tch ht hA, nw _ (blk_lt h.blk) h.d1, h.d2, ?_, ?_, ?_⟩, ⟨rfl, rfl, ht.mono fun b y => .inr (.inl y), ?_⟩⟩
  · rw [ht.block _ (blk_lt h.blk) h.d1, h.blk]
    unfold LV.cells
    rw [hpb]
  · intro b y z
    rcases hi b y with q | q
    · exact h.d3 b q z
    · have := (h.pb.lt b z).2; omega
  · intro b y
    exact ⟨(h.eB b y).1, nw b (h.qB.lt b y).2 (hB b y), (h.eB b y).2.2⟩
  · intro b y
    exact ⟨(h.eA b y).1, nw b (h.qA.lt b y).2 (hA b y), (h.eA b y).2.2⟩
  · rintro b (y | y | y | y | y)
    · exact .inl (.inl y)
    · rcases hi b y with z | z
      · exact .inl (.inr (.inl z))
      · exact .inr z
    · exact .inl (.inr (.inr (.inl y)))
    · exact .inl (.inr (.inr (.inr (.inl y))))
    · exact .inl (.inr (.inr (.inr (.inr y))))
theorem LI.endB {w w' : World} {B : Nat} {v : LV} {l : Ln} (h : LI w B v l) (lb' : PLay) (b' : RE) (hp : PE w' B lb' b') (hpb : lb'.pb = v.lb.pb) (ht : Tch v.lb.has w w') (hi : ∀ b, lb'.has b → v.lb.has b ∨ w.heap.size ≤ b) :
    LI w' B { v with lb := lb' } { l with b := b' } ∧ LS w w' v { v with lb := lb' } := by
  have nw : ∀ b, b < w.heap.size → ¬ v.lb.has b → ¬ lb'.has b := fun b h1 h2 y => by
    rcases hi b y with z | z
    · exact h2 z
    · omega
  have hB : ∀ b, v.vB.ownBlock = some b → ¬ v.lb.has b := fun b y => (h.eB b y).2.2.1
  have hA : ∀ b, v.vA.ownBlock = some b → ¬ v.lb.has b := fun b y => (h.eA b y).2.2
  refine ⟨⟨?_, h.ge, h.pa.tch ht (fun b y z => h.d3 b y z), hp, h.qB.of_tch ht hB, h.qA.of_tch ht hA, h.d1, nw _ (blk_lt h.blk) h.d2, ?_, ?_, ?_⟩, ⟨rfl, rfl, ht.mono fun b y => .inr (.inr (.inl y)), ?_⟩⟩
  · rw [ht.block _ (blk_lt h.blk) h.d2, h.blk]
    unfold LV.cells
    rw [hpb]
  · intro b y z
    rcases hi b z with q | q
    · exact h.d3 b y q
    · have := (h.pa.lt b y).2; omega
  · intro b y
    exact ⟨(h.eB b y).1, (h.eB b y).2.1, nw b (h.qB.lt b y).2 (hB b y), (h.eB b y).2.2.2⟩
  · intro b y
    exact ⟨(h.eA b y).1, (h.eA b y).2.1, nw b (h.qA.lt b y).2 (hA b y)⟩
  · rintro b (y | y | y | y | y)
    · exact .inl (.inl y)
    · exact .inl (.inr (.inl y))
    · rcases hi b y with z | z
      · exact .inl (.inr (.inr (.inl z)))
      · exact .inr z
    · exact .inl (.inr (.inr (.inr (.inl y))))
    · exact .inl (.inr (.inr (.inr (.inr y))))
theorem src_owns {w : World} {B : Nat} {v : Value} {ps : List Pq} (h : w.ownsRow B 9 1 v ps.length (ps.map sv)) : Src Tryz.prog 1 47 v ps.length (ps.map sv) w := by
  have h0 := h
  rcases h.2 with ⟨rfl, hn⟩ | ⟨g, cap, cur, rfl, hb, hg, hnc, hcm, hcs, htake⟩
  · have : ps = [] := List.eq_nil_of_length_eq_zero (by omega)
    subst this
    exact Src.ofNil w Tryz.underlying47 0
  · exact Src.ofSlice w Tryz.underlying47 ⟨g, 0, none⟩ ps.length cap (ps.map sv) (by simp) (h0.cells (g := g) rfl) (fun u hu => by obtain ⟨p, _, rfl⟩ := List.mem_map.1 hu; rfl)
end Go.Proofs.YtoeihlgidakjbaaGreatDoor
namespace Go.Proofs.YtoeihlgidakjbaaGreatDoor
open Go.RowKit
set_option maxHeartbeats 400000 in
theorem pick_any (c : Int) (n : Nat) (w : World) (h0 : 0 < n) (hn : n ≤ 1000000) (hc1 : -9223372036854775808 ≤ c) (hc2 : c < 9223372036854775808) :
    Calls Tryz.prog 26 #[.int .i64 c, .int .i64 n] w fun e w' => e = .returned (.int .i64 (pickN c n : Int)) ∧ w = w' := by
  have hz : ((n : Int) == 0) = false := by simp; omega
  by_cases hneg : c < 0
  · have hp : ((pickN c n : Nat) : Int) = (-(c + 1)) % (n : Int) := by
      unfold pickN; rw [if_pos hneg, Int.natCast_emod, Int.toNat_of_nonneg (by omega)]
    rw [hp]; clear hp
    go_enter Tryz.func26, Tryz.ntmps26
    go_wp2
    go_ret
    exact ⟨ret_int (neg_tm c n hneg), rfl⟩
  · have hp : ((pickN c n : Nat) : Int) = c % (n : Int) := by
      unfold pickN; rw [if_neg hneg, Int.natCast_emod, Int.toNat_of_nonneg (by omega)]
    rw [hp]; clear hp
    go_enter Tryz.func26, Tryz.ntmps26
    go_wp2
    go_ret
    exact ⟨rfl, rfl⟩
end Go.Proofs.YtoeihlgidakjbaaGreatDoor
namespace Go.Proofs.YtoeihlgidakjbaaGreatDoor
open Go.RowKit Go.Lib
def atL (raw : List Int) (i : Nat) : Int := raw.getD i 0
def Raw (l : List Int) : Prop := ∀ x ∈ l, -9223372036854775808 ≤ x ∧ x < 9223372036854775808
theorem Raw.at {l : List Int} (h : Raw l) (i : Nat) : -9223372036854775808 ≤ atL l i ∧ atL l i < 9223372036854775808 := by
  unfold atL
  simp only [List.getD]
  cases hx : l[i]? with
  | none => simp
  | some x => exact h x (List.mem_of_getElem? hx)
set_option maxHeartbeats 400000 in
theorem kat_any (v : Value) (raw : List Int) (i : Nat) (w : World) (hi : IntsAt w v raw) (hl : i ≤ 1000000) :
    Calls Tryz.prog 36 #[v, .int .i64 (i : Int)] w fun e w' => e = .returned (.int .i64 (atL raw i)) ∧ w = w' := by
  obtain ⟨a, cap, g, off, rfl, h1, h2⟩ := hi
  by_cases hlt : i < raw.length
  · obtain ⟨rfl, hg⟩ := h1 (by omega)
    have hc := h2 i hlt
    have e : atL raw i = raw[i] := by unfold atL; simp [List.getD, List.getElem?_eq_getElem hlt]
    rw [e]
    have hI : ¬ (raw.length : Int) ≤ (i : Int) := by omega
    have hI2 : (i : Int) < (raw.length : Int) := by omega
    generalize raw[i] = x at *
    clear h2 e h1
    go_enter Tryz.func36, Tryz.ntmps36
    go_wp2
    go_ret
    exact ⟨rfl, rfl⟩
  · have e : atL raw i = 0 := by unfold atL; simp [List.getD, List.getElem?_eq_none (by omega : raw.length ≤ i)]
    rw [e]
    have hI : (raw.length : Int) ≤ (i : Int) := by omega
    clear h1 h2 e
    go_enter Tryz.func36, Tryz.ntmps36
    go_wp2
    go_ret
    exact ⟨rfl, rfl⟩
def listAdd (first : Nat) (out : List Int) (v : Int) : List Int := if v = (first : Int) ∨ v ∈ out then out else out ++ [v]
def listF (raw : List Int) (frm first : Nat) : Nat → List Int
  | 0 => if pickN (atL raw frm) 3 = 0 then [(first : Int)] else []
  | k + 1 => listAdd first (listF raw frm first k) (pickN (atL raw (frm + (k + 1))) 12 : Int)
def listL (raw : List Int) (frm first : Nat) : List Int :=
  let o := listF raw frm first (1 + pickN (atL raw frm) 4)
  if (first : Int) ∈ o then o else o ++ [(first : Int)]
theorem listF_len (raw : List Int) (frm first k : Nat) : (listF raw frm first k).length ≤ k + 1 := by
  induction k with
  | zero => unfold listF; split <;> simp
  | succ k ih =>
    unfold listF listAdd
    split
    · omega
    · simp; omega
theorem int_cells {w : World} {B n : Nat} {v : Value} {l : List Int} (h : w.ownsRow B 3 1 v n (l.map zv)) : n = l.length ∧ ∃ a cap g, v = .slice a l.length cap ∧ (0 < l.length → a = some ⟨g, 0, none⟩) ∧ ∀ j (hj : j < l.length), w.cell? ⟨g, j, none⟩ = some (.int .i64 l[j]) := by
  have hn : n = l.length := by have := h.1; simp at this; omega
  subst hn
  obtain ⟨a, cap, g, hv, ha, _, hc⟩ := own_shape h
  refine ⟨rfl, a, cap, g, hv, ha, fun j hj => ?_⟩
  rw [hc j hj, List.getElem?_map, List.getElem?_eq_getElem hj]; rfl
theorem beqd (a b : Int) : (a == b) = decide (a = b) := by
  by_cases h : a = b <;> simp [h]
theorem take_mem_succ (l : List Int) (k : Nat) (x : Int) (h : k < l.length) : (x ∈ l.take (k + 1)) ↔ (x ∈ l.take k ∨ l[k] = x) := by
  rw [List.take_add_one, List.getElem?_eq_getElem h, List.mem_append, Option.toList_some, List.mem_singleton, eq_comm (a := x)]
set_option maxRecDepth 100000 in
set_option maxHeartbeats 4000000 in
theorem list_any (v : Value) (raw : List Int) (frm first : Nat) (w : World) (hi : IntsAt w v raw) (hr : Raw raw) (hf : frm ≤ 1000) (h12 : first < 12) :
    Calls Tryz.prog 37 #[v, .int .i64 (frm : Int), .int .i64 (first : Int)] w fun e w' => ∃ vl, e = .returned vl ∧ w'.ownsRow w.heap.size 3 1 vl (listL raw frm first).length ((listL raw frm first).map zv) ∧ Below w.heap.size w w' := by
  obtain ⟨j0, hj, hy0, hy1, hy2⟩ := info_parts Tryz.infoI
  have HI : Hid (IntsAt w v raw) := hi
  have HR : Hid (Raw raw) := hr
  have HA : Hid (_) := kat_any v raw frm w hi (by omega)
  have hra := hr.at frm
  have HP4 : Hid (_) := pick_any (atL raw frm) 4 w (by omega) (by omega) hra.1 hra.2
  have HP3 : Hid (_) := pick_any (atL raw frm) 3 w (by omega) (by omega) hra.1 hra.2
  obtain ⟨n4, hn4⟩ : ∃ n4, n4 = pickN (atL raw frm) 4 := ⟨_, rfl⟩
  have h4 : n4 < 4 := by rw [hn4]; exact Nat.mod_lt _ (by decide)
  obtain ⟨n3, hn3⟩ : ∃ n3, n3 = pickN (atL raw frm) 3 := ⟨_, rfl⟩
  have h3 : n3 < 3 := by rw [hn3]; exact Nat.mod_lt _ (by decide)
  rw [← hn4] at HP4
  rw [← hn3] at HP3
  have HN : Hid (n4 = pickN (atL raw frm) 4 ∧ n3 = pickN (atL raw frm) 3) := ⟨hn4, hn3⟩
  obtain ⟨a0, cap0, g0, off0, hv0, _, _⟩ := hi
  clear hr hra hn4 hn3
  subst hv0
  have hfi : (0 : Int) ≤ (first : Int) := by omega
  go_enter Tryz.func37, Tryz.ntmps37
  go_wp2_with fail
  refine Calls.mono HA.out ?_
  rintro e w1 ⟨rfl, rfl⟩
  go_wp2_with fail
  refine Calls.mono HP4.out ?_
  rintro e w1 ⟨rfl, rfl⟩
  go_wp2_with fail
  refine Calls.mono HA.out ?_
  rintro e w1 ⟨rfl, rfl⟩
  go_wp2_with fail
  refine Calls.mono HP3.out ?_
  rintro e w1 ⟨rfl, rfl⟩
  clear HA HP4 HP3
  by_cases hz3 : n3 = 0
  · have hz : ((n3 : Int) == 0) = true := by simp [hz3]
    have HF0 : Hid (listF raw frm first 0 = [(first : Int)]) := by show _ = _; unfold listF; rw [if_pos (by have := HN.out.2; omega)]
    clear hz3
    go_wp2_with (at_builtin; go_must (refine wpList_append_own _ rfl (.tmp 29) (.tmp 31) 28 rfl w.heap.size 3 j0 (.int .i64 0) 1 8 Tryz.underlying28 hj hy0 hy1 hy2 rfl (by decide) _ 0 [] rfl (World.ownsRow_nil _ _ _ _) ⟨w.heap.size, 0, none⟩ 1 1 [.int .i64 (first : Int)] rfl rfl (cell_one_i _ _ _) (by intro u hu; simp at hu; subst hu; rfl) (by unfold maxLen; omega) (by omega) (by simp) ?_; intro vo wo hown0 hgrow0 _))
    have HS : Hid (wo.ownsRow w.heap.size 3 1 vo (listF raw frm first 0).length ((listF raw frm first 0).map zv) ∧ Below w.heap.size w wo) := by
      refine ⟨?_, ((Below.refl _ w).alloc (Nat.le_refl _) _).grown hgrow0 (by simp) (fun k hk => by cases hk)⟩
      rw [HF0.out]; exact hown0
    clear hown0 hgrow0 HF0 hz
    go_loopw [7, 9] (fun v7 v9 wr => ∃ (k : Nat), k ≤ 1 + n4 ∧ v9 = .int .i64 (1 + (k : Int)) ∧ Hid (wr.ownsRow w.heap.size 3 1 v7 (listF raw frm first k).length ((listF raw frm first k).map zv) ∧ Below w.heap.size w wr)) (fun _ v9 _ => 10 - (intOf v9).toNat)
    case atStart => exact ⟨0, by omega, by go_num, HS⟩
    case round =>
      obtain ⟨k, hk, rfl, HW⟩ := hrel
      have hlen := listF_len raw frm first k
      obtain ⟨_, ao, capo, go, hvo, hao, hco⟩ := int_cells HW.out.1
      subst hvo
      by_cases hlt : k < 1 + n4
      · have hle : (1 + (k : Int)) ≤ 1 + (n4 : Int) := by omega
        have HA : Hid (Calls Tryz.prog 36 #[.slice a0 raw.length cap0, .int .i64 ((frm : Int) + (1 + (k : Int)))] wr fun e w' => e = .returned (.int .i64 (atL raw (frm + (k + 1)))) ∧ wr = w') := by
          have := kat_any (.slice a0 raw.length cap0) raw (frm + (k + 1)) wr (HI.out.below HW.out.2) (by omega)
          rw [show (((frm + (k + 1) : Nat)) : Int) = (frm : Int) + (1 + (k : Int)) by omega] at this
          exact this
        have hra := HR.out.at (frm + (k + 1))
        have HP : Hid (_) := pick_any (atL raw (frm + (k + 1))) 12 wr (by omega) (by omega) hra.1 hra.2
        obtain ⟨m, hm⟩ : ∃ m, m = pickN (atL raw (frm + (k + 1))) 12 := ⟨_, rfl⟩
        have hm12 : m < 12 := by rw [hm]; exact Nat.mod_lt _ (by decide)
        rw [← hm] at HP
        have HNX : Hid (listF raw frm first (k + 1) = listAdd first (listF raw frm first k) (m : Int)) := by show _ = _; rw [hm]; rfl
        clear hra hm
        generalize listF raw frm first k = out at *
        have HCO : Hid (∀ j (hj : j < out.length), wr.cell? ⟨go, j, none⟩ = some (.int .i64 out[j])) := hco
        clear hco
        go_wp2_with fail
        refine Calls.mono HA.out ?_
        rintro e w2 ⟨rfl, rfl⟩
        go_wp2_with fail
        refine Calls.mono HP.out ?_
        rintro e w2 ⟨rfl, rfl⟩
        clear HA HP
        go_wp2_with fail
        go_loopw [11, 12] (fun v11 v12 wr2 => ∃ (j : Nat), j ≤ out.length ∧ v12 = .int .i64 (j : Int) ∧ v11 = .bool (decide ((m : Int) = (first : Int) ∨ (m : Int) ∈ out.take j)) ∧ wr2 = wr) (fun _ v12 _ => out.length - (intOf v12).toNat)
        case atStart => exact ⟨0, Nat.zero_le _, rfl, by rw [beqd]; simp, rfl⟩
        case round =>
          obtain ⟨j, hj2, rfl, rfl, rfl⟩ := hrel
          by_cases hjl : j < out.length
          · have hc := HCO.out j hjl
            obtain rfl := hao (by omega)
            have hIj : (j : Int) < (out.length : Int) := by omega
            have HT : Hid (((m : Int) = (first : Int) ∨ (m : Int) ∈ out.take (j + 1)) ↔ ((m : Int) = (first : Int) ∨ (m : Int) ∈ out.take j) ∨ out[j] = (m : Int)) := by
              show _ ↔ _
              rw [take_mem_succ out j (m : Int) hjl, or_assoc]
            generalize out[j] = y at *
            by_cases hb : (m : Int) = (first : Int) ∨ (m : Int) ∈ out.take j
            · have HB : Hid (decide ((m : Int) = (first : Int) ∨ (m : Int) ∈ out.take (j + 1)) = true) := by show _ = _; rw [decide_eq_true_eq, HT.out]; exact .inl hb
              rw [decide_eq_true hb]
              clear hb HT
              go_wp2_with fail
              exact ⟨⟨j + 1, by omega, by go_num, by rw [HB.out], trivial⟩, by simp [intOf]; omega⟩
            · have HB : Hid (decide ((m : Int) = (first : Int) ∨ (m : Int) ∈ out.take (j + 1)) = (y == (m : Int))) := by
                show _ = _
                by_cases hy : y = (m : Int)
                · rw [decide_eq_true (HT.out.2 (.inr hy))]; simp [hy]
                · rw [decide_eq_false (fun x => (HT.out.1 x).elim hb hy)]; simp [hy]
              rw [decide_eq_false hb]
              clear hb HT
              go_wp2_with fail
              exact ⟨⟨j + 1, by omega, by go_num, by rw [HB.out], trivial⟩, by simp [intOf]; omega⟩
          · have hjn : ¬ (j : Int) < (out.length : Int) := by omega
            have htk : out.take j = out := List.take_of_length_le (by omega)
            rw [htk]
            by_cases hb : (m : Int) = (first : Int) ∨ (m : Int) ∈ out
            · have HNY : Hid (listF raw frm first (k + 1) = out) := by show _ = _; rw [HNX.out]; unfold listAdd; rw [if_pos hb]
              rw [decide_eq_true hb]
              clear hb htk
              go_wp2_with fail
              exact ⟨⟨k + 1, by omega, by go_num, by rw [HNY.out]; exact HW⟩, by simp [intOf]; omega⟩
            · have HNY : Hid (listF raw frm first (k + 1) = out ++ [(m : Int)]) := by show _ = _; rw [HNX.out]; unfold listAdd; rw [if_neg hb]
              rw [decide_eq_false hb]
              clear hb htk
              have OW : Hid (wr.ownsRow w.heap.size 3 1 (.slice ao out.length capo) out.length (out.map zv)) := HW.out.1
              have hwz := HW.out.2.size
              go_wp2_with (at_builtin; go_must (refine wpList_append_own _ rfl (.tmp 64) (.tmp 66) 28 rfl w.heap.size 3 j0 (.int .i64 0) 1 8 Tryz.underlying28 hj hy0 hy1 hy2 rfl (by decide) _ out.length (out.map zv) rfl (OW.out.alloc _) ⟨wr.heap.size, 0, none⟩ 1 1 [.int .i64 (m : Int)] rfl rfl (cell_one_i _ _ _) (by intro u hu; simp at hu; subst hu; rfl) (by unfold maxLen; omega) (by omega) (by simp; omega) ?_; intro v3 w3 hown3 hgrow3 _))
              have HE : Hid (w3.ownsRow w.heap.size 3 1 v3 (listF raw frm first (k + 1)).length ((listF raw frm first (k + 1)).map zv) ∧ Below w.heap.size w w3) := by
                refine ⟨?_, (HW.out.2.alloc hwz _).grown hgrow3 (by simp; omega) (fun b hb => (OW.out.lt b hb).1)⟩
                rw [HNY.out, List.map_append, List.length_append]; exact hown3
              clear hown3 hgrow3
              exact ⟨⟨k + 1, by omega, by go_num, HE⟩, by simp [intOf]; omega⟩
      · have hkn : k = 1 + n4 := by omega
        have hle : ¬ (1 + (k : Int)) ≤ 1 + (n4 : Int) := by omega
        obtain ⟨out, hout⟩ : ∃ out, out = listF raw frm first k := ⟨_, rfl⟩
        have HLL : Hid (listL raw frm first = if (first : Int) ∈ out then out else out ++ [(first : Int)]) := by
          show _ = _
          unfold listL
          simp only [← HN.out.1, ← hkn, ← hout]
        rw [← hout] at hlen hao hco HW ⊢
        clear hout
        have HCO : Hid (∀ j (hj : j < out.length), wr.cell? ⟨go, j, none⟩ = some (.int .i64 out[j])) := hco
        clear hco hlt hkn
        go_wp2_with fail
        go_loopw [13, 14] (fun v13 v14 wr2 => ∃ (j : Nat), j ≤ out.length ∧ v14 = .int .i64 (j : Int) ∧ v13 = .bool (decide ((first : Int) ∈ out.take j)) ∧ wr2 = wr) (fun _ v14 _ => out.length - (intOf v14).toNat)
        case atStart => exact ⟨0, Nat.zero_le _, rfl, by simp, rfl⟩
        case round =>
          obtain ⟨j, hj2, rfl, rfl, rfl⟩ := hrel
          by_cases hjl : j < out.length
          · have hc := HCO.out j hjl
            obtain rfl := hao (by omega)
            have hIj : (j : Int) < (out.length : Int) := by omega
            have HT : Hid (((first : Int) ∈ out.take (j + 1)) ↔ ((first : Int) ∈ out.take j ∨ out[j] = (first : Int))) := take_mem_succ out j (first : Int) hjl
            generalize out[j] = y at *
            by_cases hb : (first : Int) ∈ out.take j
            · have HB : Hid (decide ((first : Int) ∈ out.take (j + 1)) = true) := by show _ = _; rw [decide_eq_true_eq, HT.out]; exact .inl hb
              rw [decide_eq_true hb]
              clear hb HT
              go_wp2_with fail
              exact ⟨⟨j + 1, by omega, by go_num, by rw [HB.out], trivial⟩, by simp [intOf]; omega⟩
            · have HB : Hid (decide ((first : Int) ∈ out.take (j + 1)) = (y == (first : Int))) := by
                show _ = _
                by_cases hy : y = (first : Int)
                · rw [decide_eq_true (HT.out.2 (.inr hy))]; simp [hy]
                · rw [decide_eq_false (fun x => (HT.out.1 x).elim hb hy)]; simp [hy]
              rw [decide_eq_false hb]
              clear hb HT
              go_wp2_with fail
              exact ⟨⟨j + 1, by omega, by go_num, by rw [HB.out], trivial⟩, by simp [intOf]; omega⟩
          · have hjn : ¬ (j : Int) < (out.length : Int) := by omega
            have htk : out.take j = out := List.take_of_length_le (by omega)
            rw [htk]
            by_cases hb : (first : Int) ∈ out
            · have hpos : 0 < out.length := List.length_pos_of_mem hb
              obtain rfl := hao hpos
              have hnz : ((out.length : Int) == 0) = false := by simp; intro e; rw [e] at hpos; simp at hpos
              have HLM : Hid (listL raw frm first = out) := by show _ = _; rw [HLL.out, if_pos hb]
              rw [decide_eq_true hb]
              clear hb htk
              go_wp2_with fail
              go_ret
              rw [HLM.out]
              exact ⟨_, rfl, HW.out.1, HW.out.2⟩
            · have HLM : Hid (listL raw frm first = out ++ [(first : Int)]) := by show _ = _; rw [HLL.out, if_neg hb]
              rw [decide_eq_false hb]
              clear hb htk
              have OW : Hid (wr.ownsRow w.heap.size 3 1 (.slice ao out.length capo) out.length (out.map zv)) := HW.out.1
              have hwz := HW.out.2.size
              have hlenp : (((out.length + 1 : Nat) : Int) == 0) = false := by simp; omega
              go_wp2_with (at_builtin; go_must (refine wpList_append_lies _ rfl (.tmp 89) (.tmp 91) 28 rfl w.heap.size 3 j0 (.int .i64 0) 1 8 Tryz.underlying28 hj hy0 hy1 hy2 rfl (by decide) _ out.length (out.map zv) rfl (OW.out.alloc _) ⟨wr.heap.size, 0, none⟩ 1 1 [.int .i64 (first : Int)] rfl rfl (cell_one_i _ _ _) (by intro u hu; simp at hu; subst hu; rfl) (by omega) (by unfold maxLen; omega) (by omega) (by simp; omega) _ rfl ?_; intro gv capv w3 hown3 hgrow3 _ _))
              go_ret
              refine ⟨_, rfl, ?_, (HW.out.2.alloc hwz _).grown hgrow3 (by simp; omega) (fun b hb => (OW.out.lt b hb).1)⟩
              rw [HLM.out, List.map_append, List.length_append]; exact hown3
  · have hz : ((n3 : Int) == 0) = false := by simp [hz3]
    have HS : Hid (w.ownsRow w.heap.size 3 1 (.slice none 0 0) (listF raw frm first 0).length ((listF raw frm first 0).map zv) ∧ Below w.heap.size w w) := by
      have e : listF raw frm first 0 = [] := by unfold listF; rw [if_neg (by have := HN.out.2; omega)]
      rw [e]; exact ⟨World.ownsRow_nil _ _ _ _, Below.refl _ _⟩
    clear hz3
    go_wp2_with fail
    clear hz
    go_loopw [7, 9] (fun v7 v9 wr => ∃ (k : Nat), k ≤ 1 + n4 ∧ v9 = .int .i64 (1 + (k : Int)) ∧ Hid (wr.ownsRow w.heap.size 3 1 v7 (listF raw frm first k).length ((listF raw frm first k).map zv) ∧ Below w.heap.size w wr)) (fun _ v9 _ => 10 - (intOf v9).toNat)
    case atStart => exact ⟨0, by omega, by go_num, HS⟩
    case round =>
      obtain ⟨k, hk, rfl, HW⟩ := hrel
      have hlen := listF_len raw frm first k
      obtain ⟨_, ao, capo, go, hvo, hao, hco⟩ := int_cells HW.out.1
      subst hvo
      by_cases hlt : k < 1 + n4
      · have hle : (1 + (k : Int)) ≤ 1 + (n4 : Int) := by omega
        have HA : Hid (Calls Tryz.prog 36 #[.slice a0 raw.length cap0, .int .i64 ((frm : Int) + (1 + (k : Int)))] wr fun e w' => e = .returned (.int .i64 (atL raw (frm + (k + 1)))) ∧ wr = w') := by
          have := kat_any (.slice a0 raw.length cap0) raw (frm + (k + 1)) wr (HI.out.below HW.out.2) (by omega)
          rw [show (((frm + (k + 1) : Nat)) : Int) = (frm : Int) + (1 + (k : Int)) by omega] at this
          exact this
        have hra := HR.out.at (frm + (k + 1))
        have HP : Hid (_) := pick_any (atL raw (frm + (k + 1))) 12 wr (by omega) (by omega) hra.1 hra.2
        obtain ⟨m, hm⟩ : ∃ m, m = pickN (atL raw (frm + (k + 1))) 12 := ⟨_, rfl⟩
        have hm12 : m < 12 := by rw [hm]; exact Nat.mod_lt _ (by decide)
        rw [← hm] at HP
        have HNX : Hid (listF raw frm first (k + 1) = listAdd first (listF raw frm first k) (m : Int)) := by show _ = _; rw [hm]; rfl
        clear hra hm
        generalize listF raw frm first k = out at *
        have HCO : Hid (∀ j (hj : j < out.length), wr.cell? ⟨go, j, none⟩ = some (.int .i64 out[j])) := hco
        clear hco
        go_wp2_with fail
        refine Calls.mono HA.out ?_
        rintro e w2 ⟨rfl, rfl⟩
        go_wp2_with fail
        refine Calls.mono HP.out ?_
        rintro e w2 ⟨rfl, rfl⟩
        clear HA HP
        go_wp2_with fail
        go_loopw [11, 12] (fun v11 v12 wr2 => ∃ (j : Nat), j ≤ out.length ∧ v12 = .int .i64 (j : Int) ∧ v11 = .bool (decide ((m : Int) = (first : Int) ∨ (m : Int) ∈ out.take j)) ∧ wr2 = wr) (fun _ v12 _ => out.length - (intOf v12).toNat)
        case atStart => exact ⟨0, Nat.zero_le _, rfl, by rw [beqd]; simp, rfl⟩
        case round =>
          obtain ⟨j, hj2, rfl, rfl, rfl⟩ := hrel
          by_cases hjl : j < out.length
          · have hc := HCO.out j hjl
            obtain rfl := hao (by omega)
            have hIj : (j : Int) < (out.length : Int) := by omega
            have HT : Hid (((m : Int) = (first : Int) ∨ (m : Int) ∈ out.take (j + 1)) ↔ ((m : Int) = (first : Int) ∨ (m : Int) ∈ out.take j) ∨ out[j] = (m : Int)) := by
              show _ ↔ _
              rw [take_mem_succ out j (m : Int) hjl, or_assoc]
            generalize out[j] = y at *
            by_cases hb : (m : Int) = (first : Int) ∨ (m : Int) ∈ out.take j
            · have HB : Hid (decide ((m : Int) = (first : Int) ∨ (m : Int) ∈ out.take (j + 1)) = true) := by show _ = _; rw [decide_eq_true_eq, HT.out]; exact .inl hb
              rw [decide_eq_true hb]
              clear hb HT
              go_wp2_with fail
              exact ⟨⟨j + 1, by omega, by go_num, by rw [HB.out], trivial⟩, by simp [intOf]; omega⟩
            · have HB : Hid (decide ((m : Int) = (first : Int) ∨ (m : Int) ∈ out.take (j + 1)) = (y == (m : Int))) := by
                show _ = _
                by_cases hy : y = (m : Int)
                · rw [decide_eq_true (HT.out.2 (.inr hy))]; simp [hy]
                · rw [decide_eq_false (fun x => (HT.out.1 x).elim hb hy)]; simp [hy]
              rw [decide_eq_false hb]
              clear hb HT
              go_wp2_with fail
              exact ⟨⟨j + 1, by omega, by go_num, by rw [HB.out], trivial⟩, by simp [intOf]; omega⟩
          · have hjn : ¬ (j : Int) < (out.length : Int) := by omega
            have htk : out.take j = out := List.take_of_length_le (by omega)
            rw [htk]
            by_cases hb : (m : Int) = (first : Int) ∨ (m : Int) ∈ out
            · have HNY : Hid (listF raw frm first (k + 1) = out) := by show _ = _; rw [HNX.out]; unfold listAdd; rw [if_pos hb]
              rw [decide_eq_true hb]
              clear hb htk
              go_wp2_with fail
              exact ⟨⟨k + 1, by omega, by go_num, by rw [HNY.out]; exact HW⟩, by simp [intOf]; omega⟩
            · have HNY : Hid (listF raw frm first (k + 1) = out ++ [(m : Int)]) := by show _ = _; rw [HNX.out]; unfold listAdd; rw [if_neg hb]
              rw [decide_eq_false hb]
              clear hb htk
              have OW : Hid (wr.ownsRow w.heap.size 3 1 (.slice ao out.length capo) out.length (out.map zv)) := HW.out.1
              have hwz := HW.out.2.size
              go_wp2_with (at_builtin; go_must (refine wpList_append_own _ rfl (.tmp 64) (.tmp 66) 28 rfl w.heap.size 3 j0 (.int .i64 0) 1 8 Tryz.underlying28 hj hy0 hy1 hy2 rfl (by decide) _ out.length (out.map zv) rfl (OW.out.alloc _) ⟨wr.heap.size, 0, none⟩ 1 1 [.int .i64 (m : Int)] rfl rfl (cell_one_i _ _ _) (by intro u hu; simp at hu; subst hu; rfl) (by unfold maxLen; omega) (by omega) (by simp; omega) ?_; intro v3 w3 hown3 hgrow3 _))
              have HE : Hid (w3.ownsRow w.heap.size 3 1 v3 (listF raw frm first (k + 1)).length ((listF raw frm first (k + 1)).map zv) ∧ Below w.heap.size w w3) := by
                refine ⟨?_, (HW.out.2.alloc hwz _).grown hgrow3 (by simp; omega) (fun b hb => (OW.out.lt b hb).1)⟩
                rw [HNY.out, List.map_append, List.length_append]; exact hown3
              clear hown3 hgrow3
              exact ⟨⟨k + 1, by omega, by go_num, HE⟩, by simp [intOf]; omega⟩
      · have hkn : k = 1 + n4 := by omega
        have hle : ¬ (1 + (k : Int)) ≤ 1 + (n4 : Int) := by omega
        obtain ⟨out, hout⟩ : ∃ out, out = listF raw frm first k := ⟨_, rfl⟩
        have HLL : Hid (listL raw frm first = if (first : Int) ∈ out then out else out ++ [(first : Int)]) := by
          show _ = _
          unfold listL
          simp only [← HN.out.1, ← hkn, ← hout]
        rw [← hout] at hlen hao hco HW ⊢
        clear hout
        have HCO : Hid (∀ j (hj : j < out.length), wr.cell? ⟨go, j, none⟩ = some (.int .i64 out[j])) := hco
        clear hco hlt hkn
        go_wp2_with fail
        go_loopw [13, 14] (fun v13 v14 wr2 => ∃ (j : Nat), j ≤ out.length ∧ v14 = .int .i64 (j : Int) ∧ v13 = .bool (decide ((first : Int) ∈ out.take j)) ∧ wr2 = wr) (fun _ v14 _ => out.length - (intOf v14).toNat)
        case atStart => exact ⟨0, Nat.zero_le _, rfl, by simp, rfl⟩
        case round =>
          obtain ⟨j, hj2, rfl, rfl, rfl⟩ := hrel
          by_cases hjl : j < out.length
          · have hc := HCO.out j hjl
            obtain rfl := hao (by omega)
            have hIj : (j : Int) < (out.length : Int) := by omega
            have HT : Hid (((first : Int) ∈ out.take (j + 1)) ↔ ((first : Int) ∈ out.take j ∨ out[j] = (first : Int))) := take_mem_succ out j (first : Int) hjl
            generalize out[j] = y at *
            by_cases hb : (first : Int) ∈ out.take j
            · have HB : Hid (decide ((first : Int) ∈ out.take (j + 1)) = true) := by show _ = _; rw [decide_eq_true_eq, HT.out]; exact .inl hb
              rw [decide_eq_true hb]
              clear hb HT
              go_wp2_with fail
              exact ⟨⟨j + 1, by omega, by go_num, by rw [HB.out], trivial⟩, by simp [intOf]; omega⟩
            · have HB : Hid (decide ((first : Int) ∈ out.take (j + 1)) = (y == (first : Int))) := by
                show _ = _
                by_cases hy : y = (first : Int)
                · rw [decide_eq_true (HT.out.2 (.inr hy))]; simp [hy]
                · rw [decide_eq_false (fun x => (HT.out.1 x).elim hb hy)]; simp [hy]
              rw [decide_eq_false hb]
              clear hb HT
              go_wp2_with fail
              exact ⟨⟨j + 1, by omega, by go_num, by rw [HB.out], trivial⟩, by simp [intOf]; omega⟩
          · have hjn : ¬ (j : Int) < (out.length : Int) := by omega
            have htk : out.take j = out := List.take_of_length_le (by omega)
            rw [htk]
            by_cases hb : (first : Int) ∈ out
            · have hpos : 0 < out.length := List.length_pos_of_mem hb
              obtain rfl := hao hpos
              have hnz : ((out.length : Int) == 0) = false := by simp; intro e; rw [e] at hpos; simp at hpos
              have HLM : Hid (listL raw frm first = out) := by show _ = _; rw [HLL.out, if_pos hb]
              rw [decide_eq_true hb]
              clear hb htk
              go_wp2_with fail
              go_ret
              rw [HLM.out]
              exact ⟨_, rfl, HW.out.1, HW.out.2⟩
            · have HLM : Hid (listL raw frm first = out ++ [(first : Int)]) := by show _ = _; rw [HLL.out, if_neg hb]
              rw [decide_eq_false hb]
              clear hb htk
              have OW : Hid (wr.ownsRow w.heap.size 3 1 (.slice ao out.length capo) out.length (out.map zv)) := HW.out.1
              have hwz := HW.out.2.size
              have hlenp : (((out.length + 1 : Nat) : Int) == 0) = false := by simp; omega
              go_wp2_with (at_builtin; go_must (refine wpList_append_lies _ rfl (.tmp 89) (.tmp 91) 28 rfl w.heap.size 3 j0 (.int .i64 0) 1 8 Tryz.underlying28 hj hy0 hy1 hy2 rfl (by decide) _ out.length (out.map zv) rfl (OW.out.alloc _) ⟨wr.heap.size, 0, none⟩ 1 1 [.int .i64 (first : Int)] rfl rfl (cell_one_i _ _ _) (by intro u hu; simp at hu; subst hu; rfl) (by omega) (by unfold maxLen; omega) (by omega) (by simp; omega) _ rfl ?_; intro gv capv w3 hown3 hgrow3 _ _))
              go_ret
              refine ⟨_, rfl, ?_, (HW.out.2.alloc hwz _).grown hgrow3 (by simp; omega) (fun b hb => (OW.out.lt b hb).1)⟩
              rw [HLM.out, List.map_append, List.length_append]; exact hown3
end Go.Proofs.YtoeihlgidakjbaaGreatDoor

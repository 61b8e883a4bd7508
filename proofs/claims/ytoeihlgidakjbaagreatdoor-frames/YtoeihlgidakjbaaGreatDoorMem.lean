/- Memory: blocks, rows, what may turn. -/
import Derived.Test.YtoeihlgidakjbaaGreatDoorLnd0
import Derived.Lib.BufferWrite
import Derived.Laws.CopyOwn
import Derived.Deep.DeepCutAuto
import Derived.Deep.RegionHeld3
import Derived.Deep.AppendLies
import Derived.Deep.RegionHeldLaw
import Derived.Deep.RegionLaw
import Derived.Deep.QuietTactic
import Derived.BigQuiet
import Derived.Laws.ResultCell
import Derived.Laws.BytesString
namespace Go.Proofs.YtoeihlgidakjbaaGreatDoor
open Go.RowKit Go.Lib

theorem byte_of (n : Nat) (h : n < 256) : ((UInt8.ofNat n).toNat : Int) = (n : Int) := by rw [UInt8.toNat_ofNat']; omega
theorem ret_str {a b : ByteArray} (h : a.data.toList = b.data.toList) : Ending.returned (.string a) = .returned (.string b) := by
  obtain ⟨⟨x⟩⟩ := a
  obtain ⟨⟨y⟩⟩ := b
  simp at h
  rw [h]
theorem str_eq {a : ByteArray} {l : List UInt8} (h : a.data.toList = l) : a = ⟨l.toArray⟩ := by
  obtain ⟨⟨x⟩⟩ := a
  simp at h
  rw [h]
theorem app_toList (a b : ByteArray) : (a ++ b).data.toList = a.data.toList ++ b.data.toList := by simp
theorem own_shape {w : World} {B e : Nat} {v : Value} {n : Nat} {xs : List Value} (h : w.ownsRow B e 1 v n xs) : ∃ a cap g, v = .slice a n cap ∧ (0 < n → a = some ⟨g, 0, none⟩) ∧ n ≤ maxLen ∧ ∀ j, j < n → w.cell? ⟨g, j, none⟩ = xs[j]? := by
  have h0 := h
  obtain ⟨_, h2⟩ := h
  rcases h2 with ⟨rfl, rfl⟩ | ⟨g, cap, cur, rfl, hb, hg, hnc, hcm, hcs, htake⟩
  · exact ⟨none, 0, 0, rfl, fun h => by omega, Nat.zero_le _, fun j hj => by omega⟩
  · exact ⟨some ⟨g, 0, none⟩, cap, g, rfl, fun _ => rfl, by omega, fun j hj => h0.cellAt j (by omega)⟩
/-- Only blocks of S, and new ones, have turned. -/
structure Tch (S : Nat → Prop) (w w' : World) : Prop where
  os : w'.os = w.os
  tape : w'.tape = w.tape
  output : w'.output = w.output
  size : w.heap.size ≤ w'.heap.size
  block : ∀ k, k < w.heap.size → ¬ S k → w'.heap[k]? = w.heap[k]?
theorem Tch.refl (S : Nat → Prop) (w : World) : Tch S w w := ⟨rfl, rfl, rfl, Nat.le_refl _, fun _ _ _ => rfl⟩
theorem Tch.trans {S : Nat → Prop} {a b c : World} (h : Tch S a b) (k : Tch S b c) : Tch S a c :=
  ⟨k.os.trans h.os, k.tape.trans h.tape, k.output.trans h.output, Nat.le_trans h.size k.size, fun i hi hs => (k.block i (Nat.lt_of_lt_of_le hi h.size) hs).trans (h.block i hi hs)⟩
theorem Tch.mono {S T : Nat → Prop} {a b : World} (h : Tch S a b) (hs : ∀ k, S k → T k) : Tch T a b := ⟨h.os, h.tape, h.output, h.size, fun k hk ht => h.block k hk (fun x => ht (hs k x))⟩
theorem Tch.of_below {S : Nat → Prop} {a b : World} (h : Below a.heap.size a b) : Tch S a b := ⟨h.os, h.tape, h.output, h.size, fun k hk _ => h.block k hk⟩
theorem Tch.set (S : Nat → Prop) (w : World) (p : Addr) (v : Value) (hp : S p.block) : Tch S w (w.setCell p v) :=
  ⟨rfl, rfl, rfl, by simp [World.setCell], fun k _ hk => Below.heap_setCell _ _ _ _ (fun e => hk (e ▸ hp))⟩
theorem Tch.drew {S : Nat → Prop} {a b : World} (h : Tch S a b) : Tch S a b.drew := ⟨h.os, h.tape, h.output, h.size, h.block⟩
theorem Tch.below {S : Nat → Prop} {a b : World} {B : Nat} (h : Tch S a b) (hB : B ≤ a.heap.size) (hs : ∀ k, S k → B ≤ k) : Below B a b :=
  ⟨h.os, h.tape, h.output, h.size, fun k hk => h.block k (by omega) (fun x => by have := hs k x; omega)⟩
theorem owns_tch {w w' : World} {B e s : Nat} {v : Value} {n : Nat} {xs : List Value} {S : Nat → Prop} (h : w.ownsRow B e s v n xs) (ht : Tch S w w') (hs : ∀ b, v.ownBlock = some b → ¬ S b) : w'.ownsRow B e s v n xs := by
  obtain ⟨h1, h2⟩ := h
  refine ⟨h1, ?_⟩
  rcases h2 with h | ⟨g, cap, cur, rfl, e2, e3, e4⟩
  · exact .inl h
  · exact .inr ⟨g, cap, cur, rfl, e2, (ht.block g (lt_of_block e3) (hs g rfl)).trans e3, e4⟩
theorem set_ne {w : World} {a b i j : Nat} {v : Value} (h : a ≠ b) : (w.setCell ⟨b, i, none⟩ v).drew.cell? ⟨a, j, none⟩ = w.cell? ⟨a, j, none⟩ :=
  World.cell?_of_block (w := w) (a := ⟨a, j, none⟩) (Below.heap_setCell w ⟨b, i, none⟩ v a h)
theorem Tryz.infoI : (Tryz.prog.info? 3).map (fun i => (i.zero, i.size, i.bytes)) = some (some (.int .i64 0), 1, 8) := by kernel_rfl
theorem tch_grown {W0 w1 : World} {o : Obj} {row : Option Nat} (h : (W0.alloc o).grownBy w1 row) : Tch (fun b => row = some b) W0 w1 :=
  ⟨h.os, h.tape, h.output, Nat.le_trans (by simp) h.size, fun k hk hs => (h.block k (by simp; omega) (fun e => hs e.symm)).trans (Below.heap_alloc W0 o k hk)⟩
theorem tch_grownD {W0 w1 : World} {o : Obj} {row : Option Nat} (h : (W0.alloc o).drew.grownBy w1 row) : Tch (fun b => row = some b) W0 w1 :=
  ⟨h.os, h.tape, h.output, Nat.le_trans (by simp) h.size, fun k hk hs => (h.block k (by simp; omega) (fun e => hs e.symm)).trans (Below.heap_alloc W0 o k hk)⟩
theorem Tch.restrict {S : Nat → Prop} {a b : World} (h : Tch (fun k => S k ∨ a.heap.size ≤ k) a b) : Tch S a b :=
  ⟨h.os, h.tape, h.output, h.size, fun k hk hs => h.block k hk (fun x => x.elim hs (fun y => by omega))⟩
def iv (n : Nat) : Value := .int .i64 (n : Int)
theorem blk_cell {w : World} {b k : Nat} {a : Array Value} {T : Nat} (h : w.heap[b]? = some (.cells a T (0, 0))) : w.cell? ⟨b, k, none⟩ = a[k]? := by simp [World.cell?, h]
theorem blk_free {w : World} {b k : Nat} {a : Array Value} {T : Nat} (h : w.heap[b]? = some (.cells a T (0, 0))) : w.frozen? ⟨b, k, none⟩ = false := by simp [World.frozen?, h]
theorem blk_lt {w : World} {b : Nat} {o : Obj} (h : w.heap[b]? = some o) : b < w.heap.size := (Array.getElem?_eq_some_iff.1 h).1
theorem blk_set {w : World} {b k : Nat} {a : Array Value} {T : Nat} {x : Value} (h : w.heap[b]? = some (.cells a T (0, 0))) : (w.setCell ⟨b, k, none⟩ x).heap[b]? = some (.cells (a.setIfInBounds k x) T (0, 0)) := by
  simp [World.setCell, Array.getElem?_modify, h]
theorem news2 (w : World) (a b : Value) (T : Nat) : ∀ (j : Nat) (u : Value), [a, b][j]? = some u → (w.alloc (.cells #[a, b] T)).cell? (Addr.add ⟨w.heap.size, 0, none⟩ j) = some u := by
  intro j u hu
  match j with
  | 0 => simp at hu; subst hu; simp [Addr.add]
  | 1 => simp at hu; subst hu; simp [Addr.add]
  | j + 2 => simp at hu
theorem wrap_in {x : Int} (h0 : -9223372036854775808 ≤ x) (h1 : x < 9223372036854775808) : IntKind.i64.wrap x = x := by
  simp only [IntKind.wrap, IntKind.signed, IntKind.bits, Bool.true_and]
  split
  · rename_i h; simp at h; omega
  · rename_i h; simp at h; omega
theorem tset (w : World) (rb k : Nat) (x : Value) : Tch (fun b => b = rb) w (w.setCell ⟨rb, k, none⟩ x) := Tch.set _ w ⟨rb, k, none⟩ _ rfl
theorem cell_one_i (w : World) (n : Int) (T : Nat) : ∀ (j : Nat) (u : Value), [Value.int .i64 n][j]? = some u → (w.alloc (.cells #[.int .i64 n] T)).cell? (Addr.add ⟨w.heap.size, 0, none⟩ j) = some u := by
  intro j u hu
  match j with
  | 0 => simp at hu; subst hu; simp [Addr.add]
  | j + 1 => simp at hu
/-- Numbers that lie in a slice. -/
def IntsAt (w : World) (v : Value) (l : List Int) : Prop := ∃ a cap g off, v = .slice a l.length cap ∧ (0 < l.length → a = some ⟨g, off, none⟩ ∧ g < w.heap.size) ∧ ∀ k (h : k < l.length), w.cell? ⟨g, off + k, none⟩ = some (.int .i64 l[k])
theorem IntsAt.below {w w' : World} {v : Value} {l : List Int} (h : IntsAt w v l) (hb : Below w.heap.size w w') : IntsAt w' v l := by
  obtain ⟨a, cap, g, off, rfl, h1, h2⟩ := h
  refine ⟨a, cap, g, off, rfl, fun h => ⟨(h1 h).1, Nat.lt_of_lt_of_le (h1 h).2 hb.size⟩, fun k hk => (hb.cell (p := ⟨g, off + k, none⟩) (h1 (by omega)).2).trans (h2 k hk)⟩
/-- A list of a configuration. -/
def IsL (l : List Int) : Prop := 0 < l.length ∧ l.length ≤ 8 ∧ (∀ x ∈ l, 0 ≤ x ∧ x ≤ 255) ∧ ∀ i j, i < j → j < l.length → l[i]? ≠ l[j]?
noncomputable instance (l : List Int) : Decidable (IsL l) := Classical.propDecidable _
noncomputable def isL (l : List Int) : Bool := decide (IsL l)
def zv (n : Int) : Value := .int .i64 n
theorem IntsAt.drew {w : World} {v : Value} {l : List Int} (h : IntsAt w v l) : IntsAt w.drew v l := h
theorem set_ne2 {w : World} {a b i j : Nat} {v : Value} (h : a ≠ b) : (w.setCell ⟨b, i, none⟩ v).cell? ⟨a, j, none⟩ = w.cell? ⟨a, j, none⟩ := World.cell?_of_block (w := w) (a := ⟨a, j, none⟩) (Below.heap_setCell w ⟨b, i, none⟩ v a h)
theorem below_undrew {w w' : World} (h : Below w.drew.heap.size w.drew w') : Below w.heap.size w w' := ⟨h.os, h.tape, h.output, h.size, h.block⟩
/-- Below an old size the numbers stay, whatever turns above. -/
theorem IntsAt.tch {w W wc : World} {v : Value} {l : List Int} (h : IntsAt w v l) (hb : Below w.heap.size w W) (ht : Tch (fun b => b = w.heap.size + 1) W wc) : IntsAt wc v l := by
  obtain ⟨a, cap, g, off, rfl, h1, h2⟩ := h
  refine ⟨a, cap, g, off, rfl, fun h => ⟨(h1 h).1, Nat.lt_of_lt_of_le (h1 h).2 (Nat.le_trans hb.size ht.size)⟩, fun k hk => ?_⟩
  have hg := (h1 (by omega)).2
  exact (World.cell?_of_block (w := W) (a := ⟨g, off + k, none⟩) (ht.block g (Nat.lt_of_lt_of_le hg hb.size) (by omega))).trans ((hb.cell (p := ⟨g, off + k, none⟩) hg).trans (h2 k hk))
theorem headD_get (l : List Int) (h : 0 < l.length) : l.headD 0 = l[0] := by
  match l, h with
  | y :: ys, _ => rfl
theorem map_iv (l : List Int) (h : ∀ x ∈ l, 0 ≤ x) : (l.map Int.toNat).map iv = l.map zv := by
  rw [List.map_map]
  refine List.map_congr_left fun x hx => ?_
  show Value.int .i64 ((x.toNat : Nat) : Int) = .int .i64 x
  rw [Int.toNat_of_nonneg (h x hx)]
theorem below_drewN2 {B : Nat} {w wr : World} (h : Below B w wr) (n : Nat) : Below B w (wr.drewN n) := below_drewN h n
theorem own_shape2 {w : World} {B e : Nat} {v : Value} {n : Nat} {xs : List Value} (h : w.ownsRow B e 2 v n xs) : ∃ a cap g, v = .slice a n cap ∧ (0 < n → a = some ⟨g, 0, none⟩ ∧ B ≤ g ∧ g < w.heap.size) ∧ ∀ j u, xs[j]? = some u → w.cell? ⟨g, j, none⟩ = some u := by
  have h0 := h
  rcases h.2 with ⟨rfl, hz⟩ | ⟨g, cap, cur, rfl, hb, hg, _⟩
  · have hl := h.1
    rw [hz] at hl
    have hx : xs = [] := List.eq_nil_of_length_eq_zero (by omega)
    subst hx
    exact ⟨none, 0, 0, by rw [hz], fun h => by omega, fun j u hu => by simp at hu⟩
  · refine ⟨_, cap, g, rfl, fun _ => ⟨rfl, hb, (Array.getElem?_eq_some_iff.1 hg).1⟩, fun j u hu => ?_⟩
    have hadd : (⟨g, 0, none⟩ : Addr).add j = ⟨g, j, none⟩ := by unfold Addr.add; split <;> simp_all
    rw [← hadd]; exact h0.cells (g := g) rfl j u hu
theorem ints_own {w : World} {B : Nat} {v : Value} {l : List Nat} (h : w.ownsRow B 3 1 v l.length (l.map iv)) : IntsAt w v (l.map fun (n : Nat) => (n : Int)) := by
  obtain ⟨a, cap, g, hv, ha, _, hc⟩ := own_shape h
  subst hv
  refine ⟨a, cap, g, 0, by rw [List.length_map], fun h0 => ?_, fun k hk => ?_⟩
  · rw [List.length_map] at h0
    obtain rfl := ha h0
    exact ⟨rfl, (h.lt g rfl).2⟩
  · rw [List.length_map] at hk
    rw [Nat.zero_add, hc k hk, List.getElem?_map, List.getElem?_eq_getElem hk]
    simp [iv]
theorem mem_ints (l : List Nat) (n : Nat) : ((n : Int) ∈ l.map fun (n : Nat) => (n : Int)) ↔ n ∈ l := by
  constructor
  · intro h
    obtain ⟨a, ha, e⟩ := List.mem_map.1 h
    have : a = n := by omega
    exact this ▸ ha
  · intro h
    exact List.mem_map.2 ⟨n, h, rfl⟩
/-- A cell of an owned row is written. -/
theorem owns_set2 {w : World} {B e g n cap : Nat} {xs : List Value} (h : w.ownsRow B e 2 (.slice (some ⟨g, 0, none⟩) n cap) n xs) (k : Nat) (x : Value) : (w.setCell ⟨g, k, none⟩ x).ownsRow B e 2 (.slice (some ⟨g, 0, none⟩) n cap) n (xs.set k x) := by
  obtain ⟨hl, hr⟩ := h
  rcases hr with ⟨e1, _⟩ | ⟨g', cap', cur, e1, hb, hg, hnc, hcm, hcs, ht⟩
  · cases e1
  · obtain ⟨rfl, rfl⟩ : g = g' ∧ cap = cap' := by injection e1 with a b c; exact ⟨by injection a with a; injection a, c⟩
    refine ⟨by rw [List.length_set]; exact hl, .inr ⟨g, cap, cur.setIfInBounds k x, rfl, hb, blk_set (k := k) hg, hnc, hcm, by rw [Array.size_setIfInBounds]; exact hcs, ?_⟩⟩
    rw [Array.toList_setIfInBounds, ← ht]
    rw [List.take_set]
theorem rem_run (h n p : Nat) (wx : World) (hn : ¬ n = 0) (hp : p = h % n) (hh : h ≤ 1000000000000000) (hn8 : n ≤ 8) : (binOp .rem 3 (.int .i64 (h : Int)) (.int .i64 (n : Int))).run Tryz.prog wx = .ok (.int .i64 (p : Int)) wx := by
  have hz : ((n : Int) == 0) = false := by simp; omega
  have hr : (h : Int).tmod (n : Int) = (p : Int) := by rw [hp, Int.tmod_eq_emod_of_nonneg (by omega)]; exact (Int.natCast_emod h n).symm
  have hpl : p < n := by rw [hp]; exact Nat.mod_lt _ (by omega)
  have hw : IntKind.i64.wrap (p : Int) = (p : Int) := wrap_in (by omega) (by omega)
  clear hp
  go_simp
theorem getD_lt (l : List Nat) (p N : Nat) (h : ∀ x ∈ l, x < N) (hN : 0 < N) : l.getD p 0 < N := by
  rw [List.getD]
  cases hp : l[p]? with
  | none => exact hN
  | some x => exact h x (List.mem_of_getElem? hp)
end Go.Proofs.YtoeihlgidakjbaaGreatDoor

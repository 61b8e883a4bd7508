/- A queue of frames in memory: a slice of strings whose beginning moves on. A struct in memory with rows of its own: one block of cells, and the rows that some of its cells name, each in a block of its own. The set of an end's magics: a map of ints to nothing. The program's Write of items. -/
import Derived.Test.YtoeihlgidakjbaaGreatDoorPc4
import Derived.Test.YtoeihlgidakjbaaGreatDoorProg
import Derived.Deep.AppendSrc
import Derived.Deep.Upon
import Derived.Deep.MidRow
import Derived.Test.YtoeihlgidakjbaaGreatDoorPc3
import Derived.Maps.OwnSet
import Derived.Test.YtoeihlgidakjbaaGreatDoorPc2
namespace Go.Proofs.YtoeihlgidakjbaaGreatDoor
open Go.RowKit Go.Lib
def sv (p : Pq) : Value := .string ⟨p.line.toArray⟩
def QRow (w : World) (B : Nat) (v : Value) (ps : List Pq) : Prop :=
  (ps = [] ∧ v = .slice none 0 0) ∨ ∃ g off cap, v = .slice (some ⟨g, off, none⟩) ps.length cap ∧ B ≤ g ∧ g < w.heap.size ∧ ps.length ≤ cap ∧ cap ≤ maxLen ∧ w.there g off cap ∧ w.rangeAt g off (ps.map sv)
theorem QRow.lt {w : World} {B : Nat} {v : Value} {ps : List Pq} (h : QRow w B v ps) : ∀ b, v.ownBlock = some b → B ≤ b ∧ b < w.heap.size := by
  intro b hb
  rcases h with ⟨_, rfl⟩ | ⟨g, off, cap, rfl, h1, h2, _⟩
  · cases hb
  · obtain rfl : g = b := Option.some.inj hb
    exact ⟨h1, h2⟩
theorem cell_blk {w w' : World} {g : Nat} (h : w'.heap[g]? = w.heap[g]?) (o : Nat) : w'.cell? ⟨g, o, none⟩ = w.cell? ⟨g, o, none⟩ ∧ w'.frozen? ⟨g, o, none⟩ = w.frozen? ⟨g, o, none⟩ := by
  simp only [World.cell?, World.frozen?, h, and_self]
theorem QRow.of_tch {w w' : World} {B : Nat} {v : Value} {ps : List Pq} {S : Nat → Prop} (h : QRow w B v ps) (ht : Tch S w w') (hs : ∀ b, v.ownBlock = some b → ¬ S b) : QRow w' B v ps := by
  rcases h with h | ⟨g, off, cap, rfl, h1, h2, h3, h4, h5, h6⟩
  · exact .inl h
  · have hb := ht.block g h2 (hs g rfl)
    refine .inr ⟨g, off, cap, rfl, h1, Nat.lt_of_lt_of_le h2 ht.size, h3, h4, fun j hj => ?_, fun j u hu => ?_⟩
    · rw [(cell_blk hb _).1, (cell_blk hb _).2]; exact h5 j hj
    · rw [(cell_blk hb _).1]; exact h6 j u hu
theorem QRow.nil (w : World) (B : Nat) : QRow w B (.slice none 0 0) [] := .inl ⟨rfl, rfl⟩
theorem QRow.mono {w : World} {B B' : Nat} {v : Value} {ps : List Pq} (h : QRow w B v ps) (hB : B' ≤ B) : QRow w B' v ps := by
  rcases h with h | ⟨g, off, cap, rfl, h1, h2⟩
  · exact .inl h
  · exact .inr ⟨g, off, cap, rfl, Nat.le_trans hB h1, h2⟩
theorem QRow.shape {w : World} {B : Nat} {v : Value} {ps : List Pq} (h : QRow w B v ps) : ∃ a cap, v = .slice a ps.length cap ∧ ps.length ≤ cap := by
  rcases h with ⟨rfl, rfl⟩ | ⟨g, off, cap, rfl, h1, h2, h3, _⟩
  · exact ⟨none, 0, rfl, Nat.le_refl _⟩
  · exact ⟨_, _, rfl, h3⟩
theorem QRow.head {w : World} {B : Nat} {v : Value} {p : Pq} {ps : List Pq} (h : QRow w B v (p :: ps)) :
    ∃ g off cap, v = .slice (some ⟨g, off, none⟩) (ps.length + 1) cap ∧ w.cell? ⟨g, off, none⟩ = some (sv p) ∧ g < w.heap.size ∧ B ≤ g ∧ ps.length + 1 ≤ cap ∧ QRow w B (sliced (some ⟨g, off, none⟩) 1 (ps.length + 1) cap 1) ps ∧ (sliced (some ⟨g, off, none⟩) 1 (ps.length + 1) cap 1).ownBlock = some g := by
  rcases h with ⟨h, _⟩ | ⟨g, off, cap, rfl, h1, h2, h3, h4, h5, h6⟩
  · cases h
  · refine ⟨g, off, cap, rfl, by simpa using h6 0 (sv p) rfl, h2, h1, h3, ?_⟩
    simp only [List.length_cons] at h3
    unfold sliced
    by_cases hc : cap = 1
    · subst hc
      have hz : ps = [] := List.eq_nil_of_length_eq_zero (by omega)
      subst hz
      rw [if_pos rfl]
      exact ⟨.inr ⟨g, off, 0, rfl, h1, h2, Nat.le_refl _, Nat.zero_le _, fun j hj => by omega, fun j u hu => by simp at hu⟩, rfl⟩
    · rw [if_neg hc]
      have e : (Option.map (fun x : Addr => x.add (1 * 1)) (some (⟨g, off, none⟩ : Addr))) = some ⟨g, off + 1, none⟩ := by
        show some ((⟨g, off, none⟩ : Addr).add 1) = _
        rw [Addr.add_mid]
      rw [e]
      refine ⟨.inr ⟨g, off + 1, cap - 1, by simp, h1, h2, by omega, by omega, fun j hj => ?_, fun j u hu => ?_⟩, rfl⟩
      · have := h5 (j + 1) (by omega)
        rw [show off + 1 + j = off + (j + 1) by omega]; exact this
      · have := h6 (j + 1) u (by simpa using hu)
        rw [show off + 1 + j = off + (j + 1) by omega]; exact this
theorem tch_setCells (S : Nat → Prop) (b : Nat) (hS : S b) : ∀ (vs : List Value) (o : Nat) (w : World), Tch S w (w.setCells b o vs)
  | [], _, _ => Tch.refl _ _
  | v :: r, o, w => (Tch.set S w ⟨b, o, none⟩ v hS).trans (tch_setCells S b hS r (o + 1) _)
theorem Tryz.infoS : (Tryz.prog.info? 9).map (fun i => (i.zero, i.size, i.bytes)) = some (some (.string ⟨#[]⟩), 1, 16) := by kernel_rfl
theorem run_append_q (w : World) (B : Nat) (v : Value) (ps qs : List Pq) (h : QRow w B v ps) (x : Value) (ty : TypeId) (hx : Src Tryz.prog 1 47 x qs.length (qs.map sv) w) (hB : B ≤ w.heap.size) (hl : ps.length + qs.length ≤ 1000000000000) :
    ∃ v' w', (Builtin.append_ #[47, 47] ty #[v, x]).run Tryz.prog w = .ok v' w' ∧ QRow w' B v' (ps ++ qs) ∧ Tch (fun b => v.ownBlock = some b) w w' ∧ ∀ b, v'.ownBlock = some b → v.ownBlock = some b ∨ w.heap.size ≤ b := by
  obtain ⟨i, hi, hz, hsz, hby⟩ := info_parts Tryz.infoS
  have hx' : Src Tryz.prog i.size 47 x qs.length (qs.map sv) w := by rw [hsz]; exact hx
  -- a new row
  have grown : ∀ (base : Option Addr) (cap : Nat), cap < ps.length + qs.length → (Builtin.firstCells i.size ps.length (.slice base ps.length cap)).run Tryz.prog w.drew = .ok (ps.map sv).toArray w.drew →
      ∃ v' w', (Builtin.append_ #[47, 47] ty #[.slice base ps.length cap, x]).run Tryz.prog w = .ok v' w' ∧ QRow w' B v' (ps ++ qs) ∧ Tch (fun b => (Value.slice base ps.length cap).ownBlock = some b) w w' ∧ ∀ b, v'.ownBlock = some b → (Value.slice base ps.length cap).ownBlock = some b ∨ w.heap.size ≤ b := by
    intro base cap hc hold
    have hr := run_append_grow_src (P := Tryz.prog) w 47 47 ty 9 i (.string ⟨#[]⟩) Tryz.underlying47 hi hz base ps.length cap (ps.map sv) hold x qs.length (qs.map sv) hx' hc (by omega) (growslice_fits hc (by rw [hby]; omega))
    have hge := grownCap_ge w (ps.length + qs.length) cap 9
    have hcm : grownCap w (ps.length + qs.length) cap 9 ≤ maxLen := grownCap_le_maxLen w (ps.length + qs.length) cap 9 (by unfold maxLen; omega)
    generalize grownCap w (ps.length + qs.length) cap 9 = gc at *
    refine ⟨_, _, hr, .inr ⟨w.heap.size, 0, gc, by rw [List.length_append], hB, by simp, by rw [List.length_append]; exact hge, hcm, ?_, ?_⟩, ?_, ?_⟩
    · intro j hj
      have hb : (w.drew.alloc (.cells ((ps.map sv ++ qs.map sv).toArray ++ Builtin.zeroCells (Value.string ⟨#[]⟩).cells (gc - (ps.length + qs.length))) 9)).heap[w.heap.size]? = some (.cells ((ps.map sv ++ qs.map sv).toArray ++ Builtin.zeroCells (Value.string ⟨#[]⟩).cells (gc - (ps.length + qs.length))) 9 (0, 0)) := heap_alloc_new w.drew _
      have hs : ((ps.map sv ++ qs.map sv).toArray ++ Builtin.zeroCells (Value.string ⟨#[]⟩).cells (gc - (ps.length + qs.length))).size = gc := by
        rw [Array.size_append, size_zeroCells, List.size_toArray, List.length_append, List.length_map, List.length_map]
        show ps.length + qs.length + (gc - (ps.length + qs.length)) * 1 = gc
        omega
      rw [blk_cell hb, blk_free hb]
      refine ⟨?_, rfl⟩
      rw [Array.getElem?_eq_getElem (by rw [hs]; omega)]; rfl
    · intro j u hu
      have hb : (w.drew.alloc (.cells ((ps.map sv ++ qs.map sv).toArray ++ Builtin.zeroCells (Value.string ⟨#[]⟩).cells (gc - (ps.length + qs.length))) 9)).heap[w.heap.size]? = some (.cells ((ps.map sv ++ qs.map sv).toArray ++ Builtin.zeroCells (Value.string ⟨#[]⟩).cells (gc - (ps.length + qs.length))) 9 (0, 0)) := heap_alloc_new w.drew _
      rw [blk_cell hb]
      rw [List.map_append] at hu
      have hj := (List.getElem?_eq_some_iff.1 hu).1
      rw [Nat.zero_add, Array.getElem?_append_left (by simpa using hj)]
      simpa using hu
    · exact ⟨rfl, rfl, rfl, by simp, fun k hk _ => Below.heap_alloc w.drew _ k hk⟩
    · intro b hb
      right
      have : w.heap.size = b := Option.some.inj hb
      omega
  rcases h with ⟨rfl, rfl⟩ | ⟨g, off, cap, rfl, h1, h2, h3, h4, h5, h6⟩
  · by_cases hq : qs = []
    · subst hq
      exact ⟨_, _, run_append_nothing (P := Tryz.prog) w 47 47 ty 9 i Tryz.underlying47 hi none 0 0 (Nat.le_refl _) x hx', .inl ⟨rfl, rfl⟩, Tch.refl _ _, fun b hb => .inl hb⟩
    · have hql : 0 < qs.length := List.length_pos_iff.2 hq
      exact grown none 0 (by simp; omega) (run_firstCells_none w.drew i.size 0 0 0)
  · by_cases hroom : ps.length + qs.length ≤ cap
    · have hr := run_append_room_src (P := Tryz.prog) w 47 47 ty 9 i Tryz.underlying47 hi g off ps.length cap x qs.length (qs.map sv) hx' hroom
        (fun j hj => by rw [hsz, Nat.mul_one, Nat.add_assoc]; exact (h5 (ps.length + j) (by simp at hj; omega)).1)
        (fun j hj => by rw [hsz, Nat.mul_one, Nat.add_assoc]; exact (h5 (ps.length + j) (by simp at hj; omega)).2)
      rw [hsz, Nat.mul_one] at hr
      have ht : Tch (fun b => some g = some b) w (w.setCells g (off + ps.length) (qs.map sv)) := tch_setCells (fun b => some g = some b) g rfl _ _ _
      refine ⟨_, _, hr, .inr ⟨g, off, cap, by rw [List.length_append], h1, Nat.lt_of_lt_of_le h2 ht.size, by rw [List.length_append]; exact hroom, h4, World.there_setCells h5 _ _ _, ?_⟩, ht, fun b hb => .inl hb⟩
      intro j u hu
      rw [List.map_append] at hu
      by_cases hj : j < ps.length
      · rw [List.getElem?_append_left (by simpa using hj)] at hu
        exact World.rangeAt_setCells_apart h6 g (off + ps.length) (qs.map sv) (.inr (.inl (by simp))) j u hu
      · rw [List.getElem?_append_right (by simpa using hj), List.length_map] at hu
        have := World.rangeAt_setCells_same w g (off + ps.length) (qs.map sv) (fun k hk => by rw [Nat.add_assoc]; exact h5 (ps.length + k) (by simp at hk; omega)) (j - ps.length) u hu
        rw [show off + j = off + ps.length + (j - ps.length) by omega]; exact this
    · refine grown (some ⟨g, off, none⟩) cap (by omega) ?_
      refine run_firstCells_some w.drew i.size ps.length ⟨g, off, none⟩ ps.length cap (ps.map sv) (by rw [hsz]; simp) ?_
      intro j u hu
      rw [Addr.add_mid]
      show w.cell? ⟨g, off + j, none⟩ = some u
      exact h6 j u hu
theorem wp_append_q {o : Oper} {a : Act} {K : Act → World → Prop} {Q : Exit → Act → World → Prop} (w : World) (s x : Operand)
    (ho : o.op = .call { callee := .builtin .append, args := #[s, x], argTypes := #[47, 47] })
    (B : Nat) (v y : Value) (ps qs : List Pq) (hs : a.eval s = v) (hy : a.eval x = y) (hq : QRow w B v ps) (hx : Src Tryz.prog 1 47 y qs.length (qs.map sv) w) (hB : B ≤ w.heap.size) (hl : ps.length + qs.length ≤ 1000000000000)
    (h : ∀ v' w', QRow w' B v' (ps ++ qs) → Tch (fun b => v.ownBlock = some b) w w' → (∀ b, v'.ownBlock = some b → v.ownBlock = some b ∨ w.heap.size ≤ b) → K (a.put o.dst v') w') : o.wp Tryz.prog a w K Q := by
  obtain ⟨v', w', hr, h2, h3, h4⟩ := run_append_q w B v ps qs hq y o.type hx hB hl
  unfold Oper.wp execOp
  simp only [ho, resolve, invoke, builtin, Sem.run_bind, Sem.run_pure, Result.andThen_ok, List.map_toArray, List.map_cons, List.map_nil, hs, hy, hr]
  exact h v' w' h2 h3 h4
end Go.Proofs.YtoeihlgidakjbaaGreatDoor
namespace Go.Proofs.YtoeihlgidakjbaaGreatDoor
open Go.RowKit Go.Lib
structure Row where
  e : Nat
  v : Value
  xs : List Value
structure EM (w : World) (B pb T : Nat) (cs : Array Value) (rows : List Row) : Prop where
  blk : w.heap[pb]? = some (.cells cs T (0, 0))
  ge : B ≤ pb
  own : ∀ r ∈ rows, w.ownsRow B r.e 1 r.v r.xs.length r.xs
  ne : ∀ r ∈ rows, r.v.ownBlock ≠ some pb
  pw : ∀ (i j : Nat) (r s : Row), i ≠ j → rows[i]? = some r → rows[j]? = some s → ∀ b, r.v.ownBlock = some b → s.v.ownBlock ≠ some b
def inE (pb : Nat) (vs : List Value) (b : Nat) : Prop := b = pb ∨ ∃ x ∈ vs, x.ownBlock = some b
theorem EM.lt {w : World} {B pb T : Nat} {cs : Array Value} {rows : List Row} (h : EM w B pb T cs rows) : ∀ b, inE pb (rows.map Row.v) b → B ≤ b ∧ b < w.heap.size := by
  rintro b (rfl | ⟨x, hx, hb⟩)
  · exact ⟨h.ge, blk_lt h.blk⟩
  · obtain ⟨r, hr, rfl⟩ := List.mem_map.1 hx
    exact (h.own r hr).lt b hb
theorem EM.of_tch {w w' : World} {B pb T : Nat} {cs : Array Value} {rows : List Row} {S : Nat → Prop} (h : EM w B pb T cs rows) (ht : Tch S w w') (hs : ∀ b, inE pb (rows.map Row.v) b → ¬ S b) : EM w' B pb T cs rows :=
  ⟨(ht.block pb (blk_lt h.blk) (hs pb (.inl rfl))).trans h.blk, h.ge, fun r hr => owns_tch (h.own r hr) ht (fun b hb => hs b (.inr ⟨r.v, List.mem_map.2 ⟨r, hr, rfl⟩, hb⟩)), h.ne, h.pw⟩
theorem EM.below {w w' : World} {B pb T : Nat} {cs : Array Value} {rows : List Row} (h : EM w B pb T cs rows) (hb : Below w.heap.size w w') : EM w' B pb T cs rows := h.of_tch (S := fun _ => False) (Tch.of_below hb) (fun _ _ x => x)
theorem EM.mono {w : World} {B B' pb T : Nat} {cs : Array Value} {rows : List Row} (h : EM w B pb T cs rows) (hB : B' ≤ B) : EM w B' pb T cs rows :=
  ⟨h.blk, Nat.le_trans hB h.ge, fun r hr => owns_mono (h.own r hr) hB, h.ne, h.pw⟩
theorem owns_raise {w : World} {B B' e s : Nat} {v : Value} {n : Nat} {xs : List Value} (h : w.ownsRow B e s v n xs) (hb : ∀ b, v.ownBlock = some b → B' ≤ b) : w.ownsRow B' e s v n xs := by
  obtain ⟨h1, h2⟩ := h
  refine ⟨h1, ?_⟩
  rcases h2 with h2 | ⟨g, cap, cur, rfl, _, h3⟩
  · exact .inl h2
  · exact .inr ⟨g, cap, cur, rfl, hb g rfl, h3⟩
structure ES (w w' : World) (pb : Nat) (vs vs' : List Value) : Prop where
  t : Tch (inE pb vs) w w'
  i : ∀ b, inE pb vs' b → inE pb vs b ∨ w.heap.size ≤ b
theorem ES.refl (w : World) (pb : Nat) (vs : List Value) : ES w w pb vs vs := ⟨Tch.refl _ _, fun _ h => .inl h⟩
theorem ES.trans {w w1 w2 : World} {pb : Nat} {v v1 v2 : List Value} (h : ES w w1 pb v v1) (k : ES w1 w2 pb v1 v2) : ES w w2 pb v v2 := by
  refine ⟨Tch.restrict ((h.t.mono (fun _ x => .inl x)).trans (k.t.mono (fun b x => h.i b x))), fun b hb => ?_⟩
  rcases k.i b hb with x | x
  · exact h.i b x
  · exact .inr (Nat.le_trans h.t.size x)
theorem ES.below {w w1 : World} {pb : Nat} {v : List Value} (h : Below w.heap.size w w1) : ES w w1 pb v v := ⟨Tch.of_below h, fun _ h => .inl h⟩
theorem EM.num {w w' : World} {B pb T : Nat} {cs cs' : Array Value} {rows : List Row} (h : EM w B pb T cs rows) (hb : w'.heap[pb]? = some (.cells cs' T (0, 0))) (ht : Tch (fun b => b = pb) w w') : EM w' B pb T cs' rows ∧ ES w w' pb (rows.map Row.v) (rows.map Row.v) :=
  ⟨⟨hb, h.ge, fun r hr => owns_tch (h.own r hr) ht (fun _ hb e => h.ne r hr (e ▸ hb)), h.ne, h.pw⟩, ht.mono (fun _ x => .inl x), fun _ x => .inl x⟩
theorem EM.grow {w w1 w2 : World} {B pb T : Nat} {cs : Array Value} {rows : List Row} (h : EM w B pb T cs rows) (k i : Nat) (r : Row) (hr : rows[k]? = some r) (hb : Below w.heap.size w w1) {n g cap : Nat} (xs : List Value)
    (hn : n = xs.length) (hown : w2.ownsRow B r.e 1 (.slice (some ⟨g, 0, none⟩) n cap) n xs) (hg : w1.grownBy w2 r.v.ownBlock) (hat : r.v.ownBlock = some g ∨ w.heap.size ≤ g) :
    EM (w2.setCell ⟨pb, i, none⟩ (.slice (some ⟨g, 0, none⟩) n cap)) B pb T (cs.setIfInBounds i (.slice (some ⟨g, 0, none⟩) n cap)) (rows.set k { r with v := .slice (some ⟨g, 0, none⟩) n cap, xs := xs }) ∧
      ES w (w2.setCell ⟨pb, i, none⟩ (.slice (some ⟨g, 0, none⟩) n cap)) pb (rows.map Row.v) ((rows.set k { r with v := .slice (some ⟨g, 0, none⟩) n cap, xs := xs }).map Row.v) := by
  subst hn
  have hrm : r ∈ rows := List.mem_of_getElem? hr
  have hkl : k < rows.length := (List.getElem?_eq_some_iff.1 hr).1
  have hlt := blk_lt h.blk
  have t1 : Tch (fun b => r.v.ownBlock = some b) w w2 :=
    (Tch.of_below hb).trans ⟨hg.os, hg.tape, hg.output, hg.size, fun b hb' hs => hg.block b hb' (fun e => hs e.symm)⟩
  have t2 : Tch (fun b => b = pb) w2 (w2.setCell ⟨pb, i, none⟩ (.slice (some ⟨g, 0, none⟩) xs.length cap)) := Tch.set _ w2 ⟨pb, i, none⟩ _ rfl
  have hgp : g ≠ pb := by
    rcases hat with e | e
    · intro e2; exact h.ne r hrm (e2 ▸ e)
    · omega
  have get : ∀ (j : Nat) (s : Row), (rows.set k { r with v := .slice (some ⟨g, 0, none⟩) xs.length cap, xs := xs })[j]? = some s → (j = k ∧ s = { r with v := .slice (some ⟨g, 0, none⟩) xs.length cap, xs := xs }) ∨ (j ≠ k ∧ rows[j]? = some s) := by
    intro j s hs
    by_cases e : k = j
    · subst e
      rw [List.getElem?_set_self hkl] at hs
      exact .inl ⟨rfl, (Option.some.inj hs).symm⟩
    · rw [List.getElem?_set_ne e] at hs
      exact .inr ⟨fun x => e x.symm, hs⟩
  have mem : ∀ s ∈ rows.set k { r with v := .slice (some ⟨g, 0, none⟩) xs.length cap, xs := xs }, s = { r with v := .slice (some ⟨g, 0, none⟩) xs.length cap, xs := xs } ∨ ∃ j, j ≠ k ∧ rows[j]? = some s := by
    intro s hs
    obtain ⟨j, hj⟩ := List.getElem?_of_mem hs
    rcases get j s hj with ⟨_, e⟩ | ⟨e1, e2⟩
    · exact .inl e
    · exact .inr ⟨j, e1, e2⟩
  have fresh : ∀ b, b < w.heap.size → r.v.ownBlock ≠ some b → g ≠ b := by
    intro b hb' hn e
    rcases hat with e2 | e2
    · exact hn (e ▸ e2)
    · omega
  have slt : ∀ s ∈ rows, ∀ b, s.v.ownBlock = some b → b < w.heap.size := fun s hs b hb' => ((h.own s hs).lt b hb').2
  refine ⟨⟨blk_set ((t1.block pb hlt (fun e => h.ne r hrm e)).trans h.blk), h.ge, ?_, ?_, ?_⟩, (t1.mono (fun b x => .inr ⟨r.v, List.mem_map.2 ⟨r, hrm, rfl⟩, x⟩)).trans (t2.mono (fun _ x => .inl x)), ?_⟩
  · intro s hs
    rcases mem s hs with rfl | ⟨j, hj, hsj⟩
    · exact owns_tch hown t2 (fun b hb' e => by simp only [Value.ownBlock, Option.some.injEq] at hb'; omega)
    · have hsm := List.mem_of_getElem? hsj
      exact owns_tch (owns_tch (h.own s hsm) t1 (fun b hb' e => h.pw j k s r hj hsj hr b hb' e)) t2 (fun _ hb' e => h.ne s hsm (e ▸ hb'))
  · intro s hs
    rcases mem s hs with rfl | ⟨j, hj, hsj⟩
    · simp only [Value.ownBlock, ne_eq, Option.some.injEq]; exact hgp
    · exact h.ne s (List.mem_of_getElem? hsj)
  · intro a c p q hac hp hq b hpb hqb
    rcases get a p hp with ⟨ea, ep⟩ | ⟨na, hp'⟩ <;> rcases get c q hq with ⟨ec, eq⟩ | ⟨nc, hq'⟩
    · omega
    · subst ep
      simp only [Value.ownBlock, Option.some.injEq] at hpb
      subst hpb
      exact fresh g (slt q (List.mem_of_getElem? hq') g hqb) (fun x => h.pw k c r q (fun e => nc e.symm) hr hq' g x hqb) rfl
    · subst eq
      simp only [Value.ownBlock, Option.some.injEq] at hqb
      subst hqb
      exact fresh g (slt p (List.mem_of_getElem? hp') g hpb) (fun x => h.pw a k p r na hp' hr g hpb x) rfl
    · exact h.pw a c p q hac hp' hq' b hpb hqb
  · rintro b (x | ⟨x, hx, hxb⟩)
    · exact .inl (.inl x)
    · obtain ⟨s, hs, rfl⟩ := List.mem_map.1 hx
      rcases mem s hs with rfl | ⟨j, hj, hsj⟩
      · simp only [Value.ownBlock, Option.some.injEq] at hxb
        rcases hat with e | e
        · exact .inl (.inr ⟨r.v, List.mem_map.2 ⟨r, hrm, rfl⟩, hxb ▸ e⟩)
        · exact .inr (by omega)
      · exact .inl (.inr ⟨s.v, List.mem_map.2 ⟨s, List.mem_of_getElem? hsj, rfl⟩, hxb⟩)
theorem EM.drop {w : World} {B pb T : Nat} {cs : Array Value} {rows : List Row} (h : EM w B pb T cs rows) (k i : Nat) (r : Row) (hr : rows[k]? = some r) :
    EM (w.setCell ⟨pb, i, none⟩ (.slice none 0 0)) B pb T (cs.setIfInBounds i (.slice none 0 0)) (rows.set k ⟨r.e, .slice none 0 0, []⟩) ∧
      ES w (w.setCell ⟨pb, i, none⟩ (.slice none 0 0)) pb (rows.map Row.v) ((rows.set k ⟨r.e, .slice none 0 0, []⟩).map Row.v) ∧ (w.setCell ⟨pb, i, none⟩ (.slice none 0 0)).ownsRow B r.e 1 r.v r.xs.length r.xs ∧
      ∀ b, r.v.ownBlock = some b → ¬ inE pb ((rows.set k ⟨r.e, .slice none 0 0, []⟩).map Row.v) b := by
  have hrm : r ∈ rows := List.mem_of_getElem? hr
  have hkl : k < rows.length := (List.getElem?_eq_some_iff.1 hr).1
  have t2 : Tch (fun b => b = pb) w (w.setCell ⟨pb, i, none⟩ (.slice none 0 0)) := Tch.set _ w ⟨pb, i, none⟩ _ rfl
  have get : ∀ (j : Nat) (s : Row), (rows.set k ⟨r.e, .slice none 0 0, []⟩)[j]? = some s → (j = k ∧ s = ⟨r.e, .slice none 0 0, []⟩) ∨ (j ≠ k ∧ rows[j]? = some s) := by
    intro j s hs
    by_cases e : k = j
    · subst e
      rw [List.getElem?_set_self hkl] at hs
      exact .inl ⟨rfl, (Option.some.inj hs).symm⟩
    · rw [List.getElem?_set_ne e] at hs
      exact .inr ⟨fun x => e x.symm, hs⟩
  have mem : ∀ s ∈ rows.set k ⟨r.e, .slice none 0 0, []⟩, s = ⟨r.e, .slice none 0 0, []⟩ ∨ ∃ j, j ≠ k ∧ rows[j]? = some s := by
    intro s hs
    obtain ⟨j, hj⟩ := List.getElem?_of_mem hs
    rcases get j s hj with ⟨_, e⟩ | ⟨e1, e2⟩
    · exact .inl e
    · exact .inr ⟨j, e1, e2⟩
  refine ⟨⟨blk_set h.blk, h.ge, ?_, ?_, ?_⟩, ⟨t2.mono (fun _ x => .inl x), ?_⟩, owns_tch (h.own r hrm) t2 (fun _ hb e => h.ne r hrm (e ▸ hb)), ?_⟩
  · intro s hs
    rcases mem s hs with rfl | ⟨j, hj, hsj⟩
    · exact World.ownsRow_nil _ _ _ _
    · have hsm := List.mem_of_getElem? hsj
      exact owns_tch (h.own s hsm) t2 (fun _ hb' e => h.ne s hsm (e ▸ hb'))
  · intro s hs
    rcases mem s hs with rfl | ⟨j, hj, hsj⟩
    · simp [Value.ownBlock]
    · exact h.ne s (List.mem_of_getElem? hsj)
  · intro a c p q hac hp hq b hpb hqb
    rcases get a p hp with ⟨ea, ep⟩ | ⟨na, hp'⟩ <;> rcases get c q hq with ⟨ec, eq⟩ | ⟨nc, hq'⟩
    · omega
    · subst ep; simp [Value.ownBlock] at hpb
    · subst eq; simp [Value.ownBlock] at hqb
    · exact h.pw a c p q hac hp' hq' b hpb hqb
  · rintro b (x | ⟨x, hx, hxb⟩)
    · exact .inl (.inl x)
    · obtain ⟨s, hs, rfl⟩ := List.mem_map.1 hx
      rcases mem s hs with rfl | ⟨j, hj, hsj⟩
      · simp [Value.ownBlock] at hxb
      · exact .inl (.inr ⟨s.v, List.mem_map.2 ⟨s, List.mem_of_getElem? hsj, rfl⟩, hxb⟩)
  · rintro b hb (x | ⟨x, hx, hxb⟩)
    · exact h.ne r hrm (x ▸ hb)
    · obtain ⟨s, hs, rfl⟩ := List.mem_map.1 hx
      rcases mem s hs with rfl | ⟨j, hj, hsj⟩
      · simp [Value.ownBlock] at hxb
      · exact h.pw j k s r hj hsj hr b hxb hb
end Go.Proofs.YtoeihlgidakjbaaGreatDoor
namespace Go.Proofs.YtoeihlgidakjbaaGreatDoor
open Go.RowKit Go.Lib Go.Maps
def MapIs (w : World) (mb : Nat) (l : List Nat) : Prop := ∃ (n : Nat) (D : DataW Unit), w.ownsMap Tryz.prog 3 unitElem mb n D ∧ n ≤ l.length ∧ ∀ x : Nat, Maps.has D (.int .i64 (x : Int)) = decide (x ∈ l)
theorem MapIs.lt {w : World} {mb : Nat} {l : List Nat} (h : MapIs w mb l) : mb < w.heap.size := by
  obtain ⟨n, D, h1, _⟩ := h
  exact h1.lt
theorem MapIs.blk {w w' : World} {mb : Nat} {l : List Nat} (h : MapIs w mb l) (e : w'.heap[mb]? = w.heap[mb]?) : MapIs w' mb l := by
  obtain ⟨n, D, ⟨es, cl, hb, r⟩, h2⟩ := h
  exact ⟨n, D, ⟨es, cl, e.trans hb, r⟩, h2⟩
theorem MapIs.made (w : World) : MapIs (w.alloc (.map #[] 0)) w.heap.size [] :=
  ⟨0, .map [], World.ownsMap_made w _ _ _, Nat.le_refl _, fun x => by simp [Maps.has]⟩
theorem key_i64 (x : Nat) (h : x < 9000000000000000000) : (Lit.int .i64 (x : Int)).wf = true := by
  simp [Lit.wf, IntKind.min, IntKind.max, IntKind.signed, IntKind.bits]; omega
theorem Tryz.zeroU (w : World) : (zeroValue 154).run Tryz.prog w = .ok (.agg #[]) w := by kernel_rfl
theorem MapIs.look {w : World} {mb : Nat} {l : List Nat} (h : MapIs w mb l) (x : Nat) (hx : x < 9000000000000000000) :
    (Instr.lookup 79 (.map (some mb)) (.int .i64 (x : Int)) true).run Tryz.prog w = .ok (.tuple #[.agg #[], .bool (decide (x ∈ l))]) w := by
  obtain ⟨n, D, h1, _, h3⟩ := h
  obtain ⟨v, ps, hr, hv⟩ := h1.look_ok (Maps.int_keyed Tryz.underlying3) Tryz.underlying79 (z := .agg #[]) (Tryz.zeroU w) unitElem_mk (keyOf_int_mk Tryz.underlying3 (key_i64 x hx))
  obtain ⟨rfl, _⟩ := unitElem_inv hv
  rw [hr, h3 x]
theorem MapIs.put {w : World} {mb : Nat} {l : List Nat} (h : MapIs w mb l) (x : Nat) (hx : x < 9000000000000000000) (hl : l.length < 9000000000000000000) :
    ∃ w', (Instr.mapUpdate 79 (.map (some mb)) (.int .i64 (x : Int)) (.agg #[])).run Tryz.prog w = .ok () w' ∧ MapIs w' mb (l ++ [x]) ∧ w.grownBy w' (some mb) := by
  obtain ⟨n, D, h1, h2, h3⟩ := h
  obtain ⟨w', hr, hm, hg⟩ := h1.update (Maps.int_keyed Tryz.underlying3) Tryz.underlying79 (by unfold maxLen; omega) (keyOf_int_mk Tryz.underlying3 (key_i64 x hx)) unitElem_mk
  refine ⟨w', hr, ⟨n + 1, _, hm, by simp; omega, fun y => ?_⟩, hg⟩
  by_cases e : y = x
  · subst e
    rw [Maps.has_put_same h1.isMap (by exact trivial)]
    simp
  · rw [Maps.has_put_other (by intro q; injection q with _ q; omega), h3 y]
    simp [e]
end Go.Proofs.YtoeihlgidakjbaaGreatDoor
namespace Go.Proofs.YtoeihlgidakjbaaGreatDoor
open Go.RowKit Go.Lib
theorem news3 (w : World) (a b c : Value) (T : Nat) : ∀ (j : Nat) (u : Value), [a, b, c][j]? = some u → (w.alloc (.cells #[a, b, c] T)).cell? (Addr.add ⟨w.heap.size, 0, none⟩ j) = some u := by
  intro j u hu
  match j with
  | 0 => simp at hu; subst hu; simp [Addr.add]
  | 1 => simp at hu; subst hu; simp [Addr.add]
  | 2 => simp at hu; subst hu; simp [Addr.add]
  | j + 3 => simp at hu
theorem news3' (w : World) (a b c : Value) (T N : Nat) (hN : w.heap.size = N) : ∀ (j : Nat) (u : Value), [a, b, c][j]? = some u → (w.alloc (.cells #[a, b, c] T)).cell? (Addr.add ⟨N, 0, none⟩ j) = some u := by
  subst hN
  exact news3 w a b c T
theorem u8_wrap (n : Nat) : IntKind.u8.wrap (n : Int) = ((n % 256 : Nat) : Int) := by
  simp only [IntKind.wrap, IntKind.signed, IntKind.bits, Bool.false_and, Bool.false_eq_true, if_false]
  omega
theorem item_bv (x y : Nat) (_hx : x < 256) (_hy : y < 65536) : (itemL x y).map bv = [.int .u8 (x : Int), .int .u8 ((y : Int) % 256), .int .u8 ((y : Int) / 256)] := by
  have h1 : ((UInt8.ofNat x).toNat : Int) = (x : Int) := by rw [UInt8.toNat_ofNat']; omega
  have h2 : ((UInt8.ofNat (y % 256)).toNat : Int) = (y : Int) % 256 := by rw [UInt8.toNat_ofNat']; omega
  have h3 : ((UInt8.ofNat (y / 256)).toNat : Int) = (y : Int) / 256 := by rw [UInt8.toNat_ofNat']; omega
  simp only [itemL, twoL, List.map_cons, List.map_nil, bv, h1, h2, h3]
set_option maxRecDepth 100000 in
set_option maxHeartbeats 2000000 in
theorem twrite_any (v : Value) (l : List (Nat × Nat)) (w : World) (hi : ItemsIn w v l) (hb : ∀ x ∈ l, x.1 < 256 ∧ x.2 < 65536) (hl : l.length ≤ 1000) (h0 : 0 < l.length) :
    Calls Tryz.prog 156 #[v] w fun e w' => e = .returned (.string ⟨(dataL l).toArray⟩) ∧ Below w.heap.size w w' := by
  obtain ⟨i0, hi0, hz0, hz1, hz2⟩ := info_parts Tryz.infoB
  obtain ⟨a, cap, g, rfl, ha, hc⟩ := hi
  obtain ⟨rfl, hg⟩ := ha h0
  have HC : Hid (∀ k (h : k < l.length), w.cell? ⟨g, k * 2, none⟩ = some (.int .i64 ((l[k]).1 : Int)) ∧ w.cell? ⟨g, k * 2 + 1, none⟩ = some (.int .i64 ((l[k]).2 : Int))) := hc
  have HB : Hid (∀ x ∈ l, x.1 < 256 ∧ x.2 < 65536) := hb
  have hw3 : IntKind.i64.wrap (3 * (l.length : Int)) = 3 * (l.length : Int) := wrap_in (by omega) (by omega)
  clear ha hc hb
  go_enter Tryz.func156, Tryz.ntmps156
  go_wp2_with (at_make; go_must (refine wpList_make_own _ rfl _ _ 52 rfl w.heap.size 5 i0 (.int .u8 0) 1 Tryz.underlying52 hi0 hz0 hz1 .i64 .i64 _ (3 * l.length) rfl rfl (by omega) (by rw [hz2]; omega) (by unfold maxLen; omega) (Nat.le_refl _) ?_; intro w0 hown0 hgrow0))
  have hb0 : Below w.heap.size w w0 := (Below.refl _ _).grown hgrow0 (Nat.le_refl _) (fun k hk => by cases hk)
  have HB0 : Hid (_) := hb0
  have HO0 : Hid (_) := hown0
  clear hb0 hown0 hgrow0
  go_loopw [3, 12] (fun v i wr => ∃ (k : Nat) (ad : Option Addr) (cp : Nat), k ≤ l.length ∧ v = .slice ad (3 * k) cp ∧ i = .int .i64 k ∧ Hid (wr.ownsRow w.heap.size 5 1 (.slice ad (3 * k) cp) (3 * k) ((dataL (l.take k)).map bv) ∧ Below w.heap.size w wr)) (fun _ i _ => l.length - (intOf i).toNat)
  case atStart => exact ⟨0, _, _, Nat.zero_le _, rfl, rfl, HO0.out, HB0.out⟩
  case round =>
    obtain ⟨k, ad, cp, hk, rfl, rfl, HW⟩ := hrel
    clear HO0 HB0
    by_cases hlt : k < l.length
    · have hI : (k : Int) < (l.length : Int) := by omega
      obtain ⟨hx, hy⟩ := HB.out _ (List.getElem_mem hlt)
      have c0 := (HW.out.2.cell (p := ⟨g, k * 2, none⟩) hg).trans (HC.out k hlt).1
      have c1 := (HW.out.2.cell (p := ⟨g, k * 2 + 1, none⟩) hg).trans (HC.out k hlt).2
      have HT : Hid (dataL (l.take (k + 1)) = dataL (l.take k) ++ itemL (l[k]).1 (l[k]).2) := dataL_take l k hlt
      generalize hX : (l[k]).1 = X at *
      generalize hY : (l[k]).2 = Y at *
      clear hX hY
      have HIB : Hid (_) := item_bv X Y hx hy
      have HBA : Hid (Below w.heap.size w (wr.alloc (.cells #[.int .i64 (X : Int), .int .i64 (Y : Int)] 189))) := HW.out.2.alloc HW.out.2.size _
      have HOA : Hid ((wr.alloc (.cells #[.int .i64 (X : Int), .int .i64 (Y : Int)] 189)).ownsRow w.heap.size 5 1 (.slice ad (3 * k) cp) (3 * k) ((dataL (l.take k)).map bv)) := HW.out.1.alloc _
      have hsz := HBA.out.size
      have u1 : IntKind.u8.wrap (X : Int) = (X : Int) := by rw [u8_wrap]; omega
      have u2 : IntKind.u8.wrap (Y : Int) = (Y : Int) % 256 := by rw [u8_wrap]; omega
      have u3 : IntKind.u8.wrap ((Y : Int) / 256) = (Y : Int) / 256 := by have := u8_wrap (Y / 256); rw [show ((Y / 256 : Nat) : Int) = (Y : Int) / 256 by omega] at this; rw [this]; omega
      go_wp2_with (at_builtin; go_must (refine wpList_append_lies _ rfl (.tmp 16) (.tmp 27) 52 rfl w.heap.size 5 i0 (.int .u8 0) 1 1 Tryz.underlying52 hi0 hz0 hz1 hz2 rfl (by decide) _ _ _ rfl (HOA.out.alloc _) ⟨wr.heap.size + 1, 0, none⟩ 3 3 [.int .u8 (X : Int), .int .u8 ((Y : Int) % 256), .int .u8 ((Y : Int) / 256)] rfl rfl (news3' _ _ _ _ _ _ (by simp)) (by intro u hu; simp at hu; rcases hu with rfl | rfl | rfl <;> rfl) (by omega) (by unfold maxLen; omega) (by omega) (by simp at hsz ⊢; omega) _ rfl ?_; intro gv capv w2 hown2 hgrow2 hat2 hlt2))
      have HR : Hid (w2.ownsRow w.heap.size 5 1 (.slice (some ⟨gv, 0, none⟩) (3 * k + 3) capv) (3 * (k + 1)) ((dataL (l.take (k + 1))).map bv) ∧ Below w.heap.size w w2) := by
        refine ⟨?_, below_own HBA.out HBA.out.size HOA.out _ hgrow2⟩
        rw [HT.out, List.map_append, HIB.out]
        exact hown2
      clear hown2 hgrow2
      go_wp2_with fail
      exact ⟨⟨k + 1, _, _, by omega, rfl, by go_num, HR⟩, by simp [intOf]; omega⟩
    · have ht : l.take k = l := List.take_of_length_le (by omega)
      have hkl : k = l.length := by omega
      have hF := HW.out.1
      rw [ht] at hF
      obtain ⟨hn, g', cap', hv, _, _, _, _, hrd⟩ := owns_rd hF (by rw [dataL_len]; omega)
      have hcv := conv_bytes wr g' 0 cap' (dataL l) hrd
      rw [hv]
      have HBW : Hid (_) := HW.out.2
      clear hF hrd hn HW ht hv
      go_wp2_with fail
      go_ret
      exact ⟨rfl, HBW.out⟩
end Go.Proofs.YtoeihlgidakjbaaGreatDoor

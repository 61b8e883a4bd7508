/- A struct in memory with rows of its own: one block of cells, and the rows that some of its cells name, each in a block of its own. The set of an end's magics: a map of ints to nothing. The program's Write of items. The program's end: its cells and rows, its magics; what it asks for. What the program's end does: tell, send. -/
import Derived.Test.YtoeihlgidakjbaaGreatDoorEa7
import Derived.Maps.OwnSet
import Derived.Test.YtoeihlgidakjbaaGreatDoorEa2
import Derived.Test.YtoeihlgidakjbaaGreatDoorEa24
namespace Go.Proofs.YtoeihlgidakjbaaGreatDoor
open Go.RowKit Go.Lib
structure Row where
  e : Nat
  v : Value
  xs : List Value
structure EM (w : World) (B pb T : Nat) (cs : Array Value) (rows : List Row) : Prop where
  blk : w.heap[pb]? = some (.cells cs T (0, 0))
  ge : B ≤ pb
  own : ∀ r ∈ rows, w.ownsRow B r.e 1 r.v r.xs.length r.xs
  ne : ∀ r ∈ rows, r.v.ownBlock ≠ some pb
  pw : ∀ (i j : Nat) (r s : Row), i ≠ j → rows[i]? = some r → rows[j]? = some s → ∀ b, r.v.ownBlock = some b → s.v.ownBlock ≠ some b
def inE (pb : Nat) (vs : List Value) (b : Nat) : Prop := b = pb ∨ ∃ x ∈ vs, x.ownBlock = some b
theorem EM.lt {w : World} {B pb T : Nat} {cs : Array Value} {rows : List Row} (h : EM w B pb T cs rows) : ∀ b, inE pb (rows.map Row.v) b → B ≤ b ∧ b < w.heap.size := by
  rintro b (rfl | ⟨x, hx, hb⟩)
  · exact ⟨h.ge, blk_lt h.blk⟩
  · obtain ⟨r, hr, rfl⟩ := List.mem_map.1 hx
    exact (h.own r hr).lt b hb
theorem EM.of_tch {w w' : World} {B pb T : Nat} {cs : Array Value} {rows : List Row} {S : Nat → Prop} (h : EM w B pb T cs rows) (ht : Tch S w w') (hs : ∀ b, inE pb (rows.map Row.v) b → ¬ S b) : EM w' B pb T cs rows :=
  ⟨(ht.block pb (blk_lt h.blk) (hs pb (.inl rfl))).trans h.blk, h.ge, fun r hr => owns_tch (h.own r hr) ht (fun b hb => hs b (.inr ⟨r.v, List.mem_map.2 ⟨r, hr, rfl⟩, hb⟩)), h.ne, h.pw⟩
theorem EM.below {w w' : World} {B pb T : Nat} {cs : Array Value} {rows : List Row} (h : EM w B pb T cs rows) (hb : Below w.heap.size w w') : EM w' B pb T cs rows := h.of_tch (S := fun _ => False) (Tch.of_below hb) (fun _ _ x => x)
theorem EM.mono {w : World} {B B' pb T : Nat} {cs : Array Value} {rows : List Row} (h : EM w B pb T cs rows) (hB : B' ≤ B) : EM w B' pb T cs rows :=
  ⟨h.blk, Nat.le_trans hB h.ge, fun r hr => owns_mono (h.own r hr) hB, h.ne, h.pw⟩
theorem owns_raise {w : World} {B B' e s : Nat} {v : Value} {n : Nat} {xs : List Value} (h : w.ownsRow B e s v n xs) (hb : ∀ b, v.ownBlock = some b → B' ≤ b) : w.ownsRow B' e s v n xs := by
  obtain ⟨h1, h2⟩ := h
  refine ⟨h1, ?_⟩
  rcases h2 with h2 | ⟨g, cap, cur, rfl, _, h3⟩
  · exact .inl h2
  · exact .inr ⟨g, cap, cur, rfl, hb g rfl, h3⟩
structure ES (w w' : World) (pb : Nat) (vs vs' : List Value) : Prop where
  t : Tch (inE pb vs) w w'
  i : ∀ b, inE pb vs' b → inE pb vs b ∨ w.heap.size ≤ b
theorem ES.refl (w : World) (pb : Nat) (vs : List Value) : ES w w pb vs vs := ⟨Tch.refl _ _, fun _ h => .inl h⟩
theorem ES.trans {w w1 w2 : World} {pb : Nat} {v v1 v2 : List Value} (h : ES w w1 pb v v1) (k : ES w1 w2 pb v1 v2) : ES w w2 pb v v2 := by
  refine ⟨Tch.restrict ((h.t.mono (fun _ x => .inl x)).trans (k.t.mono (fun b x => h.i b x))), fun b hb => ?_⟩
  rcases k.i b hb with x | x
  · exact h.i b x
  · exact .inr (Nat.le_trans h.t.size x)
theorem ES.below {w w1 : World} {pb : Nat} {v : List Value} (h : Below w.heap.size w w1) : ES w w1 pb v v := ⟨Tch.of_below h, fun _ h => .inl h⟩
theorem EM.num {w w' : World} {B pb T : Nat} {cs cs' : Array Value} {rows : List Row} (h : EM w B pb T cs rows) (hb : w'.heap[pb]? = some (.cells cs' T (0, 0))) (ht : Tch (fun b => b = pb) w w') : EM w' B pb T cs' rows ∧ ES w w' pb (rows.map Row.v) (rows.map Row.v) :=
  ⟨⟨hb, h.ge, fun r hr => owns_tch (h.own r hr) ht (fun _ hb e => h.ne r hr (e ▸ hb)), h.ne, h.pw⟩, ht.mono (fun _ x => .inl x), fun _ x => .inl x⟩
theorem EM.grow {w w1 w2 : World} {B pb T : Nat} {cs : Array Value} {rows : List Row} (h : EM w B pb T cs rows) (k i : Nat) (r : Row) (hr : rows[k]? = some r) (hb : Below w.heap.size w w1) {n g cap : Nat} (xs : List Value)
    (hn : n = xs.length) (hown : w2.ownsRow B r.e 1 (.slice (some ⟨g, 0, none⟩) n cap) n xs) (hg : w1.grownBy w2 r.v.ownBlock) (hat : r.v.ownBlock = some g ∨ w.heap.size ≤ g) :
    EM (w2.setCell ⟨pb, i, none⟩ (.slice (some ⟨g, 0, none⟩) n cap)) B pb T (cs.setIfInBounds i (.slice (some ⟨g, 0, none⟩) n cap)) (rows.set k { r with v := .slice (some ⟨g, 0, none⟩) n cap, xs := xs }) ∧
      ES w (w2.setCell ⟨pb, i, none⟩ (.slice (some ⟨g, 0, none⟩) n cap)) pb (rows.map Row.v) ((rows.set k { r with v := .slice (some ⟨g, 0, none⟩) n cap, xs := xs }).map Row.v) := by
  subst hn
  have hrm : r ∈ rows := List.mem_of_getElem? hr
  have hkl : k < rows.length := (List.getElem?_eq_some_iff.1 hr).1
  have hlt := blk_lt h.blk
  have t1 : Tch (fun b => r.v.ownBlock = some b) w w2 :=
    (Tch.of_below hb).trans ⟨hg.os, hg.tape, hg.output, hg.size, fun b hb' hs => hg.block b hb' (fun e => hs e.symm)⟩
  have t2 : Tch (fun b => b = pb) w2 (w2.setCell ⟨pb, i, none⟩ (.slice (some ⟨g, 0, none⟩) xs.length cap)) := Tch.set _ w2 ⟨pb, i, none⟩ _ rfl
  have hgp : g ≠ pb := by
    rcases hat with e | e
    · intro e2; exact h.ne r hrm (e2 ▸ e)
    · omega
  have get : ∀ (j : Nat) (s : Row), (rows.set k { r with v := .slice (some ⟨g, 0, none⟩) xs.length cap, xs := xs })[j]? = some s → (j = k ∧ s = { r with v := .slice (some ⟨g, 0, none⟩) xs.length cap, xs := xs }) ∨ (j ≠ k ∧ rows[j]? = some s) := by
    intro j s hs
    by_cases e : k = j
    · subst e
      rw [List.getElem?_set_self hkl] at hs
      exact .inl ⟨rfl, (Option.some.inj hs).symm⟩
    · rw [List.getElem?_set_ne e] at hs
      exact .inr ⟨fun x => e x.symm, hs⟩
  have mem : ∀ s ∈ rows.set k { r with v := .slice (some ⟨g, 0, none⟩) xs.length cap, xs := xs }, s = { r with v := .slice (some ⟨g, 0, none⟩) xs.length cap, xs := xs } ∨ ∃ j, j ≠ k ∧ rows[j]? = some s := by
    intro s hs
    obtain ⟨j, hj⟩ := List.getElem?_of_mem hs
    rcases get j s hj with ⟨_, e⟩ | ⟨e1, e2⟩
    · exact .inl e
    · exact .inr ⟨j, e1, e2⟩
  have fresh : ∀ b, b < w.heap.size → r.v.ownBlock ≠ some b → g ≠ b := by
    intro b hb' hn e
    rcases hat with e2 | e2
    · exact hn (e ▸ e2)
    · omega
  have slt : ∀ s ∈ rows, ∀ b, s.v.ownBlock = some b → b < w.heap.size := fun s hs b hb' => ((h.own s hs).lt b hb').2
  refine ⟨⟨blk_set ((t1.block pb hlt (fun e => h.ne r hrm e)).trans h.blk), h.ge, ?_, ?_, ?_⟩, (t1.mono (fun b x => .inr ⟨r.v, List.mem_map.2 ⟨r, hrm, rfl⟩, x⟩)).trans (t2.mono (fun _ x => .inl x)), ?_⟩
  · intro s hs
    rcases mem s hs with rfl | ⟨j, hj, hsj⟩
    · exact owns_tch hown t2 (fun b hb' e => by simp only [Value.ownBlock, Option.some.injEq] at hb'; omega)
    · have hsm := List.mem_of_getElem? hsj
      exact owns_tch (owns_tch (h.own s hsm) t1 (fun b hb' e => h.pw j k s r hj hsj hr b hb' e)) t2 (fun _ hb' e => h.ne s hsm (e ▸ hb'))
  · intro s hs
    rcases mem s hs with rfl | ⟨j, hj, hsj⟩
    · simp only [Value.ownBlock, ne_eq, Option.some.injEq]; exact hgp
    · exact h.ne s (List.mem_of_getElem? hsj)
  · intro a c p q hac hp hq b hpb hqb
    rcases get a p hp with ⟨ea, ep⟩ | ⟨na, hp'⟩ <;> rcases get c q hq with ⟨ec, eq⟩ | ⟨nc, hq'⟩
    · omega
    · subst ep
      simp only [Value.ownBlock, Option.some.injEq] at hpb
      subst hpb
      exact fresh g (slt q (List.mem_of_getElem? hq') g hqb) (fun x => h.pw k c r q (fun e => nc e.symm) hr hq' g x hqb) rfl
    · subst eq
      simp only [Value.ownBlock, Option.some.injEq] at hqb
      subst hqb
      exact fresh g (slt p (List.mem_of_getElem? hp') g hpb) (fun x => h.pw a k p r na hp' hr g hpb x) rfl
    · exact h.pw a c p q hac hp' hq' b hpb hqb
  · rintro b (x | ⟨x, hx, hxb⟩)
    · exact .inl (.inl x)
    · obtain ⟨s, hs, rfl⟩ := List.mem_map.1 hx
      rcases mem s hs with rfl | ⟨j, hj, hsj⟩
      · simp only [Value.ownBlock, Option.some.injEq] at hxb
        rcases hat with e | e
        · exact .inl (.inr ⟨r.v, List.mem_map.2 ⟨r, hrm, rfl⟩, hxb ▸ e⟩)
        · exact .inr (by omega)
      · exact .inl (.inr ⟨s.v, List.mem_map.2 ⟨s, List.mem_of_getElem? hsj, rfl⟩, hxb⟩)
theorem EM.drop {w : World} {B pb T : Nat} {cs : Array Value} {rows : List Row} (h : EM w B pb T cs rows) (k i : Nat) (r : Row) (hr : rows[k]? = some r) :
    EM (w.setCell ⟨pb, i, none⟩ (.slice none 0 0)) B pb T (cs.setIfInBounds i (.slice none 0 0)) (rows.set k ⟨r.e, .slice none 0 0, []⟩) ∧
      ES w (w.setCell ⟨pb, i, none⟩ (.slice none 0 0)) pb (rows.map Row.v) ((rows.set k ⟨r.e, .slice none 0 0, []⟩).map Row.v) ∧ (w.setCell ⟨pb, i, none⟩ (.slice none 0 0)).ownsRow B r.e 1 r.v r.xs.length r.xs ∧
      ∀ b, r.v.ownBlock = some b → ¬ inE pb ((rows.set k ⟨r.e, .slice none 0 0, []⟩).map Row.v) b := by
  have hrm : r ∈ rows := List.mem_of_getElem? hr
  have hkl : k < rows.length := (List.getElem?_eq_some_iff.1 hr).1
  have t2 : Tch (fun b => b = pb) w (w.setCell ⟨pb, i, none⟩ (.slice none 0 0)) := Tch.set _ w ⟨pb, i, none⟩ _ rfl
  have get : ∀ (j : Nat) (s : Row), (rows.set k ⟨r.e, .slice none 0 0, []⟩)[j]? = some s → (j = k ∧ s = ⟨r.e, .slice none 0 0, []⟩) ∨ (j ≠ k ∧ rows[j]? = some s) := by
    intro j s hs
    by_cases e : k = j
    · subst e
      rw [List.getElem?_set_self hkl] at hs
      exact .inl ⟨rfl, (Option.some.inj hs).symm⟩
    · rw [List.getElem?_set_ne e] at hs
      exact .inr ⟨fun x => e x.symm, hs⟩
  have mem : ∀ s ∈ rows.set k ⟨r.e, .slice none 0 0, []⟩, s = ⟨r.e, .slice none 0 0, []⟩ ∨ ∃ j, j ≠ k ∧ rows[j]? = some s := by
    intro s hs
    obtain ⟨j, hj⟩ := List.getElem?_of_mem hs
    rcases get j s hj with ⟨_, e⟩ | ⟨e1, e2⟩
    · exact .inl e
    · exact .inr ⟨j, e1, e2⟩
  refine ⟨⟨blk_set h.blk, h.ge, ?_, ?_, ?_⟩, ⟨t2.mono (fun _ x => .inl x), ?_⟩, owns_tch (h.own r hrm) t2 (fun _ hb e => h.ne r hrm (e ▸ hb)), ?_⟩
  · intro s hs
    rcases mem s hs with rfl | ⟨j, hj, hsj⟩
    · exact World.ownsRow_nil _ _ _ _
    · have hsm := List.mem_of_getElem? hsj
      exact owns_tch (h.own s hsm) t2 (fun _ hb' e => h.ne s hsm (e ▸ hb'))
  · intro s hs
    rcases mem s hs with rfl | ⟨j, hj, hsj⟩
    · simp [Value.ownBlock]
    · exact h.ne s (List.mem_of_getElem? hsj)
  · intro a c p q hac hp hq b hpb hqb
    rcases get a p hp with ⟨ea, ep⟩ | ⟨na, hp'⟩ <;> rcases get c q hq with ⟨ec, eq⟩ | ⟨nc, hq'⟩
    · omega
    · subst ep; simp [Value.ownBlock] at hpb
    · subst eq; simp [Value.ownBlock] at hqb
    · exact h.pw a c p q hac hp' hq' b hpb hqb
  · rintro b (x | ⟨x, hx, hxb⟩)
    · exact .inl (.inl x)
    · obtain ⟨s, hs, rfl⟩ := List.mem_map.1 hx
      rcases mem s hs with rfl | ⟨j, hj, hsj⟩
      · simp [Value.ownBlock] at hxb
      · exact .inl (.inr ⟨s.v, List.mem_map.2 ⟨s, List.mem_of_getElem? hsj, rfl⟩, hxb⟩)
  · rintro b hb (x | ⟨x, hx, hxb⟩)
    · exact h.ne r hrm (x ▸ hb)
    · obtain ⟨s, hs, rfl⟩ := List.mem_map.1 hx
      rcases mem s hs with rfl | ⟨j, hj, hsj⟩
      · simp [Value.ownBlock] at hxb
      · exact h.pw j k s r hj hsj hr b hxb hb
end Go.Proofs.YtoeihlgidakjbaaGreatDoor
namespace Go.Proofs.YtoeihlgidakjbaaGreatDoor
open Go.RowKit Go.Lib Go.Maps
def MapIs (w : World) (mb : Nat) (l : List Nat) : Prop := ∃ (n : Nat) (D : DataW Unit), w.ownsMap Tryz.prog 3 unitElem mb n D ∧ n ≤ l.length ∧ ∀ x : Nat, Maps.has D (.int .i64 (x : Int)) = decide (x ∈ l)
theorem MapIs.lt {w : World} {mb : Nat} {l : List Nat} (h : MapIs w mb l) : mb < w.heap.size := by
  obtain ⟨n, D, h1, _⟩ := h
  exact h1.lt
theorem MapIs.blk {w w' : World} {mb : Nat} {l : List Nat} (h : MapIs w mb l) (e : w'.heap[mb]? = w.heap[mb]?) : MapIs w' mb l := by
  obtain ⟨n, D, ⟨es, cl, hb, r⟩, h2⟩ := h
  exact ⟨n, D, ⟨es, cl, e.trans hb, r⟩, h2⟩
theorem MapIs.made (w : World) : MapIs (w.alloc (.map #[] 0)) w.heap.size [] :=
  ⟨0, .map [], World.ownsMap_made w _ _ _, Nat.le_refl _, fun x => by simp [Maps.has]⟩
theorem key_i64 (x : Nat) (h : x < 9000000000000000000) : (Lit.int .i64 (x : Int)).wf = true := by
  simp [Lit.wf, IntKind.min, IntKind.max, IntKind.signed, IntKind.bits]; omega
theorem Tryz.zeroU (w : World) : (zeroValue 154).run Tryz.prog w = .ok (.agg #[]) w := by kernel_rfl
theorem MapIs.look {w : World} {mb : Nat} {l : List Nat} (h : MapIs w mb l) (x : Nat) (hx : x < 9000000000000000000) :
    (Instr.lookup 79 (.map (some mb)) (.int .i64 (x : Int)) true).run Tryz.prog w = .ok (.tuple #[.agg #[], .bool (decide (x ∈ l))]) w := by
  obtain ⟨n, D, h1, _, h3⟩ := h
  obtain ⟨v, ps, hr, hv⟩ := h1.look_ok (Maps.int_keyed Tryz.underlying3) Tryz.underlying79 (z := .agg #[]) (Tryz.zeroU w) unitElem_mk (keyOf_int_mk Tryz.underlying3 (key_i64 x hx))
  obtain ⟨rfl, _⟩ := unitElem_inv hv
  rw [hr, h3 x]
theorem MapIs.put {w : World} {mb : Nat} {l : List Nat} (h : MapIs w mb l) (x : Nat) (hx : x < 9000000000000000000) (hl : l.length < 9000000000000000000) :
    ∃ w', (Instr.mapUpdate 79 (.map (some mb)) (.int .i64 (x : Int)) (.agg #[])).run Tryz.prog w = .ok () w' ∧ MapIs w' mb (l ++ [x]) ∧ w.grownBy w' (some mb) := by
  obtain ⟨n, D, h1, h2, h3⟩ := h
  obtain ⟨w', hr, hm, hg⟩ := h1.update (Maps.int_keyed Tryz.underlying3) Tryz.underlying79 (by unfold maxLen; omega) (keyOf_int_mk Tryz.underlying3 (key_i64 x hx)) unitElem_mk
  refine ⟨w', hr, ⟨n + 1, _, hm, by simp; omega, fun y => ?_⟩, hg⟩
  by_cases e : y = x
  · subst e
    rw [Maps.has_put_same h1.isMap (by exact trivial)]
    simp
  · rw [Maps.has_put_other (by intro q; injection q with _ q; omega), h3 y]
    simp [e]
end Go.Proofs.YtoeihlgidakjbaaGreatDoor
namespace Go.Proofs.YtoeihlgidakjbaaGreatDoor
open Go.RowKit Go.Lib
theorem news3 (w : World) (a b c : Value) (T : Nat) : ∀ (j : Nat) (u : Value), [a, b, c][j]? = some u → (w.alloc (.cells #[a, b, c] T)).cell? (Addr.add ⟨w.heap.size, 0, none⟩ j) = some u := by
  intro j u hu
  match j with
  | 0 => simp at hu; subst hu; simp [Addr.add]
  | 1 => simp at hu; subst hu; simp [Addr.add]
  | 2 => simp at hu; subst hu; simp [Addr.add]
  | j + 3 => simp at hu
theorem news3' (w : World) (a b c : Value) (T N : Nat) (hN : w.heap.size = N) : ∀ (j : Nat) (u : Value), [a, b, c][j]? = some u → (w.alloc (.cells #[a, b, c] T)).cell? (Addr.add ⟨N, 0, none⟩ j) = some u := by
  subst hN
  exact news3 w a b c T
theorem u8_wrap (n : Nat) : IntKind.u8.wrap (n : Int) = ((n % 256 : Nat) : Int) := by
  simp only [IntKind.wrap, IntKind.signed, IntKind.bits, Bool.false_and, Bool.false_eq_true, if_false]
  omega
theorem item_bv (x y : Nat) (_hx : x < 256) (_hy : y < 65536) : (itemL x y).map bv = [.int .u8 (x : Int), .int .u8 ((y : Int) % 256), .int .u8 ((y : Int) / 256)] := by
  have h1 : ((UInt8.ofNat x).toNat : Int) = (x : Int) := by rw [UInt8.toNat_ofNat']; omega
  have h2 : ((UInt8.ofNat (y % 256)).toNat : Int) = (y : Int) % 256 := by rw [UInt8.toNat_ofNat']; omega
  have h3 : ((UInt8.ofNat (y / 256)).toNat : Int) = (y : Int) / 256 := by rw [UInt8.toNat_ofNat']; omega
  simp only [itemL, twoL, List.map_cons, List.map_nil, bv, h1, h2, h3]
set_option maxRecDepth 100000 in
set_option maxHeartbeats 2000000 in
theorem twrite_any (v : Value) (l : List (Nat × Nat)) (w : World) (hi : ItemsIn w v l) (hb : ∀ x ∈ l, x.1 < 256 ∧ x.2 < 65536) (hl : l.length ≤ 1000) (h0 : 0 < l.length) :
    Calls Tryz.prog 156 #[v] w fun e w' => e = .returned (.string ⟨(dataL l).toArray⟩) ∧ Below w.heap.size w w' := by
  obtain ⟨i0, hi0, hz0, hz1, hz2⟩ := info_parts Tryz.infoB
  obtain ⟨a, cap, g, rfl, ha, hc⟩ := hi
  obtain ⟨rfl, hg⟩ := ha h0
  have HC : Hid (∀ k (h : k < l.length), w.cell? ⟨g, k * 2, none⟩ = some (.int .i64 ((l[k]).1 : Int)) ∧ w.cell? ⟨g, k * 2 + 1, none⟩ = some (.int .i64 ((l[k]).2 : Int))) := hc
  have HB : Hid (∀ x ∈ l, x.1 < 256 ∧ x.2 < 65536) := hb
  have hw3 : IntKind.i64.wrap (3 * (l.length : Int)) = 3 * (l.length : Int) := wrap_in (by omega) (by omega)
  clear ha hc hb
  go_enter Tryz.func156, Tryz.ntmps156
  go_wp2_with (at_make; go_must (refine wpList_make_own _ rfl _ _ 52 rfl w.heap.size 5 i0 (.int .u8 0) 1 Tryz.underlying52 hi0 hz0 hz1 .i64 .i64 _ (3 * l.length) rfl rfl (by omega) (by rw [hz2]; omega) (by unfold maxLen; omega) (Nat.le_refl _) ?_; intro w0 hown0 hgrow0))
  have hb0 : Below w.heap.size w w0 := (Below.refl _ _).grown hgrow0 (Nat.le_refl _) (fun k hk => by cases hk)
  have HB0 : Hid (_) := hb0
  have HO0 : Hid (_) := hown0
  clear hb0 hown0 hgrow0
  go_loopw [3, 12] (fun v i wr => ∃ (k : Nat) (ad : Option Addr) (cp : Nat), k ≤ l.length ∧ v = .slice ad (3 * k) cp ∧ i = .int .i64 k ∧ Hid (wr.ownsRow w.heap.size 5 1 (.slice ad (3 * k) cp) (3 * k) ((dataL (l.take k)).map bv) ∧ Below w.heap.size w wr)) (fun _ i _ => l.length - (intOf i).toNat)
  case atStart => exact ⟨0, _, _, Nat.zero_le _, rfl, rfl, HO0.out, HB0.out⟩
  case round =>
    obtain ⟨k, ad, cp, hk, rfl, rfl, HW⟩ := hrel
    clear HO0 HB0
    by_cases hlt : k < l.length
    · have hI : (k : Int) < (l.length : Int) := by omega
      obtain ⟨hx, hy⟩ := HB.out _ (List.getElem_mem hlt)
      have c0 := (HW.out.2.cell (p := ⟨g, k * 2, none⟩) hg).trans (HC.out k hlt).1
      have c1 := (HW.out.2.cell (p := ⟨g, k * 2 + 1, none⟩) hg).trans (HC.out k hlt).2
      have HT : Hid (dataL (l.take (k + 1)) = dataL (l.take k) ++ itemL (l[k]).1 (l[k]).2) := dataL_take l k hlt
      generalize hX : (l[k]).1 = X at *
      generalize hY : (l[k]).2 = Y at *
      clear hX hY
      have HIB : Hid (_) := item_bv X Y hx hy
      have HBA : Hid (Below w.heap.size w (wr.alloc (.cells #[.int .i64 (X : Int), .int .i64 (Y : Int)] 189))) := HW.out.2.alloc HW.out.2.size _
      have HOA : Hid ((wr.alloc (.cells #[.int .i64 (X : Int), .int .i64 (Y : Int)] 189)).ownsRow w.heap.size 5 1 (.slice ad (3 * k) cp) (3 * k) ((dataL (l.take k)).map bv)) := HW.out.1.alloc _
      have hsz := HBA.out.size
      have u1 : IntKind.u8.wrap (X : Int) = (X : Int) := by rw [u8_wrap]; omega
      have u2 : IntKind.u8.wrap (Y : Int) = (Y : Int) % 256 := by rw [u8_wrap]; omega
      have u3 : IntKind.u8.wrap ((Y : Int) / 256) = (Y : Int) / 256 := by have := u8_wrap (Y / 256); rw [show ((Y / 256 : Nat) : Int) = (Y : Int) / 256 by omega] at this; rw [this]; omega
      go_wp2_with (at_builtin; go_must (refine wpList_append_lies _ rfl (.tmp 16) (.tmp 27) 52 rfl w.heap.size 5 i0 (.int .u8 0) 1 1 Tryz.underlying52 hi0 hz0 hz1 hz2 rfl (by decide) _ _ _ rfl (HOA.out.alloc _) ⟨wr.heap.size + 1, 0, none⟩ 3 3 [.int .u8 (X : Int), .int .u8 ((Y : Int) % 256), .int .u8 ((Y : Int) / 256)] rfl rfl (news3' _ _ _ _ _ _ (by simp)) (by intro u hu; simp at hu; rcases hu with rfl | rfl | rfl <;> rfl) (by omega) (by unfold maxLen; omega) (by omega) (by simp at hsz ⊢; omega) _ rfl ?_; intro gv capv w2 hown2 hgrow2 hat2 hlt2))
      have HR : Hid (w2.ownsRow w.heap.size 5 1 (.slice (some ⟨gv, 0, none⟩) (3 * k + 3) capv) (3 * (k + 1)) ((dataL (l.take (k + 1))).map bv) ∧ Below w.heap.size w w2) := by
        refine ⟨?_, below_own HBA.out HBA.out.size HOA.out _ hgrow2⟩
        rw [HT.out, List.map_append, HIB.out]
        exact hown2
      clear hown2 hgrow2
      go_wp2_with fail
      exact ⟨⟨k + 1, _, _, by omega, rfl, by go_num, HR⟩, by simp [intOf]; omega⟩
    · have ht : l.take k = l := List.take_of_length_le (by omega)
      have hkl : k = l.length := by omega
      have hF := HW.out.1
      rw [ht] at hF
      obtain ⟨hn, g', cap', hv, _, _, _, _, hrd⟩ := owns_rd hF (by rw [dataL_len]; omega)
      have hcv := conv_bytes wr g' 0 cap' (dataL l) hrd
      rw [hv]
      have HBW : Hid (_) := HW.out.2
      clear hF hrd hn HW ht hv
      go_wp2_with fail
      go_ret
      exact ⟨rfl, HBW.out⟩
end Go.Proofs.YtoeihlgidakjbaaGreatDoor
namespace Go.Proofs.YtoeihlgidakjbaaGreatDoor
open Go.RowKit Go.Lib
structure PV where
  vw0 : Value
  vw1 : Value
  vw2 : Value
  va0 : Value
  va1 : Value
  va2 : Value
  vt : Value
  vg : Value
  vs : Value
  mb : Nat
def PV.rvals (v : PV) : List Value := [v.vw0, v.vw1, v.vw2, v.va0, v.va1, v.va2, v.vt, v.vg, v.vs]
def PV.tok (v : PV) : Value := .slice (some ⟨v.mb, 0, none⟩) 0 0
def PV.vals (v : PV) : List Value := v.rvals ++ [v.tok]
def RE.pcl (m : RE) (v : PV) (q : Nat × Nat × Nat) : Array Value := #[v.vw0, v.vw1, v.vw2, v.va0, v.va1, v.va2, iv (m.h0 % m.a0.length), iv (m.h1 % m.a1.length), iv (m.h2 % m.a2.length), iv m.k0, iv m.k1, iv m.k2, iv m.mag, .map (some v.mb), iv m.st, .int .i64 m.cnt, .int .i64 m.tim, .int .u8 (m.id : Int), .int .u8 (m.odd : Int), .int .i64 (if m.sid < 0 then 0 else 1), .int .i64 (if m.sid < 0 then 0 else m.sid), .string ⟨m.sent.toArray⟩, iv q.1, iv q.2.1, iv q.2.2, iv (termsI m.agr 0), iv (termsI m.agr 1), iv (termsI m.agr 2), iv m.naks, iv m.loops, v.vt, v.vg, v.vs]
def RE.prow (m : RE) (v : PV) (S : List UInt8) : List Row := [⟨3, v.vw0, m.w0.map iv⟩, ⟨3, v.vw1, m.w1.map iv⟩, ⟨3, v.vw2, m.w2.map iv⟩, ⟨3, v.va0, m.a0.map iv⟩, ⟨3, v.va1, m.a1.map iv⟩, ⟨3, v.va2, m.a2.map iv⟩, ⟨3, v.vt, m.told.map iv⟩, ⟨5, v.vg, m.got.map bv⟩, ⟨5, v.vs, S.map bv⟩]
def RE.props (m : RE) : Nat × Nat × Nat := (termsI m.sent 0, termsI m.sent 1, termsI m.sent 2)
structure PX (w : World) (B Bs pb : Nat) (v : PV) (q : Nat × Nat × Nat) (m : RE) (S : List UInt8) : Prop where
  em : EM w B pb 83 (m.pcl v q) (m.prow v S)
  mp : MapIs w v.mb m.mg
  mg : B ≤ v.mb
  mn : ¬ inE pb v.rvals v.mb
  t0 : m.told = [] → v.vt = .slice none 0 0
  s1 : ∀ b, v.vs.ownBlock = some b → Bs ≤ b
abbrev PI (w : World) (B Bs pb : Nat) (v : PV) (m : RE) (S : List UInt8) : Prop := PX w B Bs pb v m.props m S
theorem PX.ot {w : World} {B Bs pb : Nat} {v : PV} {q : Nat × Nat × Nat} {m : RE} {S : List UInt8} (h : PX w B Bs pb v q m S) : w.ownsRow B 3 1 v.vt m.told.length (m.told.map iv) := by
  have := h.em.own ⟨3, v.vt, m.told.map iv⟩ (by simp [RE.prow])
  simpa using this
theorem PX.og {w : World} {B Bs pb : Nat} {v : PV} {q : Nat × Nat × Nat} {m : RE} {S : List UInt8} (h : PX w B Bs pb v q m S) : w.ownsRow B 5 1 v.vg m.got.length (m.got.map bv) := by
  have := h.em.own ⟨5, v.vg, m.got.map bv⟩ (by simp [RE.prow])
  simpa using this
theorem PX.os {w : World} {B Bs pb : Nat} {v : PV} {q : Nat × Nat × Nat} {m : RE} {S : List UInt8} (h : PX w B Bs pb v q m S) : w.ownsRow B 5 1 v.vs S.length (S.map bv) := by
  have := h.em.own ⟨5, v.vs, S.map bv⟩ (by simp [RE.prow])
  simpa using this
theorem PX.below {w w' : World} {B Bs pb : Nat} {v : PV} {q : Nat × Nat × Nat} {m : RE} {S : List UInt8} (h : PX w B Bs pb v q m S) (hb : Below w.heap.size w w') : PX w' B Bs pb v q m S := ⟨h.em.below hb, h.mp.blk (hb.block _ h.mp.lt), h.mg, h.mn, h.t0, h.s1⟩
theorem PX.of_tch {w w' : World} {B Bs pb : Nat} {v : PV} {q : Nat × Nat × Nat} {m : RE} {S : List UInt8} {T : Nat → Prop} (h : PX w B Bs pb v q m S) (ht : Tch T w w') (hs : ∀ b, inE pb v.vals b → ¬ T b) : PX w' B Bs pb v q m S := by
  have hr : ∀ b, inE pb v.rvals b → ¬ T b := fun b hb => hs b (by
    rcases hb with e | ⟨x, hx, hb⟩
    · exact .inl e
    · exact .inr ⟨x, List.mem_append_left _ hx, hb⟩)
  have hm : ¬ T v.mb := hs _ (.inr ⟨v.tok, List.mem_append_right _ (List.mem_singleton.2 rfl), rfl⟩)
  exact ⟨h.em.of_tch ht hr, h.mp.blk (ht.block _ h.mp.lt hm), h.mg, h.mn, h.t0, h.s1⟩
theorem inE_tok {pb : Nat} {vs : List Value} {t : Value} {b : Nat} : inE pb (vs ++ [t]) b ↔ inE pb vs b ∨ t.ownBlock = some b := by
  simp only [inE, List.mem_append, List.mem_singleton]
  constructor
  · rintro (h | ⟨x, h | h, hx⟩)
    · exact .inl (.inl h)
    · exact .inl (.inr ⟨x, h, hx⟩)
    · exact .inr (h ▸ hx)
  · rintro ((h | ⟨x, h, hx⟩) | h)
    · exact .inl h
    · exact .inr ⟨x, .inl h, hx⟩
    · exact .inr ⟨t, .inr rfl, h⟩
theorem inV {pb b : Nat} {v : PV} : inE pb v.vals b ↔ inE pb v.rvals b ∨ b = v.mb := by
  unfold PV.vals
  rw [inE_tok]
  simp [PV.tok, Value.ownBlock, eq_comm]
theorem ES.tok {w w' : World} {pb : Nat} {vs vs' : List Value} (h : ES w w' pb vs vs') (t : Value) : ES w w' pb (vs ++ [t]) (vs' ++ [t]) :=
  ⟨h.t.mono (fun b x => inE_tok.2 (.inl x)), fun b x => by
    rcases inE_tok.1 x with y | y
    · rcases h.i b y with z | z
      · exact .inl (inE_tok.2 (.inl z))
      · exact .inr z
    · exact .inl (inE_tok.2 (.inr y))⟩
theorem PX.lt {w : World} {B Bs pb : Nat} {v : PV} {q : Nat × Nat × Nat} {m : RE} {S : List UInt8} (h : PX w B Bs pb v q m S) : ∀ b, inE pb v.vals b → B ≤ b ∧ b < w.heap.size := by
  intro b hb
  rcases inV.1 hb with x | rfl
  · exact h.em.lt b x
  · exact ⟨h.mg, h.mp.lt⟩
theorem PX.of_es {w w' : World} {B Bs pb : Nat} {v v' : PV} {q q' : Nat × Nat × Nat} {m m' : RE} {S S' : List UInt8} (h : PX w B Bs pb v q m S) (em : EM w' B pb 83 (m'.pcl v' q') (m'.prow v' S')) (es : ES w w' pb v.rvals v'.rvals)
    (e1 : v'.mb = v.mb) (e2 : m'.mg = m.mg) (t0 : m'.told = [] → v'.vt = .slice none 0 0) (s1 : ∀ b, v'.vs.ownBlock = some b → Bs ≤ b) : PX w' B Bs pb v' q' m' S' ∧ ES w w' pb v.vals v'.vals := by
  refine ⟨⟨em, ?_, by rw [e1]; exact h.mg, ?_, t0, s1⟩, ?_⟩
  · rw [e1, e2]; exact h.mp.blk (es.t.block _ h.mp.lt h.mn)
  · rw [e1]
    intro x
    rcases es.i _ x with y | y
    · exact h.mn y
    · have := h.mp.lt; omega
  · have := es.tok v.tok
    unfold PV.vals
    have e : v'.tok = v.tok := by unfold PV.tok; rw [e1]
    rw [e]; exact this
theorem PX.num {w w' : World} {B Bs pb : Nat} {v : PV} {q q' : Nat × Nat × Nat} {m m' : RE} {S : List UInt8} (h : PX w B Bs pb v q m S) (hb : w'.heap[pb]? = some (.cells (m'.pcl v q') 83 (0, 0))) (ht : Tch (fun b => b = pb) w w') (e1 : m'.told = m.told) (e2 : m'.prow v S = m.prow v S) (e3 : m'.mg = m.mg) : PX w' B Bs pb v q' m' S ∧ ES w w' pb v.vals v.vals := by
  obtain ⟨h1, h2⟩ := h.em.num hb ht
  exact h.of_es (by rw [e2]; exact h1) h2 rfl e3 (by rw [e1]; exact h.t0) h.s1
theorem RE.asks_nth (m : RE) (k : Nat) (h : k < 3) : ∃ n : Nat, m.asks.take (k + 1) = m.asks.take k ++ [(k + 1, n)] ∧ #[iv m.k0, iv m.k1, iv m.k2][k]? = some (iv n) := by
  rcases (by omega : k = 0 ∨ k = 1 ∨ k = 2) with rfl | rfl | rfl
  · exact ⟨m.k0, rfl, rfl⟩
  · exact ⟨m.k1, rfl, rfl⟩
  · exact ⟨m.k2, rfl, rfl⟩
theorem asks_small {m : RE} (ok : m.Ok) : ∀ x ∈ m.asks, x.1 < 256 ∧ x.2 < 65536 := by
  obtain ⟨q, hq, hq1, hqm, hml2⟩ := ok.mag
  intro x hx
  have h0 := ok.k0
  have h1 := ok.k1
  have h2 := ok.k2
  simp only [RE.asks, List.mem_cons, List.not_mem_nil, or_false] at hx
  rcases hx with rfl | rfl | rfl | rfl <;> constructor <;> simp only <;> omega
set_option maxRecDepth 100000 in
set_option maxHeartbeats 2000000 in
theorem asking_any {m : RE} (pb : Nat) (w : World) (c6 : w.cell? ⟨pb, 9, none⟩ = some (iv m.k0)) (c7 : w.cell? ⟨pb, 10, none⟩ = some (iv m.k1)) (c8 : w.cell? ⟨pb, 11, none⟩ = some (iv m.k2)) (c9 : w.cell? ⟨pb, 12, none⟩ = some (iv m.mag)) (hlt : pb < w.heap.size) (ok : m.Ok) :
    Calls Tryz.prog 123 #[.pointer (some ⟨pb, 0, none⟩)] w fun r w' => r = .returned (.string ⟨(dataL m.asks).toArray⟩) ∧ Below w.heap.size w w' := by
  obtain ⟨i0, hi, hz0, hz1, hz2⟩ := info_parts Tryz.infoTI
  have OK : Hid (m.Ok) := ok
  have C9 : Hid (w.cell? ⟨pb, 12, none⟩ = some (iv m.mag)) := c9
  unfold iv at c6 c7 c8 c9
  clear ok
  go_enter Tryz.func123, Tryz.ntmps123
  go_wp2_with (at_make; go_must (refine wpList_make_own _ rfl _ _ 163 rfl w.heap.size 189 i0 (.agg #[.int .i64 0, .int .i64 0]) 2 Tryz.underlying163 hi hz0 hz1 .i64 .i64 _ 4 rfl rfl (by omega) (by rw [hz2]; omega) (by unfold maxLen; omega) (Nat.le_refl _) ?_; intro w0 hown0 hgrow0; have hb0 : Below w.heap.size w w0 := (Below.refl _ _).grown hgrow0 (Nat.le_refl _) (fun k hk => by cases hk); have d6 := (hb0.cell (p := ⟨pb, 9, none⟩) hlt).trans c6; have d7 := (hb0.cell (p := ⟨pb, 10, none⟩) hlt).trans c7; have d8 := (hb0.cell (p := ⟨pb, 11, none⟩) hlt).trans c8; clear hgrow0))
  have HB0 : Hid (_) := hb0
  have HO0 : Hid (_) := hown0
  clear hb0 hown0 c6 c7 c8 d6 d7 d8
  go_loopw [3, 11] (fun v i wr => ∃ (k : Nat) (a : Option Addr) (cap : Nat), k ≤ 3 ∧ v = .slice a k cap ∧ i = .int .i64 k ∧ Hid (wr.ownsRow w.heap.size 189 2 v k (itemC (m.asks.take k)) ∧ Below w.heap.size w wr)) (fun _ i _ => 3 - (intOf i).toNat)
  case atStart => exact ⟨0, _, _, by omega, rfl, rfl, HO0.out, HB0.out⟩
  case round =>
    obtain ⟨k, a, cap, hk, rfl, rfl, HW⟩ := hrel
    clear HO0 HB0
    by_cases hl3 : k < 3
    · have hI : (k : Int) < 3 := by omega
      obtain ⟨n, hn1, hn2⟩ := m.asks_nth k hl3
      have HN : Hid (m.asks.take (k + 1) = m.asks.take k ++ [(k + 1, n)]) := hn1
      have hix : ∀ wx, (Instr.index 74 (.agg #[.int .i64 (m.k0 : Int), .int .i64 (m.k1 : Int), .int .i64 (m.k2 : Int)]) (.int .i64 (k : Int))).run Tryz.prog wx = .ok (.int .i64 (n : Int)) wx := by
        intro wx
        unfold iv at hn2
        rcases (by omega : k = 0 ∨ k = 1 ∨ k = 2) with rfl | rfl | rfl <;> (simp at hn2; rw [← hn2]; simp [Instr.index, run_underlying Tryz.underlying74, asIntOf, go_sem])
      clear hn1 hn2
      have HO : Hid (wr.ownsRow w.heap.size 189 2 (.slice a k cap) k (itemC (m.asks.take k))) := HW.out.1
      have hB := HW.out.2.size
      go_wp2_with (at_builtin; go_must (refine wpList_append_lies _ rfl (.tmp 15) (.tmp 20) 163 rfl w.heap.size 189 i0 (.agg #[.int .i64 0, .int .i64 0]) 2 16 Tryz.underlying163 hi hz0 hz1 hz2 rfl (by decide) _ k (itemC (m.asks.take k)) rfl (HO.out.alloc _) ⟨wr.heap.size, 0, none⟩ 1 1 [.int .i64 ((k : Int) + 1), .int .i64 (n : Int)] rfl rfl (news2 _ _ _ _) (by intro u hu; simp at hu; rcases hu with rfl | rfl <;> rfl) (by omega) (by unfold maxLen; omega) (by omega) (by simp; omega) _ rfl ?_; intro gv capv w1 hown1 hgrow1 hat1 hlt1))
      refine ⟨⟨k + 1, _, _, by omega, rfl, by go_num, ?_, ?_⟩, by simp [intOf]; omega⟩
      · rw [HN.out]
        have e : itemC (m.asks.take k ++ [(k + 1, n)]) = itemC (m.asks.take k) ++ [.int .i64 ((k : Int) + 1), .int .i64 (n : Int)] := by simp [itemC]
        rw [e]; exact hown1
      · exact below_own HW.out.2 HW.out.2.size HO.out _ hgrow1
    · have hk3 : k = 3 := by omega
      subst hk3
      have HO : Hid (wr.ownsRow w.heap.size 189 2 (.slice a 3 cap) 3 (itemC (m.asks.take 3))) := HW.out.1
      have HBW : Hid (Below w.heap.size w wr) := HW.out.2
      have hB := HW.out.2.size
      have d9 : wr.cell? ⟨pb, 12, none⟩ = some (.int .i64 (m.mag : Int)) := (HBW.out.cell (p := ⟨pb, 12, none⟩) hlt).trans c9
      clear HW
      go_wp2_with (at_builtin; go_must (refine wpList_append_lies _ rfl (.tmp 23) (.tmp 29) 163 rfl w.heap.size 189 i0 (.agg #[.int .i64 0, .int .i64 0]) 2 16 Tryz.underlying163 hi hz0 hz1 hz2 rfl (by decide) _ 3 (itemC (m.asks.take 3)) rfl (HO.out.alloc _) ⟨wr.heap.size, 0, none⟩ 1 1 [.int .i64 4, .int .i64 (m.mag : Int)] rfl rfl (news2 _ _ _ _) (by intro u hu; simp at hu; rcases hu with rfl | rfl <;> rfl) (by omega) (by unfold maxLen; omega) (by omega) (by simp; omega) _ rfl ?_; intro gv capv w1 hown1 hgrow1 hat1 hlt1))
      have HB1 : Hid (Below w.heap.size w w1) := below_own HBW.out HBW.out.size HO.out _ hgrow1
      have hown2 : w1.ownsRow w.heap.size 189 2 (.slice (some ⟨gv, 0, none⟩) 4 capv) m.asks.length (itemC m.asks) := by
        have e : itemC m.asks = itemC (m.asks.take 3) ++ [.int .i64 4, .int .i64 (m.mag : Int)] := rfl
        rw [e]; exact hown1
      have HI : Hid (_) := itemsIn_own hown2
      clear hown1 hown2 hgrow1 hat1
      refine (twrite_any _ m.asks w1 HI.out (asks_small OK.out) (by show 4 ≤ 1000; omega) (by show 0 < 4; omega)).mono ?_
      rintro e w2 ⟨rfl, hb2⟩
      have HB2 : Hid (Below w.heap.size w w2) := HB1.out.trans (hb2.mono HB1.out.size)
      clear hb2
      go_wp2_with fail
      go_ret
      exact ⟨rfl, HB2.out⟩
end Go.Proofs.YtoeihlgidakjbaaGreatDoor
namespace Go.Proofs.YtoeihlgidakjbaaGreatDoor
open Go.RowKit Go.Lib
def ActX (w w' : World) (B Bs pb : Nat) (v : PV) (q : Nat × Nat × Nat) (m : RE) (S : List UInt8) (r : Ending) : Prop := r = .returned (.tuple #[]) ∧ ∃ v', PX w' B Bs pb v' q m S ∧ ES w w' pb v.vals v'.vals
abbrev ActR (w w' : World) (B Bs pb : Nat) (v : PV) (m : RE) (S : List UInt8) (r : Ending) : Prop := ActX w w' B Bs pb v m.props m S r
set_option maxRecDepth 100000 in
set_option maxHeartbeats 2000000 in
theorem ptell {B Bs pb : Nat} {v : PV} {q : Nat × Nat × Nat} {m : RE} {S : List UInt8} (x : Nat) (w : World) (h : PX w B Bs pb v q m S) (hfl : m.told.length + 1 ≤ 17000000000000) :
    Calls Tryz.prog 124 #[.pointer (some ⟨pb, 0, none⟩), .int .i64 (x : Int)] w fun r w' => ActX w w' B Bs pb v q { m with told := m.told ++ [x] } S r := by
  obtain ⟨j0, hj, hy0, hy1, hy2⟩ := info_parts Tryz.infoI
  obtain ⟨a, cap, g, hv, ha, _, _⟩ := own_shape h.ot
  have H : Hid (PX w B Bs pb v q m S) := h
  have hlt := blk_lt h.em.blk
  have c14 : w.cell? ⟨pb, 30, none⟩ = some (.slice a m.told.length cap) := (blk_cell h.em.blk).trans (by rw [← hv]; rfl)
  have hot := h.ot
  have ht1 : v.vt.ownBlock ≠ some pb := h.em.ne ⟨3, v.vt, m.told.map iv⟩ (by simp [RE.prow])
  rw [hv] at hot ht1
  have OT : Hid (w.ownsRow B 3 1 (.slice a m.told.length cap) m.told.length (m.told.map iv)) := hot
  have HT1 : Hid ((Value.slice a m.told.length cap).ownBlock ≠ some pb) := ht1
  have HV : Hid (v.vt = .slice a m.told.length cap) := hv
  have hB : B ≤ w.heap.size := Nat.le_trans h.em.ge (Nat.le_of_lt hlt)
  have hb0 : w.heap[pb]? = some (.cells (m.pcl v q) 83 (0, 0)) := h.em.blk
  have HB0 : Hid (_) := hb0
  clear h hot ht1 hv ha hb0
  go_enter Tryz.func124, Tryz.ntmps124
  go_wp2_with (at_builtin; go_must (refine wpList_append_lies _ rfl (.tmp 8) (.tmp 10) 28 rfl B 3 j0 (.int .i64 0) 1 8 Tryz.underlying28 hj hy0 hy1 hy2 rfl (by decide) _ m.told.length (m.told.map iv) rfl (OT.out.alloc _) ⟨w.heap.size, 0, none⟩ 1 1 [.int .i64 (x : Int)] rfl rfl (cell_one_i _ _ _) (by intro u hu; simp at hu; subst hu; rfl) (by omega) (by unfold maxLen; omega) (by omega) (by simp; omega) _ rfl ?_; intro gv capv w1 hown1 hgrow1 hat1 hlt1; have bb : w1.heap[pb]? = some (.cells (m.pcl v q) 83 (0, 0)) := ((tch_grown hgrow1).block pb hlt (fun e => HT1.out e)).trans HB0.out; have e14 : w1.cell? ⟨pb, 30, none⟩ = some (.slice a m.told.length cap) := (blk_cell bb).trans (by rw [← HV.out]; rfl); have f14 : w1.frozen? ⟨pb, 30, none⟩ = false := blk_free bb))
  go_end0
  have hgr : (w.alloc (.cells #[.int .i64 (x : Int)] 3)).grownBy w1 v.vt.ownBlock := by rw [HV.out]; exact hgrow1
  have hat : v.vt.ownBlock = some gv ∨ w.heap.size ≤ gv := by rw [HV.out]; exact hat1.elim .inl (fun e => .inr (by have : gv = w.heap.size + 1 := e.trans (by simp); omega))
  have hh := H.out.em.grow (n := m.told.length + 1) 6 30 ⟨3, v.vt, m.told.map iv⟩ rfl ((Below.refl _ w).alloc (Nat.le_refl _) _) ((m.told ++ [x]).map iv) (by simp) (by rw [List.map_append]; exact hown1) hgr hat
  exact ⟨rfl, { v with vt := .slice (some ⟨gv, 0, none⟩) (m.told.length + 1) capv }, H.out.of_es (q' := q) (m' := { m with told := m.told ++ [x] }) (S' := S) hh.1 hh.2 rfl rfl (fun e => absurd e (by simp)) H.out.s1⟩
theorem rd_news {w : World} {g : Nat} {l : List UInt8} (h : Rd w g 0 l) : ∀ (j : Nat) (u : Value), (l.map bv)[j]? = some u → w.cell? ((⟨g, 0, none⟩ : Addr).add j) = some u := by
  intro j u hu
  rw [List.getElem?_map] at hu
  obtain ⟨x, hx, rfl⟩ := Option.map_eq_some_iff.1 hu
  obtain ⟨hjl, rfl⟩ := List.getElem?_eq_some_iff.1 hx
  have hadd : (⟨g, 0, none⟩ : Addr).add j = ⟨g, 0 + j, none⟩ := by unfold Addr.add; split <;> simp_all
  rw [hadd]; exact h j hjl
set_option maxRecDepth 100000 in
set_option maxHeartbeats 4000000 in
theorem psend {B Bs pb : Nat} {v : PV} {q : Nat × Nat × Nat} {m : RE} {S : List UInt8} (c d : UInt8) (s : ByteArray) (w : World) (h : PX w B Bs pb v q m S) (hs : s.size ≤ 1000) (hS : S.length ≤ 100000000000000) (hBs : Bs ≤ w.heap.size) :
    Calls Tryz.prog 155 #[.pointer (some ⟨pb, 0, none⟩), .agg #[.int .i64 (c.toNat : Int), .int .i64 (d.toNat : Int), .string s]] w fun r w' => ActX w w' B Bs pb v q m (S ++ encl (content c d s.data.toList)) r := by
  obtain ⟨i0, hi, hz0, hz1, hz2⟩ := info_parts Tryz.infoB
  obtain ⟨a, cap, g, hv, ha, _, _⟩ := own_shape h.os
  have H : Hid (PX w B Bs pb v q m S) := h
  have hlt := blk_lt h.em.blk
  have hos := h.os
  have hs1 : v.vs.ownBlock ≠ some pb := h.em.ne ⟨5, v.vs, S.map bv⟩ (by simp [RE.prow])
  rw [hv] at hos hs1
  have OS : Hid (w.ownsRow B 5 1 (.slice a S.length cap) S.length (S.map bv)) := hos
  have HS1 : Hid ((Value.slice a S.length cap).ownBlock ≠ some pb) := hs1
  have HV : Hid (v.vs = .slice a S.length cap) := hv
  have hB : B ≤ w.heap.size := Nat.le_trans h.em.ge (Nat.le_of_lt hlt)
  have hb0 : w.heap[pb]? = some (.cells (m.pcl v q) 83 (0, 0)) := h.em.blk
  have HB0 : Hid (_) := hb0
  have hle : (encl (content c d s.data.toList)).length ≤ 2100 := by
    have h1 := escL_len (content c d s.data.toList)
    rw [encl_len]
    rw [content_len] at h1
    simp at h1
    omega
  have hpos : 0 < (encl (content c d s.data.toList)).length := by rw [encl_len]; omega
  have BA : Hid (Below w.heap.size w (w.alloc (.cells #[.int .i64 (c.toNat : Int), .int .i64 (d.toNat : Int), .string s] 27))) := (Below.refl _ _).alloc (Nat.le_refl _) _
  have HBA : Hid ((w.alloc (.cells #[.int .i64 (c.toNat : Int), .int .i64 (d.toNat : Int), .string s] 27)).heap[pb]? = some (.cells (m.pcl v q) 83 (0, 0))) := (BA.out.block pb hlt).trans HB0.out
  have k0 : (w.alloc (.cells #[.int .i64 (c.toNat : Int), .int .i64 (d.toNat : Int), .string s] 27)).cell? ⟨w.heap.size, 0, none⟩ = some (.int .i64 (c.toNat : Int)) := by simp
  have k1 : (w.alloc (.cells #[.int .i64 (c.toNat : Int), .int .i64 (d.toNat : Int), .string s] 27)).cell? ⟨w.heap.size, 1, none⟩ = some (.int .i64 (d.toNat : Int)) := by simp
  have k2 : (w.alloc (.cells #[.int .i64 (c.toNat : Int), .int .i64 (d.toNat : Int), .string s] 27)).cell? ⟨w.heap.size, 2, none⟩ = some (.string s) := by simp
  have OSA : Hid ((w.alloc (.cells #[.int .i64 (c.toNat : Int), .int .i64 (d.toNat : Int), .string s] 27)).ownsRow B 5 1 (.slice a S.length cap) S.length (S.map bv)) := OS.out.alloc _
  have c15 : (w.alloc (.cells #[.int .i64 (c.toNat : Int), .int .i64 (d.toNat : Int), .string s] 27)).cell? ⟨pb, 32, none⟩ = some (.slice a S.length cap) := (blk_cell HBA.out).trans (by rw [← HV.out]; rfl)
  have hzA : pb < (w.alloc (.cells #[.int .i64 (c.toNat : Int), .int .i64 (d.toNat : Int), .string s] 27)).heap.size := blk_lt HBA.out
  have hzB : (w.alloc (.cells #[.int .i64 (c.toNat : Int), .int .i64 (d.toNat : Int), .string s] 27)).heap.size = w.heap.size + 1 := by simp
  clear h hos hs1 hv ha hb0
  go_enter Tryz.func155, Tryz.ntmps155
  go_upto_region 1 with fail
  generalize w.alloc (.cells #[.int .i64 (c.toNat : Int), .int .i64 (d.toNat : Int), .string s] 27) = WA at *
  have k0d : WA.drew.cell? ⟨w.heap.size, 0, none⟩ = some (.int .i64 (c.toNat : Int)) := k0
  have k1d : WA.drew.cell? ⟨w.heap.size, 1, none⟩ = some (.int .i64 (d.toNat : Int)) := k1
  have k2d : WA.drew.cell? ⟨w.heap.size, 2, none⟩ = some (.string s) := k2
  have c15d : WA.drew.cell? ⟨pb, 32, none⟩ = some (.slice a S.length cap) := c15
  go_region_law (first | (go_simp; go_at_call 77; refine (write_any c d s _ (by omega)).mono ?_; rintro e wq ⟨vq, rfl, hoq, hbq⟩; obtain ⟨_, gq, cq, rfl, hq1, hq2, _, _, hrdq⟩ := owns_rd hoq hpos; have hbq' : Below WA.heap.size WA wq := ⟨hbq.os, hbq.tape, hbq.output, hbq.size, hbq.block⟩; have q0 := (hbq'.cell (p := ⟨w.heap.size, 0, none⟩) (by show w.heap.size < _; omega)).trans k0; have q1 := (hbq'.cell (p := ⟨w.heap.size, 1, none⟩) (by show w.heap.size < _; omega)).trans k1; have q2 := (hbq'.cell (p := ⟨w.heap.size, 2, none⟩) (by show w.heap.size < _; omega)).trans k2; have q15 := (hbq'.cell (p := ⟨pb, 32, none⟩) hzA).trans c15) | (refine step_append_lies _ (by rfl) (.tmp 8) (.tmp 10) 52 (by rfl) B 5 i0 (.int .u8 0) 1 1 Tryz.underlying52 hi hz0 hz1 hz2 (by rfl) (by decide) _ S.length (S.map bv) (by rfl) (owns_below OSA.out hbq') ⟨gq, 0, none⟩ (encl (content c d s.data.toList)).length cq ((encl (content c d s.data.toList)).map bv) (by rfl) (by simp) (rd_news hrdq) (by intro u hu; obtain ⟨y, _, rfl⟩ := List.mem_map.1 hu; rfl) hpos (by unfold maxLen; omega) (by omega) (by have := hbq'.size; omega) wq.heap.size rfl ?_; intro gv capv w1 hown1 hgrow1 hat1 hlt1; have tq : Tch (fun b => (Value.slice a S.length cap).ownBlock = some b) wq w1 := ⟨hgrow1.os, hgrow1.tape, hgrow1.output, hgrow1.size, fun b hb' hs => hgrow1.block b hb' (fun e => hs e.symm)⟩; have hnw : (Value.slice a S.length cap).ownBlock ≠ some w.heap.size := fun e => (by have := (OS.out.lt _ e).2; omega); have bw := tq.block w.heap.size (by have := hbq'.size; omega) hnw; have r0 := (World.cell?_of_block (w := wq) (a := ⟨w.heap.size, 0, none⟩) bw).trans q0; have r1 := (World.cell?_of_block (w := wq) (a := ⟨w.heap.size, 1, none⟩) bw).trans q1; have r2 := (World.cell?_of_block (w := wq) (a := ⟨w.heap.size, 2, none⟩) bw).trans q2; have bb : w1.heap[pb]? = some (.cells (m.pcl v q) 83 (0, 0)) := (tq.block pb (by have := hbq'.size; omega) (fun e => HS1.out e)).trans ((hbq'.block pb hzA).trans HBA.out); have e15 : w1.cell? ⟨pb, 32, none⟩ = some (.slice a S.length cap) := (blk_cell bb).trans (by rw [← HV.out]; rfl); have f15 : w1.frozen? ⟨pb, 32, none⟩ = false := blk_free bb; have hne : w.heap.size ≠ pb := by omega))
  all_goals
    go_end0
    have hgr : wq.grownBy w1 v.vs.ownBlock := by rw [HV.out]; exact hgrow1
    have hat : v.vs.ownBlock = some gv ∨ w.heap.size ≤ gv := by rw [HV.out]; exact hat1.elim .inl (fun e => .inr (by have := hbq'.size; omega))
    have hbw : Below w.heap.size w wq := BA.out.trans (hbq'.mono (by omega))
    have hh := H.out.em.grow (n := S.length + (encl (content c d s.data.toList)).length) 8 32 ⟨5, v.vs, S.map bv⟩ rfl hbw ((S ++ encl (content c d s.data.toList)).map bv) (by simp) (by rw [List.map_append]; exact hown1) hgr hat
    refine ⟨rfl, { v with vs := .slice (some ⟨gv, 0, none⟩) (S.length + (encl (content c d s.data.toList)).length) capv }, H.out.of_es (q' := q) (m' := m) (S' := S ++ encl (content c d s.data.toList)) hh.1 hh.2 rfl rfl H.out.t0 ?_⟩
    intro b hb
    simp only [Value.ownBlock, Option.some.injEq] at hb
    rcases hat with e | e
    · exact H.out.s1 b (hb ▸ e)
    · omega
theorem psendN {B Bs pb : Nat} {v : PV} {q : Nat × Nat × Nat} {m : RE} {S : List UInt8} (c d : Nat) (s : List UInt8) (w : World) (h : PX w B Bs pb v q m S) (hc : c < 256) (hd : d < 256) (hs : s.length ≤ 1000) (hS : S.length ≤ 100000000000000) (hBs : Bs ≤ w.heap.size) :
    Calls Tryz.prog 155 #[.pointer (some ⟨pb, 0, none⟩), .agg #[.int .i64 (c : Int), .int .i64 (d : Int), .string ⟨s.toArray⟩]] w fun r w' => ActX w w' B Bs pb v q m (S ++ lineL c d s) r := by
  have h1 := psend (UInt8.ofNat c) (UInt8.ofNat d) ⟨s.toArray⟩ w h (by show s.toArray.size ≤ 1000; rw [List.size_toArray]; exact hs) hS hBs
  have q1 : ((UInt8.ofNat c).toNat : Int) = (c : Int) := by rw [UInt8.toNat_ofNat']; omega
  have q2 : ((UInt8.ofNat d).toNat : Int) = (d : Int) := by rw [UInt8.toNat_ofNat']; omega
  rw [q1, q2] at h1
  exact h1
end Go.Proofs.YtoeihlgidakjbaaGreatDoor

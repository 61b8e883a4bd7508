/- The reference's one, two and sum. The reference's Line and Frame. The reference's Data. The reference's Unframe. The laws' lent, still and sign. The laws' holds: what a hold is in memory; marked. The laws' world of holds; looks; marks. The laws' marks: every place of a hold's lists is written. An append onto a row of the call's own leaves what the old slice owned as it was. The laws' longer: the same list and one place more. The reference's end in memory. The reference's request. The reference's act: what is told, counter and timer, Requests and Ends. The reference's row: the table. The reference's at and Event. The reference's Event. The reference's isList and copied. The reference's copied and New. The reference's Items and Terms. The reference's Terms. The laws' nums and unhurt: numbers that are lent. The laws' keep: one list more that is its owner's, and three places more behind it. The laws' keep, walked. The laws' keep, walked. The laws' keep, walked to its end. The laws' same: the bytes that came out are these, and they are kept. What is asked of a program's ends; the laws' world with its ends. -/
import Derived.Test.YtoeihlgidakjbaaGreatDoorPc3
import Derived.Deep.DeepCutAuto
import Derived.Deep.RegionHeld3
import Derived.Lib.BufferWrite
import Derived.Laws.CopyOwn
import Derived.Deep.AppendLies
import Derived.Deep.RegionHeldLaw
import Derived.Deep.RegionLaw
import Derived.Test.YtoeihlgidakjbaaGreatDoorPc2
namespace Go.Proofs.YtoeihlgidakjbaaGreatDoor
open Go.RowKit
end Go.Proofs.YtoeihlgidakjbaaGreatDoor
namespace Go.Proofs.YtoeihlgidakjbaaGreatDoor
open Go.RowKit
end Go.Proofs.YtoeihlgidakjbaaGreatDoor
namespace Go.Proofs.YtoeihlgidakjbaaGreatDoor
open Go.RowKit
end Go.Proofs.YtoeihlgidakjbaaGreatDoor
namespace Go.Proofs.YtoeihlgidakjbaaGreatDoor
open Go.RowKit
theorem zz {w w1 : World} (h : Below (w.heap.size + 2) ((w.alloc (.cells #[.int .i64 0, .int .i64 0, .string ⟨#[]⟩] 27)).alloc (.cells #[.int .i64 0, .int .i64 0, .string ⟨#[]⟩] 27)) w1) :
    ((w1.cell? ⟨w.heap.size, 0, none⟩ = some (.int .i64 0) ∧ w1.cell? ⟨w.heap.size, 1, none⟩ = some (.int .i64 0) ∧ w1.cell? ⟨w.heap.size, 2, none⟩ = some (.string ⟨#[]⟩)) ∧
    (w1.cell? ⟨w.heap.size + 1, 0, none⟩ = some (.int .i64 0) ∧ w1.cell? ⟨w.heap.size + 1, 1, none⟩ = some (.int .i64 0) ∧ w1.cell? ⟨w.heap.size + 1, 2, none⟩ = some (.string ⟨#[]⟩)) ∧
    (w1.frozen? ⟨w.heap.size, 0, none⟩ = false ∧ w1.frozen? ⟨w.heap.size, 1, none⟩ = false ∧ w1.frozen? ⟨w.heap.size, 2, none⟩ = false)) ∧ w.heap.size + 2 ≤ w1.heap.size ∧ Below w.heap.size w w1 := by
  have a : ∀ i, w1.cell? ⟨w.heap.size, i, none⟩ = _ := fun i => (h.cell (p := ⟨w.heap.size, i, none⟩) (by show w.heap.size < _; omega)).trans (World.cell?_alloc_lt _ _ ⟨w.heap.size, i, none⟩ (by simp))
  have b : ∀ i, w1.cell? ⟨w.heap.size + 1, i, none⟩ = _ := fun i => (h.cell (p := ⟨w.heap.size + 1, i, none⟩) (by show w.heap.size + 1 < _; omega)).trans (World.cell?_alloc_at _ _ _ _ (by simp))
  have c : ∀ i, w1.frozen? ⟨w.heap.size, i, none⟩ = _ := fun i => (h.frozen (p := ⟨w.heap.size, i, none⟩) (by show w.heap.size < _; omega)).trans (World.frozen?_alloc_old _ _ ⟨w.heap.size, i, none⟩ (by simp))
  refine ⟨⟨⟨(a 0).trans (by simp), (a 1).trans (by simp), (a 2).trans (by simp)⟩, ⟨(b 0).trans rfl, (b 1).trans rfl, (b 2).trans rfl⟩, ⟨(c 0).trans (by simp), (c 1).trans (by simp), (c 2).trans (by simp)⟩⟩, by have := h.size; simpa using this, ?_⟩
  exact (((Below.refl _ _).alloc (Nat.le_refl _) _).alloc (by simp) _).trans (h.mono (by omega))
end Go.Proofs.YtoeihlgidakjbaaGreatDoor
namespace Go.Proofs.YtoeihlgidakjbaaGreatDoor
open Go.RowKit Go.Lib
def signN (m i : Int) : Int := wrap64 (m + wrap64 (i * wrap64 (1 + wrap64 (m.tdiv 256)))) % 256
end Go.Proofs.YtoeihlgidakjbaaGreatDoor
namespace Go.Proofs.YtoeihlgidakjbaaGreatDoor
open Go.RowKit Go.Lib
def BR (w : World) (v : Value) (n : Nat) (m : Int) : Prop := ∃ a cap g, v = .slice a n cap ∧ n ≤ 140737488355000 ∧ (0 < n → a = some ⟨g, 0, none⟩) ∧ ∀ j, j < n → w.cell? ⟨g, j, none⟩ = some (.int .u8 (signN m (j : Int)))
def NR (w : World) (v : Value) (n : Nat) (m : Int) : Prop := ∃ a cap g, v = .slice a n cap ∧ n ≤ 140737488355000 ∧ (0 < n → a = some ⟨g, 0, none⟩) ∧ ∀ j, j < n → w.cell? ⟨g, j, none⟩ = some (.int .i64 (-m))
structure HE where
  hb : Nat
  vb : Value
  nb : Nat
  vn : Value
  nn : Nat
  m : Int
structure HI (w : World) (e : HE) : Prop where
  c0 : w.cell? ⟨e.hb, 0, none⟩ = some e.vb
  c1 : w.cell? ⟨e.hb, 1, none⟩ = some e.vn
  c2 : w.cell? ⟨e.hb, 2, none⟩ = some (.int .i64 e.m)
  b : BR w e.vb e.nb e.m
  n : NR w e.vn e.nn e.m
  m0 : 0 < e.m
  m1 : e.m ≤ 4611686018427387904
end Go.Proofs.YtoeihlgidakjbaaGreatDoor
namespace Go.Proofs.YtoeihlgidakjbaaGreatDoor
open Go.RowKit Go.Lib
def HE.in_ (e : HE) (b : Nat) : Prop := b = e.hb ∨ e.vb.ownBlock = some b ∨ e.vn.ownBlock = some b
theorem br_of {w w' : World} {v : Value} {n : Nat} {m : Int} (h : BR w v n m) (hb : ∀ b, v.ownBlock = some b → w'.heap[b]? = w.heap[b]?) : BR w' v n m := by
  obtain ⟨a, cap, g, rfl, h1, h2, h3⟩ := h
  refine ⟨a, cap, g, rfl, h1, h2, fun j hj => ?_⟩
  have ha := h2 (by omega)
  subst ha
  exact (World.cell?_of_block (w := w) (a := ⟨g, j, none⟩) (hb g rfl)).trans (h3 j hj)
theorem nr_of {w w' : World} {v : Value} {n : Nat} {m : Int} (h : NR w v n m) (hb : ∀ b, v.ownBlock = some b → w'.heap[b]? = w.heap[b]?) : NR w' v n m := by
  obtain ⟨a, cap, g, rfl, h1, h2, h3⟩ := h
  refine ⟨a, cap, g, rfl, h1, h2, fun j hj => ?_⟩
  have ha := h2 (by omega)
  subst ha
  exact (World.cell?_of_block (w := w) (a := ⟨g, j, none⟩) (hb g rfl)).trans (h3 j hj)
theorem hi_of {w w' : World} {e : HE} (h : HI w e) (hb : ∀ b, e.in_ b → w'.heap[b]? = w.heap[b]?) : HI w' e :=
  ⟨(World.cell?_of_block (w := w) (a := ⟨e.hb, 0, none⟩) (hb _ (.inl rfl))).trans h.c0, (World.cell?_of_block (w := w) (a := ⟨e.hb, 1, none⟩) (hb _ (.inl rfl))).trans h.c1, (World.cell?_of_block (w := w) (a := ⟨e.hb, 2, none⟩) (hb _ (.inl rfl))).trans h.c2,
   br_of h.b (fun b hb' => hb b (.inr (.inl hb'))), nr_of h.n (fun b hb' => hb b (.inr (.inr hb'))), h.m0, h.m1⟩
structure WI (w : World) (B wb : Nat) (vp vh : Value) (es : List HE) : Prop where
  p : w.cell? ⟨wb, 0, none⟩ = some vp
  h : w.cell? ⟨wb, 1, none⟩ = some vh
  f : w.frozen? ⟨wb, 1, none⟩ = false
  f0 : w.frozen? ⟨wb, 0, none⟩ = false
  own : w.ownsRow B 104 1 vh es.length (es.map fun e => .pointer (some ⟨e.hb, 0, none⟩))
  all : ∀ e ∈ es, HI w e
  lt : wb < w.heap.size
  ge : B ≤ wb
  ne : vh.ownBlock ≠ some wb
  sep : ∀ e ∈ es, ∀ b, e.in_ b → B ≤ b ∧ b < w.heap.size ∧ b ≠ wb ∧ vh.ownBlock ≠ some b
end Go.Proofs.YtoeihlgidakjbaaGreatDoor
namespace Go.Proofs.YtoeihlgidakjbaaGreatDoor
open Go.RowKit Go.Lib
def marksB (m : Int) (n : Nat) : List Value := (List.range n).map fun (j : Nat) => Value.int .u8 (signN m (j : Int))
end Go.Proofs.YtoeihlgidakjbaaGreatDoor
namespace Go.Proofs.YtoeihlgidakjbaaGreatDoor
open Go.RowKit Go.Lib
section
variable {P : Program} (w : World)
end
end Go.Proofs.YtoeihlgidakjbaaGreatDoor
namespace Go.Proofs.YtoeihlgidakjbaaGreatDoor
open Go.RowKit Go.Lib
structure OH (w : World) (B : Nat) (e : HE) : Prop where
  c0 : w.cell? ⟨e.hb, 0, none⟩ = some e.vb
  c1 : w.cell? ⟨e.hb, 1, none⟩ = some e.vn
  c2 : w.cell? ⟨e.hb, 2, none⟩ = some (.int .i64 e.m)
  ob : w.ownsRow B 5 1 e.vb e.nb (marksB e.m e.nb)
  on : w.ownsRow B 3 1 e.vn e.nn (List.replicate e.nn (.int .i64 (-e.m)))
  lt : e.hb < w.heap.size
  ge : B ≤ e.hb
  h1 : e.vb.ownBlock ≠ some e.hb
  h2 : e.vn.ownBlock ≠ some e.hb
  h3 : e.vb.ownBlock = none ∨ e.vb.ownBlock ≠ e.vn.ownBlock
  m0 : 0 < e.m
  m1 : e.m ≤ 4611686018427387904
  b1 : e.nb ≤ 140737488352000
  n1 : e.nn ≤ 17592186044000
theorem OH.hi {w : World} {B : Nat} {e : HE} (h : OH w B e) : HI w e := by
  refine ⟨h.c0, h.c1, h.c2, ?_, ?_, h.m0, h.m1⟩
  · obtain ⟨a, cap, g, hv, ha, _, hc⟩ := own_shape h.ob
    refine ⟨a, cap, g, hv, by have := h.b1; omega, ha, fun j hj => ?_⟩
    rw [hc j hj, marksB, List.getElem?_map, List.getElem?_eq_getElem (by simpa using hj)]
    simp
  · obtain ⟨a, cap, g, hv, ha, _, hc⟩ := own_shape h.on
    refine ⟨a, cap, g, hv, by have := h.n1; omega, ha, fun j hj => ?_⟩
    rw [hc j hj, List.getElem?_eq_getElem (by simpa using hj)]
    simp
theorem OH.of {w w' : World} {B : Nat} {e : HE} (h : OH w B e) {S : Nat → Prop} (ht : Tch S w w') (hs : ∀ b, e.in_ b → ¬ S b) : OH w' B e :=
  ⟨(World.cell?_of_block (w := w) (a := ⟨e.hb, 0, none⟩) (ht.block _ h.lt (hs _ (.inl rfl)))).trans h.c0, (World.cell?_of_block (w := w) (a := ⟨e.hb, 1, none⟩) (ht.block _ h.lt (hs _ (.inl rfl)))).trans h.c1, (World.cell?_of_block (w := w) (a := ⟨e.hb, 2, none⟩) (ht.block _ h.lt (hs _ (.inl rfl)))).trans h.c2,
   owns_tch h.ob ht (fun b hb => hs b (.inr (.inl hb))), owns_tch h.on ht (fun b hb => hs b (.inr (.inr hb))), Nat.lt_of_lt_of_le h.lt ht.size, h.ge, h.h1, h.h2, h.h3, h.m0, h.m1, h.b1, h.n1⟩
end Go.Proofs.YtoeihlgidakjbaaGreatDoor
namespace Go.Proofs.YtoeihlgidakjbaaGreatDoor
open Go.RowKit Go.Lib
structure RV where
  vw0 : Value
  vw1 : Value
  vw2 : Value
  va0 : Value
  va1 : Value
  va2 : Value
  vt : Value
  vm : Value
def RE.cell (m : RE) (v : RV) : Array Value := #[v.vw0, v.vw1, v.vw2, v.va0, v.va1, v.va2, .int .i64 0, iv m.st, v.vt, .string ⟨m.got.toArray⟩, .int .i64 m.cnt, .int .i64 m.tim, iv m.id, iv m.odd, .string ⟨m.sent.toArray⟩, .int .i64 m.sid, .string ⟨m.agr.toArray⟩, iv m.pc, iv m.pi, .string ⟨m.pd.toArray⟩, iv m.naks, iv m.loops, iv m.k0, iv m.k1, iv m.k2, iv m.h0, iv m.h1, iv m.h2, v.vm]
def RE.cfg (m : RE) (v : RV) : List (Value × List Nat) := [(v.vw0, m.w0), (v.vw1, m.w1), (v.vw2, m.w2), (v.va0, m.a0), (v.va1, m.a1), (v.va2, m.a2)]
structure RI (w : World) (B rb : Nat) (v : RV) (m : RE) : Prop where
  blk : w.heap[rb]? = some (.cells (m.cell v) 129 (0, 0))
  ge : B ≤ rb
  ot : w.ownsRow B 3 1 v.vt m.told.length (m.told.map iv)
  om : w.ownsRow B 3 1 v.vm m.mg.length (m.mg.map iv)
  oc : ∀ x ∈ m.cfg v, w.ownsRow B 3 1 x.1 x.2.length (x.2.map iv)
  t1 : v.vt.ownBlock ≠ some rb
  m1 : v.vm.ownBlock ≠ some rb
  tm : ∀ b, v.vt.ownBlock = some b → v.vm.ownBlock ≠ some b
  c1 : ∀ x ∈ m.cfg v, ∀ b, x.1.ownBlock = some b → b ≠ rb ∧ v.vt.ownBlock ≠ some b ∧ v.vm.ownBlock ≠ some b
def RV.in_ (v : RV) (rb b : Nat) : Prop := b = rb ∨ v.vt.ownBlock = some b ∨ v.vm.ownBlock = some b
def RV.all (v : RV) (rb b : Nat) : Prop := v.in_ rb b ∨ v.vw0.ownBlock = some b ∨ v.vw1.ownBlock = some b ∨ v.vw2.ownBlock = some b ∨ v.va0.ownBlock = some b ∨ v.va1.ownBlock = some b ∨ v.va2.ownBlock = some b
theorem RE.cfg_mem {m : RE} {v : RV} {x : Value × List Nat} (h : x ∈ m.cfg v) : ∀ b, x.1.ownBlock = some b → ∀ rb, v.all rb b := by
  intro b hb rb
  simp only [RE.cfg, List.mem_cons, List.not_mem_nil, or_false] at h
  rcases h with rfl | rfl | rfl | rfl | rfl | rfl <;> simp [RV.all, hb]
theorem RI.lt {w : World} {B rb : Nat} {v : RV} {m : RE} (h : RI w B rb v m) : ∀ b, v.all rb b → B ≤ b ∧ b < w.heap.size := by
  have hc : ∀ x ∈ m.cfg v, ∀ b, x.1.ownBlock = some b → B ≤ b ∧ b < w.heap.size := fun x hx b hb => (h.oc x hx).lt b hb
  rintro b ((rfl | hb | hb) | hb | hb | hb | hb | hb | hb)
  · exact ⟨h.ge, blk_lt h.blk⟩
  · exact h.ot.lt b hb
  · exact h.om.lt b hb
  · exact hc (v.vw0, m.w0) (by simp [RE.cfg]) b hb
  · exact hc (v.vw1, m.w1) (by simp [RE.cfg]) b hb
  · exact hc (v.vw2, m.w2) (by simp [RE.cfg]) b hb
  · exact hc (v.va0, m.a0) (by simp [RE.cfg]) b hb
  · exact hc (v.va1, m.a1) (by simp [RE.cfg]) b hb
  · exact hc (v.va2, m.a2) (by simp [RE.cfg]) b hb
theorem RI.of_tch {w w' : World} {B rb : Nat} {v : RV} {m : RE} {S : Nat → Prop} (h : RI w B rb v m) (ht : Tch S w w') (hs : ∀ b, v.all rb b → ¬ S b) : RI w' B rb v m :=
  ⟨(ht.block rb (blk_lt h.blk) (hs rb (.inl (.inl rfl)))).trans h.blk, h.ge, owns_tch h.ot ht (fun b hb => hs b (.inl (.inr (.inl hb)))), owns_tch h.om ht (fun b hb => hs b (.inl (.inr (.inr hb)))),
   fun x hx => owns_tch (h.oc x hx) ht (fun b hb => hs b (RE.cfg_mem hx b hb rb)), h.t1, h.m1, h.tm, h.c1⟩
theorem RI.below {w w' : World} {B rb : Nat} {v : RV} {m : RE} (h : RI w B rb v m) (hb : Below w.heap.size w w') : RI w' B rb v m := h.of_tch (S := fun _ => False) (Tch.of_below hb) (fun _ _ x => x)
theorem RI.num {w w' : World} {B rb : Nat} {v : RV} {m m' : RE} (h : RI w B rb v m) (hb : w'.heap[rb]? = some (.cells (m'.cell v) 129 (0, 0))) (ht : Tch (fun b => b = rb) w w') (e1 : m'.told = m.told) (e2 : m'.mg = m.mg) (e3 : m'.cfg v = m.cfg v) : RI w' B rb v m' :=
  ⟨hb, h.ge, by rw [e1]; exact owns_tch h.ot ht (fun b hb e => h.t1 (e ▸ hb)), by rw [e2]; exact owns_tch h.om ht (fun b hb e => h.m1 (e ▸ hb)),
   by rw [e3]; exact fun x hx => owns_tch (h.oc x hx) ht (fun b hb e => (h.c1 x hx b hb).1 e), h.t1, h.m1, h.tm, by rw [e3]; exact h.c1⟩
end Go.Proofs.YtoeihlgidakjbaaGreatDoor
namespace Go.Proofs.YtoeihlgidakjbaaGreatDoor
open Go.RowKit Go.Lib
end Go.Proofs.YtoeihlgidakjbaaGreatDoor
namespace Go.Proofs.YtoeihlgidakjbaaGreatDoor
open Go.RowKit Go.Lib
structure RS (w w' : World) (rb : Nat) (v v' : RV) : Prop where
  t : Tch (v.in_ rb) w w'
  c : v'.vw0 = v.vw0 ∧ v'.vw1 = v.vw1 ∧ v'.vw2 = v.vw2 ∧ v'.va0 = v.va0 ∧ v'.va1 = v.va1 ∧ v'.va2 = v.va2
  i : ∀ b, v'.in_ rb b → v.in_ rb b ∨ w.heap.size ≤ b
theorem RS.refl (w : World) (rb : Nat) (v : RV) : RS w w rb v v := ⟨Tch.refl _ _, ⟨rfl, rfl, rfl, rfl, rfl, rfl⟩, fun _ h => .inl h⟩
theorem RS.trans {w w1 w2 : World} {rb : Nat} {v v1 v2 : RV} (h : RS w w1 rb v v1) (k : RS w1 w2 rb v1 v2) : RS w w2 rb v v2 := by
  refine ⟨Tch.restrict ((h.t.mono (fun _ x => .inl x)).trans (k.t.mono (fun b x => h.i b x))), ?_, fun b hb => ?_⟩
  · obtain ⟨c0, c1, c2, c3, c4, c5⟩ := h.c
    obtain ⟨d0, d1, d2, d3, d4, d5⟩ := k.c
    exact ⟨d0.trans c0, d1.trans c1, d2.trans c2, d3.trans c3, d4.trans c4, d5.trans c5⟩
  · rcases k.i b hb with x | x
    · exact h.i b x
    · exact .inr (Nat.le_trans h.t.size x)
theorem RS.num {w w' : World} {rb : Nat} {v : RV} (h : Tch (fun b => b = rb) w w') : RS w w' rb v v := ⟨h.mono (fun _ x => .inl x), ⟨rfl, rfl, rfl, rfl, rfl, rfl⟩, fun _ h => .inl h⟩
theorem RS.all {w w' : World} {rb : Nat} {v v' : RV} (h : RS w w' rb v v') : ∀ b, v'.all rb b → v.all rb b ∨ w.heap.size ≤ b := by
  obtain ⟨c0, c1, c2, c3, c4, c5⟩ := h.c
  rintro b (hb | hb | hb | hb | hb | hb | hb)
  · exact (h.i b hb).elim (fun x => .inl (.inl x)) .inr
  · rw [c0] at hb; exact .inl (.inr (.inl hb))
  · rw [c1] at hb; exact .inl (.inr (.inr (.inl hb)))
  · rw [c2] at hb; exact .inl (.inr (.inr (.inr (.inl hb))))
  · rw [c3] at hb; exact .inl (.inr (.inr (.inr (.inr (.inl hb)))))
  · rw [c4] at hb; exact .inl (.inr (.inr (.inr (.inr (.inr (.inl hb))))))
  · rw [c5] at hb; exact .inl (.inr (.inr (.inr (.inr (.inr (.inr hb))))))
theorem RI.tell {w w1 : World} {B rb : Nat} {v : RV} {m : RE} {x g cap : Nat} {o : Obj} (h : RI w B rb v m) (hown : w1.ownsRow B 3 1 (.slice (some ⟨g, 0, none⟩) (m.told.length + 1) cap) (m.told.length + 1) (m.told.map iv ++ [.int .i64 (x : Int)]))
    (hg : (w.alloc o).grownBy w1 v.vt.ownBlock) (hat : v.vt.ownBlock = some g ∨ g = w.heap.size + 1) :
    RI (w1.setCell ⟨rb, 8, none⟩ (.slice (some ⟨g, 0, none⟩) (m.told.length + 1) cap)) B rb { v with vt := .slice (some ⟨g, 0, none⟩) (m.told.length + 1) cap } { m with told := m.told ++ [x] } ∧
    RS w (w1.setCell ⟨rb, 8, none⟩ (.slice (some ⟨g, 0, none⟩) (m.told.length + 1) cap)) rb v { v with vt := .slice (some ⟨g, 0, none⟩) (m.told.length + 1) cap } := by
  have ht := tch_grown hg
  have hlt := blk_lt h.blk
  have hb1 : w1.heap[rb]? = some (.cells (m.cell v) 129 (0, 0)) := (ht.block rb hlt (fun e => h.t1 e)).trans h.blk
  have hgr : g ≠ rb := by
    rcases hat with e | e
    · intro e2; exact h.t1 (e2 ▸ e)
    · omega
  have hts : Tch (fun b => b = rb) w1 (w1.setCell ⟨rb, 8, none⟩ (.slice (some ⟨g, 0, none⟩) (m.told.length + 1) cap)) := Tch.set _ w1 ⟨rb, 8, none⟩ _ rfl
  have gnew : ∀ b, b < w.heap.size → v.vt.ownBlock ≠ some b → g ≠ b := by
    intro b hb hn e
    rcases hat with e2 | e2
    · exact hn (e ▸ e2)
    · omega
  have hc : ∀ y ∈ m.cfg v, ∀ b, y.1.ownBlock = some b → b < w.heap.size := fun y hy b hb => ((h.oc y hy).lt b hb).2
  constructor
  · refine ⟨?_, h.ge, ?_, ?_, ?_, ?_, h.m1, ?_, ?_⟩
    · exact blk_set (k := 8) hb1
    · have := owns_tch hown hts (fun b hb e => by simp only [Value.ownBlock, Option.some.injEq] at hb; exact hgr (hb.trans e))
      simpa [iv] using this
    · exact owns_tch (owns_tch h.om ht (fun b hb e => h.tm b e hb)) hts (fun b hb e => h.m1 (e ▸ hb))
    · intro y hy
      exact owns_tch (owns_tch (h.oc y hy) ht (fun b hb e => (h.c1 y hy b hb).2.1 e)) hts (fun b hb e => (h.c1 y hy b hb).1 e)
    · intro e; simp only [Value.ownBlock, Option.some.injEq] at e; exact hgr e
    · intro b hb e
      simp only [Value.ownBlock, Option.some.injEq] at hb
      have hbl := (h.om.lt b e).2
      exact gnew b hbl (fun x => h.tm b x e) hb
    · intro y hy b hb
      have hy' : y ∈ m.cfg v := hy
      obtain ⟨c1, c2, c3⟩ := h.c1 y hy' b hb
      refine ⟨c1, ?_, c3⟩
      intro e
      simp only [Value.ownBlock, Option.some.injEq] at e
      exact gnew b (hc y hy' b hb) c2 e
  · refine ⟨(ht.mono (fun b x => .inr (.inl x))).trans (hts.mono (fun b x => .inl x)), ⟨rfl, rfl, rfl, rfl, rfl, rfl⟩, ?_⟩
    rintro b (x | x | x)
    · exact .inl (.inl x)
    · simp only [Value.ownBlock, Option.some.injEq] at x
      rcases hat with e | e
      · exact .inl (.inr (.inl (x ▸ e)))
      · exact .inr (by omega)
    · exact .inl (.inr (.inr x))
end Go.Proofs.YtoeihlgidakjbaaGreatDoor
namespace Go.Proofs.YtoeihlgidakjbaaGreatDoor
open Go.RowKit Go.Lib
end Go.Proofs.YtoeihlgidakjbaaGreatDoor
namespace Go.Proofs.YtoeihlgidakjbaaGreatDoor
open Go.RowKit Go.Lib
end Go.Proofs.YtoeihlgidakjbaaGreatDoor
namespace Go.Proofs.YtoeihlgidakjbaaGreatDoor
open Go.RowKit Go.Lib
end Go.Proofs.YtoeihlgidakjbaaGreatDoor
namespace Go.Proofs.YtoeihlgidakjbaaGreatDoor
open Go.RowKit Go.Lib
end Go.Proofs.YtoeihlgidakjbaaGreatDoor
namespace Go.Proofs.YtoeihlgidakjbaaGreatDoor
open Go.RowKit Go.Lib
def nCells (k : Nat) (V : Nat → Value) (L : Nat → List Int) : Array Value :=
  #[if 0 < k then V 0 else .slice none 0 0, if 1 < k then V 1 else .slice none 0 0, if 2 < k then V 2 else .slice none 0 0, if 0 < k then V 3 else .slice none 0 0, if 1 < k then V 4 else .slice none 0 0, if 2 < k then V 5 else .slice none 0 0, .int .i64 0, .int .i64 0, .slice none 0 0, .string ⟨#[]⟩, .int .i64 0, .int .i64 0, .int .i64 0, .int .i64 0, .string ⟨#[]⟩, .int .i64 (-1), .string ⟨#[]⟩, .int .i64 0, .int .i64 0, .string ⟨#[]⟩, .int .i64 0, .int .i64 0, .int .i64 (if 0 < k then (L 0).headD 0 else 0), .int .i64 (if 1 < k then (L 1).headD 0 else 0), .int .i64 (if 2 < k then (L 2).headD 0 else 0), .int .i64 0, .int .i64 0, .int .i64 0, .slice none 0 0]
structure NI (w wr : World) (X : Nat → Value) (L : Nat → List Int) (mg : Int) (k : Nat) (V : Nat → Value) : Prop where
  cb : wr.heap[w.heap.size]? = some (.cells #[X 0, X 1, X 2, X 3, X 4, X 5, .int .i64 mg] 31 (0, 0))
  eb : wr.heap[w.heap.size + 1]? = some (.cells (nCells k V L) 129 (0, 0))
  ow : ∀ i, i < k → wr.ownsRow (w.heap.size + 2) 3 1 (V i) (L i).length ((L i).map zv) ∧ wr.ownsRow (w.heap.size + 2) 3 1 (V (3 + i)) (L (3 + i)).length ((L (3 + i)).map zv)
  ok : ∀ i, i < k → IsL (L i) ∧ IsL (L (3 + i))
  bel : Below w.heap.size w wr
theorem NI.x {w wr : World} {X : Nat → Value} {L : Nat → List Int} {mg : Int} {k : Nat} {V : Nat → Value} (h : NI w wr X L mg k V) : ∀ i, i < 6 → wr.cell? ⟨w.heap.size, i, none⟩ = some (X i) := by
  intro i hi
  rcases (by omega : i = 0 ∨ i = 1 ∨ i = 2 ∨ i = 3 ∨ i = 4 ∨ i = 5) with rfl | rfl | rfl | rfl | rfl | rfl <;> exact blk_cell h.cb
theorem NI.drew {w wr : World} {X : Nat → Value} {L : Nat → List Int} {mg : Int} {k : Nat} {V : Nat → Value} {n : Nat} (h : NI w wr X L mg k V) : NI w (wr.drewN n) X L mg k V :=
  ⟨h.cb, h.eb, fun i hi => ⟨owns_below (h.ow i hi).1 (below_drewN (Below.refl _ _) n), owns_below (h.ow i hi).2 (below_drewN (Below.refl _ _) n)⟩, h.ok, below_drewN h.bel n⟩
theorem nCells_next (k : Nat) (hk : k < 3) (V : Nat → Value) (L : Nat → List Int) (a b : Value) :
    ((((nCells k V L).setIfInBounds k a).setIfInBounds (3 + k) b).setIfInBounds (22 + k) (.int .i64 ((L k).headD 0))) = nCells (k + 1) (fun i => if i = k then a else if i = 3 + k then b else V i) L := by
  rcases (by omega : k = 0 ∨ k = 1 ∨ k = 2) with rfl | rfl | rfl <;> rfl
theorem NI.next {w W wc : World} {X : Nat → Value} {L : Nat → List Int} {mg : Int} {k : Nat} {V : Nat → Value} {a b : Value} (h : NI w W X L mg k V) (hk : k < 3) (ok : IsL (L k) ∧ IsL (L (3 + k)))
    (hb : wc.heap[w.heap.size + 1]? = some (.cells (((nCells k V L).setIfInBounds k a).setIfInBounds (3 + k) b) 129 (0, 0))) (oa : wc.ownsRow (w.heap.size + 2) 3 1 a (L k).length ((L k).map zv)) (ob : wc.ownsRow (w.heap.size + 2) 3 1 b (L (3 + k)).length ((L (3 + k)).map zv)) (ht : Tch (fun b => b = w.heap.size + 1) W wc) :
    NI w (wc.setCell ⟨w.heap.size + 1, 22 + k, none⟩ (.int .i64 ((L k).headD 0))).drew X L mg (k + 1) (fun i => if i = k then a else if i = 3 + k then b else V i) := by
  have ts := tset wc (w.heap.size + 1) (22 + k) (.int .i64 ((L k).headD 0))
  have hs := blk_set (k := 22 + k) (x := .int .i64 ((L k).headD 0)) hb
  rw [nCells_next k hk] at hs
  have hcb : w.heap.size < W.heap.size := blk_lt h.cb
  have rows : ∀ {v : Value} {n : Nat} {xs : List Value}, W.ownsRow (w.heap.size + 2) 3 1 v n xs → (wc.setCell ⟨w.heap.size + 1, 22 + k, none⟩ (.int .i64 ((L k).headD 0))).drew.ownsRow (w.heap.size + 2) 3 1 v n xs := fun {v n xs} ho =>
    (owns_tch (owns_tch ho ht (fun b hb e => by have := (ho.lt b hb).1; omega)) ts (fun b hb e => by have := (ho.lt b hb).1; omega)).drew
  have rowc : ∀ {v : Value} {n : Nat} {xs : List Value}, wc.ownsRow (w.heap.size + 2) 3 1 v n xs → (wc.setCell ⟨w.heap.size + 1, 22 + k, none⟩ (.int .i64 ((L k).headD 0))).drew.ownsRow (w.heap.size + 2) 3 1 v n xs := fun {v n xs} ho =>
    (owns_tch ho ts (fun b hb e => by have := (ho.lt b hb).1; omega)).drew
  refine ⟨?_, hs, ?_, ?_, ?_⟩
  · exact (ts.block _ (Nat.lt_of_lt_of_le hcb ht.size) (by omega)).trans ((ht.block _ hcb (by omega)).trans h.cb)
  · intro i hi
    by_cases e : i = k
    · subst e
      rw [if_pos rfl, if_neg (by omega), if_pos rfl]
      exact ⟨rowc oa, rowc ob⟩
    · rw [if_neg e, if_neg (by omega), if_neg (by omega), if_neg (by omega)]
      exact ⟨rows (h.ow i (by omega)).1, rows (h.ow i (by omega)).2⟩
  · intro i hi
    by_cases e : i = k
    · subst e; exact ok
    · exact h.ok i (by omega)
  · exact h.bel.trans (((ht.trans ts).drew).below h.bel.size (fun b hb => by omega))
end Go.Proofs.YtoeihlgidakjbaaGreatDoor
namespace Go.Proofs.YtoeihlgidakjbaaGreatDoor
open Go.RowKit Go.Lib
end Go.Proofs.YtoeihlgidakjbaaGreatDoor
namespace Go.Proofs.YtoeihlgidakjbaaGreatDoor
open Go.RowKit Go.Lib
end Go.Proofs.YtoeihlgidakjbaaGreatDoor
namespace Go.Proofs.YtoeihlgidakjbaaGreatDoor
open Go.RowKit Go.Lib
def numsL (l : List Int) (j : Nat) : List Int := l ++ (List.replicate j 7777 ++ List.replicate (8 - j) 0)
end Go.Proofs.YtoeihlgidakjbaaGreatDoor
namespace Go.Proofs.YtoeihlgidakjbaaGreatDoor
open Go.RowKit Go.Lib
structure Pre (f g : HE) : Prop where
  m : f.m = g.m
  nb : f.nb ≤ g.nb
  nn : f.nn ≤ g.nn
  hb : f = g ∨ ¬ g.in_ f.hb
  vb : f.vb.ownBlock = g.vb.ownBlock ∨ ∀ b, f.vb.ownBlock = some b → ¬ g.in_ b
  vn : f.vn.ownBlock = g.vn.ownBlock ∨ ∀ b, f.vn.ownBlock = some b → ¬ g.in_ b
theorem Pre.self (g : HE) : Pre g g := ⟨rfl, Nat.le_refl _, Nat.le_refl _, .inl rfl, .inl rfl, .inl rfl⟩
theorem hi_pre {w w' : World} {B : Nat} {f g : HE} (h : HI w f) (p : Pre f g) (hg' : OH w' B g) (ht : Tch g.in_ w w') (hlt : ∀ b, f.in_ b → b < w.heap.size) : HI w' f := by
  rcases p.hb with rfl | hb
  · exact hg'.hi
  · have hc : w'.heap[f.hb]? = w.heap[f.hb]? := ht.block _ (hlt _ (.inl rfl)) hb
    refine ⟨(World.cell?_of_block (w := w) (a := ⟨f.hb, 0, none⟩) hc).trans h.c0, (World.cell?_of_block (w := w) (a := ⟨f.hb, 1, none⟩) hc).trans h.c1, (World.cell?_of_block (w := w) (a := ⟨f.hb, 2, none⟩) hc).trans h.c2, ?_, ?_, h.m0, h.m1⟩
    · rcases p.vb with h1 | h1
      · obtain ⟨a, cap, g0, hv, hn, ha, hcl⟩ := h.b
        refine ⟨a, cap, g0, hv, hn, ha, fun j hj => ?_⟩
        obtain ⟨a2, cap2, g2, hv2, ha2, _, hc2⟩ := own_shape hg'.ob
        have hjg : j < g.nb := Nat.lt_of_lt_of_le hj p.nb
        rw [hv, hv2, ha (by omega), ha2 (by omega)] at h1
        have e : g0 = g2 := by simpa [Value.ownBlock] using h1
        rw [e, hc2 j hjg, marksB, List.getElem?_map, List.getElem?_eq_getElem (by simpa using hjg), p.m]
        simp
      · exact br_of h.b (fun b hb' => ht.block b (hlt _ (.inr (.inl hb'))) (h1 b hb'))
    · rcases p.vn with h1 | h1
      · obtain ⟨a, cap, g0, hv, hn, ha, hcl⟩ := h.n
        refine ⟨a, cap, g0, hv, hn, ha, fun j hj => ?_⟩
        obtain ⟨a2, cap2, g2, hv2, ha2, _, hc2⟩ := own_shape hg'.on
        have hjg : j < g.nn := Nat.lt_of_lt_of_le hj p.nn
        rw [hv, hv2, ha (by omega), ha2 (by omega)] at h1
        have e : g0 = g2 := by simpa [Value.ownBlock] using h1
        rw [e, hc2 j hjg, List.getElem?_eq_getElem (by simpa using hjg), p.m]
        simp
      · exact nr_of h.n (fun b hb' => ht.block b (hlt _ (.inr (.inr hb'))) (h1 b hb'))
theorem Pre.longer {w : World} {B : Nat} {f g g' : HE} (p : Pre f g) (hg : OH w B g) (hlt : ∀ b, f.in_ b → b < w.heap.size) (hm : g'.m = g.m) (hnb : g.nb ≤ g'.nb) (hnn : g.nn ≤ g'.nn) (hh : w.heap.size ≤ g'.hb)
    (hvb : g'.vb.ownBlock = g.vb.ownBlock ∨ ∀ b, g'.vb.ownBlock = some b → w.heap.size ≤ b) (hvn : g'.vn.ownBlock = g.vn.ownBlock ∨ ∀ b, g'.vn.ownBlock = some b → w.heap.size ≤ b) : Pre f g' := by
  refine ⟨p.m.trans hm.symm, Nat.le_trans p.nb hnb, Nat.le_trans p.nn hnn, ?_, ?_, ?_⟩
  · right
    have hl := hlt _ (.inl rfl)
    rintro (h | h | h)
    · omega
    · rcases hvb with h' | h'
      · rw [h'] at h
        rcases p.hb with rfl | hb
        · exact hg.h1 h
        · exact hb (.inr (.inl h))
      · have := h' _ h; omega
    · rcases hvn with h' | h'
      · rw [h'] at h
        rcases p.hb with rfl | hb
        · exact hg.h2 h
        · exact hb (.inr (.inr h))
      · have := h' _ h; omega
  · rcases p.vb with h1 | h1
    · rcases hvb with h' | h'
      · exact .inl (h1.trans h'.symm)
      · right
        intro b hb
        have hl := hlt _ (.inr (.inl hb))
        rintro (h | h | h)
        · omega
        · have := h' _ h; omega
        · rcases hvn with h2 | h2
          · rcases hg.h3 with h3 | h3
            · rw [h3] at h1; rw [h1] at hb; cases hb
            · exact h3 (h1.symm.trans (hb.trans (h.symm.trans h2)))
          · have := h2 _ h; omega
    · right
      intro b hb
      have hl := hlt _ (.inr (.inl hb))
      rintro (h | h | h)
      · omega
      · rcases hvb with h2 | h2
        · exact h1 b hb (.inr (.inl (h2.symm.trans h)))
        · have := h2 _ h; omega
      · rcases hvn with h2 | h2
        · exact h1 b hb (.inr (.inr (h2.symm.trans h)))
        · have := h2 _ h; omega
  · rcases p.vn with h1 | h1
    · rcases hvn with h' | h'
      · exact .inl (h1.trans h'.symm)
      · right
        intro b hb
        have hl := hlt _ (.inr (.inr hb))
        rintro (h | h | h)
        · omega
        · rcases hvb with h2 | h2
          · rcases hg.h3 with h3 | h3
            · rw [h2, h3] at h; cases h
            · exact h3 (h2.symm.trans (h.trans (hb.symm.trans h1)))
          · have := h2 _ h; omega
        · have := h' _ h; omega
    · right
      intro b hb
      have hl := hlt _ (.inr (.inr hb))
      rintro (h | h | h)
      · omega
      · rcases hvb with h2 | h2
        · exact h1 b hb (.inr (.inl (h2.symm.trans h)))
        · have := h2 _ h; omega
      · rcases hvn with h2 | h2
        · exact h1 b hb (.inr (.inr (h2.symm.trans h)))
        · have := h2 _ h; omega
end Go.Proofs.YtoeihlgidakjbaaGreatDoor
namespace Go.Proofs.YtoeihlgidakjbaaGreatDoor
open Go.RowKit Go.Lib
theorem WI.of_tch {w w' : World} {B wb : Nat} {vp vh : Value} {es : List HE} (h : WI w B wb vp vh es) {S : Nat → Prop} (ht : Tch S w w') (h1 : ¬ S wb) (h2 : ∀ b, vh.ownBlock = some b → ¬ S b) (h3 : ∀ e ∈ es, ∀ b, e.in_ b → ¬ S b) : WI w' B wb vp vh es := by
  have hc := ht.block wb h.lt h1
  exact ⟨(World.cell?_of_block (w := w) (a := ⟨wb, 0, none⟩) hc).trans h.p, (World.cell?_of_block (w := w) (a := ⟨wb, 1, none⟩) hc).trans h.h, (World.frozen?_of_block (w := w) (a := ⟨wb, 1, none⟩) hc).trans h.f, (World.frozen?_of_block (w := w) (a := ⟨wb, 0, none⟩) hc).trans h.f0,
    owns_tch h.own ht h2, fun e he => hi_of (h.all e he) (fun b hb => ht.block b (h.sep e he b hb).2.1 (h3 e he b hb)), Nat.lt_of_lt_of_le h.lt ht.size, h.ge, h.ne,
    fun e he b hb => ⟨(h.sep e he b hb).1, Nat.lt_of_lt_of_le (h.sep e he b hb).2.1 ht.size, (h.sep e he b hb).2.2⟩⟩
theorem push {w w1 : World} {B wb : Nat} {vp vh : Value} {es : List HE} {o : Obj} (h : WI w B wb vp vh es) (g : HE) (hg : HI w g) (hs : ∀ b, g.in_ b → B ≤ b ∧ b < w.heap.size ∧ b ≠ wb ∧ vh.ownBlock ≠ some b) {gv cap : Nat}
    (hr : (w.alloc o).grownBy w1 vh.ownBlock) (own : w1.ownsRow B 104 1 (.slice (some ⟨gv, 0, none⟩) (es.length + 1) cap) (es.length + 1) ((es.map fun e => .pointer (some ⟨e.hb, 0, none⟩)) ++ [.pointer (some ⟨g.hb, 0, none⟩)]))
    (hat : vh.ownBlock = some gv ∨ gv = w.heap.size + 1) :
    WI (w1.setCell ⟨wb, 1, none⟩ (.slice (some ⟨gv, 0, none⟩) (es.length + 1) cap)) B wb vp (.slice (some ⟨gv, 0, none⟩) (es.length + 1) cap) (es ++ [g]) ∧ Tch (fun b => b = wb ∨ vh.ownBlock = some b) w (w1.setCell ⟨wb, 1, none⟩ (.slice (some ⟨gv, 0, none⟩) (es.length + 1) cap)) := by
  have ht1 : Tch (fun b => vh.ownBlock = some b) w w1 := tch_grown hr
  have ht : Tch (fun b => b = wb ∨ vh.ownBlock = some b) w (w1.setCell ⟨wb, 1, none⟩ (.slice (some ⟨gv, 0, none⟩) (es.length + 1) cap)) := (ht1.mono (fun _ h => .inr h)).trans (Tch.set _ w1 ⟨wb, 1, none⟩ _ (.inl rfl))
  refine ⟨?_, ht⟩
  have hwb : w1.heap[wb]? = w.heap[wb]? := ht1.block wb h.lt h.ne
  have d1 : w1.cell? ⟨wb, 1, none⟩ = some vh := (World.cell?_of_block (w := w) (a := ⟨wb, 1, none⟩) hwb).trans h.h
  have hgv : gv ≠ wb := by
    rcases hat with h' | h'
    · exact fun e => h.ne (e ▸ h')
    · have := h.lt; omega
  have hgb : ∀ b, b < w.heap.size → vh.ownBlock ≠ some b → gv ≠ b := by
    intro b hb hn e
    rcases hat with h' | h'
    · exact hn (e ▸ h')
    · omega
  have hsz : w.heap.size ≤ w1.heap.size := ht1.size
  have hall : ∀ e, HI w e → (∀ b, e.in_ b → B ≤ b ∧ b < w.heap.size ∧ b ≠ wb ∧ vh.ownBlock ≠ some b) → HI (w1.setCell ⟨wb, 1, none⟩ (.slice (some ⟨gv, 0, none⟩) (es.length + 1) cap)) e := by
    intro e he hse
    refine hi_of he (fun b hb => ht.block b (hse b hb).2.1 ?_)
    rintro (h' | h')
    · exact (hse b hb).2.2.1 h'
    · exact (hse b hb).2.2.2 h'
  have hsep : ∀ e : HE, (∀ b, e.in_ b → B ≤ b ∧ b < w.heap.size ∧ b ≠ wb ∧ vh.ownBlock ≠ some b) → ∀ b, e.in_ b → B ≤ b ∧ b < (w1.setCell ⟨wb, 1, none⟩ (.slice (some ⟨gv, 0, none⟩) (es.length + 1) cap)).heap.size ∧ b ≠ wb ∧ (Value.slice (some ⟨gv, 0, none⟩) (es.length + 1) cap).ownBlock ≠ some b := by
    intro e hse b hb
    obtain ⟨q1, q2, q3, q4⟩ := hse b hb
    refine ⟨q1, by simp; omega, q3, ?_⟩
    have := hgb b q2 q4
    simpa [Value.ownBlock] using this
  refine ⟨?_, ?_, ?_, ?_, ?_, ?_, ?_, h.ge, ?_, ?_⟩
  · exact (World.cell?_setCell_other _ _ _ _ (by simp)).trans ((World.cell?_of_block (w := w) (a := ⟨wb, 0, none⟩) hwb).trans h.p)
  · exact World.cell?_setCell_same' w1 _ _ (by rw [d1]; rfl)
  · have := (World.frozen?_of_block (w := w) (a := ⟨wb, 1, none⟩) hwb).trans h.f
    simpa using this
  · have := (World.frozen?_of_block (w := w) (a := ⟨wb, 0, none⟩) hwb).trans h.f0
    simpa using this
  · have := owns_tch own (Tch.set (fun b => b = wb) w1 ⟨wb, 1, none⟩ (.slice (some ⟨gv, 0, none⟩) (es.length + 1) cap) rfl) (fun b h1 h2 => hgv (by simp [Value.ownBlock] at h1; omega))
    simpa using this
  · intro e he
    rcases List.mem_append.1 he with he | he
    · exact hall e (h.all e he) (h.sep e he)
    · rw [List.mem_singleton.1 he]; exact hall g hg hs
  · have := h.lt; simp; omega
  · simpa [Value.ownBlock] using hgv
  · intro e he
    rcases List.mem_append.1 he with he | he
    · exact hsep e (h.sep e he)
    · rw [List.mem_singleton.1 he]; exact hsep g hs
end Go.Proofs.YtoeihlgidakjbaaGreatDoor
namespace Go.Proofs.YtoeihlgidakjbaaGreatDoor
open Go.RowKit Go.Lib
structure KI (w wr : World) (B wb : Nat) (vp vh : Value) (es : List HE) (N : HE) (k : Nat) (vk : Value) (fs : List HE) (g : HE) : Prop where
  wi : WI wr B wb vp vk (es ++ fs)
  oh : OH wr B g
  len : fs.length = k + 1
  pre : ∀ f ∈ fs, Pre f g
  nb : g.nb = N.nb + k
  nn : g.nn = N.nn + k
  gs : ∀ b, g.in_ b → b ≠ wb ∧ vk.ownBlock ≠ some b ∧ b < wr.heap.size
  gn : ∀ b, g.in_ b → N.in_ b ∨ w.heap.size ≤ b
  fn : ∀ f ∈ fs, ∀ b, f.in_ b → N.in_ b ∨ w.heap.size ≤ b
  vk : vk.ownBlock = vh.ownBlock ∨ ∀ b, vk.ownBlock = some b → w.heap.size ≤ b
  t : Tch (fun b => b = wb ∨ vh.ownBlock = some b ∨ N.in_ b) w wr
theorem KI.next {w wr w2 w3 : World} {B wb : Nat} {vp vh vk : Value} {es fs : List HE} {N g e' : HE} {k gv cap : Nat} {o : Obj} (h : KI w wr B wb vp vh es N k vk fs g) (hes : ∀ e ∈ es, ∀ b, e.in_ b → b < w.heap.size ∧ ¬ N.in_ b)
    (q1 : OH w2 B e') (q2 : OH w2 B g) (q3 : e'.nb = g.nb + 1) (q4 : e'.nn = g.nn + 1) (q5 : e'.m = g.m) (q6 : wr.heap.size ≤ e'.hb) (q7 : ∀ b, e'.in_ b → g.in_ b ∨ wr.heap.size ≤ b) (q8 : ∀ b, e'.in_ b → b < w2.heap.size)
    (q9 : e'.vb.ownBlock = g.vb.ownBlock ∨ ∀ b, e'.vb.ownBlock = some b → wr.heap.size ≤ b) (q10 : e'.vn.ownBlock = g.vn.ownBlock ∨ ∀ b, e'.vn.ownBlock = some b → wr.heap.size ≤ b) (q11 : Tch g.in_ wr w2)
    (hr : (w2.alloc o).grownBy w3 vk.ownBlock) (own : w3.ownsRow B 104 1 (.slice (some ⟨gv, 0, none⟩) ((es ++ fs).length + 1) cap) ((es ++ fs).length + 1) (((es ++ fs).map fun e => .pointer (some ⟨e.hb, 0, none⟩)) ++ [.pointer (some ⟨e'.hb, 0, none⟩)]))
    (hat : vk.ownBlock = some gv ∨ gv = w2.heap.size + 1) :
    KI w (w3.setCell ⟨wb, 1, none⟩ (.slice (some ⟨gv, 0, none⟩) ((es ++ fs).length + 1) cap)) B wb vp vh es N (k + 1) (.slice (some ⟨gv, 0, none⟩) ((es ++ fs).length + 1) cap) (fs ++ [e']) e' := by
  have hsz : wr.heap.size ≤ w2.heap.size := q11.size
  have hsz0 : w.heap.size ≤ wr.heap.size := h.t.size
  -- the holds, behind longer
  have hsep := h.wi.sep
  have hfl : ∀ f ∈ fs, ∀ b, f.in_ b → b < wr.heap.size := fun f hf b hb => (hsep f (List.mem_append_right _ hf) b hb).2.1
  have wi2 : WI w2 B wb vp vk (es ++ fs) := by
    have hc := q11.block wb h.wi.lt (fun x => (h.gs wb x).1 rfl)
    refine ⟨(World.cell?_of_block (w := wr) (a := ⟨wb, 0, none⟩) hc).trans h.wi.p, (World.cell?_of_block (w := wr) (a := ⟨wb, 1, none⟩) hc).trans h.wi.h, (World.frozen?_of_block (w := wr) (a := ⟨wb, 1, none⟩) hc).trans h.wi.f, (World.frozen?_of_block (w := wr) (a := ⟨wb, 0, none⟩) hc).trans h.wi.f0,
      owns_tch h.wi.own q11 (fun b h1 h2 => (h.gs b h2).2.1 h1), ?_, Nat.lt_of_lt_of_le h.wi.lt hsz, h.wi.ge, h.wi.ne, fun e he b hb => ⟨(hsep e he b hb).1, Nat.lt_of_lt_of_le (hsep e he b hb).2.1 hsz, (hsep e he b hb).2.2⟩⟩
    intro e he
    have hhi := h.wi.all e he
    rcases List.mem_append.1 he with he | he
    · refine hi_of hhi (fun b hb => q11.block b (by have := (hes e he b hb).1; omega) (fun x => ?_))
      have := hes e he b hb
      rcases h.gn b x with h1 | h1
      · exact this.2 h1
      · omega
    · exact hi_pre hhi (h.pre e he) q2 q11 (hfl e he)
  have hge : ∀ b, e'.in_ b → B ≤ b := by
    rintro b (h1 | h1 | h1)
    · rw [h1]; exact q1.ge
    · exact (q1.ob.lt b h1).1
    · exact (q1.on.lt b h1).1
  have hvk : ∀ b, vk.ownBlock = some b → b < wr.heap.size := fun b hb => (h.wi.own.lt b hb).2
  have hs : ∀ b, e'.in_ b → B ≤ b ∧ b < w2.heap.size ∧ b ≠ wb ∧ vk.ownBlock ≠ some b := by
    intro b hb
    refine ⟨hge b hb, q8 b hb, ?_, ?_⟩
    · rcases q7 b hb with h1 | h1
      · exact (h.gs b h1).1
      · have := h.wi.lt; omega
    · rcases q7 b hb with h1 | h1
      · exact (h.gs b h1).2.1
      · intro x; have := hvk b x; omega
  obtain ⟨wi3, ht3⟩ := push wi2 e' q1.hi hs hr own hat
  have hsz3 : w2.heap.size ≤ (w3.setCell ⟨wb, 1, none⟩ (.slice (some ⟨gv, 0, none⟩) ((es ++ fs).length + 1) cap)).heap.size := ht3.size
  rw [List.append_assoc] at wi3
  refine ⟨wi3, ?_, by simp [h.len], ?_, by rw [q3, h.nb]; omega, by rw [q4, h.nn]; omega, ?_, ?_, ?_, ?_, ?_⟩
  · exact q1.of ht3 (fun b hb hx => hx.elim (hs b hb).2.2.1 (hs b hb).2.2.2)
  · intro f hf
    rcases List.mem_append.1 hf with hf | hf
    · exact (h.pre f hf).longer h.oh (hfl f hf) q5 (by omega) (by omega) q6 q9 q10
    · rw [List.mem_singleton.1 hf]; exact Pre.self _
  · intro b hb
    refine ⟨(hs b hb).2.2.1, ?_, by have := (hs b hb).2.1; omega⟩
    have h1 := hs b hb
    intro x
    have e : gv = b := by simpa [Value.ownBlock] using x
    rcases hat with h2 | h2
    · exact h1.2.2.2 (e ▸ h2)
    · omega
  · intro b hb
    rcases q7 b hb with h1 | h1
    · exact h.gn b h1
    · exact .inr (by omega)
  · intro f hf b hb
    rcases List.mem_append.1 hf with hf | hf
    · exact h.fn f hf b hb
    · rw [List.mem_singleton.1 hf] at hb
      rcases q7 b hb with h1 | h1
      · exact h.gn b h1
      · exact .inr (by omega)
  · rcases hat with h2 | h2
    · rcases h.vk with h3 | h3
      · left; rw [← h3, h2]; rfl
      · right; intro b hb; have e : gv = b := by simpa [Value.ownBlock] using hb
        exact h3 b (e ▸ h2)
    · right; intro b hb; have e : gv = b := by simpa [Value.ownBlock] using hb
      omega
  · refine Tch.restrict (((h.t.mono (fun b hb => .inl hb)).trans (q11.mono ?_)).trans (ht3.mono ?_))
    · intro b hb
      rcases h.gn b hb with h1 | h1
      · exact .inl (.inr (.inr h1))
      · exact .inr h1
    · rintro b (h1 | h1)
      · exact .inl (.inl h1)
      · rcases h.vk with h3 | h3
        · exact .inl (.inr (.inl (h3.symm.trans h1)))
        · exact .inr (h3 b h1)
end Go.Proofs.YtoeihlgidakjbaaGreatDoor
namespace Go.Proofs.YtoeihlgidakjbaaGreatDoor
open Go.RowKit Go.Lib
end Go.Proofs.YtoeihlgidakjbaaGreatDoor
namespace Go.Proofs.YtoeihlgidakjbaaGreatDoor
open Go.RowKit Go.Lib
theorem WI.below {w w' : World} {B wb : Nat} {vp vh : Value} {es : List HE} (h : WI w B wb vp vh es) (hb : Below w.heap.size w w') : WI w' B wb vp vh es :=
  h.of_tch (S := fun _ => False) (Tch.of_below hb) id (fun _ _ x => x) (fun _ _ _ _ x => x)
end Go.Proofs.YtoeihlgidakjbaaGreatDoor
namespace Go.Proofs.YtoeihlgidakjbaaGreatDoor
open Go.RowKit Go.Lib
def Roomy (v : Value) : Prop := ∃ a n c, v = .slice a n c ∧ n ≤ c
structure Pg where
  Lay : Type
  pb : Lay → Nat
  all : Lay → Nat → Prop
  PE : World → Nat → Lay → RE → Prop
  Gd : RE → Prop
  lt : ∀ {w : World} {B : Nat} {l : Lay} {m : RE}, PE w B l m → ∀ b, all l b → B ≤ b ∧ b < w.heap.size
  tch : ∀ {w w' : World} {B : Nat} {l : Lay} {m : RE} {S : Nat → Prop}, PE w B l m → Tch S w w' → (∀ b, all l b → ¬ S b) → PE w' B l m
  mono : ∀ {w : World} {B B' : Nat} {l : Lay} {m : RE}, PE w B l m → B' ≤ B → PE w B' l m
  gnew : ∀ L mg, Gd (newM L mg)
  gev : ∀ m k, Gd m → Gd (m.event k).1
  new : ∀ (X : Nat → Value) (L : Nat → List Int) (mg : Int) (w : World) {aS aC aF aL aO aH : Addr}, Gl w aS aC aF aL aO aH → (∀ i, i < 6 → IntsAt w (X i) (L i)) → (∀ i, i < 6 → Roomy (X i)) → (∀ i, i < 6 → (L i).length ≤ 17592186043904) →
    Calls Tryz.prog 45 #[.agg #[X 0, X 1, X 2, X 3, X 4, X 5, .int .i64 mg]] w fun r w' => Below w.heap.size w w' ∧
      (((∀ i, i < 6 → IsL (L i)) ∧ 1 ≤ mg ∧ mg ≤ 65535 ∧ ∃ l, r = .returned (.tuple #[.pointer (some ⟨pb l, 0, none⟩), .int .i64 0]) ∧ PE w' w.heap.size l (newM L mg)) ∨
       (¬ ((∀ i, i < 6 → IsL (L i)) ∧ 1 ≤ mg ∧ mg ≤ 65535) ∧ r = .returned (.tuple #[.pointer none, .int .i64 1])))
  event : ∀ (w : World) (B : Nat) (l : Lay) (m : RE) (k : Int) {aS aC aF aL aO aH : Addr}, Gl w aS aC aF aL aO aH → PE w B l m → Gd m → m.Lim 1400000000000 →
    Calls Tryz.prog 25 #[.pointer (some ⟨pb l, 0, none⟩), .int .i64 k] w fun r w' => ∃ v l', r = .returned v ∧ w'.ownsRow w.heap.size 5 1 v (m.event k).2.length ((m.event k).2.map bv) ∧ PE w' B l' (m.event k).1 ∧ pb l' = pb l ∧
      Tch (all l) w w' ∧ (∀ b, all l' b → all l b ∨ w.heap.size ≤ b) ∧ ∀ b, v.ownBlock = some b → ¬ all l' b
  state : ∀ (w : World) (B : Nat) (l : Lay) (m : RE), PE w B l m → Gd m → Calls Tryz.prog 24 #[.pointer (some ⟨pb l, 0, none⟩)] w fun r w' => r = .returned (.int .i64 (m.st : Int)) ∧ Below w.heap.size w w'
  told : ∀ (w : World) (B : Nat) (l : Lay) (m : RE), PE w B l m → Gd m → m.Lim 1400000000000 → Calls Tryz.prog 41 #[.pointer (some ⟨pb l, 0, none⟩)] w fun r w' => ∃ v, r = .returned v ∧ w'.ownsRow w.heap.size 3 1 v m.told.length (m.told.map iv) ∧ Below w.heap.size w w'
  agreed : ∀ (w : World) (B : Nat) (l : Lay) (m : RE), PE w B l m → Gd m → m.Lim 1400000000000 → Calls Tryz.prog 39 #[.pointer (some ⟨pb l, 0, none⟩)] w fun r w' => r = .returned (.tuple #[termsV m.sent, termsV m.agr]) ∧ Below w.heap.size w w'
section
variable {P : Pg}
structure PL (P : Pg) where
  pl : Nat
  l : P.Lay
  rb : Nat
  v : RV
  m : RE
def PL.in_ (x : PL P) (b : Nat) : Prop := b = x.pl ∨ P.all x.l b ∨ x.v.all x.rb b
def PL.ptr (x : PL P) : Value := .pointer (some ⟨x.pl, 0, none⟩)
structure PI1 (w : World) (B : Nat) (x : PL P) : Prop where
  blk : w.heap[x.pl]? = some (.cells #[.pointer (some ⟨P.pb x.l, 0, none⟩), .pointer (some ⟨x.rb, 0, none⟩)] 110 (0, 0))
  ge : B ≤ x.pl
  pe : P.PE w B x.l x.m
  ri : RI w B x.rb x.v x.m
  gd : P.Gd x.m
  d1 : ¬ P.all x.l x.pl
  d2 : ¬ x.v.all x.rb x.pl
  d3 : ∀ b, P.all x.l b → ¬ x.v.all x.rb b
theorem PI1.lt {w : World} {B : Nat} {x : PL P} (h : PI1 w B x) : ∀ b, x.in_ b → B ≤ b ∧ b < w.heap.size := by
  rintro b (rfl | hb | hb)
  · exact ⟨h.ge, blk_lt h.blk⟩
  · exact P.lt h.pe b hb
  · exact h.ri.lt b hb
theorem PI1.of_tch {w w' : World} {B : Nat} {x : PL P} {S : Nat → Prop} (h : PI1 w B x) (ht : Tch S w w') (hs : ∀ b, x.in_ b → ¬ S b) : PI1 w' B x :=
  ⟨(ht.block _ (blk_lt h.blk) (hs _ (.inl rfl))).trans h.blk, h.ge, P.tch h.pe ht (fun b hb => hs b (.inr (.inl hb))), h.ri.of_tch ht (fun b hb => hs b (.inr (.inr hb))), h.gd, h.d1, h.d2, h.d3⟩
structure WE (w : World) (B wb : Nat) (vp vh : Value) (es : List HE) (ps : List (PL P)) (n : Nat) : Prop where
  wi : WI w B wb vp vh es
  op : w.ownsRow B 107 1 vp ps.length (ps.map PL.ptr)
  len : ps.length ≤ 5
  vw : ∀ b, vp.ownBlock = some b → b ≠ wb ∧ vh.ownBlock ≠ some b ∧ ∀ e ∈ es, ¬ e.in_ b
  pi : ∀ x ∈ ps, PI1 w B x
  lim : ∀ x ∈ ps, x.m.Lim n
  sp : ∀ x ∈ ps, ∀ b, x.in_ b → b ≠ wb ∧ vh.ownBlock ≠ some b ∧ vp.ownBlock ≠ some b ∧ ∀ e ∈ es, ¬ e.in_ b
  pw : ∀ i j : Nat, i < j → ∀ x y : PL P, ps[i]? = some x → ps[j]? = some y → ∀ b, x.in_ b → ¬ y.in_ b
def Busy (wb : Nat) (vp vh : Value) (es : List HE) (ps : List (PL P)) (b : Nat) : Prop := b = wb ∨ vh.ownBlock = some b ∨ vp.ownBlock = some b ∨ (∃ e ∈ es, e.in_ b) ∨ ∃ x ∈ ps, x.in_ b
theorem WE.of_tch {w w' : World} {B wb : Nat} {vp vh : Value} {es : List HE} {ps : List (PL P)} {n : Nat} {S : Nat → Prop} (h : WE w B wb vp vh es ps n) (ht : Tch S w w') (hs : ∀ b, Busy wb vp vh es ps b → ¬ S b) : WE w' B wb vp vh es ps n :=
  ⟨h.wi.of_tch ht (hs wb (.inl rfl)) (fun b hb => hs b (.inr (.inl hb))) (fun e he b hb => hs b (.inr (.inr (.inr (.inl ⟨e, he, hb⟩))))),
   owns_tch h.op ht (fun b hb => hs b (.inr (.inr (.inl hb)))), h.len, h.vw,
   fun x hx => (h.pi x hx).of_tch ht (fun b hb => hs b (.inr (.inr (.inr (.inr ⟨x, hx, hb⟩))))), h.lim, h.sp, h.pw⟩
theorem WE.below {w w' : World} {B wb : Nat} {vp vh : Value} {es : List HE} {ps : List (PL P)} {n : Nat} (h : WE w B wb vp vh es ps n) (hb : Below w.heap.size w w') : WE w' B wb vp vh es ps n := h.of_tch (S := fun _ => False) (Tch.of_below hb) (fun _ _ x => x)
end
end Go.Proofs.YtoeihlgidakjbaaGreatDoor

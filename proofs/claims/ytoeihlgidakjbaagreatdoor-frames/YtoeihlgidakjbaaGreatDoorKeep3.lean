/- The laws' keep, walked. -/
import Derived.Test.YtoeihlgidakjbaaGreatDoorKeep2
namespace Go.Proofs.YtoeihlgidakjbaaGreatDoor
open Go.RowKit Go.Lib

/-- Where the loop of keep stands: k times longer; g the last hold, fs the new ones. -/
structure KI (w wr : World) (B wb : Nat) (vp vh : Value) (es : List HE) (N : HE) (k : Nat) (vk : Value) (fs : List HE) (g : HE) : Prop where
  wi : WI wr B wb vp vk (es ++ fs)
  oh : OH wr B g
  len : fs.length = k + 1
  pre : ∀ f ∈ fs, Pre f g
  nb : g.nb = N.nb + k
  nn : g.nn = N.nn + k
  gs : ∀ b, g.in_ b → b ≠ wb ∧ vk.ownBlock ≠ some b ∧ b < wr.heap.size
  gn : ∀ b, g.in_ b → N.in_ b ∨ w.heap.size ≤ b
  fn : ∀ f ∈ fs, ∀ b, f.in_ b → N.in_ b ∨ w.heap.size ≤ b
  vk : vk.ownBlock = vh.ownBlock ∨ ∀ b, vk.ownBlock = some b → w.heap.size ≤ b
  t : Tch (fun b => b = wb ∨ vh.ownBlock = some b ∨ N.in_ b) w wr
theorem KI.next {w wr w2 w3 : World} {B wb : Nat} {vp vh vk : Value} {es fs : List HE} {N g e' : HE} {k gv cap : Nat} {o : Obj} (h : KI w wr B wb vp vh es N k vk fs g) (hes : ∀ e ∈ es, ∀ b, e.in_ b → b < w.heap.size ∧ ¬ N.in_ b)
    (q1 : OH w2 B e') (q2 : OH w2 B g) (q3 : e'.nb = g.nb + 1) (q4 : e'.nn = g.nn + 1) (q5 : e'.m = g.m) (q6 : wr.heap.size ≤ e'.hb) (q7 : ∀ b, e'.in_ b → g.in_ b ∨ wr.heap.size ≤ b) (q8 : ∀ b, e'.in_ b → b < w2.heap.size)
    (q9 : e'.vb.ownBlock = g.vb.ownBlock ∨ ∀ b, e'.vb.ownBlock = some b → wr.heap.size ≤ b) (q10 : e'.vn.ownBlock = g.vn.ownBlock ∨ ∀ b, e'.vn.ownBlock = some b → wr.heap.size ≤ b) (q11 : Tch g.in_ wr w2)
    (hr : (w2.alloc o).grownBy w3 vk.ownBlock) (own : w3.ownsRow B 104 1 (.slice (some ⟨gv, 0, none⟩) ((es ++ fs).length + 1) cap) ((es ++ fs).length + 1) (((es ++ fs).map fun e => .pointer (some ⟨e.hb, 0, none⟩)) ++ [.pointer (some ⟨e'.hb, 0, none⟩)]))
    (hat : vk.ownBlock = some gv ∨ gv = w2.heap.size + 1) :
    KI w (w3.setCell ⟨wb, 1, none⟩ (.slice (some ⟨gv, 0, none⟩) ((es ++ fs).length + 1) cap)) B wb vp vh es N (k + 1) (.slice (some ⟨gv, 0, none⟩) ((es ++ fs).length + 1) cap) (fs ++ [e']) e' := by
  have hsz : wr.heap.size ≤ w2.heap.size := q11.size
  have hsz0 : w.heap.size ≤ wr.heap.size := h.t.size
  -- the holds, behind longer
  have hsep := h.wi.sep
  have hfl : ∀ f ∈ fs, ∀ b, f.in_ b → b < wr.heap.size := fun f hf b hb => (hsep f (List.mem_append_right _ hf) b hb).2.1
  have wi2 : WI w2 B wb vp vk (es ++ fs) := by
    have hc := q11.block wb h.wi.lt (fun x => (h.gs wb x).1 rfl)
    refine ⟨(World.cell?_of_block (w := wr) (a := ⟨wb, 0, none⟩) hc).trans h.wi.p, (World.cell?_of_block (w := wr) (a := ⟨wb, 1, none⟩) hc).trans h.wi.h, (World.frozen?_of_block (w := wr) (a := ⟨wb, 1, none⟩) hc).trans h.wi.f, (World.frozen?_of_block (w := wr) (a := ⟨wb, 0, none⟩) hc).trans h.wi.f0,
      owns_tch h.wi.own q11 (fun b h1 h2 => (h.gs b h2).2.1 h1), ?_, Nat.lt_of_lt_of_le h.wi.lt hsz, h.wi.ge, h.wi.ne, fun e he b hb => ⟨(hsep e he b hb).1, Nat.lt_of_lt_of_le (hsep e he b hb).2.1 hsz, (hsep e he b hb).2.2⟩⟩
    intro e he
    have hhi := h.wi.all e he
    rcases List.mem_append.1 he with he | he
    · refine hi_of hhi (fun b hb => q11.block b (by have := (hes e he b hb).1; omega) (fun x => ?_))
      have := hes e he b hb
      rcases h.gn b x with h1 | h1
      · exact this.2 h1
      · omega
    · exact hi_pre hhi (h.pre e he) q2 q11 (hfl e he)
  have hge : ∀ b, e'.in_ b → B ≤ b := by
    rintro b (h1 | h1 | h1)
    · rw [h1]; exact q1.ge
    · exact (q1.ob.lt b h1).1
    · exact (q1.on.lt b h1).1
  have hvk : ∀ b, vk.ownBlock = some b → b < wr.heap.size := fun b hb => (h.wi.own.lt b hb).2
  have hs : ∀ b, e'.in_ b → B ≤ b ∧ b < w2.heap.size ∧ b ≠ wb ∧ vk.ownBlock ≠ some b := by
    intro b hb
    refine ⟨hge b hb, q8 b hb, ?_, ?_⟩
    · rcases q7 b hb with h1 | h1
      · exact (h.gs b h1).1
      · have := h.wi.lt; omega
    · rcases q7 b hb with h1 | h1
      · exact (h.gs b h1).2.1
      · intro x; have := hvk b x; omega
  obtain ⟨wi3, ht3⟩ := push wi2 e' q1.hi hs hr own hat
  have hsz3 : w2.heap.size ≤ (w3.setCell ⟨wb, 1, none⟩ (.slice (some ⟨gv, 0, none⟩) ((es ++ fs).length + 1) cap)).heap.size := ht3.size
  rw [List.append_assoc] at wi3
  refine ⟨wi3, ?_, by simp [h.len], ?_, by rw [q3, h.nb]; omega, by rw [q4, h.nn]; omega, ?_, ?_, ?_, ?_, ?_⟩
  · exact q1.of ht3 (fun b hb hx => hx.elim (hs b hb).2.2.1 (hs b hb).2.2.2)
  · intro f hf
    rcases List.mem_append.1 hf with hf | hf
    · exact (h.pre f hf).longer h.oh (hfl f hf) q5 (by omega) (by omega) q6 q9 q10
    · rw [List.mem_singleton.1 hf]; exact Pre.self _
  · intro b hb
    refine ⟨(hs b hb).2.2.1, ?_, by have := (hs b hb).2.1; omega⟩
    have h1 := hs b hb
    intro x
    have e : gv = b := by simpa [Value.ownBlock] using x
    rcases hat with h2 | h2
    · exact h1.2.2.2 (e ▸ h2)
    · omega
  · intro b hb
    rcases q7 b hb with h1 | h1
    · exact h.gn b h1
    · exact .inr (by omega)
  · intro f hf b hb
    rcases List.mem_append.1 hf with hf | hf
    · exact h.fn f hf b hb
    · rw [List.mem_singleton.1 hf] at hb
      rcases q7 b hb with h1 | h1
      · exact h.gn b h1
      · exact .inr (by omega)
  · rcases hat with h2 | h2
    · rcases h.vk with h3 | h3
      · left; rw [← h3, h2]; rfl
      · right; intro b hb; have e : gv = b := by simpa [Value.ownBlock] using hb
        exact h3 b (e ▸ h2)
    · right; intro b hb; have e : gv = b := by simpa [Value.ownBlock] using hb
      omega
  · refine Tch.restrict (((h.t.mono (fun b hb => .inl hb)).trans (q11.mono ?_)).trans (ht3.mono ?_))
    · intro b hb
      rcases h.gn b hb with h1 | h1
      · exact .inl (.inr (.inr h1))
      · exact .inr h1
    · rintro b (h1 | h1)
      · exact .inl (.inl h1)
      · rcases h.vk with h3 | h3
        · exact .inl (.inr (.inl (h3.symm.trans h1)))
        · exact .inr (h3 b h1)
theorem KI.start {w w2 w3 : World} {B wb : Nat} {vp vh : Value} {es : List HE} {N : HE} {gv cap : Nat} {o : Obj} (hw : WI w B wb vp vh es) (sep : ∀ b, N.in_ b → b < w.heap.size ∧ b ≠ wb ∧ vh.ownBlock ≠ some b ∧ ∀ e ∈ es, ¬ e.in_ b)
    (ht : Tch N.in_ w w2) (oh : OH w2 B N) (hr : (w2.alloc o).grownBy w3 vh.ownBlock) (own : w3.ownsRow B 104 1 (.slice (some ⟨gv, 0, none⟩) (es.length + 1) cap) (es.length + 1) ((es.map fun e => .pointer (some ⟨e.hb, 0, none⟩)) ++ [.pointer (some ⟨N.hb, 0, none⟩)]))
    (hat : vh.ownBlock = some gv ∨ gv = w2.heap.size + 1) :
    KI w (w3.setCell ⟨wb, 1, none⟩ (.slice (some ⟨gv, 0, none⟩) (es.length + 1) cap)) B wb vp vh es N 0 (.slice (some ⟨gv, 0, none⟩) (es.length + 1) cap) [N] N := by
  have wi2 : WI w2 B wb vp vh es := hw.of_tch ht (fun x => (sep wb x).2.1 rfl) (fun b h1 h2 => (sep b h2).2.2.1 h1) (fun e he b h1 h2 => (sep b h2).2.2.2 e he h1)
  have hsz : w.heap.size ≤ w2.heap.size := ht.size
  have hge : ∀ b, N.in_ b → B ≤ b := by
    rintro b (h1 | h1 | h1)
    · rw [h1]; exact oh.ge
    · exact (oh.ob.lt b h1).1
    · exact (oh.on.lt b h1).1
  have hs : ∀ b, N.in_ b → B ≤ b ∧ b < w2.heap.size ∧ b ≠ wb ∧ vh.ownBlock ≠ some b := fun b hb => ⟨hge b hb, Nat.lt_of_lt_of_le (sep b hb).1 hsz, (sep b hb).2.1, (sep b hb).2.2.1⟩
  obtain ⟨wi3, ht3⟩ := push wi2 N oh.hi hs hr own hat
  have hsz3 := ht3.size
  refine ⟨wi3, oh.of ht3 (fun b hb hx => hx.elim (hs b hb).2.2.1 (hs b hb).2.2.2), rfl, ?_, rfl, rfl, ?_, fun b hb => .inl hb, fun f hf b hb => .inl (by rw [List.mem_singleton.1 hf] at hb; exact hb), ?_, ?_⟩
  · intro f hf
    rw [List.mem_singleton.1 hf]; exact Pre.self _
  · intro b hb
    refine ⟨(hs b hb).2.2.1, ?_, by have := (hs b hb).2.1; omega⟩
    have h1 := hs b hb
    intro x
    have e : gv = b := by simpa [Value.ownBlock] using x
    rcases hat with h2 | h2
    · exact h1.2.2.2 (e ▸ h2)
    · omega
  · rcases hat with h2 | h2
    · left; rw [h2]; rfl
    · right; intro b hb; have e : gv = b := by simpa [Value.ownBlock] using hb
      omega
  · exact (ht.mono (fun _ h => .inr (.inr h))).trans (ht3.mono (fun b h => h.elim .inl (fun x => .inr (.inl x))))

end Go.Proofs.YtoeihlgidakjbaaGreatDoor

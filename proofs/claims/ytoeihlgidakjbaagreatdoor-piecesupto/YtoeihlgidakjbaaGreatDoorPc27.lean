/- frames, end. tell, deliver. -/
import Derived.Test.YtoeihlgidakjbaaGreatDoorPc26
import Derived.Lib.ConvBytes
namespace Go.Proofs.YtoeihlgidakjbaaGreatDoor
open Go.RowKit Go.Lib
theorem cell_one_v (w : World) (v : Value) (T : Nat) : ∀ (j : Nat) (u : Value), [v][j]? = some u → (w.alloc (.cells #[v] T)).cell? (Addr.add ⟨w.heap.size, 0, none⟩ j) = some u := by
  intro j u hu
  match j with
  | 0 => simp at hu; subst hu; simp [Addr.add]
  | j + 1 => simp at hu
def lv (s : List UInt8) : Value := .string ⟨s.toArray⟩
def frOf (l : List UInt8) (k : Nat) : List (List UInt8) × Option (List UInt8) := (l.take k).foldl frStep ([], none)
theorem frOf_succ (l : List UInt8) (k : Nat) (h : k < l.length) : frOf l (k + 1) = frStep (frOf l k) l[k] := by
  unfold frOf
  rw [take_snoc l k h, List.foldl_append]; rfl
theorem frOf_some (l : List UInt8) (k : Nat) (h : k ≤ l.length) : (∀ c, (frOf l k).2 = some c → ∃ f, f + c.length = k ∧ c = (l.take k).drop f) ∧ (frOf l k).1.length ≤ k := by
  induction k with
  | zero => exact ⟨fun c e => (nomatch e), Nat.le_refl _⟩
  | succ k ih =>
    obtain ⟨h1, h2⟩ := ih (by omega)
    have hk : k < l.length := by omega
    rw [frOf_succ l k hk]
    have ht : l.take (k + 1) = l.take k ++ [l[k]] := take_snoc l k hk
    have hl : (l.take k).length = k := by rw [List.length_take]; omega
    unfold frStep
    split
    · refine ⟨fun c e => ?_, by show (frOf l k).1.length ≤ k + 1; omega⟩
      obtain ⟨d, h3, h4⟩ := Option.map_eq_some_iff.1 e
      obtain ⟨f, h5, h6⟩ := h1 d h3
      refine ⟨f, by rw [← h4]; simp; omega, ?_⟩
      rw [ht, List.drop_append_of_le_length (by omega), ← h6, ← h4]
    · cases hs : (frOf l k).2 with
      | none =>
        refine ⟨fun c e => ?_, by show (frOf l k).1.length ≤ k + 1; omega⟩
        cases e
        refine ⟨k, rfl, ?_⟩
        rw [ht, List.drop_append_of_le_length (by omega), List.drop_of_length_le (by omega)]
        rfl
      | some d => exact ⟨fun c e => (nomatch e), by simp; omega⟩
def frN (s : Option (List UInt8)) (k : Nat) : Int := match s with
  | none => -1
  | some c => (k : Int) - (c.length : Int)
set_option maxRecDepth 100000 in
set_option maxHeartbeats 4000000 in
theorem kframes_any (va : Value) (l : List UInt8) (w : World) (S : Nat → Prop) (hva : BytesAt w S va l) (hl : l.length ≤ 1000000) (hcl : ∀ a n c, va = .slice a n c → n ≤ c) :
    Calls Tryz.prog 28 #[va] w fun r w' => ∃ v, r = .returned v ∧ w'.ownsRow w.heap.size 9 1 v (framesL l).length ((framesL l).map lv) ∧ Below w.heap.size w w' := by
  obtain ⟨a, cap, g, off, rfl, ha, hrd⟩ := hva
  have hcap := hcl _ _ _ rfl
  obtain ⟨j0, hj, hy0, hy1, hy2⟩ := info_parts Tryz.infoS
  have HA : Hid (0 < l.length → a = some ⟨g, off, none⟩ ∧ g < w.heap.size ∧ ¬ S g) := ha
  have HR : Hid (0 < l.length → Rd w g off l) := hrd
  clear ha hrd
  go_enter Tryz.func28, Tryz.ntmps28
  go_wp2_with fail
  go_loopw [3, 4, 5] (fun v3 v4 v5 wr => ∃ (k : Nat), k ≤ l.length ∧ v5 = .int .i64 (k : Int) ∧ v4 = .int .i64 (frN (frOf l k).2 k) ∧ Hid (wr.ownsRow w.heap.size 9 1 v3 (frOf l k).1.length ((frOf l k).1.map lv) ∧ Below w.heap.size w wr)) (fun _ _ v5 _ => l.length - (intOf v5).toNat)
  case atStart => exact ⟨0, Nat.zero_le _, rfl, rfl, World.ownsRow_nil _ _ _ _, Below.refl _ _⟩
  case round =>
    obtain ⟨k, hk, rfl, rfl, HW⟩ := hrel
    by_cases hlt : k < l.length
    · obtain ⟨rfl, hgl, _⟩ := HA.out (by omega)
      have hI : (k : Int) < (l.length : Int) := by omega
      have ck : wr.cell? ⟨g, off + k, none⟩ = some (.int .u8 (l[k].toNat : Int)) := (HW.out.2.cell (p := ⟨g, off + k, none⟩) hgl).trans (HR.out (by omega) k hlt)
      have HN : Hid (frOf l (k + 1) = frStep (frOf l k) l[k]) := frOf_succ l k hlt
      have HF : Hid (_) := frOf_some l k hk
      generalize hx : l[k] = x at *
      have HX : Hid (l.take (k + 1) = l.take k ++ [x]) := by show _ = _; rw [← hx]; exact take_snoc l k hlt
      clear hx
      by_cases hf : x.toNat = 126
      · have hne : ((x.toNat : Int) != 126) = false := by simp [hf]
        cases hs : (frOf l k).2 with
        | none =>
          have HN1 : Hid (frOf l (k + 1) = ((frOf l k).1, some [x])) := by show _ = _; rw [HN.out]; unfold frStep; rw [if_neg (by omega), hs]
          have hneg : ((-1 : Int) < 0) := by omega
          clear hf hs
          simp only [frN]
          go_wp2_with fail
          exact ⟨⟨k + 1, by omega, by go_num, by rw [HN1.out]; simp, by rw [HN1.out]; exact HW⟩, by simp [intOf]; omega⟩
        | some c =>
          obtain ⟨f, hfc, hc⟩ := HF.out.1 c hs
          have hlen := HF.out.2
          have HN1 : Hid (frOf l (k + 1) = ((frOf l k).1 ++ [c ++ [x]], none)) := by show _ = _; rw [HN.out]; unfold frStep; rw [if_neg (by omega), hs]
          have hfn : frN (some c) k = (f : Int) := by simp only [frN]; omega
          rw [hfn]
          have hpos : ¬ (f : Int) < 0 := by omega
          have HT : Hid (Rd wr g (off + f) (c ++ [x])) := by
            intro j hj2
            have hj3 : f + j < l.length := by simp at hj2; omega
            have h1 := (HW.out.2.cell (p := ⟨g, off + (f + j), none⟩) hgl).trans (HR.out (by omega) (f + j) hj3)
            rw [Nat.add_assoc, h1]
            have : (c ++ [x])[j]? = l[f + j]? := by
              have h2 : c ++ [x] = (l.take (k + 1)).drop f := by
                rw [HX.out, List.drop_append_of_le_length (by rw [List.length_take]; omega), ← hc]
              rw [h2, List.getElem?_drop, List.getElem?_take_of_lt (by simp at hj2; omega)]
            rw [List.getElem?_eq_getElem hj2, List.getElem?_eq_getElem hj3] at this
            rw [Option.some.inj this]
          have hcv := conv_bytes wr g (off + f) (cap - f) (c ++ [x]) HT.out
          have hcl2 : (c ++ [x]).length = k + 1 - f := by simp; omega
          rw [hcl2] at hcv
          have OW : Hid (wr.ownsRow w.heap.size 9 1 u3 (frOf l k).1.length ((frOf l k).1.map lv)) := HW.out.1
          have hwz := HW.out.2.size
          have hfk : f ≤ k := by omega
          have hkc : k + 1 ≤ cap := by omega
          generalize frOf l k = fo at *
          clear hf hs hc HT
          go_wp2_with (at_builtin; go_must (refine wpList_append_own _ rfl (.tmp 20) (.tmp 27) 47 rfl w.heap.size 9 j0 (.string ⟨#[]⟩) 1 16 Tryz.underlying47 hj hy0 hy1 hy2 rfl (by decide) _ fo.1.length (fo.1.map lv) rfl (OW.out.alloc _) ⟨wr.heap.size, 0, none⟩ 1 1 [lv (c ++ [x])] rfl rfl (cell_one_v _ _ _) (by intro u hu; simp at hu; subst hu; rfl) (by unfold maxLen; omega) (by omega) (by simp; omega) ?_; intro v3 w3 hown3 hgrow3 _))
          have HE : Hid (w3.ownsRow w.heap.size 9 1 v3 (frOf l (k + 1)).1.length ((frOf l (k + 1)).1.map lv) ∧ Below w.heap.size w w3) := by
            refine ⟨?_, (HW.out.2.alloc hwz _).grown hgrow3 (by simp; omega) (fun b hb => (OW.out.lt b hb).1)⟩
            rw [HN1.out, List.map_append, List.length_append]; exact hown3
          exact ⟨⟨k + 1, by omega, by go_num, by rw [HN1.out]; rfl, HE⟩, by simp [intOf]; omega⟩
      · have hne : ((x.toNat : Int) != 126) = true := by simp; omega
        have HN1 : Hid (frOf l (k + 1) = ((frOf l k).1, (frOf l k).2.map (· ++ [x]))) := by show _ = _; rw [HN.out]; unfold frStep; rw [if_pos hf]
        have HN2 : Hid (frN (frOf l (k + 1)).2 (k + 1) = frN (frOf l k).2 k) := by
          show _ = _
          rw [HN1.out]
          cases (frOf l k).2 with
          | none => rfl
          | some c => simp only [frN, Option.map_some, List.length_append, List.length_cons, List.length_nil]; omega
        clear hf
        go_wp2_with fail
        exact ⟨⟨k + 1, by omega, by go_num, by rw [HN2.out], by rw [HN1.out]; exact HW⟩, by simp [intOf]; omega⟩
    · have hkl : k = l.length := by omega
      have hI : ¬ (k : Int) < (l.length : Int) := by omega
      have HE : Hid (frOf l k = l.foldl frStep ([], none)) := by show _ = _; unfold frOf; rw [hkl, List.take_length]
      go_wp2_with fail
      go_ret
      refine ⟨_, rfl, ?_, HW.out.2⟩
      have := HW.out.1
      rw [HE.out] at this
      exact this
end Go.Proofs.YtoeihlgidakjbaaGreatDoor
namespace Go.Proofs.YtoeihlgidakjbaaGreatDoor
open Go.RowKit Go.Lib
theorem QRow.shp {w : World} {B : Nat} {v : Value} {ps : List Pq} (h : QRow w B v ps) : ∃ a n c, v = .slice a n c := by
  obtain ⟨a, c, e, _⟩ := h.shape
  exact ⟨a, _, c, e⟩
theorem step_append_q {ops : Array Oper} {o : Oper} {a : Act} {K : Act → World → Prop} {Q : Exit → Act → World → Prop} {E : Prop} (w : World) (hgd : o.guard = none) (s x : Operand)
    (ho : o.op = .call { callee := .builtin .append, args := #[s, x], argTypes := #[47, 47] })
    (B : Nat) (v y : Value) (ps qs : List Pq) (hs : a.eval s = v) (hy : a.eval x = y) (hq : QRow w B v ps) (hx : Src Tryz.prog 1 47 y qs.length (qs.map sv) w) (hB : B ≤ w.heap.size) (hl : ps.length + qs.length ≤ 1000000000000)
    (h : ∀ v' w', QRow w' B v' (ps ++ qs) → Tch (fun b => v.ownBlock = some b) w w' → (∀ b, v'.ownBlock = some b → v.ownBlock = some b ∨ w.heap.size ≤ b) → K (a.put o.dst v') w') :
    if Region.wanted o (yielded ops a.tmps) = true then Oper.wp Tryz.prog o a w K Q else E := by
  have hw : Region.wanted o (yielded ops a.tmps) = true := by simp [Region.wanted, hgd]
  rw [if_pos hw]
  exact wp_append_q w s x ho B v y ps qs hs hy hq hx hB hl h
theorem frames_pk (va : Value) (ps : List Pq) (w : World) (S : Nat → Prop) (hva : BytesAt w S va (ps.flatMap Pq.line)) (hf : RE.Few ps) (hcl : ∀ a n c, va = .slice a n c → n ≤ c) :
    Calls Tryz.prog 28 #[va] w fun r w' => ∃ v, r = .returned v ∧ w'.ownsRow w.heap.size 9 1 v ps.length (ps.map sv) ∧ Below w.heap.size w w' := by
  have hlen : (ps.flatMap Pq.line).length ≤ 1000000 := by
    have : ∀ (l : List Pq), (∀ p ∈ l, p.Good) → (l.flatMap Pq.line).length ≤ 90 * l.length := by
      intro l
      induction l with
      | nil => intro _; simp
      | cons p l ih =>
        intro h
        have h1 := ih (fun q hq => h q (by simp [hq]))
        have h2 := p.line_len (h p (by simp))
        simp only [List.flatMap_cons, List.length_append, List.length_cons]; omega
    have h1 := this ps hf.1
    have h2 := hf.2
    omega
  have := kframes_any va _ w S hva hlen hcl
  have e : (ps.map Pq.line).map lv = ps.map sv := by rw [List.map_map]; rfl
  rw [framesL_lines, e, List.length_map] at this
  exact this
theorem owns_bytesAt {w : World} {B n : Nat} {v : Value} {l : List UInt8} (S : Nat → Prop) (h : w.ownsRow B 5 1 v n (l.map bv)) (hs : ∀ b, v.ownBlock = some b → ¬ S b) : BytesAt w S v l ∧ ∀ a k c, v = .slice a k c → k ≤ c := by
  have hn : n = l.length := by have := h.1; simp at this; omega
  subst hn
  rcases Nat.eq_zero_or_pos l.length with h0 | h0
  · obtain ⟨a, cap, g, rfl, _⟩ := own_shape h
    refine ⟨⟨a, cap, g, 0, rfl, fun x => by omega, fun x => by omega⟩, ?_⟩
    intro a' k c e
    cases e
    omega
  · obtain ⟨_, g, cap, rfl, h1, h2, h3, _, h4⟩ := owns_rd h h0
    refine ⟨⟨_, cap, g, 0, rfl, fun _ => ⟨rfl, h2, hs g rfl⟩, fun _ => h4⟩, ?_⟩
    intro a' k c e
    cases e
    exact h3
theorem BytesAt.kdrew {w : World} {S : Nat → Prop} {va : Value} {l : List UInt8} (h : BytesAt w S va l) : BytesAt w.drew S va l := h
theorem LI.sendB {W wq w3 : World} {B : Nat} {v : LV} {l : Ln} {v3 : Value} {qs : List Pq} (h : LI W B v l) (hbq : Below W.heap.size W wq) (hq3 : QRow w3 B v3 (l.toB ++ qs)) (ht3 : Tch (fun b => v.vB.ownBlock = some b) wq w3) (ho3 : ∀ b, v3.ownBlock = some b → v.vB.ownBlock = some b ∨ wq.heap.size ≤ b) :
    LI (w3.setCell ⟨v.ln, 16, none⟩ v3) B { v with vB := v3 } { l with toB := l.toB ++ qs } ∧ LS W (w3.setCell ⟨v.ln, 16, none⟩ v3) v { v with vB := v3 } := by
  have h1 := (h.below hbq).setB v3 (l.toB ++ qs) w3 ht3 hq3 ho3
  exact ⟨h1.1, LS.pre hbq h1.2⟩
theorem LI.sendA {W wq w3 : World} {B : Nat} {v : LV} {l : Ln} {v3 : Value} {qs : List Pq} (h : LI W B v l) (hbq : Below W.heap.size W wq) (hq3 : QRow w3 B v3 (l.toA ++ qs)) (ht3 : Tch (fun b => v.vA.ownBlock = some b) wq w3) (ho3 : ∀ b, v3.ownBlock = some b → v.vA.ownBlock = some b ∨ wq.heap.size ≤ b) :
    LI (w3.setCell ⟨v.ln, 17, none⟩ v3) B { v with vA := v3 } { l with toA := l.toA ++ qs } ∧ LS W (w3.setCell ⟨v.ln, 17, none⟩ v3) v { v with vA := v3 } := by
  have h1 := (h.below hbq).setA v3 (l.toA ++ qs) w3 ht3 hq3 ho3
  exact ⟨h1.1, LS.pre hbq h1.2⟩
set_option maxRecDepth 100000 in
set_option maxHeartbeats 4000000 in
theorem tell_a {B n : Nat} {v : LV} {l : Ln} (k : Int) (w : World) (h : LI w B v l) (ok : l.Ok n) (hn : n ≤ 900000000000) :
    Calls Tryz.prog 17 #[.pointer (some ⟨v.ln, 0, none⟩), .bool true, .int .i64 k] w fun r w' => r = .returned (.tuple #[]) ∧ ∃ v', LI w' B v' (l.tell true k) ∧ LS w w' v v' := by
  have HE : Hid (_) := pevent_all w B v.la l.a k h.pa ok.a.2.2.2.1 ((ok.a.1.lim ok.a.2).mono (by omega))
  have HF : Hid (RE.Few (l.a.eventP k)) := RE.eventP_few ok.a.1.ok k
  have HL : Hid (LI w B v l) := h
  have hlB := ok.lB
  have c0 : w.cell? ⟨v.ln, 0, none⟩ = some (.pointer (some ⟨v.la.pb, 0, none⟩)) := blk_cell h.blk
  clear h ok
  go_enter Tryz.func17, Tryz.ntmps17
  go_wp2_with fail
  refine Calls.mono HE.out ?_
  rintro e W ⟨vb, la', rfl, ho, hp, hpb, ht, hi, hown⟩
  obtain ⟨hL, hS⟩ := HL.out.endA la' _ hp hpb ht hi
  rw [RE.event_out] at ho
  have HBA : Hid (_) := owns_bytesAt (fun _ => False) ho (fun _ _ x => x)
  have HLI : Hid (_) := And.intro hL hS
  have c16 : W.cell? ⟨v.ln, 16, none⟩ = some v.vB := blk_cell hL.blk
  have c16d : W.drew.cell? ⟨v.ln, 16, none⟩ = some v.vB := c16
  have hz : v.ln < W.heap.size := blk_lt hL.blk
  have hB : B ≤ W.heap.size := Nat.le_trans hL.ge (Nat.le_of_lt hz)
  have hfl := HF.out.2
  clear hL hS ho hp hpb ht hi hown HE HL c0
  go_upto_region 2 with fail
  go_region_law (first | (go_simp; go_at_call 28; refine (frames_pk vb (l.a.eventP k) _ (fun _ => False) HBA.out.1.kdrew HF.out HBA.out.2).mono ?_; rintro e wq ⟨vq, rfl, hoq, hbq⟩; have hbq' : Below W.heap.size W wq := ⟨hbq.os, hbq.tape, hbq.output, hbq.size, hbq.block⟩; have q16 := (hbq'.cell (p := ⟨v.ln, 16, none⟩) hz).trans c16) | (refine step_append_q _ (by rfl) (.tmp 19) (.tmp 21) (by rfl) B v.vB vq l.toB (l.a.eventP k) (by rfl) (by rfl) (HLI.out.1.below hbq').qB (src_owns hoq) (by have := hbq'.size; omega) (by omega) ?_; intro v3 w3 hq3 ht3 ho3; obtain ⟨p3, n3, c3, rfl⟩ := hq3.shp; have bb : w3.heap[v.ln]? = _ := (ht3.block v.ln (blk_lt (HLI.out.1.below hbq').blk) (fun e => (HLI.out.1.eB _ e).1 rfl)).trans (HLI.out.1.below hbq').blk; have e16 : w3.cell? ⟨v.ln, 16, none⟩ = some v.vB := blk_cell bb; have f16 : w3.frozen? ⟨v.ln, 16, none⟩ = false := blk_free bb))
  all_goals
    go_end0
    obtain ⟨h1, h2⟩ := HLI.out.1.sendB hbq' hq3 ht3 ho3
    refine ⟨rfl, _, ?_, HLI.out.2.trans h2⟩
    exact h1
set_option maxRecDepth 100000 in
set_option maxHeartbeats 4000000 in
theorem tell_b {B n : Nat} {v : LV} {l : Ln} (k : Int) (w : World) (h : LI w B v l) (ok : l.Ok n) (hn : n ≤ 900000000000) :
    Calls Tryz.prog 17 #[.pointer (some ⟨v.ln, 0, none⟩), .bool false, .int .i64 k] w fun r w' => r = .returned (.tuple #[]) ∧ ∃ v', LI w' B v' (l.tell false k) ∧ LS w w' v v' := by
  have HE : Hid (_) := pevent_all w B v.lb l.b k h.pb ok.b.2.2.2.1 ((ok.b.1.lim ok.b.2).mono (by omega))
  have HF : Hid (RE.Few (l.b.eventP k)) := RE.eventP_few ok.b.1.ok k
  have HL : Hid (LI w B v l) := h
  have hlA := ok.lA
  have c1 : w.cell? ⟨v.ln, 1, none⟩ = some (.pointer (some ⟨v.lb.pb, 0, none⟩)) := blk_cell h.blk
  clear h ok
  go_enter Tryz.func17, Tryz.ntmps17
  go_wp2_with fail
  refine Calls.mono HE.out ?_
  rintro e W ⟨vb, lb', rfl, ho, hp, hpb, ht, hi, hown⟩
  obtain ⟨hL, hS⟩ := HL.out.endB lb' _ hp hpb ht hi
  rw [RE.event_out] at ho
  have HBA : Hid (_) := owns_bytesAt (fun _ => False) ho (fun _ _ x => x)
  have HLI : Hid (_) := And.intro hL hS
  have c17 : W.cell? ⟨v.ln, 17, none⟩ = some v.vA := blk_cell hL.blk
  have c17d : W.drew.cell? ⟨v.ln, 17, none⟩ = some v.vA := c17
  have hz : v.ln < W.heap.size := blk_lt hL.blk
  have hB : B ≤ W.heap.size := Nat.le_trans hL.ge (Nat.le_of_lt hz)
  have hfl := HF.out.2
  clear hL hS ho hp hpb ht hi hown HE HL c1
  go_upto_region 4 with fail
  go_region_law (first | (go_simp; go_at_call 28; refine (frames_pk vb (l.b.eventP k) _ (fun _ => False) HBA.out.1.kdrew HF.out HBA.out.2).mono ?_; rintro e wq ⟨vq, rfl, hoq, hbq⟩; have hbq' : Below W.heap.size W wq := ⟨hbq.os, hbq.tape, hbq.output, hbq.size, hbq.block⟩; have q17 := (hbq'.cell (p := ⟨v.ln, 17, none⟩) hz).trans c17) | (refine step_append_q _ (by rfl) (.tmp 35) (.tmp 37) (by rfl) B v.vA vq l.toA (l.b.eventP k) (by rfl) (by rfl) (HLI.out.1.below hbq').qA (src_owns hoq) (by have := hbq'.size; omega) (by omega) ?_; intro v3 w3 hq3 ht3 ho3; obtain ⟨p3, n3, c3, rfl⟩ := hq3.shp; have bb : w3.heap[v.ln]? = _ := (ht3.block v.ln (blk_lt (HLI.out.1.below hbq').blk) (fun e => (HLI.out.1.eA _ e).1 rfl)).trans (HLI.out.1.below hbq').blk; have e17 : w3.cell? ⟨v.ln, 17, none⟩ = some v.vA := blk_cell bb; have f17 : w3.frozen? ⟨v.ln, 17, none⟩ = false := blk_free bb))
  all_goals
    go_end0
    obtain ⟨h1, h2⟩ := HLI.out.1.sendA hbq' hq3 ht3 ho3
    refine ⟨rfl, _, ?_, HLI.out.2.trans h2⟩
    exact h1
theorem tell_any {B n : Nat} {v : LV} {l : Ln} (first : Bool) (k : Int) (w : World) (h : LI w B v l) (ok : l.Ok n) (hn : n ≤ 900000000000) :
    Calls Tryz.prog 17 #[.pointer (some ⟨v.ln, 0, none⟩), .bool first, .int .i64 k] w fun r w' => r = .returned (.tuple #[]) ∧ ∃ v', LI w' B v' (l.tell first k) ∧ LS w w' v v' := by
  cases first
  · exact tell_b k w h ok hn
  · exact tell_a k w h ok hn
end Go.Proofs.YtoeihlgidakjbaaGreatDoor

/- Pieces: three ends, and bytes beside them, step by step. Pieces: what the walk stands on: three new ends, a piece of what comes, a round's end. -/
import Derived.Test.YtoeihlgidakjbaaGreatDoorPc33
import Derived.Test.YtoeihlgidakjbaaGreatDoorPc31
import Derived.Test.YtoeihlgidakjbaaGreatDoorPc32
namespace Go.Proofs.YtoeihlgidakjbaaGreatDoor
open Go.RowKit Go.Lib
def TS (w : World) (B ex ey ez : Nat) (X Y Z : RE) (vs : List (Value × List UInt8)) : Prop := ∃ lx ly lz, T3 w B lx ly lz X Y Z ∧ lx.pb = ex ∧ ly.pb = ey ∧ lz.pb = ez ∧ ∀ q ∈ vs, BytesAt w (in3 lx ly lz) q.1 q.2
theorem TS.below {w w' : World} {B ex ey ez : Nat} {X Y Z : RE} {vs : List (Value × List UInt8)} (h : TS w B ex ey ez X Y Z vs) (hb : Below w.heap.size w w') : TS w' B ex ey ez X Y Z vs := by
  obtain ⟨lx, ly, lz, h1, h2, h3, h4, h5⟩ := h
  exact ⟨lx, ly, lz, h1.below hb, h2, h3, h4, fun q hq => (h5 q hq).keep (T := fun _ => False) (Tch.of_below hb) (fun _ x => x.elim) (fun _ x => .inl x)⟩
theorem TS.sub {w : World} {B ex ey ez : Nat} {X Y Z : RE} {vs us : List (Value × List UInt8)} (h : TS w B ex ey ez X Y Z vs) (hs : ∀ q ∈ us, q ∈ vs) : TS w B ex ey ez X Y Z us := by
  obtain ⟨lx, ly, lz, h1, h2, h3, h4, h5⟩ := h
  exact ⟨lx, ly, lz, h1, h2, h3, h4, fun q hq => h5 q (hs q hq)⟩
theorem TS.conv {w : World} {B ex ey ez : Nat} {X Y Z : RE} {vs : List (Value × List UInt8)} (h : TS w B ex ey ez X Y Z vs) {q : Value × List UInt8} (hq : q ∈ vs) : (convert 52 9 q.1).run Tryz.prog w = .ok (.string ⟨q.2.toArray⟩) w := by
  obtain ⟨lx, ly, lz, h1, h2, h3, h4, h5⟩ := h
  exact conv_at (h5 q hq)
theorem TS.src {w : World} {B ex ey ez : Nat} {X Y Z : RE} {vs : List (Value × List UInt8)} (h : TS w B ex ey ez X Y Z vs) {q : Value × List UInt8} (hq : q ∈ vs) : Src Tryz.prog 1 52 q.1 q.2.length (q.2.map bv) w := by
  obtain ⟨lx, ly, lz, h1, h2, h3, h4, h5⟩ := h
  exact src_of_bytes (h5 q hq)
theorem TS.shape {w : World} {B ex ey ez : Nat} {X Y Z : RE} {vs : List (Value × List UInt8)} (h : TS w B ex ey ez X Y Z vs) {q : Value × List UInt8} (hq : q ∈ vs) : ∃ a c, q.1 = .slice a q.2.length c := by
  obtain ⟨lx, ly, lz, h1, h2, h3, h4, h5⟩ := h
  obtain ⟨a, cap, _, _, e, _⟩ := h5 q hq
  exact ⟨a, cap, e⟩
theorem TS.addB {w w' : World} {B ex ey ez : Nat} {X Y Z : RE} {vs : List (Value × List UInt8)} (h : TS w B ex ey ez X Y Z vs) (hb : Below w.heap.size w w') {v : Value} {l : List UInt8} (hr : BRow w' w.heap.size v l) : TS w' B ex ey ez X Y Z ((v, l) :: vs) := by
  obtain ⟨lx, ly, lz, h1, h2, h3, h4, h5⟩ := h
  refine ⟨lx, ly, lz, h1.below hb, h2, h3, h4, fun q hq => ?_⟩
  rcases List.mem_cons.1 hq with rfl | hq
  · exact hr.bytesAt _ (fun b hb x => by have := (hr.lt b hb).1; have := (h1.lt b x).2; omega)
  · exact (h5 q hq).keep (T := fun _ => False) (Tch.of_below hb) (fun _ x => x.elim) (fun _ x => .inl x)
theorem TS.step {w w' : World} {B : Nat} {lx ly lz lx' ly' lz' : PLay} {X Y Z X' Y' Z' : RE} {vs : List (Value × List UInt8)} {T : Nat → Prop} (h1 : T3 w B lx ly lz X Y Z) (h5 : ∀ q ∈ vs, BytesAt w (in3 lx ly lz) q.1 q.2) (t : T3 w' B lx' ly' lz' X' Y' Z') (ht : Tch T w w') (hT : ∀ b, T b → in3 lx ly lz b) (hi : ∀ b, in3 lx' ly' lz' b → in3 lx ly lz b ∨ w.heap.size ≤ b) {v : Value} {n : Nat} {l : List UInt8} (ho : w'.ownsRow w.heap.size 5 1 v n (l.map bv)) (hw : ∀ b, v.ownBlock = some b → in3 lx' ly' lz' b → in3 lx ly lz b) (hB : B ≤ w.heap.size) :
    TS w' B lx'.pb ly'.pb lz'.pb X' Y' Z' ((v, l) :: vs) ∧ Below B w w' := by
  refine ⟨⟨lx', ly', lz', t, rfl, rfl, rfl, fun q hq => ?_⟩, ht.below hB (fun b hb => (h1.lt b (hT b hb)).1)⟩
  rcases List.mem_cons.1 hq with rfl | hq
  · exact (owns_bytesAt (in3 lx' ly' lz') ho (fun b hb x => by have := (h1.lt b (hw b hb x)).2; have := (ho.lt b hb).1; omega)).1
  · exact (h5 q hq).keep ht hT hi
section
variable {w : World} {B ex ey ez : Nat} {X Y Z : RE} {vs : List (Value × List UInt8)}
theorem TS.eventX (h : TS w B ex ey ez X Y Z vs) (k : Int) {n : Nat} (hb : X.Both n) (hn : n ≤ 900000000000) (hB : B ≤ w.heap.size) :
    Calls Tryz.prog 25 #[.pointer (some ⟨ex, 0, none⟩), .int .i64 k] w fun r w' => ∃ v, r = .returned v ∧ (TS w' B ex ey ez (X.event k).1 Y Z ((v, (X.eventP k).flatMap Pq.line) :: vs) ∧ Below B w w') := by
  obtain ⟨lx, ly, lz, h1, rfl, rfl, rfl, h5⟩ := h
  refine (pevent_at w B lx X k lx.pb rfl h1.px hb hn).mono ?_
  rintro r w' ⟨v, l', rfl, ho, hp, hpb, ht, hi, hw⟩
  have := TS.step h1 h5 (h1.stepX hp ht hi) ht (fun b x => .inl x) (fun b x => x.elim (fun y => (hi b y).imp .inl id) (fun y => .inl (.inr y))) ho (fun b hb x => x.elim (fun y => absurd y (hw b hb)) .inr) hB
  rw [hpb] at this
  exact ⟨v, rfl, this⟩
theorem TS.eventY (h : TS w B ex ey ez X Y Z vs) (k : Int) {n : Nat} (hb : Y.Both n) (hn : n ≤ 900000000000) (hB : B ≤ w.heap.size) :
    Calls Tryz.prog 25 #[.pointer (some ⟨ey, 0, none⟩), .int .i64 k] w fun r w' => ∃ v, r = .returned v ∧ (TS w' B ex ey ez X (Y.event k).1 Z ((v, (Y.eventP k).flatMap Pq.line) :: vs) ∧ Below B w w') := by
  obtain ⟨lx, ly, lz, h1, rfl, rfl, rfl, h5⟩ := h
  refine (pevent_at w B ly Y k ly.pb rfl h1.py hb hn).mono ?_
  rintro r w' ⟨v, l', rfl, ho, hp, hpb, ht, hi, hw⟩
  have := TS.step h1 h5 (h1.stepY hp ht hi) ht (fun b x => .inr (.inl x)) (fun b x => x.elim (fun y => .inl (.inl y)) fun y => y.elim (fun y => (hi b y).imp (fun z => .inr (.inl z)) id) (fun y => .inl (.inr (.inr y)))) ho (fun b hb x => x.elim .inl fun y => y.elim (fun y => absurd y (hw b hb)) (fun y => .inr (.inr y))) hB
  rw [hpb] at this
  exact ⟨v, rfl, this⟩
theorem TS.eventZ (h : TS w B ex ey ez X Y Z vs) (k : Int) {n : Nat} (hb : Z.Both n) (hn : n ≤ 900000000000) (hB : B ≤ w.heap.size) :
    Calls Tryz.prog 25 #[.pointer (some ⟨ez, 0, none⟩), .int .i64 k] w fun r w' => ∃ v, r = .returned v ∧ (TS w' B ex ey ez X Y (Z.event k).1 ((v, (Z.eventP k).flatMap Pq.line) :: vs) ∧ Below B w w') := by
  obtain ⟨lx, ly, lz, h1, rfl, rfl, rfl, h5⟩ := h
  refine (pevent_at w B lz Z k lz.pb rfl h1.pz hb hn).mono ?_
  rintro r w' ⟨v, l', rfl, ho, hp, hpb, ht, hi, hw⟩
  have := TS.step h1 h5 (h1.stepZ hp ht hi) ht (fun b x => .inr (.inr x)) (fun b x => x.elim (fun y => .inl (.inl y)) fun y => y.elim (fun y => .inl (.inr (.inl y))) (fun y => (hi b y).imp (fun z => .inr (.inr z)) id)) ho (fun b hb x => x.elim .inl fun y => y.elim (fun y => .inr (.inl y)) (fun y => absurd y (hw b hb))) hB
  rw [hpb] at this
  exact ⟨v, rfl, this⟩
theorem TS.bytesX (h : TS w B ex ey ez X Y Z vs) (w0 : World) (gz : Gz w0) (hb0 : Below w0.heap.size w0 w) (hB0 : w0.heap.size ≤ B) {q : Value × List UInt8} (hq : q ∈ vs) (ps : List Pq) (hs : q.2 = ps.flatMap Pq.line) (hps : ∀ p ∈ ps, p.Good) {n : Nat} (hb : X.Both n) (hg : X.got = []) (hn : n ≤ 900000000000) (hl : q.2.length ≤ 1000000) (hB : B ≤ w.heap.size) :
    Calls Tryz.prog 29 #[.pointer (some ⟨ex, 0, none⟩), q.1] w fun r w' => ∃ v, r = .returned v ∧ (TS w' B ex ey ez (X.hears ps).1 Y Z ((v, (X.hears ps).2.flatMap Pq.line) :: vs) ∧ Below B w w') := by
  obtain ⟨lx, ly, lz, h1, rfl, rfl, rfl, h5⟩ := h
  refine (pbytes_at w0 w B lx X q.1 q.2 _ _ (by rw [hs]; exact RE.bytes_lines ps X hps hg) lx.pb rfl gz hb0 hB0 h1.px hb hn hg hl ((h5 q hq).sub (fun b x => .inl x))).mono ?_
  rintro r w' ⟨v, l', rfl, ho, hp, hpb, ht, hi, hw⟩
  have := TS.step h1 h5 (h1.stepX hp ht hi) ht (fun b x => .inl x) (fun b x => x.elim (fun y => (hi b y).imp .inl id) (fun y => .inl (.inr y))) ho (fun b hb x => x.elim (fun y => absurd y (hw b hb)) .inr) hB
  rw [hpb] at this
  exact ⟨v, rfl, this⟩
theorem TS.bytesZ (h : TS w B ex ey ez X Y Z vs) (w0 : World) (gz : Gz w0) (hb0 : Below w0.heap.size w0 w) (hB0 : w0.heap.size ≤ B) {q : Value × List UInt8} (hq : q ∈ vs) (ps : List Pq) (hs : q.2 = ps.flatMap Pq.line) (hps : ∀ p ∈ ps, p.Good) {n : Nat} (hb : Z.Both n) (hg : Z.got = []) (hn : n ≤ 900000000000) (hl : q.2.length ≤ 1000000) (hB : B ≤ w.heap.size) :
    Calls Tryz.prog 29 #[.pointer (some ⟨ez, 0, none⟩), q.1] w fun r w' => ∃ v, r = .returned v ∧ (TS w' B ex ey ez X Y (Z.hears ps).1 ((v, (Z.hears ps).2.flatMap Pq.line) :: vs) ∧ Below B w w') := by
  obtain ⟨lx, ly, lz, h1, rfl, rfl, rfl, h5⟩ := h
  refine (pbytes_at w0 w B lz Z q.1 q.2 _ _ (by rw [hs]; exact RE.bytes_lines ps Z hps hg) lz.pb rfl gz hb0 hB0 h1.pz hb hn hg hl ((h5 q hq).sub (fun b x => .inr (.inr x)))).mono ?_
  rintro r w' ⟨v, l', rfl, ho, hp, hpb, ht, hi, hw⟩
  have := TS.step h1 h5 (h1.stepZ hp ht hi) ht (fun b x => .inr (.inr x)) (fun b x => x.elim (fun y => .inl (.inl y)) fun y => y.elim (fun y => .inl (.inr (.inl y))) (fun y => (hi b y).imp (fun z => .inr (.inr z)) id)) ho (fun b hb x => x.elim .inl fun y => y.elim (fun y => .inr (.inl y)) (fun y => absurd y (hw b hb))) hB
  rw [hpb] at this
  exact ⟨v, rfl, this⟩
theorem TS.pieceY (h : TS w B ex ey ez X Y Z vs) (w0 : World) (gz : Gz w0) (hb0 : Below w0.heap.size w0 w) (hB0 : w0.heap.size ≤ B) (R : ByteArray) {n : Nat} (hb : Y.Both n) (hg : Y.got.length ≤ 89) (hn : n ≤ 900000000000) (hl : R.size ≤ 5000000000) (hB : B ≤ w.heap.size) :
    Calls Tryz.prog 29 #[.pointer (some ⟨ey, 0, none⟩), .slice (some ⟨w.heap.size, 0, none⟩) R.size (grownCap w R.size 0 5)] (bytesWorld w 5 R) fun r w' => ∃ v, r = .returned v ∧ (TS w' B ex ey ez X (Y.bytes R.data.toList).1 Z ((v, (Y.bytes R.data.toList).2) :: vs) ∧ Below B w w') := by
  obtain ⟨lx, ly, lz, h1, rfl, rfl, rfl, h5⟩ := h
  refine (pbytes_raw w0 w B ly Y R ly.pb rfl gz hb0 hB0 h1.py hb hg hn hl).mono ?_
  rintro r w' ⟨v, l', rfl, ho, hp, hpb, ht, hi, hw⟩
  have := TS.step h1 h5 (h1.stepY hp ht hi) ht (fun b x => .inr (.inl x)) (fun b x => x.elim (fun y => .inl (.inl y)) fun y => y.elim (fun y => (hi b y).imp (fun z => .inr (.inl z)) id) (fun y => .inl (.inr (.inr y)))) ho (fun b hb x => x.elim .inl fun y => y.elim (fun y => absurd y (hw b hb)) (fun y => .inr (.inr y))) hB
  rw [hpb] at this
  exact ⟨v, rfl, this⟩
theorem TS.stateX (h : TS w B ex ey ez X Y Z vs) : Calls Tryz.prog 24 #[.pointer (some ⟨ex, 0, none⟩)] w fun r w' => r = .returned (.int .i64 (X.st : Int)) ∧ Below w.heap.size w w' := by
  obtain ⟨lx, ly, lz, h1, rfl, rfl, rfl, h5⟩ := h
  exact pstate h1.px
theorem TS.stateY (h : TS w B ex ey ez X Y Z vs) : Calls Tryz.prog 24 #[.pointer (some ⟨ey, 0, none⟩)] w fun r w' => r = .returned (.int .i64 (Y.st : Int)) ∧ Below w.heap.size w w' := by
  obtain ⟨lx, ly, lz, h1, rfl, rfl, rfl, h5⟩ := h
  exact pstate h1.py
theorem TS.stateZ (h : TS w B ex ey ez X Y Z vs) : Calls Tryz.prog 24 #[.pointer (some ⟨ez, 0, none⟩)] w fun r w' => r = .returned (.int .i64 (Z.st : Int)) ∧ Below w.heap.size w w' := by
  obtain ⟨lx, ly, lz, h1, rfl, rfl, rfl, h5⟩ := h
  exact pstate h1.pz
end
def StrsAt (w : World) (v : Value) (l : List ByteArray) : Prop := ∃ a cap g off, v = .slice a l.length cap ∧ (0 < l.length → a = some ⟨g, off, none⟩ ∧ g < w.heap.size) ∧ ∀ k (h : k < l.length), w.cell? ⟨g, off + k, none⟩ = some (.string l[k])
end Go.Proofs.YtoeihlgidakjbaaGreatDoor
namespace Go.Proofs.YtoeihlgidakjbaaGreatDoor
open Go.RowKit Go.Lib
theorem ts_new {w w3 w4 w5 : World} {B : Nat} {lx ly lz : PLay} {X Y Z : RE} (hB : w.heap.size = B) (hx : PE w3 w.heap.size lx X) (hy : PE w4 w3.heap.size ly Y) (hz : PE w5 w4.heap.size lz Z) (b3 : Below w.heap.size w w3) (b4 : Below w3.heap.size w3 w4) (b5 : Below w4.heap.size w4 w5) : TS w5 B lx.pb ly.pb lz.pb X Y Z [] := by
  subst hB
  have hx5 : PE w5 w.heap.size lx X := (hx.tch (Tch.of_below (S := fun _ => False) b4) (fun _ _ x => x)).tch (Tch.of_below (S := fun _ => False) b5) (fun _ _ x => x)
  have hy5 : PE w5 w.heap.size ly Y := (hy.tch (Tch.of_below (S := fun _ => False) b5) (fun _ _ x => x)).mono b3.size
  refine ⟨lx, ly, lz, ⟨hx5, hy5, hz.mono (Nat.le_trans b3.size b4.size), fun b p q => ?_, fun b p q => ?_, fun b p q => ?_⟩, rfl, rfl, rfl, fun _ q => (nomatch q)⟩
  · have := (hx.lt b p).2; have := (hy.lt b q).1; omega
  · have := (hx.lt b p).2; have := (hz.lt b q).1; have := b4.size; omega
  · have := (hy.lt b p).2; have := (hz.lt b q).1; omega
theorem flat_len (ps : List Pq) (h : ∀ p ∈ ps, p.Good) (hl : ps.length ≤ 2) : (ps.flatMap Pq.line).length ≤ 180 := by
  have key : ∀ ps : List Pq, (∀ p ∈ ps, p.Good) → (ps.flatMap Pq.line).length ≤ 90 * ps.length := by
    intro ps
    induction ps with
    | nil => intro _; exact Nat.zero_le _
    | cons p r ih =>
      intro h
      have h1 := p.line_len (h p (List.mem_cons_self ..))
      have h2 := ih (fun q hq => h q (List.mem_cons_of_mem _ hq))
      rw [List.flatMap_cons, List.length_append, List.length_cons]
      omega
  have := key ps h
  omega
theorem extract_list (A : ByteArray) (f t : Nat) : (A.extract f t).data.toList = (A.data.toList.drop f).take (t - f) := by
  rw [ByteArray.data_extract, Array.toList_extract]
theorem piece_eq (X : RE) (A : ByteArray) (f t : Nat) (h1 : f ≤ t) (_h2 : t ≤ A.size) : X.bytes (A.data.toList.take t) = (((X.bytes (A.data.toList.take f)).1.bytes (A.extract f t).data.toList).1, (X.bytes (A.data.toList.take f)).2 ++ ((X.bytes (A.data.toList.take f)).1.bytes (A.extract f t).data.toList).2) := by
  have e : A.data.toList.take t = A.data.toList.take f ++ (A.extract f t).data.toList := by
    rw [extract_list]
    have := List.take_add (l := A.data.toList) (i := f) (j := t - f)
    rw [show f + (t - f) = t by omega] at this
    exact this
  rw [e, RE.bytes_app]
theorem mid_both {X : RE} {n : Nat} (h : X.Both n) (hn : n ≤ 50000) (A : ByteArray) (f : Nat) (hf : f ≤ A.size) (hA : A.size ≤ 2097400) : (X.bytes (A.data.toList.take f)).1.Both 500000000 ∧ (X.bytes (A.data.toList.take f)).2.length ≤ 10000000000 := by
  have hl : (A.data.toList.take f).length = f := by rw [List.length_take]; simp; omega
  obtain ⟨h1, h2⟩ := RE.bytes_both h f (A.data.toList.take f) hl
  have := h2 (by omega) (by omega)
  exact ⟨h1.mono (by omega), by omega⟩
def PcI (wr : World) (B ex ey ez : Nat) (vp vr : Value) (pp : List Pq) (k : Nat) : Prop := ∃ L : Ln, TS wr B ex ey ez L.a L.a L.b [(vr, L.toA.flatMap Pq.line), (vp, pp.flatMap Pq.line)] ∧ Pr k L ∧ L.toB = (if k = 0 then pp else [])
theorem brow_below {W w1 w2 : World} {u : Value} {l : List UInt8} (hb : Below W.heap.size W w1) (hu : BRow w1 W.heap.size u l) (ht : Tch (fun b => u.ownBlock = some b) w1 w2) : Below W.heap.size W w2 :=
  hb.trans (ht.below hb.size (fun b hx => (hu.lt b hx).1))
theorem up_eq {k : Nat} {L : Ln} {pp : List Pq} (h : L.toB = (if k = 0 then pp else [])) : (if k = 0 then pp.flatMap Pq.line else []) ++ (L.a.hears L.toA).2.flatMap Pq.line = L.sweepA.toB.flatMap Pq.line := by
  show _ = (L.toB ++ (L.a.hears L.toA).2).flatMap Pq.line
  rw [List.flatMap_append, h]
  split <;> rfl
theorem up_len {k : Nat} {L : Ln} {pp : List Pq} (h : L.toB = (if k = 0 then pp else [])) (hPr : Pr k L) : (if k = 0 then pp.flatMap Pq.line else []).length + ((L.a.hears L.toA).2.flatMap Pq.line).length ≤ 180 := by
  rw [← List.length_append, up_eq h]
  exact flat_len _ (hPr.ok.sweepA _ rfl).pB hPr.bt.len.2.2
theorem pc_step {W w1 : World} {B ex ey ez : Nat} {vp u : Value} {pp : List Pq} {k : Nat} {L : Ln} {vs : List (Value × List UInt8)} (hT : TS W B ex ey ez (L.a.hears L.toA).1 (L.a.hears L.toA).1 L.b vs) (hv : (vp, pp.flatMap Pq.line) ∈ vs) (hPr : Pr k L) (hk : k < 12) (hLB : L.toB = (if k = 0 then pp else [])) (hb : Below W.heap.size W w1) (hu : BRow w1 W.heap.size u ((if k = 0 then pp.flatMap Pq.line else []) ++ (L.a.hears L.toA).2.flatMap Pq.line)) (w0 : World) (gz : Gz w0) (hb0 : Below w0.heap.size w0 W) (hB0 : w0.heap.size ≤ B) (hB : B ≤ W.heap.size) :
    Calls Tryz.prog 29 #[.pointer (some ⟨ez, 0, none⟩), u] w1 fun r w' => ∃ v, r = .returned v ∧ PcI w' B ex ey ez vp v pp (k + 1) ∧ Below B W w' := by
  rw [up_eq hLB] at hu
  have o1 := hPr.ok.sweepA _ rfl
  have n1 := hPr.bt.len
  have T1 := hT.addB hb hu
  have hl := flat_len L.sweepA.toB o1.pB n1.2.2
  refine (T1.bytesZ w0 gz (hb0.trans (hb.mono hb0.size)) hB0 (q := (u, L.sweepA.toB.flatMap Pq.line)) (List.mem_cons_self ..) L.sweepA.toB rfl o1.pB (n := 800 + 1200 * k + 200 * L.toA.length) o1.b o1.gb (by omega) (by show (L.sweepA.toB.flatMap Pq.line).length ≤ _; omega) (Nat.le_trans hB hb.size)).mono ?_
  rintro r w' ⟨v, rfl, h1, h2⟩
  obtain ⟨p1, p2⟩ := hPr.round
  refine ⟨v, rfl, ⟨L.round, ?_, p1, by rw [p2, if_neg (by omega)]⟩, (hb.mono hB).trans h2⟩
  refine (h1 : TS w' B ex ey ez L.round.a L.round.a L.round.b ((v, L.round.toA.flatMap Pq.line) :: (u, L.sweepA.toB.flatMap Pq.line) :: vs)).sub ?_
  intro q hq
  simp only [List.mem_cons, List.not_mem_nil, or_false] at hq
  rcases hq with rfl | rfl
  · exact List.mem_cons_self ..
  · exact List.mem_cons_of_mem _ (List.mem_cons_of_mem _ hv)
end Go.Proofs.YtoeihlgidakjbaaGreatDoor

/- What is asked of a program's ends; the laws' world with its ends. The laws' told and asked, over a world with ends. The laws' asked, over a world with ends. -/
import Derived.Test.YtoeihlgidakjbaaGreatDoorEa7
import Derived.Test.YtoeihlgidakjbaaGreatDoorEa16
import Derived.Test.YtoeihlgidakjbaaGreatDoorEa17
import Derived.Test.YtoeihlgidakjbaaGreatDoorEa2
import Derived.ChangeKeysEq
namespace Go.Proofs.YtoeihlgidakjbaaGreatDoor
open Go.RowKit Go.Lib
def Roomy (v : Value) : Prop := ∃ a n c, v = .slice a n c ∧ n ≤ c
structure Pg where
  Lay : Type
  pb : Lay → Nat
  all : Lay → Nat → Prop
  PE : World → Nat → Lay → RE → Prop
  Gd : RE → Prop
  lt : ∀ {w : World} {B : Nat} {l : Lay} {m : RE}, PE w B l m → ∀ b, all l b → B ≤ b ∧ b < w.heap.size
  tch : ∀ {w w' : World} {B : Nat} {l : Lay} {m : RE} {S : Nat → Prop}, PE w B l m → Tch S w w' → (∀ b, all l b → ¬ S b) → PE w' B l m
  mono : ∀ {w : World} {B B' : Nat} {l : Lay} {m : RE}, PE w B l m → B' ≤ B → PE w B' l m
  gnew : ∀ L mg, Gd (newM L mg)
  gev : ∀ m k, Gd m → Gd (m.event k).1
  new : ∀ (X : Nat → Value) (L : Nat → List Int) (mg : Int) (w : World) {aS aC aF aL aO aH : Addr}, Gl w aS aC aF aL aO aH → (∀ i, i < 6 → IntsAt w (X i) (L i)) → (∀ i, i < 6 → Roomy (X i)) → (∀ i, i < 6 → (L i).length ≤ 17592186043904) →
    Calls Tryz.prog 45 #[.agg #[X 0, X 1, X 2, X 3, X 4, X 5, .int .i64 mg]] w fun r w' => Below w.heap.size w w' ∧
      (((∀ i, i < 6 → IsL (L i)) ∧ 1 ≤ mg ∧ mg ≤ 65535 ∧ ∃ l, r = .returned (.tuple #[.pointer (some ⟨pb l, 0, none⟩), .int .i64 0]) ∧ PE w' w.heap.size l (newM L mg)) ∨
       (¬ ((∀ i, i < 6 → IsL (L i)) ∧ 1 ≤ mg ∧ mg ≤ 65535) ∧ r = .returned (.tuple #[.pointer none, .int .i64 1])))
  event : ∀ (w : World) (B : Nat) (l : Lay) (m : RE) (k : Int) {aS aC aF aL aO aH : Addr}, Gl w aS aC aF aL aO aH → PE w B l m → Gd m → m.Lim 1400000000000 →
    Calls Tryz.prog 25 #[.pointer (some ⟨pb l, 0, none⟩), .int .i64 k] w fun r w' => ∃ v l', r = .returned v ∧ w'.ownsRow w.heap.size 5 1 v (m.event k).2.length ((m.event k).2.map bv) ∧ PE w' B l' (m.event k).1 ∧ pb l' = pb l ∧
      Tch (all l) w w' ∧ (∀ b, all l' b → all l b ∨ w.heap.size ≤ b) ∧ ∀ b, v.ownBlock = some b → ¬ all l' b
  state : ∀ (w : World) (B : Nat) (l : Lay) (m : RE), PE w B l m → Gd m → Calls Tryz.prog 24 #[.pointer (some ⟨pb l, 0, none⟩)] w fun r w' => r = .returned (.int .i64 (m.st : Int)) ∧ Below w.heap.size w w'
  told : ∀ (w : World) (B : Nat) (l : Lay) (m : RE), PE w B l m → Gd m → m.Lim 1400000000000 → Calls Tryz.prog 41 #[.pointer (some ⟨pb l, 0, none⟩)] w fun r w' => ∃ v, r = .returned v ∧ w'.ownsRow w.heap.size 3 1 v m.told.length (m.told.map iv) ∧ Below w.heap.size w w'
  agreed : ∀ (w : World) (B : Nat) (l : Lay) (m : RE), PE w B l m → Gd m → m.Lim 1400000000000 → Calls Tryz.prog 39 #[.pointer (some ⟨pb l, 0, none⟩)] w fun r w' => r = .returned (.tuple #[termsV m.sent, termsV m.agr]) ∧ Below w.heap.size w w'
section
variable {P : Pg}
structure PL (P : Pg) where
  pl : Nat
  l : P.Lay
  rb : Nat
  v : RV
  m : RE
def PL.in_ (x : PL P) (b : Nat) : Prop := b = x.pl ∨ P.all x.l b ∨ x.v.all x.rb b
def PL.ptr (x : PL P) : Value := .pointer (some ⟨x.pl, 0, none⟩)
structure PI1 (w : World) (B : Nat) (x : PL P) : Prop where
  blk : w.heap[x.pl]? = some (.cells #[.pointer (some ⟨P.pb x.l, 0, none⟩), .pointer (some ⟨x.rb, 0, none⟩)] 110 (0, 0))
  ge : B ≤ x.pl
  pe : P.PE w B x.l x.m
  ri : RI w B x.rb x.v x.m
  gd : P.Gd x.m
  d1 : ¬ P.all x.l x.pl
  d2 : ¬ x.v.all x.rb x.pl
  d3 : ∀ b, P.all x.l b → ¬ x.v.all x.rb b
theorem PI1.lt {w : World} {B : Nat} {x : PL P} (h : PI1 w B x) : ∀ b, x.in_ b → B ≤ b ∧ b < w.heap.size := by
  rintro b (rfl | hb | hb)
  · exact ⟨h.ge, blk_lt h.blk⟩
  · exact P.lt h.pe b hb
  · exact h.ri.lt b hb
theorem PI1.of_tch {w w' : World} {B : Nat} {x : PL P} {S : Nat → Prop} (h : PI1 w B x) (ht : Tch S w w') (hs : ∀ b, x.in_ b → ¬ S b) : PI1 w' B x :=
  ⟨(ht.block _ (blk_lt h.blk) (hs _ (.inl rfl))).trans h.blk, h.ge, P.tch h.pe ht (fun b hb => hs b (.inr (.inl hb))), h.ri.of_tch ht (fun b hb => hs b (.inr (.inr hb))), h.gd, h.d1, h.d2, h.d3⟩
structure WE (w : World) (B wb : Nat) (vp vh : Value) (es : List HE) (ps : List (PL P)) (n : Nat) : Prop where
  wi : WI w B wb vp vh es
  op : w.ownsRow B 107 1 vp ps.length (ps.map PL.ptr)
  len : ps.length ≤ 5
  vw : ∀ b, vp.ownBlock = some b → b ≠ wb ∧ vh.ownBlock ≠ some b ∧ ∀ e ∈ es, ¬ e.in_ b
  pi : ∀ x ∈ ps, PI1 w B x
  lim : ∀ x ∈ ps, x.m.Lim n
  sp : ∀ x ∈ ps, ∀ b, x.in_ b → b ≠ wb ∧ vh.ownBlock ≠ some b ∧ vp.ownBlock ≠ some b ∧ ∀ e ∈ es, ¬ e.in_ b
  pw : ∀ i j : Nat, i < j → ∀ x y : PL P, ps[i]? = some x → ps[j]? = some y → ∀ b, x.in_ b → ¬ y.in_ b
def Busy (wb : Nat) (vp vh : Value) (es : List HE) (ps : List (PL P)) (b : Nat) : Prop := b = wb ∨ vh.ownBlock = some b ∨ vp.ownBlock = some b ∨ (∃ e ∈ es, e.in_ b) ∨ ∃ x ∈ ps, x.in_ b
theorem WE.busy_lt {w : World} {B wb : Nat} {vp vh : Value} {es : List HE} {ps : List (PL P)} {n : Nat} (h : WE w B wb vp vh es ps n) : ∀ b, Busy wb vp vh es ps b → B ≤ b ∧ b < w.heap.size := by
  rintro b (rfl | hb | hb | ⟨e, he, hb⟩ | ⟨x, hx, hb⟩)
  · exact ⟨h.wi.ge, h.wi.lt⟩
  · exact h.wi.own.lt b hb
  · exact h.op.lt b hb
  · exact ⟨(h.wi.sep e he b hb).1, (h.wi.sep e he b hb).2.1⟩
  · exact (h.pi x hx).lt b hb
theorem WE.of_tch {w w' : World} {B wb : Nat} {vp vh : Value} {es : List HE} {ps : List (PL P)} {n : Nat} {S : Nat → Prop} (h : WE w B wb vp vh es ps n) (ht : Tch S w w') (hs : ∀ b, Busy wb vp vh es ps b → ¬ S b) : WE w' B wb vp vh es ps n :=
  ⟨h.wi.of_tch ht (hs wb (.inl rfl)) (fun b hb => hs b (.inr (.inl hb))) (fun e he b hb => hs b (.inr (.inr (.inr (.inl ⟨e, he, hb⟩))))),
   owns_tch h.op ht (fun b hb => hs b (.inr (.inr (.inl hb)))), h.len, h.vw,
   fun x hx => (h.pi x hx).of_tch ht (fun b hb => hs b (.inr (.inr (.inr (.inr ⟨x, hx, hb⟩))))), h.lim, h.sp, h.pw⟩
theorem WE.below {w w' : World} {B wb : Nat} {vp vh : Value} {es : List HE} {ps : List (PL P)} {n : Nat} (h : WE w B wb vp vh es ps n) (hb : Below w.heap.size w w') : WE w' B wb vp vh es ps n := h.of_tch (S := fun _ => False) (Tch.of_below hb) (fun _ _ x => x)
theorem WE.limit {w : World} {B wb : Nat} {vp vh : Value} {es : List HE} {ps : List (PL P)} {n k : Nat} (h : WE w B wb vp vh es ps n) (hk : n ≤ k) : WE w B wb vp vh es ps k :=
  ⟨h.wi, h.op, h.len, h.vw, h.pi, fun x hx => (h.lim x hx).mono hk, h.sp, h.pw⟩
theorem WE.kept {w w' : World} {B wb : Nat} {vp vh vh' : Value} {es es' : List HE} {ps : List (PL P)} {n : Nat} {N : HE} (h : WE w B wb vp vh es ps n) (wi : WI w' B wb vp vh' es') (ht : Tch (fun b => b = wb ∨ vh.ownBlock = some b ∨ N.in_ b) w w')
    (hN : ∀ b, N.in_ b → ¬ Busy wb vp vh es ps b) (hv : ∀ b, vh'.ownBlock = some b → vh.ownBlock = some b ∨ w.heap.size ≤ b) (he : ∀ e ∈ es', ∀ b, e.in_ b → (∃ f ∈ es, f.in_ b) ∨ N.in_ b ∨ w.heap.size ≤ b) : WE w' B wb vp vh' es' ps n := by
  have off : ∀ b, b < w.heap.size → vh.ownBlock ≠ some b → vh'.ownBlock ≠ some b := fun b hb hn x => by
    rcases hv b x with y | y
    · exact hn y
    · omega
  have offe : ∀ b, b < w.heap.size → (∀ e ∈ es, ¬ e.in_ b) → ¬ N.in_ b → ∀ e ∈ es', ¬ e.in_ b := fun b hb h1 h2 e he' x => by
    rcases he e he' b x with ⟨f, hf, y⟩ | y | y
    · exact h1 f hf y
    · exact h2 y
    · omega
  have vpT : ∀ b, vp.ownBlock = some b → ¬ (b = wb ∨ vh.ownBlock = some b ∨ N.in_ b) := by
    rintro b hb (x | x | x)
    · exact (h.vw b hb).1 x
    · exact (h.vw b hb).2.1 x
    · exact hN b x (.inr (.inr (.inl hb)))
  have psT : ∀ x ∈ ps, ∀ b, x.in_ b → ¬ (b = wb ∨ vh.ownBlock = some b ∨ N.in_ b) := by
    rintro y hy b hb (x | x | x)
    · exact (h.sp y hy b hb).1 x
    · exact (h.sp y hy b hb).2.1 x
    · exact hN b x (.inr (.inr (.inr (.inr ⟨y, hy, hb⟩))))
  refine ⟨wi, owns_tch h.op ht vpT, h.len, ?_, fun x hx => (h.pi x hx).of_tch ht (psT x hx), h.lim, ?_, h.pw⟩
  · intro b hb
    have hl := (h.op.lt b hb).2
    obtain ⟨a1, a2, a3⟩ := h.vw b hb
    exact ⟨a1, off b hl a2, offe b hl a3 (fun x => hN b x (.inr (.inr (.inl hb))))⟩
  · intro x hx b hb
    have hl := ((h.pi x hx).lt b hb).2
    obtain ⟨a1, a2, a3, a4⟩ := h.sp x hx b hb
    exact ⟨a1, off b hl a2, a3, offe b hl a4 (fun y => hN b y (.inr (.inr (.inr (.inr ⟨x, hx, hb⟩)))))⟩
theorem WE.turned {w w' : World} {B wb : Nat} {vp vh : Value} {es : List HE} {ps : List (PL P)} {n k : Nat} (h : WE w B wb vp vh es ps n) (hnk : n ≤ k) (i : Nat) (x y : PL P) (hi : ps[i]? = some x) (hp : y.pl = x.pl) (hy : PI1 w' B y) (hl : y.m.Lim k)
    (ht : Tch x.in_ w w') (hin : ∀ b, y.in_ b → x.in_ b ∨ w.heap.size ≤ b) : WE w' B wb vp vh es (ps.set i y) k := by
  have hil : i < ps.length := (List.getElem?_eq_some_iff.1 hi).1
  have hx : x ∈ ps := List.mem_of_getElem? hi
  have other : ∀ j z, j ≠ i → ps[j]? = some z → ∀ b, z.in_ b → ¬ x.in_ b := by
    intro j z hj hz b hb hxb
    rcases Nat.lt_or_gt_of_ne hj with q | q
    · exact h.pw j i q z x hz hi b hb hxb
    · exact h.pw i j q x z hi hz b hxb hb
  have get : ∀ j z, (ps.set i y)[j]? = some z → (j = i ∧ z = y) ∨ (j ≠ i ∧ ps[j]? = some z) := by
    intro j z hz
    by_cases e : i = j
    · subst e
      rw [List.getElem?_set_self hil] at hz
      exact .inl ⟨rfl, (Option.some.inj hz).symm⟩
    · rw [List.getElem?_set_ne e] at hz
      exact .inr ⟨fun q => e q.symm, hz⟩
  have mem : ∀ z ∈ ps.set i y, z = y ∨ ∃ j, j ≠ i ∧ ps[j]? = some z := by
    intro z hz
    obtain ⟨j, hj⟩ := List.getElem?_of_mem hz
    rcases get j z hj with ⟨_, q⟩ | ⟨q1, q2⟩
    · exact .inl q
    · exact .inr ⟨j, q1, q2⟩
  have sx := h.sp x hx
  have hptr : (ps.set i y).map PL.ptr = ps.map PL.ptr := by
    apply List.ext_getElem?
    intro j
    rw [List.getElem?_map, List.getElem?_map]
    by_cases e : i = j
    · subst e
      rw [List.getElem?_set_self hil, hi]
      simp [PL.ptr, hp]
    · rw [List.getElem?_set_ne e]
  refine ⟨h.wi.of_tch ht (fun q => (sx wb q).1 rfl) (fun b hb q => (sx b q).2.1 hb) (fun e he b hb q => (sx b q).2.2.2 e he hb),
    ?_, by rw [List.length_set]; exact h.len, h.vw, ?_, ?_, ?_, ?_⟩
  · rw [List.length_set, hptr]
    exact owns_tch h.op ht (fun b hb q => (sx b q).2.2.1 hb)
  · intro z hz
    rcases mem z hz with rfl | ⟨j, hj, hz'⟩
    · exact hy
    · exact (h.pi z (List.mem_of_getElem? hz')).of_tch ht (other j z hj hz')
  · intro z hz
    rcases mem z hz with rfl | ⟨j, hj, hz'⟩
    · exact hl
    · exact (h.lim z (List.mem_of_getElem? hz')).mono hnk
  · intro z hz b hb
    rcases mem z hz with rfl | ⟨j, hj, hz'⟩
    · rcases hin b hb with q | q
      · exact sx b q
      · have fresh : ∀ c, Busy wb vp vh es ps c → c ≠ b := fun c hc e => by have := (h.busy_lt c hc).2; omega
        refine ⟨fun e => fresh wb (.inl rfl) e.symm, fun e => fresh b (.inr (.inl e)) rfl, fun e => fresh b (.inr (.inr (.inl e))) rfl, fun e he q => fresh b (.inr (.inr (.inr (.inl ⟨e, he, q⟩)))) rfl⟩
    · exact h.sp z (List.mem_of_getElem? hz') b hb
  · intro a c hac p q hpa hqc b hpb hqb
    rcases get a p hpa with ⟨ea, ep⟩ | ⟨na, hp'⟩ <;> rcases get c q hqc with ⟨ec, eq⟩ | ⟨nc, hq'⟩
    · omega
    · subst ep
      have hq2 := (h.pi q (List.mem_of_getElem? hq')).lt b hqb
      rcases hin b hpb with r | r
      · exact other c q nc hq' b hqb r
      · omega
    · subst eq
      have hp2 := (h.pi p (List.mem_of_getElem? hp')).lt b hpb
      rcases hin b hqb with r | r
      · exact other a p na hp' b hpb r
      · omega
    · exact h.pw a c hac p q hp' hq' b hpb hqb
end
end Go.Proofs.YtoeihlgidakjbaaGreatDoor
namespace Go.Proofs.YtoeihlgidakjbaaGreatDoor
open Go.RowKit Go.Lib
section
variable {P : Pg}
theorem keepn_new {B wb : Nat} {vp vh v : Value} {k n : Nat} {xs : List Value} {es : List HE} {ps : List (PL P)} (w : World) (hw : WE w B wb vp vh es ps n) (on : w.ownsRow B 3 1 v k xs) (hk : k + 3 ≤ 17592186044000) (hes : es.length + 4 ≤ 17000000000000) (sep : ∀ b, v.ownBlock = some b → ¬ Busy wb vp vh es ps b) :
    Calls Tryz.prog 57 #[.pointer (some ⟨wb, 0, none⟩), .pointer (some ⟨w.heap.size, 0, none⟩)] (w.alloc (.cells #[.slice none 0 0, v, .int .i64 0] 106)) fun r w' => r = .returned (.tuple #[]) ∧ ∃ vh' es', es'.length = es.length + 4 ∧ WE w' B wb vp vh' es' ps n ∧ Tch (fun b => b = wb ∨ vh.ownBlock = some b ∨ v.ownBlock = some b) w w' ∧ (∀ b, vh'.ownBlock = some b → vh.ownBlock = some b ∨ w.heap.size ≤ b) ∧ ∀ e ∈ es', ∀ b, e.in_ b → (∃ f ∈ es, f.in_ b) ∨ v.ownBlock = some b ∨ w.heap.size ≤ b := by
  have hba : Below w.heap.size w (w.alloc (.cells #[.slice none 0 0, v, .int .i64 0] 106)) := (Below.refl _ _).alloc (Nat.le_refl _) _
  have hB : B ≤ w.heap.size := Nat.le_trans hw.wi.ge (Nat.le_of_lt hw.wi.lt)
  have hNB : ∀ b, HE.in_ ⟨w.heap.size, .slice none 0 0, 0, v, k, (es.length : Int) + 1⟩ b → ¬ Busy wb vp vh es ps b := by
    rintro b (h | h | h)
    · simp only at h
      subst h
      intro x
      have := (hw.busy_lt _ x).2
      omega
    · simp [Value.ownBlock] at h
    · exact sep b h
  refine (keep_any2 (hb := w.heap.size) (vb := .slice none 0 0) (vn := v) (nb := 0) (nn := k) (xs := []) (ys := xs) _ (hw.wi.below hba) (by simp) (by simp) (by simp) (by simp) (World.ownsRow_nil _ _ _ _) (on.alloc _) (by simp) hB (by simp [Value.ownBlock]) ?_ (.inl rfl) (by omega) hk hes ?_).mono ?_
  · intro x; have := (on.lt _ x).2; omega
  · intro b hb
    have := hNB b hb
    exact ⟨fun e => this (.inl e), fun e => this (.inr (.inl e)), fun e he x => this (.inr (.inr (.inr (.inl ⟨e, he, x⟩))))⟩
  · rintro r w' ⟨rfl, vh', es', h1, h2, h3, h4, h5⟩
    have hsz : w.heap.size ≤ (w.alloc (.cells #[.slice none 0 0, v, .int .i64 0] 106)).heap.size := hba.size
    have kept := (hw.below hba).kept h2 h3 hNB h4 h5
    refine ⟨rfl, vh', es', h1, kept, Tch.restrict ((Tch.of_below hba).trans (h3.mono ?_)), ?_, ?_⟩
    · rintro b (h | h | h | h | h)
      · exact .inl (.inl h)
      · exact .inl (.inr (.inl h))
      · exact .inr (by simp only at h; omega)
      · simp [Value.ownBlock] at h
      · exact .inl (.inr (.inr h))
    · intro b hb
      rcases h4 b hb with x | x
      · exact .inl x
      · exact .inr (by omega)
    · intro e he b hb
      rcases h5 e he b hb with x | x | x
      · exact .inl x
      · rcases x with x | x | x
        · exact .inr (.inr (by simp only at x; omega))
        · simp [Value.ownBlock] at x
        · exact .inr (.inl x)
      · exact .inr (.inr (by omega))
theorem keepb_new {B wb : Nat} {vp vh v : Value} {k n : Nat} {xs : List Value} {es : List HE} {ps : List (PL P)} (w : World) (hw : WE w B wb vp vh es ps n) (ob : w.ownsRow B 5 1 v k xs) (hk : k + 3 ≤ 140737488352000) (hes : es.length + 4 ≤ 17000000000000) (sep : ∀ b, v.ownBlock = some b → ¬ Busy wb vp vh es ps b) :
    Calls Tryz.prog 57 #[.pointer (some ⟨wb, 0, none⟩), .pointer (some ⟨w.heap.size, 0, none⟩)] (w.alloc (.cells #[v, .slice none 0 0, .int .i64 0] 106)) fun r w' => r = .returned (.tuple #[]) ∧ ∃ vh' es', es'.length = es.length + 4 ∧ WE w' B wb vp vh' es' ps n ∧ Tch (fun b => b = wb ∨ vh.ownBlock = some b ∨ v.ownBlock = some b) w w' := by
  have hba : Below w.heap.size w (w.alloc (.cells #[v, .slice none 0 0, .int .i64 0] 106)) := (Below.refl _ _).alloc (Nat.le_refl _) _
  have hB : B ≤ w.heap.size := Nat.le_trans hw.wi.ge (Nat.le_of_lt hw.wi.lt)
  have hNB : ∀ b, HE.in_ ⟨w.heap.size, v, k, .slice none 0 0, 0, (es.length : Int) + 1⟩ b → ¬ Busy wb vp vh es ps b := by
    rintro b (h | h | h)
    · simp only at h
      subst h
      intro x
      have := (hw.busy_lt _ x).2
      omega
    · exact sep b h
    · simp [Value.ownBlock] at h
  refine (keep_any2 (hb := w.heap.size) (vb := v) (vn := .slice none 0 0) (nb := k) (nn := 0) (xs := xs) (ys := []) _ (hw.wi.below hba) (by simp) (by simp) (by simp) (by simp) (ob.alloc _) (World.ownsRow_nil _ _ _ _) (by simp) hB ?_ (by simp [Value.ownBlock]) ?_ hk (by omega) hes ?_).mono ?_
  · intro x; have := (ob.lt _ x).2; omega
  · by_cases h : v.ownBlock = none
    · exact .inl h
    · exact .inr (by simpa [Value.ownBlock] using h)
  · intro b hb
    have := hNB b hb
    exact ⟨fun e => this (.inl e), fun e => this (.inr (.inl e)), fun e he x => this (.inr (.inr (.inr (.inl ⟨e, he, x⟩))))⟩
  · rintro r w' ⟨rfl, vh', es', h1, h2, h3, h4, h5⟩
    have kept := (hw.below hba).kept h2 h3 hNB h4 h5
    refine ⟨rfl, vh', es', h1, kept, Tch.restrict ((Tch.of_below hba).trans (h3.mono ?_))⟩
    rintro b (h | h | h | h | h)
    · exact .inl (.inl h)
    · exact .inl (.inr (.inl h))
    · exact .inr (by simp only at h; omega)
    · exact .inl (.inr (.inr h))
    · simp [Value.ownBlock] at h
set_option maxHeartbeats 1000000 in
theorem sameE {B wb : Nat} {vp vh v : Value} {k n : Nat} {l : List UInt8} {es : List HE} {ps : List (PL P)} (w : World) (hw : WE w B wb vp vh es ps n) (ob : w.ownsRow B 5 1 v k (l.map bv)) (hk : k + 3 ≤ 140737488352000) (hes : es.length + 4 ≤ 17000000000000) (sep : ∀ b, v.ownBlock = some b → ¬ Busy wb vp vh es ps b) :
    Calls Tryz.prog 53 #[.pointer (some ⟨wb, 0, none⟩), v, .string ⟨l.toArray⟩] w fun r w' => r = .returned (.bool true) ∧ ∃ vh' es', es'.length = es.length + 4 ∧ WE w' B wb vp vh' es' ps n ∧ Tch (fun b => b = wb ∨ vh.ownBlock = some b ∨ v.ownBlock = some b) w w' := by
  have hcv := conv_own ob
  have HK : Hid (_) := keepb_new w hw ob hk hes sep
  obtain ⟨a, cap, g, hv, _, _, _⟩ := own_shape ob
  subst hv
  clear ob hw sep
  go_enter Tryz.func53, Tryz.ntmps53
  go_wp2_with fail
  refine Calls.mono HK.out ?_
  rintro r w' ⟨rfl, h⟩
  clear hcv HK
  have H : Hid (_) := h
  clear h
  go_wp2_with fail
  go_ret
  exact ⟨rfl, H.out⟩
set_option maxRecDepth 100000 in
set_option maxHeartbeats 2000000 in
theorem told_any {B wb : Nat} {vp vh : Value} {n : Nat} {es : List HE} {ps : List (PL P)} (w : World) (hw : WE w B wb vp vh es ps n) (hn : n ≤ 1400000000000) (hes : es.length + 4 ≤ 17000000000000) (x : PL P) (hx : x ∈ ps) :
    Calls Tryz.prog 85 #[.pointer (some ⟨wb, 0, none⟩), .pointer (some ⟨x.pl, 0, none⟩)] w fun r w' => r = .returned (.bool true) ∧ ∃ vh' es', es'.length = es.length + 4 ∧ WE w' B wb vp vh' es' ps n ∧ Below B w w' := by
  have hpi := hw.pi x hx
  have hlim := hw.lim x hx
  have c0 : w.cell? ⟨x.pl, 0, none⟩ = some (.pointer (some ⟨P.pb x.l, 0, none⟩)) := blk_cell hpi.blk
  have HW : Hid (WE w B wb vp vh es ps n) := hw
  have HP : Hid (PI1 w B x) := hpi
  have HLim : Hid (x.m.Lim n) := hlim
  have htl := hlim.told
  clear hw hpi hlim
  go_enter Tryz.func85, Tryz.ntmps85
  go_wp2_with fail
  refine (P.told w B x.l x.m HP.out.pe HP.out.gd (HLim.out.mono hn)).mono ?_
  rintro e w1 ⟨v, rfl, ho, hb⟩
  obtain ⟨a, cap, g, rfl, ha, _, hc⟩ := own_shape ho
  have hp1 := HP.out.of_tch (S := fun _ => False) (Tch.of_below hb) (fun _ _ x => x)
  obtain ⟨a2, cap2, g2, hv2, ha2, _, hc2⟩ := own_shape hp1.ri.ot
  have d1 : w1.cell? ⟨x.pl, 1, none⟩ = some (.pointer (some ⟨x.rb, 0, none⟩)) := blk_cell hp1.blk
  have d8 : w1.cell? ⟨x.rb, 8, none⟩ = some (.slice a2 x.m.told.length cap2) := (blk_cell hp1.ri.blk).trans (by rw [← hv2]; rfl)
  have HA : Hid (0 < x.m.told.length → a = some ⟨g, 0, none⟩ ∧ a2 = some ⟨g2, 0, none⟩) := fun h => ⟨ha h, ha2 h⟩
  have HC : Hid (∀ j, j < x.m.told.length → ∃ y : Int, w1.cell? ⟨g, j, none⟩ = some (.int .i64 y) ∧ w1.cell? ⟨g2, j, none⟩ = some (.int .i64 y)) := by
    intro j hj
    refine ⟨(x.m.told[j] : Int), ?_, ?_⟩
    · rw [hc j hj, List.getElem?_map, List.getElem?_eq_getElem hj]; rfl
    · rw [hc2 j hj, List.getElem?_map, List.getElem?_eq_getElem hj]; rfl
  have HO : Hid (w1.ownsRow w.heap.size 3 1 (.slice a x.m.told.length cap) x.m.told.length (x.m.told.map iv)) := ho
  have HB : Hid (Below w.heap.size w w1) := hb
  clear ho hb ha hc hp1 hv2 ha2 hc2 c0
  generalize hL : x.m.told.length = len at *
  go_wp2_with fail
  go_loopw [6, 7] (fun ok i wr => ∃ k : Nat, k ≤ len ∧ ok = .bool true ∧ i = .int .i64 (k : Int) ∧ ∃ n, wr = w1.drewN n) (fun _ i _ => len - (intOf i).toNat)
  case atStart => exact ⟨0, by omega, by simp, rfl, 0, rfl⟩
  case round =>
    obtain ⟨k, hk, rfl, rfl, nd, rfl⟩ := hrel
    by_cases hlt : k < len
    · obtain ⟨rfl, rfl⟩ := HA.out (by omega)
      obtain ⟨y, y1, y2⟩ := HC.out k hlt
      have hI : (k : Int) < (len : Int) := by omega
      go_wp2_with fail
      go_quiet (fail)
      go_wp2_with fail
      exact ⟨⟨k + 1, by omega, by simp, by go_num, nd + nq, rfl⟩, by simp [intOf]; omega⟩
    · have hI : ¬ (k : Int) < (len : Int) := by omega
      have hbd : Below w.heap.size w (w1.drewN nd) := below_drewN HB.out nd
      have hB : B ≤ w.heap.size := Nat.le_trans HW.out.wi.ge (Nat.le_of_lt HW.out.wi.lt)
      have hwe : WE (w1.drewN nd) B wb vp vh es ps n := HW.out.below hbd
      have hon : (w1.drewN nd).ownsRow B 3 1 (.slice a len cap) len (x.m.told.map iv) := owns_mono (owns_below HO.out (below_drewN (Below.refl _ _) nd)) hB
      have hsep : ∀ b, (Value.slice a len cap).ownBlock = some b → ¬ Busy wb vp vh es ps b := fun b hb hq => by
        have h1 := (HO.out.lt b hb).1
        have h2 := (HW.out.busy_lt b hq).2
        omega
      have HK : Hid (_) := keepn_new (w1.drewN nd) hwe hon (by omega) hes hsep
      have HBD : Hid (_) := hbd
      have HVL : Hid (∀ b, (Value.slice a len cap).ownBlock = some b → w.heap.size ≤ b) := fun b hb => (HO.out.lt b hb).1
      clear hwe hon hsep d1 d8 hbd
      generalize w1.drewN nd = w2 at *
      go_wp2_with fail
      refine Calls.mono HK.out ?_
      rintro r w3 ⟨rfl, vh', es', h1, h2, h3, _, _⟩
      have H2 : Hid (_) := h2
      have H3 : Hid (Tch (fun b => b = wb ∨ vh.ownBlock = some b ∨ (Value.slice a len cap).ownBlock = some b) w2 w3) := h3
      clear h2 h3 HK
      go_wp2_with fail
      go_ret
      refine ⟨rfl, vh', es', h1, H2.out, (HBD.out.mono hB).trans (H3.out.below (by have := HBD.out.size; omega) ?_)⟩
      rintro b (e | e | e)
      · rw [e]; exact HW.out.wi.ge
      · exact (HW.out.wi.own.lt b e).1
      · have := HVL.out b e; omega
end
end Go.Proofs.YtoeihlgidakjbaaGreatDoor
namespace Go.Proofs.YtoeihlgidakjbaaGreatDoor
open Go.RowKit Go.Lib
theorem Tryz.cI : Tryz.prog.cellsOf 3 = 1 := by kernel_rfl
theorem itemsAux_lt : ∀ (s : List UInt8) (p : Nat) (l : List (Nat × Nat)), itemsAux s p = some l → ∀ x ∈ l, x.2 < 65536
  | [], p, l, h => by simp [itemsAux] at h; subst h; simp
  | [_], p, l, h => by simp [itemsAux] at h
  | [_, _], p, l, h => by simp [itemsAux] at h
  | a :: b :: c :: r, p, l, h => by
    rw [itemsAux] at h
    split at h
    · cases h
    · obtain ⟨l', h1, rfl⟩ := Option.map_eq_some_iff.1 h
      have := itemsAux_lt r _ l' h1
      intro x hx
      rcases List.mem_cons.1 hx with rfl | hx
      · have hb := UInt8.toNat_lt b
        have hc := UInt8.toNat_lt c
        simp only; omega
      · exact this x hx
theorem termsI_lt (s : List UInt8) (i : Nat) : termsI s i < 65536 := by
  unfold termsI
  cases h : itemsL s with
  | none => simp
  | some l =>
    simp only [Option.getD_some, List.getD]
    cases h2 : l[i]? with
    | none => simp
    | some x => exact itemsAux_lt _ _ _ h x (List.mem_of_getElem? h2)
theorem terms_eq (a b c : Int) (ha : 0 ≤ a ∧ a < 65536) (hb : 0 ≤ b ∧ b < 65536) (hc : 0 ≤ c ∧ c < 65536) (w : World) : (binOp .eql 74 (.agg #[.int .i64 a, .int .i64 b, .int .i64 c]) (.agg #[.int .i64 a, .int .i64 b, .int .i64 c])).run Tryz.prog w = .ok (.bool true) w := by
  obtain ⟨i0, hi, _, _, _⟩ := info_parts Tryz.infoI
  have hk : ∀ x : Int, 0 ≤ x ∧ x < 65536 → Tryz.prog.keyLits 1 3 [.int .i64 x] = some [.int .i64 x] := by
    intro x hx
    have hwf : (Lit.int .i64 x).wf = true := by
      have e1 : IntKind.i64.min = -9223372036854775808 := rfl
      have e2 : IntKind.i64.max = 9223372036854775807 := rfl
      simp only [Lit.wf, e1, e2, Bool.and_eq_true, decide_eq_true_eq]; omega
    simp [Program.keyLits, Tryz.underlying3, hwf]
  have hm : (List.range 3).mapM (fun i => Tryz.prog.keyLits 1 3 (((#[.int .i64 a, .int .i64 b, .int .i64 c] : Array Value).toList.drop (i * Tryz.prog.cellsOf 3)).take (Tryz.prog.cellsOf 3))) = some [[.int .i64 a], [.int .i64 b], [.int .i64 c]] := by
    rw [Tryz.cI]
    simp [List.range, List.range.loop, hk a ha, hk b hb, hk c hc]
  obtain ⟨r, hr, hiff⟩ := run_eqItems_plain w (P := Tryz.prog) 9998 (e := 3) (by kernel_rfl) #[.int .i64 a, .int .i64 b, .int .i64 c] #[.int .i64 a, .int .i64 b, .int .i64 c] _ _ _ hm hm
  have hrt : r = true := hiff.2 rfl
  subst hrt
  have he := run_equalIn_array w (P := Tryz.prog) 9999 #[.int .i64 a, .int .i64 b, .int .i64 c] #[.int .i64 a, .int .i64 b, .int .i64 c] Tryz.underlying74 hi
  rw [hr] at he
  have he' : (Op.equalIn 10000 74 (.agg #[.int .i64 a, .int .i64 b, .int .i64 c]) (.agg #[.int .i64 a, .int .i64 b, .int .i64 c])).run Tryz.prog w = .ok true w := he
  clear he hr
  go_simp
section
variable {P : Pg}
set_option maxRecDepth 100000 in
set_option maxHeartbeats 2000000 in
theorem asked_any {B wb : Nat} {vp vh : Value} {n : Nat} {es : List HE} {ps : List (PL P)} (w : World) (hw : WE w B wb vp vh es ps n) (hn : n ≤ 1400000000000) (hes : es.length + 4 ≤ 17000000000000) (x : PL P) (hx : x ∈ ps) (hs : x.m.sent.length ≤ 1000) (ha : x.m.agr.length ≤ 1000) :
    Calls Tryz.prog 62 #[.pointer (some ⟨wb, 0, none⟩), .pointer (some ⟨x.pl, 0, none⟩)] w fun r w' => r = .returned (.bool true) ∧ ∃ vh' es', es'.length = es.length + 4 ∧ WE w' B wb vp vh' es' ps n ∧ Below B w w' := by
  have hpi := hw.pi x hx
  have c0 : w.cell? ⟨x.pl, 0, none⟩ = some (.pointer (some ⟨P.pb x.l, 0, none⟩)) := blk_cell hpi.blk
  have HW : Hid (WE w B wb vp vh es ps n) := hw
  have hB : B ≤ w.heap.size := Nat.le_trans hw.wi.ge (Nat.le_of_lt hw.wi.lt)
  have HP : Hid (PI1 w B x) := hpi
  clear hw hpi
  go_enter Tryz.func62, Tryz.ntmps62
  go_wp2_with fail
  refine (P.state w B x.l x.m HP.out.pe HP.out.gd).mono ?_
  rintro e w1 ⟨rfl, hb1⟩
  have H1 : Hid (WE w1 B wb vp vh es ps n ∧ Below w.heap.size w w1) := ⟨HW.out.below hb1, hb1⟩
  clear hb1 c0 HP
  go_wp2_with fail
  refine Calls.mono (told_any w1 H1.out.1 hn hes x hx) ?_
  rintro e w2 ⟨rfl, vh2, es2, hl2, hwe2, hb2⟩
  have H2 : Hid (WE w2 B wb vp vh2 es2 ps n ∧ Below B w w2) := ⟨hwe2, (H1.out.2.mono hB).trans hb2⟩
  have hp2 := hwe2.pi x hx
  have c0 : w2.cell? ⟨x.pl, 0, none⟩ = some (.pointer (some ⟨P.pb x.l, 0, none⟩)) := blk_cell hp2.blk
  have HP2 : Hid (PI1 w2 B x ∧ x.m.Lim n) := ⟨hp2, hwe2.lim x hx⟩
  clear hwe2 hb2 H1 hp2
  go_wp2_with fail
  refine (P.agreed w2 B x.l x.m HP2.out.1.pe HP2.out.1.gd (HP2.out.2.mono hn)).mono ?_
  rintro e w3 ⟨rfl, hb3⟩
  have hB2 : B ≤ w2.heap.size := Nat.le_trans H2.out.1.wi.ge (Nat.le_of_lt H2.out.1.wi.lt)
  have H3 : Hid (WE w3 B wb vp vh2 es2 ps n ∧ Below B w w3) := ⟨H2.out.1.below hb3, H2.out.2.trans (hb3.mono hB2)⟩
  have hp3 := H3.out.1.pi x hx
  obtain ⟨s0, s1, s2, hts, hl0, hl1, hl2⟩ : ∃ s0 s1 s2 : Nat, termsV x.m.sent = .agg #[.int .i64 (s0 : Int), .int .i64 (s1 : Int), .int .i64 (s2 : Int)] ∧ s0 < 65536 ∧ s1 < 65536 ∧ s2 < 65536 := ⟨_, _, _, rfl, termsI_lt _ _, termsI_lt _ _, termsI_lt _ _⟩
  obtain ⟨g0, g1, g2, htg, hg0, hg1, hg2⟩ : ∃ g0 g1 g2 : Nat, termsV x.m.agr = .agg #[.int .i64 (g0 : Int), .int .i64 (g1 : Int), .int .i64 (g2 : Int)] ∧ g0 < 65536 ∧ g1 < 65536 ∧ g2 < 65536 := ⟨_, _, _, rfl, termsI_lt _ _, termsI_lt _ _, termsI_lt _ _⟩
  have HTS : Hid (_) := hts
  have HTG : Hid (_) := htg
  have d1 : w3.cell? ⟨x.pl, 1, none⟩ = some (.pointer (some ⟨x.rb, 0, none⟩)) := blk_cell hp3.blk
  have d14 : w3.cell? ⟨x.rb, 14, none⟩ = some (.string ⟨x.m.sent.toArray⟩) := blk_cell hp3.ri.blk
  have l1 : x.pl < w3.heap.size := blk_lt hp3.blk
  have l2 : x.rb < w3.heap.size := blk_lt hp3.ri.blk
  clear c0 hb3 H2 HP2 hB2 hp3
  have hfs := terms_eq (s0 : Int) (s1 : Int) (s2 : Int) (by omega) (by omega) (by omega)
  have hfg := terms_eq (g0 : Int) (g1 : Int) (g2 : Int) (by omega) (by omega) (by omega)
  clear hl0 hl1 hl2 hg0 hg1 hg2
  rw [hts, htg]
  clear hts htg
  have s0b : ((w3.alloc (.cells #[.int .i64 (s0 : Int), .int .i64 (s1 : Int), .int .i64 (s2 : Int)] 74)).alloc (.cells #[.int .i64 (g0 : Int), .int .i64 (g1 : Int), .int .i64 (g2 : Int)] 74)).heap[w3.heap.size]? = some (.cells #[.int .i64 (s0 : Int), .int .i64 (s1 : Int), .int .i64 (s2 : Int)] 74 (0, 0)) := (Below.block ((Below.refl _ _).alloc (Nat.le_refl _) _) w3.heap.size (by simp)).trans (heap_alloc_new w3 _)
  have s1b : ((w3.alloc (.cells #[.int .i64 (s0 : Int), .int .i64 (s1 : Int), .int .i64 (s2 : Int)] 74)).alloc (.cells #[.int .i64 (g0 : Int), .int .i64 (g1 : Int), .int .i64 (g2 : Int)] 74)).heap[w3.heap.size + 1]? = some (.cells #[.int .i64 (g0 : Int), .int .i64 (g1 : Int), .int .i64 (g2 : Int)] 74 (0, 0)) := heap_alloc2_new w3 _ _
  have sb : Below w3.heap.size w3 ((w3.alloc (.cells #[.int .i64 (s0 : Int), .int .i64 (s1 : Int), .int .i64 (s2 : Int)] 74)).alloc (.cells #[.int .i64 (g0 : Int), .int .i64 (g1 : Int), .int .i64 (g2 : Int)] 74)) := ((Below.refl _ _).alloc (Nat.le_refl _) _).alloc (by simp) _
  have HS : Hid (_) := And.intro s0b (And.intro s1b sb)
  clear s0b s1b sb
  go_wp2_with fail
  refine (terms_any _ _ (by show x.m.sent.toArray.size ≤ _; rw [List.size_toArray]; omega)).mono ?_
  rintro e w4 ⟨rfl, hb4⟩
  obtain ⟨k0, k1, kb⟩ := HS.out
  generalize (w3.alloc (.cells #[.int .i64 (s0 : Int), .int .i64 (s1 : Int), .int .i64 (s2 : Int)] 74)).alloc (.cells #[.int .i64 (g0 : Int), .int .i64 (g1 : Int), .int .i64 (g2 : Int)] 74) = w34 at *
  have hl0 := blk_lt k0
  have hl1 := blk_lt k1
  have hb34 : Below w3.heap.size w3 w4 := kb.trans (hb4.mono kb.size)
  have e0 := (hb4.block _ hl0).trans k0
  have e1 := (hb4.block _ hl1).trans k1
  rw [show (termsV (⟨x.m.sent.toArray⟩ : ByteArray).data.toList) = termsV x.m.sent from rfl, HTS.out]
  have H4 : Hid (WE w4 B wb vp vh2 es2 ps n ∧ Below B w w4) := ⟨H3.out.1.below hb34, H3.out.2.trans (hb34.mono (Nat.le_trans H3.out.1.wi.ge (Nat.le_of_lt H3.out.1.wi.lt)))⟩
  have HE : Hid (w4.heap[w3.heap.size]? = some (.cells #[.int .i64 (s0 : Int), .int .i64 (s1 : Int), .int .i64 (s2 : Int)] 74 (0, 0)) ∧ w4.heap[w3.heap.size + 1]? = some (.cells #[.int .i64 (g0 : Int), .int .i64 (g1 : Int), .int .i64 (g2 : Int)] 74 (0, 0))) := ⟨e0, e1⟩
  have hp4 := H4.out.1.pi x hx
  have q1 : w4.cell? ⟨x.pl, 1, none⟩ = some (.pointer (some ⟨x.rb, 0, none⟩)) := blk_cell hp4.blk
  have q16 : w4.cell? ⟨x.rb, 16, none⟩ = some (.string ⟨x.m.agr.toArray⟩) := blk_cell hp4.ri.blk
  have m1 : x.pl < w4.heap.size := blk_lt hp4.blk
  have m2 : x.rb < w4.heap.size := blk_lt hp4.ri.blk
  clear HS k0 k1 kb hb4 e0 e1 hb34 d1 d14 l1 l2 H3 hp4 hl0 hl1
  have hT : Hid (∀ W : World, W.heap.size = w4.heap.size + 1 → True) := fun _ _ => trivial
  have wa0 : (w4.alloc (.cells #[.int .i64 (s0 : Int), .int .i64 (s1 : Int), .int .i64 (s2 : Int)] 74)).heap[w4.heap.size]? = some (.cells #[.int .i64 (s0 : Int), .int .i64 (s1 : Int), .int .i64 (s2 : Int)] 74 (0, 0)) := heap_alloc_new w4 _
  have wab : Below w4.heap.size w4 (w4.alloc (.cells #[.int .i64 (s0 : Int), .int .i64 (s1 : Int), .int .i64 (s2 : Int)] 74)) := (Below.refl _ _).alloc (Nat.le_refl _) _
  have HWA : Hid (_) := And.intro wa0 wab
  clear wa0 wab hT
  go_wp2_with fail
  refine (terms_any _ _ (by show x.m.agr.toArray.size ≤ _; rw [List.size_toArray]; omega)).mono ?_
  rintro e w5 ⟨rfl, hb5⟩
  obtain ⟨wa0, wab⟩ := HWA.out
  generalize w4.alloc (.cells #[.int .i64 (s0 : Int), .int .i64 (s1 : Int), .int .i64 (s2 : Int)] 74) = w45 at *
  have hb45 : Below w4.heap.size w4 w5 := wab.trans (hb5.mono wab.size)
  have a0 := (hb45.block _ (blk_lt HE.out.1)).trans HE.out.1
  have a1 := (hb45.block _ (blk_lt HE.out.2)).trans HE.out.2
  have a2 := (hb5.block _ (blk_lt wa0)).trans wa0
  have z0 : w3.heap.size < w5.heap.size := blk_lt a0
  have z1 : w3.heap.size + 1 < w5.heap.size := blk_lt a1
  have z2 : w4.heap.size < w5.heap.size := blk_lt a2
  rw [show (termsV (⟨x.m.agr.toArray⟩ : ByteArray).data.toList) = termsV x.m.agr from rfl, HTG.out]
  have H5 : Hid (WE w5 B wb vp vh2 es2 ps n ∧ Below B w w5) := ⟨H4.out.1.below hb45, H4.out.2.trans (hb45.mono (Nat.le_trans H4.out.1.wi.ge (Nat.le_of_lt H4.out.1.wi.lt)))⟩
  have hp5 := H5.out.1.pi x hx
  have wa : Below w5.heap.size w5 (w5.alloc (.cells #[.int .i64 (g0 : Int), .int .i64 (g1 : Int), .int .i64 (g2 : Int)] 74)) := (Below.refl _ _).alloc (Nat.le_refl _) _
  have v0 : ∀ k, (w5.alloc (.cells #[.int .i64 (g0 : Int), .int .i64 (g1 : Int), .int .i64 (g2 : Int)] 74)).cell? ⟨w3.heap.size, k, none⟩ = (#[.int .i64 (s0 : Int), .int .i64 (s1 : Int), .int .i64 (s2 : Int)] : Array Value)[k]? := fun k => (wa.cell (p := ⟨w3.heap.size, k, none⟩) z0).trans (blk_cell a0)
  have v1 : ∀ k, (w5.alloc (.cells #[.int .i64 (g0 : Int), .int .i64 (g1 : Int), .int .i64 (g2 : Int)] 74)).cell? ⟨w3.heap.size + 1, k, none⟩ = (#[.int .i64 (g0 : Int), .int .i64 (g1 : Int), .int .i64 (g2 : Int)] : Array Value)[k]? := fun k => (wa.cell (p := ⟨w3.heap.size + 1, k, none⟩) z1).trans (blk_cell a1)
  have v2 : ∀ k, (w5.alloc (.cells #[.int .i64 (g0 : Int), .int .i64 (g1 : Int), .int .i64 (g2 : Int)] 74)).cell? ⟨w4.heap.size, k, none⟩ = (#[.int .i64 (s0 : Int), .int .i64 (s1 : Int), .int .i64 (s2 : Int)] : Array Value)[k]? := fun k => (wa.cell (p := ⟨w4.heap.size, k, none⟩) z2).trans (blk_cell a2)
  have v00 := v0 0
  have v01 := v0 1
  have v02 := v0 2
  have v10 := v1 0
  have v11 := v1 1
  have v12 := v1 2
  have v20 := v2 0
  have v21 := v2 1
  have v22 := v2 2
  simp only [List.getElem?_toArray, List.getElem?_cons_zero, List.getElem?_cons_succ] at v00 v01 v02 v10 v11 v12 v20 v21 v22
  have p1 : (w5.alloc (.cells #[.int .i64 (g0 : Int), .int .i64 (g1 : Int), .int .i64 (g2 : Int)] 74)).cell? ⟨x.pl, 1, none⟩ = some (.pointer (some ⟨x.rb, 0, none⟩)) := (wa.cell (p := ⟨x.pl, 1, none⟩) (blk_lt hp5.blk)).trans (blk_cell hp5.blk)
  have p7 : (w5.alloc (.cells #[.int .i64 (g0 : Int), .int .i64 (g1 : Int), .int .i64 (g2 : Int)] 74)).cell? ⟨x.rb, 7, none⟩ = some (.int .i64 (x.m.st : Int)) := (wa.cell (p := ⟨x.rb, 7, none⟩) (blk_lt hp5.ri.blk)).trans (blk_cell hp5.ri.blk)
  have HF : Hid (WE (w5.alloc (.cells #[.int .i64 (g0 : Int), .int .i64 (g1 : Int), .int .i64 (g2 : Int)] 74)) B wb vp vh2 es2 ps n ∧ Below B w (w5.alloc (.cells #[.int .i64 (g0 : Int), .int .i64 (g1 : Int), .int .i64 (g2 : Int)] 74))) := ⟨H5.out.1.below wa, H5.out.2.trans (wa.mono (Nat.le_trans H5.out.1.wi.ge (Nat.le_of_lt H5.out.1.wi.lt)))⟩
  clear v0 v1 v2 a0 a1 a2 hb45 hb5 wa0 wab HWA hp5 H5 H4 HE q1 q16 m1 m2 wa
  go_wp2_with fail
  go_ret
  exact ⟨rfl, vh2, es2, hl2, HF.out⟩
end
end Go.Proofs.YtoeihlgidakjbaaGreatDoor

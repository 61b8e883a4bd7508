/- The program's New; State, Told, Agreed. -/
import Derived.Test.YtoeihlgidakjbaaGreatDoorPc10
import Derived.Test.YtoeihlgidakjbaaGreatDoorPc14
import Derived.Test.YtoeihlgidakjbaaGreatDoorPc3
namespace Go.Proofs.YtoeihlgidakjbaaGreatDoor
open Go.RowKit Go.Lib
structure PLay where
  pb : Nat
  v : PV
structure PE (w : World) (B : Nat) (l : PLay) (m : RE) : Prop where
  pi : PI w B 0 l.pb l.v m []
  vs : l.v.vs = .slice none 0 0
theorem PE.at {w : World} {B Bs : Nat} {l : PLay} {m : RE} (h : PE w B l m) : PI w B Bs l.pb l.v m [] :=
  ⟨h.pi.em, h.pi.mp, h.pi.mg, h.pi.mn, h.pi.t0, fun b hb => by rw [h.vs] at hb; simp [Value.ownBlock] at hb⟩
theorem PE.of {w : World} {B Bs pb : Nat} {v : PV} {m : RE} (h : PI w B Bs pb v m []) (hv : v.vs = .slice none 0 0) : PE w B ⟨pb, v⟩ m :=
  ⟨⟨h.em, h.mp, h.mg, h.mn, h.t0, fun _ _ => Nat.zero_le _⟩, hv⟩
abbrev newC (V : Nat → Value) (D : Nat → Int) (mg : Int) (mb : Nat) : Array Value := #[V 0, V 1, V 2, V 3, V 4, V 5, .int .i64 0, .int .i64 0, .int .i64 0, .int .i64 (D 0), .int .i64 (D 1), .int .i64 (D 2), .int .i64 mg, .map (some mb), .int .i64 0, .int .i64 0, .int .i64 0, .int .u8 0, .int .u8 0, .int .i64 0, .int .i64 0, .string ⟨#[]⟩, .int .i64 0, .int .i64 0, .int .i64 0, .int .i64 0, .int .i64 0, .int .i64 0, .int .i64 0, .int .i64 0, .slice none 0 0, .slice none 0 0, .slice none 0 0]
abbrev newV (V : Nat → Value) (mb : Nat) : PV := ⟨V 0, V 1, V 2, V 3, V 4, V 5, .slice none 0 0, .slice none 0 0, .slice none 0 0, mb⟩
theorem new_cells (V : Nat → Value) (D : Nat → Int) (L : Nat → List Int) (mg : Int) (mb : Nat) (hok : CfgOk L mg) (hD : ∀ i, D i = (L i).headD 0) : newC V D mg mb = (newM L mg).pcl (newV V mb) (newM L mg).props := by
  obtain ⟨hl, h1, h2⟩ := hok
  have e : ∀ i, i < 6 → (((D i).toNat : Nat) : Int) = D i := by
    intro i hi
    obtain ⟨p1, _, p3, _⟩ := hl i hi
    have := p3 _ (List.getElem_mem p1)
    rw [hD i, headD_get _ p1]
    omega
  have em : ((mg.toNat : Nat) : Int) = mg := by omega
  simp only [RE.pcl, newM, RE.mag, RE.props, newC, iv, Nat.zero_mod, List.getLast?_singleton, Option.getD_some, em, ← hD, e 0 (by omega), e 1 (by omega), e 2 (by omega)]
  rfl
theorem new_pe {w w1 w2 : World} {V : Nat → Value} {D : Nat → Int} {L : Nat → List Int} {mg : Int} {mb : Nat} (hz : w.heap.size ≤ w1.heap.size) (hok : CfgOk L mg) (hD : ∀ i, D i = (L i).headD 0) (hmp : MapIs w2 mb [mg.toNat]) (hmb : w1.heap.size ≤ mb) (hown : ∀ i, i < 6 → w2.ownsRow w1.heap.size 3 1 (V i) (L i).length ((L i).map zv)) (hdj : ∀ i j, i < 6 → j < 6 → i ≠ j → ∀ b, (V i).ownBlock = some b → (V j).ownBlock ≠ some b) (hvm : ∀ i, i < 6 → ∀ b, (V i).ownBlock = some b → b ≠ mb) (hb2 : Below w1.heap.size w1 w2) :
    PE (w2.alloc (.cells (newC V D mg mb) 83)) w.heap.size ⟨w2.heap.size, newV V mb⟩ (newM L mg) := by
  have hz2 := hb2.size
  have BA : Below w2.heap.size w2 (w2.alloc (.cells (newC V D mg mb) 83)) := (Below.refl _ _).alloc (Nat.le_refl _) _
  have rows : ∀ (i : Nat) (r : Row), ((newM L mg).prow (newV V mb) [])[i]? = some r → (i < 6 ∧ r = ⟨3, V i, (L i).map zv⟩) ∨ (r.v = .slice none 0 0 ∧ r.xs = []) := by
    intro i r hr
    have mi : ∀ i, i < 6 → ((L i).map Int.toNat).map iv = (L i).map zv := fun i hi => map_iv _ (fun x hx => ((hok.1 i hi).2.2.1 x hx).1)
    rcases (by omega : i = 0 ∨ i = 1 ∨ i = 2 ∨ i = 3 ∨ i = 4 ∨ i = 5 ∨ i = 6 ∨ i = 7 ∨ i = 8 ∨ 9 ≤ i) with rfl | rfl | rfl | rfl | rfl | rfl | rfl | rfl | rfl | h9
    · left; refine ⟨by omega, ?_⟩; have := Option.some.inj hr; rw [← this, ← mi 0 (by omega)]; rfl
    · left; refine ⟨by omega, ?_⟩; have := Option.some.inj hr; rw [← this, ← mi 1 (by omega)]; rfl
    · left; refine ⟨by omega, ?_⟩; have := Option.some.inj hr; rw [← this, ← mi 2 (by omega)]; rfl
    · left; refine ⟨by omega, ?_⟩; have := Option.some.inj hr; rw [← this, ← mi 3 (by omega)]; rfl
    · left; refine ⟨by omega, ?_⟩; have := Option.some.inj hr; rw [← this, ← mi 4 (by omega)]; rfl
    · left; refine ⟨by omega, ?_⟩; have := Option.some.inj hr; rw [← this, ← mi 5 (by omega)]; rfl
    · right; have := Option.some.inj hr; rw [← this]; exact ⟨rfl, rfl⟩
    · right; have := Option.some.inj hr; rw [← this]; exact ⟨rfl, rfl⟩
    · right; have := Option.some.inj hr; rw [← this]; exact ⟨rfl, rfl⟩
    · have : ((newM L mg).prow (newV V mb) []).length = 9 := rfl
      rw [List.getElem?_eq_none (by omega)] at hr; cases hr
  have lt2 : ∀ i, i < 6 → ∀ b, (V i).ownBlock = some b → w1.heap.size ≤ b ∧ b < w2.heap.size := fun i hi b hb => (hown i hi).lt b hb
  have memr : ∀ r ∈ (newM L mg).prow (newV V mb) [], ∃ i : Nat, ((newM L mg).prow (newV V mb) [])[i]? = some r := fun r hr => List.getElem?_of_mem hr
  refine ⟨⟨⟨?_, by show w.heap.size ≤ w2.heap.size; omega, ?_, ?_, ?_⟩, ?_, by show w.heap.size ≤ mb; omega, ?_, fun _ => rfl, fun b hb => by simp [Value.ownBlock] at hb⟩, rfl⟩
  · rw [← new_cells V D L mg mb hok hD]; exact heap_alloc_new w2 _
  · intro r hr
    obtain ⟨i, hi⟩ := memr r hr
    rcases rows i r hi with ⟨h6, rfl⟩ | ⟨e1, e2⟩
    · have := owns_mono (owns_below (hown i h6) BA) hz
      simpa using this
    · rw [e1, e2]; exact World.ownsRow_nil _ _ _ _
  · intro r hr
    obtain ⟨i, hi⟩ := memr r hr
    rcases rows i r hi with ⟨h6, rfl⟩ | ⟨e1, e2⟩
    · intro x; have := (lt2 i h6 w2.heap.size x).2; omega
    · rw [e1]; simp [Value.ownBlock]
  · intro i j r s hij hi hj b hb
    rcases rows i r hi with ⟨h6, rfl⟩ | ⟨e1, e2⟩
    · rcases rows j s hj with ⟨h6', rfl⟩ | ⟨e1', e2'⟩
      · exact hdj i j h6 h6' hij b hb
      · rw [e1']; simp [Value.ownBlock]
    · rw [e1] at hb; simp [Value.ownBlock] at hb
  · exact hmp.blk (BA.block _ hmp.lt)
  · rintro (x | ⟨x, hx, hb⟩)
    · have := hmp.lt
      have x' : mb = w2.heap.size := x
      omega
    · simp only [PV.rvals, List.mem_cons, List.not_mem_nil, or_false] at hx
      have hb' : x.ownBlock = some mb := hb
      rcases hx with rfl | rfl | rfl | rfl | rfl | rfl | rfl | rfl | rfl
      · exact hvm 0 (by omega) _ hb' rfl
      · exact hvm 1 (by omega) _ hb' rfl
      · exact hvm 2 (by omega) _ hb' rfl
      · exact hvm 3 (by omega) _ hb' rfl
      · exact hvm 4 (by omega) _ hb' rfl
      · exact hvm 5 (by omega) _ hb' rfl
      · simp [Value.ownBlock] at hb'
      · simp [Value.ownBlock] at hb'
      · simp [Value.ownBlock] at hb'
set_option maxRecDepth 100000 in
set_option maxHeartbeats 4000000 in
theorem pnew (X : Nat → Value) (L : Nat → List Int) (mg : Int) (w : World) (hX : ∀ i, i < 6 → IntsAt w (X i) (L i)) (hR : ∀ i, i < 6 → ∃ a n c, X i = .slice a n c ∧ n ≤ c) :
    Calls Tryz.prog 45 #[.agg #[X 0, X 1, X 2, X 3, X 4, X 5, .int .i64 mg]] w fun r w' => Below w.heap.size w w' ∧
      (((∀ i, i < 6 → IsL (L i)) ∧ 1 ≤ mg ∧ mg ≤ 65535 ∧ ∃ l : PLay, r = .returned (.tuple #[.pointer (some ⟨l.pb, 0, none⟩), .int .i64 0]) ∧ PE w' w.heap.size l (newM L mg)) ∨
       (¬ ((∀ i, i < 6 → IsL (L i)) ∧ 1 ≤ mg ∧ mg ≤ 65535) ∧ r = .returned (.tuple #[.pointer none, .int .i64 1]))) := by
  have HX : Hid (∀ i, i < 6 → IntsAt w (X i) (L i)) := hX
  have BA : Hid (Below w.heap.size w (w.alloc (.cells #[X 0, X 1, X 2, X 3, X 4, X 5, .int .i64 mg] 31))) := (Below.refl _ _).alloc (Nat.le_refl _) _
  have HC : Hid (_) := isConfig_any X L mg (w.alloc (.cells #[X 0, X 1, X 2, X 3, X 4, X 5, .int .i64 mg] 31)) (fun i hi => (hX i hi).below BA.out) hR
  have RA : Hid ((w.alloc (.cells #[X 0, X 1, X 2, X 3, X 4, X 5, .int .i64 mg] 31)).heap[w.heap.size]? = some (.cells #[X 0, X 1, X 2, X 3, X 4, X 5, .int .i64 mg] 31 (0, 0))) := heap_alloc_new w _
  clear hX hR
  go_enter Tryz.func45, Tryz.ntmps45
  go_wp2_with fail
  refine Calls.mono HC.out ?_
  rintro e w1 ⟨⟨bb, rfl, hbb⟩, hb1⟩
  have zA : (w.alloc (.cells #[X 0, X 1, X 2, X 3, X 4, X 5, .int .i64 mg] 31)).heap.size = w.heap.size + 1 := by simp
  have HB1 : Hid (Below w.heap.size w w1) := BA.out.trans (hb1.mono BA.out.size)
  have r1 := (hb1.block _ (by omega)).trans RA.out
  have z1 := HB1.out.size
  cases bb
  · have HN : Hid (¬ CfgOk L mg) := fun x => by have := hbb.2 x; cases this
    clear hbb hb1 HC r1
    go_wp2_with fail
    go_ret2
    exact ⟨HB1.out, .inr ⟨HN.out, rfl⟩⟩
  · have hok := hbb.1 rfl
    have HOK : Hid (CfgOk L mg) := hok
    have x0 : w1.cell? ⟨w.heap.size, 0, none⟩ = some (X 0) := blk_cell r1
    have x1 : w1.cell? ⟨w.heap.size, 1, none⟩ = some (X 1) := blk_cell r1
    have x2 : w1.cell? ⟨w.heap.size, 2, none⟩ = some (X 2) := blk_cell r1
    have x3 : w1.cell? ⟨w.heap.size, 3, none⟩ = some (X 3) := blk_cell r1
    have x4 : w1.cell? ⟨w.heap.size, 4, none⟩ = some (X 4) := blk_cell r1
    have x5 : w1.cell? ⟨w.heap.size, 5, none⟩ = some (X 5) := blk_cell r1
    have x6 : w1.cell? ⟨w.heap.size, 6, none⟩ = some (.int .i64 mg) := blk_cell r1
    obtain ⟨D, hD⟩ : ∃ D : Nat → Int, ∀ i, D i = (L i).headD 0 := ⟨_, fun _ => rfl⟩
    have HD : Hid (∀ i, D i = (L i).headD 0) := hD
    have HW : Hid (_) := wishesOf_any X L D mg w1 (fun i _ => (hD i).symm) (fun i hi => (HX.out i hi).below HB1.out) hok.1 hok.2.1 hok.2.2
    clear hbb hb1 HC r1 hok hD
    go_wp2_with fail
    refine Calls.mono HW.out ?_
    rintro e w2 ⟨V, mb, rfl, hmp, hmb, hown, hdj, hvm, hb2⟩
    have ow0 := hown 0 (by omega)
    have ow1 := hown 1 (by omega)
    have ow2 := hown 2 (by omega)
    have ow3 := hown 3 (by omega)
    have ow4 := hown 4 (by omega)
    have ow5 := hown 5 (by omega)
    obtain ⟨a0, c0, _, v0, _, _, _⟩ := own_shape ow0
    obtain ⟨a1, c1, _, v1, _, _, _⟩ := own_shape ow1
    obtain ⟨a2, c2, _, v2, _, _, _⟩ := own_shape ow2
    obtain ⟨a3, c3, _, v3, _, _, _⟩ := own_shape ow3
    obtain ⟨a4, c4, _, v4, _, _, _⟩ := own_shape ow4
    obtain ⟨a5, c5, _, v5, _, _, _⟩ := own_shape ow5
    simp only [v0, v1, v2, v3, v4, v5]
    have HVV : Hid (V 0 = .slice a0 (L 0).length c0 ∧ V 1 = .slice a1 (L 1).length c1 ∧ V 2 = .slice a2 (L 2).length c2 ∧ V 3 = .slice a3 (L 3).length c3 ∧ V 4 = .slice a4 (L 4).length c4 ∧ V 5 = .slice a5 (L 5).length c5) := ⟨v0, v1, v2, v3, v4, v5⟩
    have HM : Hid (MapIs w2 mb [mg.toNat] ∧ w1.heap.size ≤ mb ∧ (∀ i, i < 6 → w2.ownsRow w1.heap.size 3 1 (V i) (L i).length ((L i).map zv)) ∧ (∀ i j, i < 6 → j < 6 → i ≠ j → ∀ b, (V i).ownBlock = some b → (V j).ownBlock ≠ some b) ∧ (∀ i, i < 6 → ∀ b, (V i).ownBlock = some b → b ≠ mb) ∧ Below w1.heap.size w1 w2) := ⟨hmp, hmb, hown, hdj, hvm, hb2⟩
    clear hmp hmb hown hdj hvm hb2 ow0 ow1 ow2 ow3 ow4 ow5 v0 v1 v2 v3 v4 v5 HW x0 x1 x2 x3 x4 x5 x6
    go_wp2_with fail
    go_ret2
    obtain ⟨m1, m2, m3, m4, m5, m6⟩ := HM.out
    have hpe := new_pe (w := w) z1 HOK.out HD.out m1 m2 m3 m4 m5 m6
    obtain ⟨e0, e1, e2, e3, e4, e5⟩ := HVV.out
    have hcell : newC V D mg mb = #[.slice a0 (L 0).length c0, .slice a1 (L 1).length c1, .slice a2 (L 2).length c2, .slice a3 (L 3).length c3, .slice a4 (L 4).length c4, .slice a5 (L 5).length c5, .int .i64 0, .int .i64 0, .int .i64 0, .int .i64 (D 0), .int .i64 (D 1), .int .i64 (D 2), .int .i64 mg, .map (some mb), .int .i64 0, .int .i64 0, .int .i64 0, .int .u8 0, .int .u8 0, .int .i64 0, .int .i64 0, .string ⟨#[]⟩, .int .i64 0, .int .i64 0, .int .i64 0, .int .i64 0, .int .i64 0, .int .i64 0, .int .i64 0, .int .i64 0, .slice none 0 0, .slice none 0 0, .slice none 0 0] := by
      unfold newC
      rw [e0, e1, e2, e3, e4, e5]
    rw [hcell] at hpe
    exact ⟨HB1.out.trans ((m6.mono z1).trans (((Below.refl _ _).alloc (Nat.le_refl _) _).mono (by have := m6.size; omega))), .inl ⟨HOK.out.1, HOK.out.2.1, HOK.out.2.2, ⟨w2.heap.size, newV V mb⟩, rfl, hpe⟩⟩
set_option maxRecDepth 100000 in
theorem pstate {w : World} {B : Nat} {l : PLay} {m : RE} (h : PE w B l m) : Calls Tryz.prog 24 #[.pointer (some ⟨l.pb, 0, none⟩)] w fun r w' => r = .returned (.int .i64 (m.st : Int)) ∧ Below w.heap.size w w' := by
  have c14 : w.cell? ⟨l.pb, 14, none⟩ = some (.int .i64 (m.st : Int)) := blk_cell h.pi.em.blk
  clear h
  go_enter Tryz.func24, Tryz.ntmps24
  go_wp2_with fail
  go_ret
  exact ⟨rfl, Below.refl _ _⟩
set_option maxRecDepth 100000 in
set_option maxHeartbeats 1000000 in
theorem ptold {w : World} {B : Nat} {l : PLay} {m : RE} (h : PE w B l m) (hn : m.told.length ≤ 17000000000000) : Calls Tryz.prog 41 #[.pointer (some ⟨l.pb, 0, none⟩)] w fun r w' => ∃ v, r = .returned v ∧ w'.ownsRow w.heap.size 3 1 v m.told.length (m.told.map iv) ∧ Below w.heap.size w w' := by
  have c30 : w.cell? ⟨l.pb, 30, none⟩ = some l.v.vt := blk_cell h.pi.em.blk
  by_cases h0 : m.told = []
  · have e := h.pi.t0 h0
    rw [e] at c30
    have HC : Hid (_) := clone_nil w
    clear h
    go_enter Tryz.func41, Tryz.ntmps41
    go_wp2_with fail
    refine Calls.mono HC.out ?_
    rintro e w1 ⟨rfl, rfl⟩
    go_wp2_with fail
    go_ret
    refine ⟨_, rfl, ?_, Below.refl _ _⟩
    rw [h0]
    exact World.ownsRow_nil _ _ _ _
  · have hp : 0 < (m.told.map fun (n : Nat) => (n : Int)).length := by rw [List.length_map]; exact List.length_pos_iff.2 h0
    have hc := clone_any l.v.vt (m.told.map fun (n : Nat) => (n : Int)) w (ints_own h.pi.ot) hp (by rw [List.length_map]; exact hn)
    have ez : (m.told.map fun (n : Nat) => (n : Int)).map zv = m.told.map iv := by rw [List.map_map]; rfl
    rw [ez, List.length_map] at hc
    have HC : Hid (_) := hc
    clear h hc hp ez h0
    go_enter Tryz.func41, Tryz.ntmps41
    go_wp2_with fail
    refine Calls.mono HC.out ?_
    rintro e w1 ⟨g, cap, rfl, ho, hb⟩
    have HO : Hid (_) := And.intro ho hb
    clear ho hb HC
    go_wp2_with fail
    go_ret
    exact ⟨_, rfl, HO.out⟩
set_option maxRecDepth 100000 in
set_option maxHeartbeats 2000000 in
theorem pagreed {w : World} {B : Nat} {l : PLay} {m : RE} (h : PE w B l m) : Calls Tryz.prog 39 #[.pointer (some ⟨l.pb, 0, none⟩)] w fun r w' => r = .returned (.tuple #[termsV m.sent, termsV m.agr]) ∧ Below w.heap.size w w' := by
  have hlt := blk_lt h.pi.em.blk
  have BA : Hid (Below w.heap.size w ((w.alloc (.cells #[.int .i64 0, .int .i64 0, .int .i64 0] 74)).alloc (.cells #[.int .i64 0, .int .i64 0, .int .i64 0] 74))) := ((Below.refl _ _).alloc (Nat.le_refl _) _).alloc (by simp) _
  have hA := h.pi.below BA.out
  have c22 : ((w.alloc (.cells #[.int .i64 0, .int .i64 0, .int .i64 0] 74)).alloc (.cells #[.int .i64 0, .int .i64 0, .int .i64 0] 74)).cell? ⟨l.pb, 22, none⟩ = some (.int .i64 (termsI m.sent 0 : Int)) := blk_cell hA.em.blk
  have c23 : ((w.alloc (.cells #[.int .i64 0, .int .i64 0, .int .i64 0] 74)).alloc (.cells #[.int .i64 0, .int .i64 0, .int .i64 0] 74)).cell? ⟨l.pb, 23, none⟩ = some (.int .i64 (termsI m.sent 1 : Int)) := blk_cell hA.em.blk
  have c24 : ((w.alloc (.cells #[.int .i64 0, .int .i64 0, .int .i64 0] 74)).alloc (.cells #[.int .i64 0, .int .i64 0, .int .i64 0] 74)).cell? ⟨l.pb, 24, none⟩ = some (.int .i64 (termsI m.sent 2 : Int)) := blk_cell hA.em.blk
  have c25 : ((w.alloc (.cells #[.int .i64 0, .int .i64 0, .int .i64 0] 74)).alloc (.cells #[.int .i64 0, .int .i64 0, .int .i64 0] 74)).cell? ⟨l.pb, 25, none⟩ = some (.int .i64 (termsI m.agr 0 : Int)) := blk_cell hA.em.blk
  have c26 : ((w.alloc (.cells #[.int .i64 0, .int .i64 0, .int .i64 0] 74)).alloc (.cells #[.int .i64 0, .int .i64 0, .int .i64 0] 74)).cell? ⟨l.pb, 26, none⟩ = some (.int .i64 (termsI m.agr 1 : Int)) := blk_cell hA.em.blk
  have c27 : ((w.alloc (.cells #[.int .i64 0, .int .i64 0, .int .i64 0] 74)).alloc (.cells #[.int .i64 0, .int .i64 0, .int .i64 0] 74)).cell? ⟨l.pb, 27, none⟩ = some (.int .i64 (termsI m.agr 2 : Int)) := blk_cell hA.em.blk
  have r0 : ((w.alloc (.cells #[.int .i64 0, .int .i64 0, .int .i64 0] 74)).alloc (.cells #[.int .i64 0, .int .i64 0, .int .i64 0] 74)).heap[w.heap.size]? = some (.cells #[.int .i64 0, .int .i64 0, .int .i64 0] 74 (0, 0)) := (Below.block ((Below.refl _ (w.alloc (.cells #[.int .i64 0, .int .i64 0, .int .i64 0] 74))).alloc (Nat.le_refl _) (.cells #[.int .i64 0, .int .i64 0, .int .i64 0] 74)) w.heap.size (by simp)).trans (heap_alloc_new w _)
  have r1 : ((w.alloc (.cells #[.int .i64 0, .int .i64 0, .int .i64 0] 74)).alloc (.cells #[.int .i64 0, .int .i64 0, .int .i64 0] 74)).heap[w.heap.size + 1]? = some (.cells #[.int .i64 0, .int .i64 0, .int .i64 0] 74 (0, 0)) := heap_alloc2_new w _ _
  have R01 : Hid (((w.alloc (.cells #[.int .i64 0, .int .i64 0, .int .i64 0] 74)).alloc (.cells #[.int .i64 0, .int .i64 0, .int .i64 0] 74)).heap[w.heap.size]? = some (.cells #[.int .i64 0, .int .i64 0, .int .i64 0] 74 (0, 0)) ∧ ((w.alloc (.cells #[.int .i64 0, .int .i64 0, .int .i64 0] 74)).alloc (.cells #[.int .i64 0, .int .i64 0, .int .i64 0] 74)).heap[w.heap.size + 1]? = some (.cells #[.int .i64 0, .int .i64 0, .int .i64 0] 74 (0, 0))) := ⟨r0, r1⟩
  have j00 : ((w.alloc (.cells #[.int .i64 0, .int .i64 0, .int .i64 0] 74)).alloc (.cells #[.int .i64 0, .int .i64 0, .int .i64 0] 74)).cell? ⟨w.heap.size, 0, none⟩ = some (.int .i64 0) := blk_cell r0
  have l00 : ((w.alloc (.cells #[.int .i64 0, .int .i64 0, .int .i64 0] 74)).alloc (.cells #[.int .i64 0, .int .i64 0, .int .i64 0] 74)).frozen? ⟨w.heap.size, 0, none⟩ = false := blk_free r0
  have j01 : ((w.alloc (.cells #[.int .i64 0, .int .i64 0, .int .i64 0] 74)).alloc (.cells #[.int .i64 0, .int .i64 0, .int .i64 0] 74)).cell? ⟨w.heap.size, 1, none⟩ = some (.int .i64 0) := blk_cell r0
  have l01 : ((w.alloc (.cells #[.int .i64 0, .int .i64 0, .int .i64 0] 74)).alloc (.cells #[.int .i64 0, .int .i64 0, .int .i64 0] 74)).frozen? ⟨w.heap.size, 1, none⟩ = false := blk_free r0
  have j02 : ((w.alloc (.cells #[.int .i64 0, .int .i64 0, .int .i64 0] 74)).alloc (.cells #[.int .i64 0, .int .i64 0, .int .i64 0] 74)).cell? ⟨w.heap.size, 2, none⟩ = some (.int .i64 0) := blk_cell r0
  have l02 : ((w.alloc (.cells #[.int .i64 0, .int .i64 0, .int .i64 0] 74)).alloc (.cells #[.int .i64 0, .int .i64 0, .int .i64 0] 74)).frozen? ⟨w.heap.size, 2, none⟩ = false := blk_free r0
  have j10 : ((w.alloc (.cells #[.int .i64 0, .int .i64 0, .int .i64 0] 74)).alloc (.cells #[.int .i64 0, .int .i64 0, .int .i64 0] 74)).cell? ⟨w.heap.size + 1, 0, none⟩ = some (.int .i64 0) := blk_cell r1
  have l10 : ((w.alloc (.cells #[.int .i64 0, .int .i64 0, .int .i64 0] 74)).alloc (.cells #[.int .i64 0, .int .i64 0, .int .i64 0] 74)).frozen? ⟨w.heap.size + 1, 0, none⟩ = false := blk_free r1
  have j11 : ((w.alloc (.cells #[.int .i64 0, .int .i64 0, .int .i64 0] 74)).alloc (.cells #[.int .i64 0, .int .i64 0, .int .i64 0] 74)).cell? ⟨w.heap.size + 1, 1, none⟩ = some (.int .i64 0) := blk_cell r1
  have l11 : ((w.alloc (.cells #[.int .i64 0, .int .i64 0, .int .i64 0] 74)).alloc (.cells #[.int .i64 0, .int .i64 0, .int .i64 0] 74)).frozen? ⟨w.heap.size + 1, 1, none⟩ = false := blk_free r1
  have j12 : ((w.alloc (.cells #[.int .i64 0, .int .i64 0, .int .i64 0] 74)).alloc (.cells #[.int .i64 0, .int .i64 0, .int .i64 0] 74)).cell? ⟨w.heap.size + 1, 2, none⟩ = some (.int .i64 0) := blk_cell r1
  have l12 : ((w.alloc (.cells #[.int .i64 0, .int .i64 0, .int .i64 0] 74)).alloc (.cells #[.int .i64 0, .int .i64 0, .int .i64 0] 74)).frozen? ⟨w.heap.size + 1, 2, none⟩ = false := blk_free r1
  have n0 : l.pb ≠ w.heap.size := by omega
  have n1 : l.pb ≠ w.heap.size + 1 := by omega
  have n0' : w.heap.size ≠ l.pb := by omega
  have n1' : w.heap.size + 1 ≠ l.pb := by omega
  have TV : Hid (termsV m.sent = .agg #[.int .i64 (termsI m.sent 0 : Int), .int .i64 (termsI m.sent 1 : Int), .int .i64 (termsI m.sent 2 : Int)] ∧ termsV m.agr = .agg #[.int .i64 (termsI m.agr 0 : Int), .int .i64 (termsI m.agr 1 : Int), .int .i64 (termsI m.agr 2 : Int)]) := ⟨rfl, rfl⟩
  clear h hA r0 r1
  generalize termsI m.sent 0 = A0 at *
  generalize termsI m.sent 1 = A1 at *
  generalize termsI m.sent 2 = A2 at *
  generalize termsI m.agr 0 = B0 at *
  generalize termsI m.agr 1 = B1 at *
  generalize termsI m.agr 2 = B2 at *
  go_enter Tryz.func39, Tryz.ntmps39
  go_wp2_with fail
  generalize ((w.alloc (.cells #[.int .i64 0, .int .i64 0, .int .i64 0] 74)).alloc (.cells #[.int .i64 0, .int .i64 0, .int .i64 0] 74)) = WB at *
  go_region
  go_wp2_with fail
  have tt := ((((((tset WB w.heap.size 0 (.int .i64 (A0 : Int))).trans (tset _ _ 1 (.int .i64 (A1 : Int)))).trans (tset _ _ 2 (.int .i64 (A2 : Int)))).mono (T := fun b => b = w.heap.size ∨ b = w.heap.size + 1) (fun _ x => .inl x)).trans ((((tset _ (w.heap.size + 1) 0 (.int .i64 (B0 : Int))).trans (tset _ _ 1 (.int .i64 (B1 : Int)))).trans (tset _ _ 2 (.int .i64 (B2 : Int)))).mono (fun _ x => .inr x))).drew).below BA.out.size (fun b hb => by omega)
  refine bodyPost_ret (v := .tuple #[.agg #[.int .i64 (A0 : Int), .int .i64 (A1 : Int), .int .i64 (A2 : Int)], .agg #[.int .i64 (B0 : Int), .int .i64 (B1 : Int), .int .i64 (B2 : Int)]]) (by simp [results, Tryz.results39, go_sem, j00, j01, j02, j10, j11, j12]) rfl ⟨?_, BA.out.trans tt⟩
  rw [TV.out.1, TV.out.2]
end Go.Proofs.YtoeihlgidakjbaaGreatDoor

/- An append onto a row of the call's own leaves what the old slice owned as it was. The laws' longer: the same list and one place more. The reference's end in memory. -/
import Derived.Test.YtoeihlgidakjbaaGreatDoorEa10
import Derived.Deep.AppendLies
import Derived.Deep.RegionHeldLaw
import Derived.Test.YtoeihlgidakjbaaGreatDoorEa8
namespace Go.Proofs.YtoeihlgidakjbaaGreatDoor
open Go.RowKit Go.Lib
section
variable {P : Program} (w : World)
theorem run_append_keep (t ty : TypeId) (base : Nat) (e : TypeId) (i : TypeInfo) (z : Value) (bytes : Nat) (ht : P.underlying t = some (.slice e)) (hi : P.info? e = some i) (hz : i.zero = some z)
    (hsize : i.size = 1) (hby : i.bytes = bytes) (hzs : z.cells.size = 1)
    (v : Value) (n : Nat) (xs : List Value) (hown : w.ownsRow base e 1 v n xs)
    (ad : Addr) (m c : Nat) (news : List Value) (hl : news.length = m * 1) (hnews : ∀ j u, news[j]? = some u → w.cell? (ad.add j) = some u) (h1 : ∀ u ∈ news, u.oneCell' = true)
    (hm : 0 < m) (h63 : n + m ≤ maxLen) (hbytes : (n + m) * bytes ≤ 140737488355328) (hbase : base ≤ w.heap.size) (H : Nat) (hH : w.heap.size = H) :
    ∃ g cap w', (Builtin.append_ #[t, t] ty #[v, .slice (some ad) m c]).run P w = .ok (.slice (some ⟨g, 0, none⟩) (n + m) cap) w' ∧
      w'.ownsRow base e 1 (.slice (some ⟨g, 0, none⟩) (n + m) cap) (n + m) (xs ++ news) ∧ w'.ownsRow base e 1 v n xs ∧ w.grownBy w' v.ownBlock ∧ (v.ownBlock = some g ∨ g = H) ∧ g < w'.heap.size := by
  obtain ⟨g, cap, w', hr, h2, h3, h4, h5⟩ := run_append_lies (P := P) w t ty base e i z 1 bytes ht hi hz hsize hby hzs (by decide) v n xs hown ad m c news hl hnews h1 hm h63 hbytes hbase H hH
  refine ⟨g, cap, w', hr, h2, ?_, h3, h4, h5⟩
  rcases hown.2 with ⟨rfl, rfl⟩ | ⟨g0, cap0, cur, rfl, hbg, hg, hnc, hcm, hcs, htake⟩
  · have hx : xs = [] := List.eq_nil_of_length_eq_zero (by simpa using hown.1)
    subst hx
    exact World.ownsRow_nil _ _ _ _
  · by_cases hroom : n + m ≤ cap0
    · have hfit : n * i.size + news.length ≤ cur.size := by rw [hl, hcs, hsize]; omega
      have hr' := run_append_room (P := P) w t ty e i ht hi g0 n cap0 cur hg ad m c news (by rw [hsize]; exact hl) hnews h1 hroom hfit
      rw [hr'] at hr
      injection hr with _ hw
      subst hw
      refine ⟨hown.1, .inr ⟨g0, cap0, _, rfl, hbg, setRow_heap w g0 cur _ e _ hg, hnc, hcm, ?_, ?_⟩⟩
      · simp only [List.size_toArray, List.length_append, List.length_take, List.length_drop, Array.length_toList]
        rw [hsize] at hfit ⊢
        omega
      · have hxl : xs.length = n * 1 := hown.1
        rw [hsize, htake, List.append_assoc, ← hxl]
        exact List.take_left
    · have holds : ∀ j u, xs[j]? = some u → w.cell? ((⟨g0, 0, none⟩ : Addr).add j) = some u := hown.cells (g := g0) rfl
      have hsmall : n + m ≤ 9223372036854775807 := by simp only [maxLen] at h63; omega
      have hr' := run_append_grow (P := P) w t ty e i z ht hi hz ⟨g0, 0, none⟩ n cap0 xs (by rw [hsize]; exact hown.1) holds ad m c news (by rw [hsize]; exact hl) hnews (by omega) (by omega) (growslice_fits (by omega) (by rw [hby]; exact hbytes))
      rw [hr'] at hr
      injection hr with _ hw
      subst hw
      exact ⟨hown.1, .inr ⟨g0, cap0, cur, rfl, hbg, (Below.heap_alloc w.drew _ g0 (lt_of_block hg)).trans hg, hnc, hcm, hcs, htake⟩⟩
theorem wp_append_keep {o : Oper} {a : Act} {K : Act → World → Prop} {Q : Exit → Act → World → Prop} (s x : Operand) (t : TypeId)
    (ho : o.op = .call { callee := .builtin .append, args := #[s, x], argTypes := #[t, t] })
    (base : Nat) (e : TypeId) (i : TypeInfo) (z : Value) (bytes : Nat) (ht : P.underlying t = some (.slice e)) (hi : P.info? e = some i) (hz : i.zero = some z)
    (hsize : i.size = 1) (hby : i.bytes = bytes) (hzs : z.cells.size = 1)
    (v : Value) (n : Nat) (xs : List Value) (hs : a.eval s = v) (hown : w.ownsRow base e 1 v n xs)
    (ad : Addr) (m c : Nat) (news : List Value) (hx : a.eval x = .slice (some ad) m c) (hl : news.length = m * 1) (hnews : ∀ j u, news[j]? = some u → w.cell? (ad.add j) = some u) (h1 : ∀ u ∈ news, u.oneCell' = true)
    (hm : 0 < m) (h63 : n + m ≤ maxLen) (hbytes : (n + m) * bytes ≤ 140737488355328) (hbase : base ≤ w.heap.size) (H : Nat) (hH : w.heap.size = H)
    (h : ∀ g cap w', w'.ownsRow base e 1 (.slice (some ⟨g, 0, none⟩) (n + m) cap) (n + m) (xs ++ news) → w'.ownsRow base e 1 v n xs → w.grownBy w' v.ownBlock → (v.ownBlock = some g ∨ g = H) → g < w'.heap.size → K (a.put o.dst (.slice (some ⟨g, 0, none⟩) (n + m) cap)) w') : o.wp P a w K Q := by
  obtain ⟨g, cap, w', hr, h2, h6, h3, h4, h5⟩ := run_append_keep (P := P) w t o.type base e i z bytes ht hi hz hsize hby hzs v n xs hown ad m c news hl hnews h1 hm h63 hbytes hbase H hH
  unfold Oper.wp execOp
  simp only [ho, resolve, invoke, builtin, Sem.run_bind, Sem.run_pure, Result.andThen_ok, List.map_toArray, List.map_cons, List.map_nil, hs, hx, hr]
  exact h g cap w' h2 h6 h3 h4 h5
theorem wpList_append_keep {ops : Array Oper} {rest : List Oper} {o : Oper} {a : Act} {Q : Exit → Act → World → Prop} (hgd : o.guard = none) (s x : Operand) (t : TypeId)
    (ho : o.op = .call { callee := .builtin .append, args := #[s, x], argTypes := #[t, t] })
    (base : Nat) (e : TypeId) (i : TypeInfo) (z : Value) (bytes : Nat) (ht : P.underlying t = some (.slice e)) (hi : P.info? e = some i) (hz : i.zero = some z)
    (hsize : i.size = 1) (hby : i.bytes = bytes) (hzs : z.cells.size = 1)
    (v : Value) (n : Nat) (xs : List Value) (hs : a.eval s = v) (hown : w.ownsRow base e 1 v n xs)
    (ad : Addr) (m c : Nat) (news : List Value) (hx : a.eval x = .slice (some ad) m c) (hl : news.length = m * 1) (hnews : ∀ j u, news[j]? = some u → w.cell? (ad.add j) = some u) (h1 : ∀ u ∈ news, u.oneCell' = true)
    (hm : 0 < m) (h63 : n + m ≤ maxLen) (hbytes : (n + m) * bytes ≤ 140737488355328) (hbase : base ≤ w.heap.size) (H : Nat) (hH : w.heap.size = H)
    (h : ∀ g cap w', w'.ownsRow base e 1 (.slice (some ⟨g, 0, none⟩) (n + m) cap) (n + m) (xs ++ news) → w'.ownsRow base e 1 v n xs → w.grownBy w' v.ownBlock → (v.ownBlock = some g ∨ g = H) → g < w'.heap.size → wpList P ops Q rest (a.put o.dst (.slice (some ⟨g, 0, none⟩) (n + m) cap)) w') : wpList P ops Q (o :: rest) a w :=
  wpList_plain hgd fun _ hK => wp_append_keep w s x t ho base e i z bytes ht hi hz hsize hby hzs v n xs hs hown ad m c news hx hl hnews h1 hm h63 hbytes hbase H hH fun g cap w' h2 h6 h3 h4 h5 => hK _ _ (h g cap w' h2 h6 h3 h4 h5)
theorem step_append_keep {ops : Array Oper} {o : Oper} {a : Act} {K : Act → World → Prop} {Q : Exit → Act → World → Prop} {E : Prop} (hgd : o.guard = none) (s x : Operand) (t : TypeId)
    (ho : o.op = .call { callee := .builtin .append, args := #[s, x], argTypes := #[t, t] })
    (base : Nat) (e : TypeId) (i : TypeInfo) (z : Value) (bytes : Nat) (ht : P.underlying t = some (.slice e)) (hi : P.info? e = some i) (hz : i.zero = some z)
    (hsize : i.size = 1) (hby : i.bytes = bytes) (hzs : z.cells.size = 1)
    (v : Value) (n : Nat) (xs : List Value) (hs : a.eval s = v) (hown : w.ownsRow base e 1 v n xs)
    (ad : Addr) (m c : Nat) (news : List Value) (hx : a.eval x = .slice (some ad) m c) (hl : news.length = m * 1) (hnews : ∀ j u, news[j]? = some u → w.cell? (ad.add j) = some u) (h1 : ∀ u ∈ news, u.oneCell' = true)
    (hm : 0 < m) (h63 : n + m ≤ maxLen) (hbytes : (n + m) * bytes ≤ 140737488355328) (hbase : base ≤ w.heap.size) (H : Nat) (hH : w.heap.size = H)
    (h : ∀ g cap w', w'.ownsRow base e 1 (.slice (some ⟨g, 0, none⟩) (n + m) cap) (n + m) (xs ++ news) → w'.ownsRow base e 1 v n xs → w.grownBy w' v.ownBlock → (v.ownBlock = some g ∨ g = H) → g < w'.heap.size → K (a.put o.dst (.slice (some ⟨g, 0, none⟩) (n + m) cap)) w') :
    if Region.wanted o (yielded ops a.tmps) = true then Oper.wp P o a w K Q else E := by
  have hw : Region.wanted o (yielded ops a.tmps) = true := by simp [Region.wanted, hgd]
  rw [if_pos hw]
  exact wp_append_keep w s x t ho base e i z bytes ht hi hz hsize hby hzs v n xs hs hown ad m c news hx hl hnews h1 hm h63 hbytes hbase H hH h
end
end Go.Proofs.YtoeihlgidakjbaaGreatDoor
namespace Go.Proofs.YtoeihlgidakjbaaGreatDoor
open Go.RowKit Go.Lib
structure OH (w : World) (B : Nat) (e : HE) : Prop where
  c0 : w.cell? ⟨e.hb, 0, none⟩ = some e.vb
  c1 : w.cell? ⟨e.hb, 1, none⟩ = some e.vn
  c2 : w.cell? ⟨e.hb, 2, none⟩ = some (.int .i64 e.m)
  ob : w.ownsRow B 5 1 e.vb e.nb (marksB e.m e.nb)
  on : w.ownsRow B 3 1 e.vn e.nn (List.replicate e.nn (.int .i64 (-e.m)))
  lt : e.hb < w.heap.size
  ge : B ≤ e.hb
  h1 : e.vb.ownBlock ≠ some e.hb
  h2 : e.vn.ownBlock ≠ some e.hb
  h3 : e.vb.ownBlock = none ∨ e.vb.ownBlock ≠ e.vn.ownBlock
  m0 : 0 < e.m
  m1 : e.m ≤ 4611686018427387904
  b1 : e.nb ≤ 140737488352000
  n1 : e.nn ≤ 17592186044000
theorem OH.hi {w : World} {B : Nat} {e : HE} (h : OH w B e) : HI w e := by
  refine ⟨h.c0, h.c1, h.c2, ?_, ?_, h.m0, h.m1⟩
  · obtain ⟨a, cap, g, hv, ha, _, hc⟩ := own_shape h.ob
    refine ⟨a, cap, g, hv, by have := h.b1; omega, ha, fun j hj => ?_⟩
    rw [hc j hj, marksB, List.getElem?_map, List.getElem?_eq_getElem (by simpa using hj)]
    simp
  · obtain ⟨a, cap, g, hv, ha, _, hc⟩ := own_shape h.on
    refine ⟨a, cap, g, hv, by have := h.n1; omega, ha, fun j hj => ?_⟩
    rw [hc j hj, List.getElem?_eq_getElem (by simpa using hj)]
    simp
theorem OH.of {w w' : World} {B : Nat} {e : HE} (h : OH w B e) {S : Nat → Prop} (ht : Tch S w w') (hs : ∀ b, e.in_ b → ¬ S b) : OH w' B e :=
  ⟨(World.cell?_of_block (w := w) (a := ⟨e.hb, 0, none⟩) (ht.block _ h.lt (hs _ (.inl rfl)))).trans h.c0, (World.cell?_of_block (w := w) (a := ⟨e.hb, 1, none⟩) (ht.block _ h.lt (hs _ (.inl rfl)))).trans h.c1, (World.cell?_of_block (w := w) (a := ⟨e.hb, 2, none⟩) (ht.block _ h.lt (hs _ (.inl rfl)))).trans h.c2,
   owns_tch h.ob ht (fun b hb => hs b (.inr (.inl hb))), owns_tch h.on ht (fun b hb => hs b (.inr (.inr hb))), Nat.lt_of_lt_of_le h.lt ht.size, h.ge, h.h1, h.h2, h.h3, h.m0, h.m1, h.b1, h.n1⟩
theorem marksB_snoc (m : Int) (n : Nat) : marksB m (n + 1) = marksB m n ++ [.int .u8 (signN m (n : Int))] := by
  rw [marksB, marksB, List.range_succ, List.map_append]; rfl
theorem wrap_neg {m : Int} (m0 : 0 < m) (m1 : m ≤ 4611686018427387904) : IntKind.i64.wrap (-m) = -m := by
  simp only [IntKind.wrap, IntKind.signed, IntKind.bits, Bool.true_and]
  split
  · rename_i h; simp at h; omega
  · rename_i h; simp at h; omega
theorem news_neg (w : World) {m : Int} (m0 : 0 < m) (m1 : m ≤ 4611686018427387904) (t : Nat) : ∀ (j : Nat) (u : Value), [Value.int .i64 (-m)][j]? = some u → (w.alloc (.cells #[.int .i64 (IntKind.i64.wrap (-m))] t)).drew.cell? (Addr.add ⟨w.heap.size, 0, none⟩ j) = some u := by
  rw [wrap_neg m0 m1]
  exact fun j u h => cell_one_new w (.int .i64 (-m)) t j u h
set_option maxRecDepth 100000 in
set_option maxHeartbeats 2000000 in
theorem longer_any (B : Nat) (e : HE) (w : World) (h : OH w B e) (hb1 : e.nb + 1 ≤ 140737488352000) (hn1 : e.nn + 1 ≤ 17592186044000) (hB : B ≤ w.heap.size) :
    Calls Tryz.prog 79 #[.pointer (some ⟨e.hb, 0, none⟩)] w fun r w' => ∃ e' : HE, r = .returned (.pointer (some ⟨e'.hb, 0, none⟩)) ∧ OH w' B e' ∧ OH w' B e ∧ e'.nb = e.nb + 1 ∧ e'.nn = e.nn + 1 ∧ e'.m = e.m ∧ w.heap.size ≤ e'.hb ∧ (∀ b, e'.in_ b → e.in_ b ∨ w.heap.size ≤ b) ∧ (∀ b, e'.in_ b → b < w'.heap.size) ∧ (e'.vb.ownBlock = e.vb.ownBlock ∨ ∀ b, e'.vb.ownBlock = some b → w.heap.size ≤ b) ∧ (e'.vn.ownBlock = e.vn.ownBlock ∨ ∀ b, e'.vn.ownBlock = some b → w.heap.size ≤ b) ∧ Tch e.in_ w w' := by
  obtain ⟨i0, hi, hz0, hz1, hz2⟩ := info_parts Tryz.infoB
  obtain ⟨j0, hj, hy0, hy1, hy2⟩ := info_parts Tryz.infoI
  have H := h
  obtain ⟨hb, vb, nb, vn, nn, m⟩ := e
  obtain ⟨c0, c1, c2, ob, on, lt, ge, h1, h2, h3, m0, m1, b1, n1⟩ := h
  simp only at c0 c1 c2 ob on lt ge h1 h2 h3 m0 m1 b1 n1 hb1 hn1
  obtain ⟨ab, capb, gb, rfl, hab, _, _⟩ := own_shape ob
  obtain ⟨an, capn, gn, rfl, han, _, _⟩ := own_shape on
  show Calls Tryz.prog 79 #[.pointer (some ⟨hb, 0, none⟩)] w _
  have HH : Hid (OH w B ⟨hb, .slice ab nb capb, nb, .slice an nn capn, nn, m⟩) := H
  have HOB : Hid (w.ownsRow B 5 1 (.slice ab nb capb) nb (marksB m nb)) := ob
  have HON : Hid (w.ownsRow B 3 1 (.slice an nn capn) nn (List.replicate nn (.int .i64 (-m)))) := on
  clear H ob on hab han h1 h2 h3
  have e0 := (World.cell?_alloc_lt w (.cells #[.slice none 0 0, .slice none 0 0, .int .i64 m] 106) ⟨hb, 0, none⟩ lt).trans c0
  have e1 := (World.cell?_alloc_lt w (.cells #[.slice none 0 0, .slice none 0 0, .int .i64 m] 106) ⟨hb, 1, none⟩ lt).trans c1
  have e2 := (World.cell?_alloc_lt w (.cells #[.slice none 0 0, .slice none 0 0, .int .i64 m] 106) ⟨hb, 2, none⟩ lt).trans c2
  go_enter Tryz.func79, Tryz.ntmps79
  go_wp2_with fail
  go_quiet ((go_at_call 87; exact Calls.quiet_of_same (sign_q _ _ _)))
  go_upto_region 3 with fail
  have tb0 : Below w.heap.size w ((w.alloc (.cells #[.slice none 0 0, .slice none 0 0, .int .i64 m] 106)).drewN nq) := below_drewN ((Below.refl _ _).alloc (Nat.le_refl _) _) nq
  have g0 : ((w.alloc (.cells #[.slice none 0 0, .slice none 0 0, .int .i64 m] 106)).drewN nq).cell? ⟨w.heap.size, 0, none⟩ = some (.slice none 0 0) := by simp
  have g1 : ((w.alloc (.cells #[.slice none 0 0, .slice none 0 0, .int .i64 m] 106)).drewN nq).cell? ⟨w.heap.size, 1, none⟩ = some (.slice none 0 0) := by simp
  have g2 : ((w.alloc (.cells #[.slice none 0 0, .slice none 0 0, .int .i64 m] 106)).drewN nq).cell? ⟨w.heap.size, 2, none⟩ = some (.int .i64 m) := by simp
  have z0 : ((w.alloc (.cells #[.slice none 0 0, .slice none 0 0, .int .i64 m] 106)).drewN nq).frozen? ⟨w.heap.size, 0, none⟩ = false := by simp
  have z1 : ((w.alloc (.cells #[.slice none 0 0, .slice none 0 0, .int .i64 m] 106)).drewN nq).frozen? ⟨w.heap.size, 1, none⟩ = false := by simp
  have lt0 : w.heap.size < ((w.alloc (.cells #[.slice none 0 0, .slice none 0 0, .int .i64 m] 106)).drewN nq).heap.size := by simp
  clear e0 e1 e2
  generalize (w.alloc (.cells #[.slice none 0 0, .slice none 0 0, .int .i64 m] 106)).drewN nq = W0 at *
  have ob0 := owns_below HOB.out tb0
  have on0 := owns_below HON.out tb0
  have lb : ∀ b, (Value.slice ab nb capb).ownBlock = some b → b < w.heap.size := fun b hb' => (HOB.out.lt b hb').2
  have ln : ∀ b, (Value.slice an nn capn).ownBlock = some b → b < w.heap.size := fun b hb' => (HON.out.lt b hb').2
  have LB : Hid (_) := lb
  have LN : Hid (_) := ln
  have OB0 : Hid (W0.ownsRow B 5 1 (.slice ab nb capb) nb (marksB m nb)) := ob0
  have ON0 : Hid (W0.ownsRow B 3 1 (.slice an nn capn) nn (List.replicate nn (.int .i64 (-m)))) := on0
  have d0 := (tb0.cell (p := ⟨hb, 0, none⟩) lt).trans c0
  have d1 := (tb0.cell (p := ⟨hb, 1, none⟩) lt).trans c1
  have d2 := (tb0.cell (p := ⟨hb, 2, none⟩) lt).trans c2
  have hB0 : B ≤ W0.heap.size := Nat.le_trans hB tb0.size
  clear lb ln ob0 on0 c0 c1 c2
  go_cut [] (fun wx => ∃ gv capv w1, wx = w1.setCell ⟨w.heap.size, 0, none⟩ (.slice (some ⟨gv, 0, none⟩) (nb + 1) capv) ∧ w1.ownsRow B 5 1 (.slice (some ⟨gv, 0, none⟩) (nb + 1) capv) (nb + 1) (marksB m (nb + 1)) ∧ w1.ownsRow B 5 1 (.slice ab nb capb) nb (marksB m nb) ∧ Tch (fun b => (Value.slice ab nb capb).ownBlock = some b) W0 w1 ∧ ((Value.slice ab nb capb).ownBlock = some gv ∨ W0.heap.size ≤ gv) ∧ gv < w1.heap.size)
  case first =>
    go_wp2_with (at_builtin; go_must (refine wpList_append_keep _ rfl (.tmp 25) (.tmp 27) 52 rfl B 5 i0 (.int .u8 0) 1 Tryz.underlying52 hi hz0 hz1 hz2 rfl _ nb (marksB m nb) rfl (OB0.out.alloc _) ⟨W0.heap.size, 0, none⟩ 1 1 [.int .u8 (signN m (nb : Int))] rfl rfl (cell_one_new _ _ _) (by intro u hu; simp at hu; subst hu; rfl) (by omega) (by unfold maxLen; omega) (by omega) (by simp; omega) _ rfl ?_; intro gv capv w1 hown1 hold1 hgrow1 hat1 hlt1; have ht1 := tch_grown hgrow1; have y0 : w1.cell? ⟨w.heap.size, 0, none⟩ = some (.slice none 0 0) := (World.cell?_of_block (w := W0) (a := ⟨w.heap.size, 0, none⟩) (ht1.block _ lt0 (fun x => absurd (LB.out _ x) (Nat.lt_irrefl _)))).trans g0; have u0 : w1.frozen? ⟨w.heap.size, 0, none⟩ = false := (World.frozen?_of_block (w := W0) (a := ⟨w.heap.size, 0, none⟩) (ht1.block _ lt0 (fun x => absurd (LB.out _ x) (Nat.lt_irrefl _)))).trans z0))
    go_meet
    refine ⟨gv, capv, w1, rfl, ?_, hold1, ht1, ?_, hlt1⟩
    · rw [marksB_snoc]; exact hown1
    · rcases hat1 with h | h
      · exact .inl h
      · right; rw [h]; simp
  case rest =>
    obtain ⟨gv, capv, w1, rfl, hown1, hold1, ht1, hat1, hlt1⟩ := hcut
    have hne : hb ≠ w.heap.size := Nat.ne_of_lt lt
    have lt1 : w.heap.size < w1.heap.size := Nat.lt_of_lt_of_le lt0 ht1.size
    have hbs : ¬ (Value.slice ab nb capb).ownBlock = some hb := HH.out.h1
    have x1 : (w1.setCell ⟨w.heap.size, 0, none⟩ (.slice (some ⟨gv, 0, none⟩) (nb + 1) capv)).cell? ⟨hb, 1, none⟩ = some (.slice an nn capn) := (set_ne hne).trans ((World.cell?_of_block (w := W0) (a := ⟨hb, 1, none⟩) (ht1.block hb (Nat.lt_trans lt lt0) hbs)).trans d1)
    have x2 : (w1.setCell ⟨w.heap.size, 0, none⟩ (.slice (some ⟨gv, 0, none⟩) (nb + 1) capv)).cell? ⟨hb, 2, none⟩ = some (.int .i64 m) := (set_ne hne).trans ((World.cell?_of_block (w := W0) (a := ⟨hb, 2, none⟩) (ht1.block hb (Nat.lt_trans lt lt0) hbs)).trans d2)
    have hgs : ¬ (Value.slice ab nb capb).ownBlock = some w.heap.size := fun x => absurd (LB.out _ x) (Nat.lt_irrefl _)
    have on1 : w1.ownsRow B 3 1 (.slice an nn capn) nn (List.replicate nn (.int .i64 (-m))) := owns_tch ON0.out ht1 (fun b hb1 hb2 => by
      rcases HH.out.h3 with h | h
      · exact absurd (h.symm.trans hb2) (by simp)
      · exact h (hb2.trans hb1.symm))
    have on2 : (w1.setCell ⟨w.heap.size, 0, none⟩ (.slice (some ⟨gv, 0, none⟩) (nb + 1) capv)).ownsRow B 3 1 (.slice an nn capn) nn (List.replicate nn (.int .i64 (-m))) :=
      owns_tch on1 (Tch.set (fun b => b = w.heap.size) w1 ⟨w.heap.size, 0, none⟩ _ rfl) (fun b hb1 hb2 => by have := LN.out b hb1; omega)
    have y1 : (w1.setCell ⟨w.heap.size, 0, none⟩ (.slice (some ⟨gv, 0, none⟩) (nb + 1) capv)).cell? ⟨w.heap.size, 1, none⟩ = some (.slice none 0 0) := by
      have := (World.cell?_of_block (w := W0) (a := ⟨w.heap.size, 1, none⟩) (ht1.block _ lt0 hgs)).trans g1
      rw [World.cell?_setCell_other]
      · exact this
      · simp
    have y2 : (w1.setCell ⟨w.heap.size, 0, none⟩ (.slice (some ⟨gv, 0, none⟩) (nb + 1) capv)).cell? ⟨w.heap.size, 2, none⟩ = some (.int .i64 m) := by
      have := (World.cell?_of_block (w := W0) (a := ⟨w.heap.size, 2, none⟩) (ht1.block _ lt0 hgs)).trans g2
      rw [World.cell?_setCell_other]
      · exact this
      · simp
    have y0 : (w1.setCell ⟨w.heap.size, 0, none⟩ (.slice (some ⟨gv, 0, none⟩) (nb + 1) capv)).cell? ⟨w.heap.size, 0, none⟩ = some (.slice (some ⟨gv, 0, none⟩) (nb + 1) capv) := by
      have := (World.cell?_of_block (w := W0) (a := ⟨w.heap.size, 0, none⟩) (ht1.block _ lt0 hgs)).trans g0
      exact World.cell?_setCell_same' w1 _ _ (by rw [this]; rfl)
    have v1 : (w1.setCell ⟨w.heap.size, 0, none⟩ (.slice (some ⟨gv, 0, none⟩) (nb + 1) capv)).frozen? ⟨w.heap.size, 1, none⟩ = false := by
      have := (World.frozen?_of_block (w := W0) (a := ⟨w.heap.size, 1, none⟩) (ht1.block _ lt0 hgs)).trans z1
      simpa using this
    have hown2 : (w1.setCell ⟨w.heap.size, 0, none⟩ (.slice (some ⟨gv, 0, none⟩) (nb + 1) capv)).ownsRow B 5 1 (.slice (some ⟨gv, 0, none⟩) (nb + 1) capv) (nb + 1) (marksB m (nb + 1)) :=
      owns_tch hown1 (Tch.set (fun b => b = w.heap.size) w1 ⟨w.heap.size, 0, none⟩ _ rfl) (fun b hb1 hb2 => by
        have e : gv = b := by simpa [Value.ownBlock] using hb1
        rcases hat1 with h | h
        · have := LB.out _ h; omega
        · omega)
    have hold2 : (w1.setCell ⟨w.heap.size, 0, none⟩ (.slice (some ⟨gv, 0, none⟩) (nb + 1) capv)).ownsRow B 5 1 (.slice ab nb capb) nb (marksB m nb) :=
      owns_tch hold1 (Tch.set (fun b => b = w.heap.size) w1 ⟨w.heap.size, 0, none⟩ _ rfl) (fun b hb1 hb2 => by have := LB.out b hb1; omega)
    have ht2 : Tch (fun b => (Value.slice ab nb capb).ownBlock = some b ∨ W0.heap.size ≤ b ∨ b = w.heap.size) W0 (w1.setCell ⟨w.heap.size, 0, none⟩ (.slice (some ⟨gv, 0, none⟩) (nb + 1) capv)) :=
      (ht1.mono (fun _ h => .inl h)).trans (Tch.set _ w1 ⟨w.heap.size, 0, none⟩ _ (.inr (.inr rfl)))
    have x0 : (w1.setCell ⟨w.heap.size, 0, none⟩ (.slice (some ⟨gv, 0, none⟩) (nb + 1) capv)).cell? ⟨hb, 0, none⟩ = some (.slice ab nb capb) := (set_ne hne).trans ((World.cell?_of_block (w := W0) (a := ⟨hb, 0, none⟩) (ht1.block hb (Nat.lt_trans lt lt0) hbs)).trans d0)
    have lt2 : w.heap.size < (w1.setCell ⟨w.heap.size, 0, none⟩ (.slice (some ⟨gv, 0, none⟩) (nb + 1) capv)).heap.size := by simpa using lt1
    have hgv2 : gv < (w1.setCell ⟨w.heap.size, 0, none⟩ (.slice (some ⟨gv, 0, none⟩) (nb + 1) capv)).heap.size := by simpa using hlt1
    generalize w1.setCell ⟨w.heap.size, 0, none⟩ (.slice (some ⟨gv, 0, none⟩) (nb + 1) capv) = W1 at *
    clear hown1 hold1 ht1 on1 d0 d1 d2 g0 g1 g2 z0 z1 hlt1 lt1
    have ltx : hb < W1.heap.size := Nat.lt_trans lt lt2
    have hns : (Value.slice an nn capn).ownBlock ≠ some hb := HH.out.h2
    have ON2 : Hid (W1.ownsRow B 3 1 (.slice an nn capn) nn (List.replicate nn (.int .i64 (-m)))) := on2
    have HO2 : Hid (W1.ownsRow B 5 1 (.slice (some ⟨gv, 0, none⟩) (nb + 1) capv) (nb + 1) (marksB m (nb + 1)) ∧ W1.ownsRow B 5 1 (.slice ab nb capb) nb (marksB m nb)) := ⟨hown2, hold2⟩
    have hB1 : B ≤ W1.heap.size := by have := ht2.size; omega
    have HT2 : Hid (Tch (fun b => (Value.slice ab nb capb).ownBlock = some b ∨ W0.heap.size ≤ b ∨ b = w.heap.size) W0 W1) := ht2
    have HAT : Hid ((Value.slice ab nb capb).ownBlock = some gv ∨ W0.heap.size ≤ gv) := hat1
    have HNS : Hid ((Value.slice an nn capn).ownBlock ≠ some hb) := hns
    clear on2 hown2 hold2 ht2 hat1 hns hbs hgs
    go_wp2_with fail
    go_region_held_law (fun w' => w'.cell? ⟨hb, 1, none⟩ = some (.slice an nn capn) ∧ w'.cell? ⟨hb, 2, none⟩ = some (.int .i64 m)) (first | exact ⟨x1, x2⟩ | assumption | exact ⟨(World.cell?_alloc_lt W1 _ ⟨hb, 1, none⟩ ltx).trans x1, (World.cell?_alloc_lt W1 _ ⟨hb, 2, none⟩ ltx).trans x2⟩ | exact ⟨(set_ne hne).trans hS.1, (set_ne hne).trans hS.2⟩) ((refine step_append_keep _ (by rfl) (.tmp 35) (.tmp 41) 28 (by rfl) B 3 j0 (.int .i64 0) 8 Tryz.underlying28 hj hy0 hy1 hy2 (by rfl) _ nn (List.replicate nn (.int .i64 (-m))) (by rfl) (ON2.out.alloc _).drew ⟨W1.heap.size, 0, none⟩ 1 1 [.int .i64 (-m)] (by rfl) (by rfl) (news_neg W1 m0 m1 _) (by intro u hu; simp at hu; subst hu; rfl) (by omega) (by unfold maxLen; omega) (by omega) (by simp; omega) (W1.heap.size + 1) (by simp) ?_; intro gn2 capn2 w3 hown3 hold3 hgrow3 hat3 hlt3; have ht3 := tch_grownD (W0 := W1) hgrow3; have hS : w3.cell? ⟨hb, 1, none⟩ = some (.slice an nn capn) ∧ w3.cell? ⟨hb, 2, none⟩ = some (.int .i64 m) := ⟨(World.cell?_of_block (w := W1) (a := ⟨hb, 1, none⟩) (ht3.block hb ltx HNS.out)).trans x1, (World.cell?_of_block (w := W1) (a := ⟨hb, 2, none⟩) (ht3.block hb ltx HNS.out)).trans x2⟩; have k1 : w3.cell? ⟨w.heap.size, 1, none⟩ = some (.slice none 0 0) := (World.cell?_of_block (w := W1) (a := ⟨w.heap.size, 1, none⟩) (ht3.block _ lt2 (fun x => absurd (LN.out _ x) (Nat.lt_irrefl _)))).trans y1; have k2 : w3.frozen? ⟨w.heap.size, 1, none⟩ = false := (World.frozen?_of_block (w := W1) (a := ⟨w.heap.size, 1, none⟩) (ht3.block _ lt2 (fun x => absurd (LN.out _ x) (Nat.lt_irrefl _)))).trans v1))
    go_wp2_with fail
    go_ret
    have hb3 : (Value.slice ab nb capb).ownBlock ≠ some w.heap.size := fun x => absurd (LB.out _ x) (Nat.lt_irrefl _)
    have hn3 : (Value.slice an nn capn).ownBlock ≠ some w.heap.size := fun x => absurd (LN.out _ x) (Nat.lt_irrefl _)
    have gvne : gv ≠ w.heap.size := by
      rcases HAT.out with h | h
      · have := LB.out _ h; omega
      · omega
    have gnne : gn2 ≠ w.heap.size := by
      rcases hat3 with h | h
      · have := LN.out _ h; omega
      · omega
    have gvn : (Value.slice an nn capn).ownBlock ≠ some gv := by
      rcases HAT.out with h | h
      · rcases HH.out.h3 with h' | h'
        · exact absurd (h'.symm.trans h) (by simp)
        · exact fun x => h' (h.trans x.symm)
      · intro x; have := LN.out _ x; omega
    have hvb : ∀ b, (Value.slice ab nb capb).ownBlock = some b → (Value.slice an nn capn).ownBlock ≠ some b := by
      intro b h1 h2
      rcases HH.out.h3 with h' | h'
      · exact absurd (h'.symm.trans h1) (by simp)
      · exact h' (h1.trans h2.symm)
    have gne : gv ≠ gn2 := by
      rcases hat3 with h | h
      · exact fun e => gvn (e ▸ h)
      · omega
    have s3 : W1.heap.size ≤ w3.heap.size := ht3.size
    have hset : ∀ v, Tch (fun b => b = w.heap.size) w3 (w3.setCell ⟨w.heap.size, 1, none⟩ v) := fun v => Tch.set _ w3 ⟨w.heap.size, 1, none⟩ v rfl
    have hown4 : w3.ownsRow B 3 1 (.slice (some ⟨gn2, 0, none⟩) (nn + 1) capn2) (nn + 1) (List.replicate (nn + 1) (.int .i64 (-m))) := by
      rw [List.replicate_succ']; exact hown3
    have p0 : w3.cell? ⟨w.heap.size, 0, none⟩ = _ := (World.cell?_of_block (w := W1) (a := ⟨w.heap.size, 0, none⟩) (ht3.block _ lt2 hn3)).trans y0
    have p2 : w3.cell? ⟨w.heap.size, 2, none⟩ = _ := (World.cell?_of_block (w := W1) (a := ⟨w.heap.size, 2, none⟩) (ht3.block _ lt2 hn3)).trans y2
    have q0 : w3.cell? ⟨hb, 0, none⟩ = _ := (World.cell?_of_block (w := W1) (a := ⟨hb, 0, none⟩) (ht3.block _ ltx HNS.out)).trans x0
    have hall : Tch (fun b => HE.in_ ⟨hb, .slice ab nb capb, nb, .slice an nn capn, nn, m⟩ b ∨ w.heap.size ≤ b) w (w3.setCell ⟨w.heap.size, 1, none⟩ (.slice (some ⟨gn2, 0, none⟩) (nn + 1) capn2)) := by
      refine (((Tch.of_below tb0).trans (HT2.out.mono ?_)).trans (ht3.mono ?_)).trans ((hset _).mono ?_)
      · rintro k (h | h | h)
        · exact .inl (.inr (.inl h))
        · exact .inr (by omega)
        · exact .inr (by omega)
      · exact fun k h => .inl (.inr (.inr h))
      · exact fun k h => .inr (by omega)
    refine ⟨⟨w.heap.size, .slice (some ⟨gv, 0, none⟩) (nb + 1) capv, nb + 1, .slice (some ⟨gn2, 0, none⟩) (nn + 1) capn2, nn + 1, m⟩, rfl, ?_, ?_, rfl, rfl, rfl, Nat.le_refl _, ?_, ?_, ?_, ?_, ?_⟩
    · refine ⟨?_, ?_, ?_, ?_, ?_, ?_, hB, ?_, ?_, ?_, m0, m1, hb1, hn1⟩
      · exact (World.cell?_setCell_other _ _ _ _ (by simp)).trans p0
      · exact World.cell?_setCell_same' w3 _ _ (by rw [k1]; rfl)
      · exact (World.cell?_setCell_other _ _ _ _ (by simp)).trans p2
      · exact owns_tch (owns_tch HO2.out.1 ht3 (fun b h1 h2 => gvn (by simp [Value.ownBlock] at h1; rw [h1]; exact h2))) (hset _) (fun b h1 h2 => gvne (by simp [Value.ownBlock] at h1; omega))
      · exact owns_tch hown4 (hset _) (fun b h1 h2 => gnne (by simp [Value.ownBlock] at h1; omega))
      · simp; omega
      · simpa [Value.ownBlock] using gvne
      · simpa [Value.ownBlock] using gnne
      · right; simpa [Value.ownBlock] using gne
    · have H := HH.out
      refine ⟨?_, ?_, ?_, ?_, ?_, ?_, ge, H.h1, H.h2, H.h3, m0, m1, b1, n1⟩
      · exact (set_ne (v := .slice (some ⟨gn2, 0, none⟩) (nn + 1) capn2) hne).trans q0
      · exact (set_ne (v := .slice (some ⟨gn2, 0, none⟩) (nn + 1) capn2) hne).trans hS.1
      · exact (set_ne (v := .slice (some ⟨gn2, 0, none⟩) (nn + 1) capn2) hne).trans hS.2
      · exact owns_tch (owns_tch HO2.out.2 ht3 hvb) (hset _) (fun b h1 h2 => hb3 (h2 ▸ h1))
      · exact owns_tch hold3 (hset _) (fun b h1 h2 => hn3 (h2 ▸ h1))
      · simp; omega
    · rintro b (h | h | h)
      · exact .inr (by simp at h; omega)
      · simp [Value.ownBlock] at h
        subst h
        exact HAT.out.elim (fun h => .inl (.inr (.inl h))) (fun h => .inr (by omega))
      · simp [Value.ownBlock] at h
        subst h
        exact hat3.elim (fun h => .inl (.inr (.inr h))) (fun h => .inr (by omega))
    · rintro b (h | h | h)
      · simp at h ⊢; omega
      · simp [Value.ownBlock] at h ⊢; omega
      · simp [Value.ownBlock] at h ⊢; omega
    · rcases HAT.out with h | h
      · exact .inl h.symm
      · right; intro b hb; simp [Value.ownBlock] at hb; omega
    · rcases hat3 with h | h
      · exact .inl h.symm
      · right; intro b hb; simp [Value.ownBlock] at hb; omega
    · exact hall.restrict
end Go.Proofs.YtoeihlgidakjbaaGreatDoor
namespace Go.Proofs.YtoeihlgidakjbaaGreatDoor
open Go.RowKit Go.Lib
structure RV where
  vw0 : Value
  vw1 : Value
  vw2 : Value
  va0 : Value
  va1 : Value
  va2 : Value
  vt : Value
  vm : Value
def RE.cell (m : RE) (v : RV) : Array Value := #[v.vw0, v.vw1, v.vw2, v.va0, v.va1, v.va2, .int .i64 0, iv m.st, v.vt, .string ⟨m.got.toArray⟩, .int .i64 m.cnt, .int .i64 m.tim, iv m.id, iv m.odd, .string ⟨m.sent.toArray⟩, .int .i64 m.sid, .string ⟨m.agr.toArray⟩, iv m.pc, iv m.pi, .string ⟨m.pd.toArray⟩, iv m.naks, iv m.loops, iv m.k0, iv m.k1, iv m.k2, iv m.h0, iv m.h1, iv m.h2, v.vm]
def RE.cfg (m : RE) (v : RV) : List (Value × List Nat) := [(v.vw0, m.w0), (v.vw1, m.w1), (v.vw2, m.w2), (v.va0, m.a0), (v.va1, m.a1), (v.va2, m.a2)]
structure RI (w : World) (B rb : Nat) (v : RV) (m : RE) : Prop where
  blk : w.heap[rb]? = some (.cells (m.cell v) 129 (0, 0))
  ge : B ≤ rb
  ot : w.ownsRow B 3 1 v.vt m.told.length (m.told.map iv)
  om : w.ownsRow B 3 1 v.vm m.mg.length (m.mg.map iv)
  oc : ∀ x ∈ m.cfg v, w.ownsRow B 3 1 x.1 x.2.length (x.2.map iv)
  t1 : v.vt.ownBlock ≠ some rb
  m1 : v.vm.ownBlock ≠ some rb
  tm : ∀ b, v.vt.ownBlock = some b → v.vm.ownBlock ≠ some b
  c1 : ∀ x ∈ m.cfg v, ∀ b, x.1.ownBlock = some b → b ≠ rb ∧ v.vt.ownBlock ≠ some b ∧ v.vm.ownBlock ≠ some b
def RV.in_ (v : RV) (rb b : Nat) : Prop := b = rb ∨ v.vt.ownBlock = some b ∨ v.vm.ownBlock = some b
def RV.all (v : RV) (rb b : Nat) : Prop := v.in_ rb b ∨ v.vw0.ownBlock = some b ∨ v.vw1.ownBlock = some b ∨ v.vw2.ownBlock = some b ∨ v.va0.ownBlock = some b ∨ v.va1.ownBlock = some b ∨ v.va2.ownBlock = some b
theorem RE.cfg_mem {m : RE} {v : RV} {x : Value × List Nat} (h : x ∈ m.cfg v) : ∀ b, x.1.ownBlock = some b → ∀ rb, v.all rb b := by
  intro b hb rb
  simp only [RE.cfg, List.mem_cons, List.not_mem_nil, or_false] at h
  rcases h with rfl | rfl | rfl | rfl | rfl | rfl <;> simp [RV.all, hb]
theorem RI.lt {w : World} {B rb : Nat} {v : RV} {m : RE} (h : RI w B rb v m) : ∀ b, v.all rb b → B ≤ b ∧ b < w.heap.size := by
  have hc : ∀ x ∈ m.cfg v, ∀ b, x.1.ownBlock = some b → B ≤ b ∧ b < w.heap.size := fun x hx b hb => (h.oc x hx).lt b hb
  rintro b ((rfl | hb | hb) | hb | hb | hb | hb | hb | hb)
  · exact ⟨h.ge, blk_lt h.blk⟩
  · exact h.ot.lt b hb
  · exact h.om.lt b hb
  · exact hc (v.vw0, m.w0) (by simp [RE.cfg]) b hb
  · exact hc (v.vw1, m.w1) (by simp [RE.cfg]) b hb
  · exact hc (v.vw2, m.w2) (by simp [RE.cfg]) b hb
  · exact hc (v.va0, m.a0) (by simp [RE.cfg]) b hb
  · exact hc (v.va1, m.a1) (by simp [RE.cfg]) b hb
  · exact hc (v.va2, m.a2) (by simp [RE.cfg]) b hb
theorem RI.of_tch {w w' : World} {B rb : Nat} {v : RV} {m : RE} {S : Nat → Prop} (h : RI w B rb v m) (ht : Tch S w w') (hs : ∀ b, v.all rb b → ¬ S b) : RI w' B rb v m :=
  ⟨(ht.block rb (blk_lt h.blk) (hs rb (.inl (.inl rfl)))).trans h.blk, h.ge, owns_tch h.ot ht (fun b hb => hs b (.inl (.inr (.inl hb)))), owns_tch h.om ht (fun b hb => hs b (.inl (.inr (.inr hb)))),
   fun x hx => owns_tch (h.oc x hx) ht (fun b hb => hs b (RE.cfg_mem hx b hb rb)), h.t1, h.m1, h.tm, h.c1⟩
theorem RI.below {w w' : World} {B rb : Nat} {v : RV} {m : RE} (h : RI w B rb v m) (hb : Below w.heap.size w w') : RI w' B rb v m := h.of_tch (S := fun _ => False) (Tch.of_below hb) (fun _ _ x => x)
theorem RI.num {w w' : World} {B rb : Nat} {v : RV} {m m' : RE} (h : RI w B rb v m) (hb : w'.heap[rb]? = some (.cells (m'.cell v) 129 (0, 0))) (ht : Tch (fun b => b = rb) w w') (e1 : m'.told = m.told) (e2 : m'.mg = m.mg) (e3 : m'.cfg v = m.cfg v) : RI w' B rb v m' :=
  ⟨hb, h.ge, by rw [e1]; exact owns_tch h.ot ht (fun b hb e => h.t1 (e ▸ hb)), by rw [e2]; exact owns_tch h.om ht (fun b hb e => h.m1 (e ▸ hb)),
   by rw [e3]; exact fun x hx => owns_tch (h.oc x hx) ht (fun b hb e => (h.c1 x hx b hb).1 e), h.t1, h.m1, h.tm, by rw [e3]; exact h.c1⟩
end Go.Proofs.YtoeihlgidakjbaaGreatDoor

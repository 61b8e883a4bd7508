/- What the program's end does: tell, send. The program's actions without a packet: what each does, by the document's letters. slices.Clone, slices.Index, slices.Contains at numbers. -/
import Derived.Test.YtoeihlgidakjbaaGreatDoorPc7
import Derived.Test.YtoeihlgidakjbaaGreatDoorPc3
namespace Go.Proofs.YtoeihlgidakjbaaGreatDoor
open Go.RowKit Go.Lib
def ActX (w w' : World) (B Bs pb : Nat) (v : PV) (q : Nat × Nat × Nat) (m : RE) (S : List UInt8) (r : Ending) : Prop := r = .returned (.tuple #[]) ∧ ∃ v', PX w' B Bs pb v' q m S ∧ ES w w' pb v.vals v'.vals
abbrev ActR (w w' : World) (B Bs pb : Nat) (v : PV) (m : RE) (S : List UInt8) (r : Ending) : Prop := ActX w w' B Bs pb v m.props m S r
set_option maxRecDepth 100000 in
set_option maxHeartbeats 2000000 in
theorem ptell {B Bs pb : Nat} {v : PV} {q : Nat × Nat × Nat} {m : RE} {S : List UInt8} (x : Nat) (w : World) (h : PX w B Bs pb v q m S) (hfl : m.told.length + 1 ≤ 17000000000000) :
    Calls Tryz.prog 124 #[.pointer (some ⟨pb, 0, none⟩), .int .i64 (x : Int)] w fun r w' => ActX w w' B Bs pb v q { m with told := m.told ++ [x] } S r := by
  obtain ⟨j0, hj, hy0, hy1, hy2⟩ := info_parts Tryz.infoI
  obtain ⟨a, cap, g, hv, ha, _, _⟩ := own_shape h.ot
  have H : Hid (PX w B Bs pb v q m S) := h
  have hlt := blk_lt h.em.blk
  have c14 : w.cell? ⟨pb, 30, none⟩ = some (.slice a m.told.length cap) := (blk_cell h.em.blk).trans (by rw [← hv]; rfl)
  have hot := h.ot
  have ht1 : v.vt.ownBlock ≠ some pb := h.em.ne ⟨3, v.vt, m.told.map iv⟩ (by simp [RE.prow])
  rw [hv] at hot ht1
  have OT : Hid (w.ownsRow B 3 1 (.slice a m.told.length cap) m.told.length (m.told.map iv)) := hot
  have HT1 : Hid ((Value.slice a m.told.length cap).ownBlock ≠ some pb) := ht1
  have HV : Hid (v.vt = .slice a m.told.length cap) := hv
  have hB : B ≤ w.heap.size := Nat.le_trans h.em.ge (Nat.le_of_lt hlt)
  have hb0 : w.heap[pb]? = some (.cells (m.pcl v q) 83 (0, 0)) := h.em.blk
  have HB0 : Hid (_) := hb0
  clear h hot ht1 hv ha hb0
  go_enter Tryz.func124, Tryz.ntmps124
  go_wp2_with (at_builtin; go_must (refine wpList_append_lies _ rfl (.tmp 8) (.tmp 10) 28 rfl B 3 j0 (.int .i64 0) 1 8 Tryz.underlying28 hj hy0 hy1 hy2 rfl (by decide) _ m.told.length (m.told.map iv) rfl (OT.out.alloc _) ⟨w.heap.size, 0, none⟩ 1 1 [.int .i64 (x : Int)] rfl rfl (cell_one_i _ _ _) (by intro u hu; simp at hu; subst hu; rfl) (by omega) (by unfold maxLen; omega) (by omega) (by simp; omega) _ rfl ?_; intro gv capv w1 hown1 hgrow1 hat1 hlt1; have bb : w1.heap[pb]? = some (.cells (m.pcl v q) 83 (0, 0)) := ((tch_grown hgrow1).block pb hlt (fun e => HT1.out e)).trans HB0.out; have e14 : w1.cell? ⟨pb, 30, none⟩ = some (.slice a m.told.length cap) := (blk_cell bb).trans (by rw [← HV.out]; rfl); have f14 : w1.frozen? ⟨pb, 30, none⟩ = false := blk_free bb))
  go_end0
  have hgr : (w.alloc (.cells #[.int .i64 (x : Int)] 3)).grownBy w1 v.vt.ownBlock := by rw [HV.out]; exact hgrow1
  have hat : v.vt.ownBlock = some gv ∨ w.heap.size ≤ gv := by rw [HV.out]; exact hat1.elim .inl (fun e => .inr (by have : gv = w.heap.size + 1 := e.trans (by simp); omega))
  have hh := H.out.em.grow (n := m.told.length + 1) 6 30 ⟨3, v.vt, m.told.map iv⟩ rfl ((Below.refl _ w).alloc (Nat.le_refl _) _) ((m.told ++ [x]).map iv) (by simp) (by rw [List.map_append]; exact hown1) hgr hat
  exact ⟨rfl, { v with vt := .slice (some ⟨gv, 0, none⟩) (m.told.length + 1) capv }, H.out.of_es (q' := q) (m' := { m with told := m.told ++ [x] }) (S' := S) hh.1 hh.2 rfl rfl (fun e => absurd e (by simp)) H.out.s1⟩
theorem rd_news {w : World} {g : Nat} {l : List UInt8} (h : Rd w g 0 l) : ∀ (j : Nat) (u : Value), (l.map bv)[j]? = some u → w.cell? ((⟨g, 0, none⟩ : Addr).add j) = some u := by
  intro j u hu
  rw [List.getElem?_map] at hu
  obtain ⟨x, hx, rfl⟩ := Option.map_eq_some_iff.1 hu
  obtain ⟨hjl, rfl⟩ := List.getElem?_eq_some_iff.1 hx
  have hadd : (⟨g, 0, none⟩ : Addr).add j = ⟨g, 0 + j, none⟩ := by unfold Addr.add; split <;> simp_all
  rw [hadd]; exact h j hjl
set_option maxRecDepth 100000 in
set_option maxHeartbeats 4000000 in
theorem psend {B Bs pb : Nat} {v : PV} {q : Nat × Nat × Nat} {m : RE} {S : List UInt8} (c d : UInt8) (s : ByteArray) (w : World) (h : PX w B Bs pb v q m S) (hs : s.size ≤ 1000) (hS : S.length ≤ 100000000000000) (hBs : Bs ≤ w.heap.size) :
    Calls Tryz.prog 155 #[.pointer (some ⟨pb, 0, none⟩), .agg #[.int .i64 (c.toNat : Int), .int .i64 (d.toNat : Int), .string s]] w fun r w' => ActX w w' B Bs pb v q m (S ++ encl (content c d s.data.toList)) r := by
  obtain ⟨i0, hi, hz0, hz1, hz2⟩ := info_parts Tryz.infoB
  obtain ⟨a, cap, g, hv, ha, _, _⟩ := own_shape h.os
  have H : Hid (PX w B Bs pb v q m S) := h
  have hlt := blk_lt h.em.blk
  have hos := h.os
  have hs1 : v.vs.ownBlock ≠ some pb := h.em.ne ⟨5, v.vs, S.map bv⟩ (by simp [RE.prow])
  rw [hv] at hos hs1
  have OS : Hid (w.ownsRow B 5 1 (.slice a S.length cap) S.length (S.map bv)) := hos
  have HS1 : Hid ((Value.slice a S.length cap).ownBlock ≠ some pb) := hs1
  have HV : Hid (v.vs = .slice a S.length cap) := hv
  have hB : B ≤ w.heap.size := Nat.le_trans h.em.ge (Nat.le_of_lt hlt)
  have hb0 : w.heap[pb]? = some (.cells (m.pcl v q) 83 (0, 0)) := h.em.blk
  have HB0 : Hid (_) := hb0
  have hle : (encl (content c d s.data.toList)).length ≤ 2100 := by
    have h1 := escL_len (content c d s.data.toList)
    rw [encl_len]
    rw [content_len] at h1
    simp at h1
    omega
  have hpos : 0 < (encl (content c d s.data.toList)).length := by rw [encl_len]; omega
  have BA : Hid (Below w.heap.size w (w.alloc (.cells #[.int .i64 (c.toNat : Int), .int .i64 (d.toNat : Int), .string s] 27))) := (Below.refl _ _).alloc (Nat.le_refl _) _
  have HBA : Hid ((w.alloc (.cells #[.int .i64 (c.toNat : Int), .int .i64 (d.toNat : Int), .string s] 27)).heap[pb]? = some (.cells (m.pcl v q) 83 (0, 0))) := (BA.out.block pb hlt).trans HB0.out
  have k0 : (w.alloc (.cells #[.int .i64 (c.toNat : Int), .int .i64 (d.toNat : Int), .string s] 27)).cell? ⟨w.heap.size, 0, none⟩ = some (.int .i64 (c.toNat : Int)) := by simp
  have k1 : (w.alloc (.cells #[.int .i64 (c.toNat : Int), .int .i64 (d.toNat : Int), .string s] 27)).cell? ⟨w.heap.size, 1, none⟩ = some (.int .i64 (d.toNat : Int)) := by simp
  have k2 : (w.alloc (.cells #[.int .i64 (c.toNat : Int), .int .i64 (d.toNat : Int), .string s] 27)).cell? ⟨w.heap.size, 2, none⟩ = some (.string s) := by simp
  have OSA : Hid ((w.alloc (.cells #[.int .i64 (c.toNat : Int), .int .i64 (d.toNat : Int), .string s] 27)).ownsRow B 5 1 (.slice a S.length cap) S.length (S.map bv)) := OS.out.alloc _
  have c15 : (w.alloc (.cells #[.int .i64 (c.toNat : Int), .int .i64 (d.toNat : Int), .string s] 27)).cell? ⟨pb, 32, none⟩ = some (.slice a S.length cap) := (blk_cell HBA.out).trans (by rw [← HV.out]; rfl)
  have hzA : pb < (w.alloc (.cells #[.int .i64 (c.toNat : Int), .int .i64 (d.toNat : Int), .string s] 27)).heap.size := blk_lt HBA.out
  have hzB : (w.alloc (.cells #[.int .i64 (c.toNat : Int), .int .i64 (d.toNat : Int), .string s] 27)).heap.size = w.heap.size + 1 := by simp
  clear h hos hs1 hv ha hb0
  go_enter Tryz.func155, Tryz.ntmps155
  go_upto_region 1 with fail
  generalize w.alloc (.cells #[.int .i64 (c.toNat : Int), .int .i64 (d.toNat : Int), .string s] 27) = WA at *
  have k0d : WA.drew.cell? ⟨w.heap.size, 0, none⟩ = some (.int .i64 (c.toNat : Int)) := k0
  have k1d : WA.drew.cell? ⟨w.heap.size, 1, none⟩ = some (.int .i64 (d.toNat : Int)) := k1
  have k2d : WA.drew.cell? ⟨w.heap.size, 2, none⟩ = some (.string s) := k2
  have c15d : WA.drew.cell? ⟨pb, 32, none⟩ = some (.slice a S.length cap) := c15
  go_region_law (first | (go_simp; go_at_call 77; refine (write_any c d s _ (by omega)).mono ?_; rintro e wq ⟨vq, rfl, hoq, hbq⟩; obtain ⟨_, gq, cq, rfl, hq1, hq2, _, _, hrdq⟩ := owns_rd hoq hpos; have hbq' : Below WA.heap.size WA wq := ⟨hbq.os, hbq.tape, hbq.output, hbq.size, hbq.block⟩; have q0 := (hbq'.cell (p := ⟨w.heap.size, 0, none⟩) (by show w.heap.size < _; omega)).trans k0; have q1 := (hbq'.cell (p := ⟨w.heap.size, 1, none⟩) (by show w.heap.size < _; omega)).trans k1; have q2 := (hbq'.cell (p := ⟨w.heap.size, 2, none⟩) (by show w.heap.size < _; omega)).trans k2; have q15 := (hbq'.cell (p := ⟨pb, 32, none⟩) hzA).trans c15) | (refine step_append_lies _ (by rfl) (.tmp 8) (.tmp 10) 52 (by rfl) B 5 i0 (.int .u8 0) 1 1 Tryz.underlying52 hi hz0 hz1 hz2 (by rfl) (by decide) _ S.length (S.map bv) (by rfl) (owns_below OSA.out hbq') ⟨gq, 0, none⟩ (encl (content c d s.data.toList)).length cq ((encl (content c d s.data.toList)).map bv) (by rfl) (by simp) (rd_news hrdq) (by intro u hu; obtain ⟨y, _, rfl⟩ := List.mem_map.1 hu; rfl) hpos (by unfold maxLen; omega) (by omega) (by have := hbq'.size; omega) wq.heap.size rfl ?_; intro gv capv w1 hown1 hgrow1 hat1 hlt1; have tq : Tch (fun b => (Value.slice a S.length cap).ownBlock = some b) wq w1 := ⟨hgrow1.os, hgrow1.tape, hgrow1.output, hgrow1.size, fun b hb' hs => hgrow1.block b hb' (fun e => hs e.symm)⟩; have hnw : (Value.slice a S.length cap).ownBlock ≠ some w.heap.size := fun e => (by have := (OS.out.lt _ e).2; omega); have bw := tq.block w.heap.size (by have := hbq'.size; omega) hnw; have r0 := (World.cell?_of_block (w := wq) (a := ⟨w.heap.size, 0, none⟩) bw).trans q0; have r1 := (World.cell?_of_block (w := wq) (a := ⟨w.heap.size, 1, none⟩) bw).trans q1; have r2 := (World.cell?_of_block (w := wq) (a := ⟨w.heap.size, 2, none⟩) bw).trans q2; have bb : w1.heap[pb]? = some (.cells (m.pcl v q) 83 (0, 0)) := (tq.block pb (by have := hbq'.size; omega) (fun e => HS1.out e)).trans ((hbq'.block pb hzA).trans HBA.out); have e15 : w1.cell? ⟨pb, 32, none⟩ = some (.slice a S.length cap) := (blk_cell bb).trans (by rw [← HV.out]; rfl); have f15 : w1.frozen? ⟨pb, 32, none⟩ = false := blk_free bb; have hne : w.heap.size ≠ pb := by omega))
  all_goals
    go_end0
    have hgr : wq.grownBy w1 v.vs.ownBlock := by rw [HV.out]; exact hgrow1
    have hat : v.vs.ownBlock = some gv ∨ w.heap.size ≤ gv := by rw [HV.out]; exact hat1.elim .inl (fun e => .inr (by have := hbq'.size; omega))
    have hbw : Below w.heap.size w wq := BA.out.trans (hbq'.mono (by omega))
    have hh := H.out.em.grow (n := S.length + (encl (content c d s.data.toList)).length) 8 32 ⟨5, v.vs, S.map bv⟩ rfl hbw ((S ++ encl (content c d s.data.toList)).map bv) (by simp) (by rw [List.map_append]; exact hown1) hgr hat
    refine ⟨rfl, { v with vs := .slice (some ⟨gv, 0, none⟩) (S.length + (encl (content c d s.data.toList)).length) capv }, H.out.of_es (q' := q) (m' := m) (S' := S ++ encl (content c d s.data.toList)) hh.1 hh.2 rfl rfl H.out.t0 ?_⟩
    intro b hb
    simp only [Value.ownBlock, Option.some.injEq] at hb
    rcases hat with e | e
    · exact H.out.s1 b (hb ▸ e)
    · omega
theorem psendN {B Bs pb : Nat} {v : PV} {q : Nat × Nat × Nat} {m : RE} {S : List UInt8} (c d : Nat) (s : List UInt8) (w : World) (h : PX w B Bs pb v q m S) (hc : c < 256) (hd : d < 256) (hs : s.length ≤ 1000) (hS : S.length ≤ 100000000000000) (hBs : Bs ≤ w.heap.size) :
    Calls Tryz.prog 155 #[.pointer (some ⟨pb, 0, none⟩), .agg #[.int .i64 (c : Int), .int .i64 (d : Int), .string ⟨s.toArray⟩]] w fun r w' => ActX w w' B Bs pb v q m (S ++ lineL c d s) r := by
  have h1 := psend (UInt8.ofNat c) (UInt8.ofNat d) ⟨s.toArray⟩ w h (by show s.toArray.size ≤ 1000; rw [List.size_toArray]; exact hs) hS hBs
  have q1 : ((UInt8.ofNat c).toNat : Int) = (c : Int) := by rw [UInt8.toNat_ofNat']; omega
  have q2 : ((UInt8.ofNat d).toNat : Int) = (d : Int) := by rw [UInt8.toNat_ofNat']; omega
  rw [q1, q2] at h1
  exact h1
end Go.Proofs.YtoeihlgidakjbaaGreatDoor
namespace Go.Proofs.YtoeihlgidakjbaaGreatDoor
open Go.RowKit Go.Lib
inductive PA
  | l (c : Nat)
  | tell (x : Nat)
  | heed (L : List (Nat × Nat))
  | nak (L : List (Nat × Nat))
namespace RE
def nakW (m : RE) (L : List (Nat × Nat)) : RE × List UInt8 := ({ (m.nakItems L).1 with naks := (m.nakItems L).1.naks + 1 }, lineL 3 m.pi (dataL (m.nakItems L).2))
def pa (m : RE) : PA → RE × List UInt8
  | .l c => m.letter c
  | .tell x => ({ m with told := m.told ++ [x] }, [])
  | .heed L => (m.takeAll L, [])
  | .nak L => m.nakW L
def prun (m : RE) : List PA → RE × List UInt8
  | [] => (m, [])
  | c :: r => let y := m.pa c; let z := prun y.1 r; (z.1, y.2 ++ z.2)
theorem prun_snoc (m : RE) (l : List PA) (c : PA) : m.prun (l ++ [c]) = (((m.prun l).1.pa c).1, (m.prun l).2 ++ ((m.prun l).1.pa c).2) := by
  induction l generalizing m with
  | nil => simp [prun]
  | cons x l ih => simp [prun, ih]
theorem prun_l (m : RE) (l : List Nat) : m.prun (l.map PA.l) = m.run l := by
  induction l generalizing m with
  | nil => rfl
  | cons x l ih => simp only [List.map_cons, prun, run, ih, pa]
end RE
def ItemsOk (L : List (Nat × Nat)) : Prop := L.length ≤ 40 ∧ ∀ x ∈ L, 1 ≤ x.1 ∧ x.1 ≤ 4 ∧ x.2 < 65536
def PA.ok : PA → Prop
  | .heed L => ItemsOk L
  | .nak L => ItemsOk L
  | _ => True
theorem asks_items {m : RE} (ok : m.Ok) : itemsL (dataL m.asks) = some m.asks := by
  obtain ⟨q, hq, hq1, hqm, hml2⟩ := ok.mag
  have h0 := ok.k0
  have h1 := ok.k1
  have h2 := ok.k2
  simp only [RE.asks, dataL, List.flatMap_cons, List.flatMap_nil, itemL, twoL, List.cons_append, List.nil_append, itemsL, itemsAux]
  simp
  omega
theorem asks_props {m : RE} (ok : m.Ok) : termsI (dataL m.asks) 0 = m.k0 ∧ termsI (dataL m.asks) 1 = m.k1 ∧ termsI (dataL m.asks) 2 = m.k2 := by
  unfold termsI
  rw [asks_items ok]
  exact ⟨rfl, rfl, rfl⟩
set_option maxRecDepth 100000 in
set_option maxHeartbeats 4000000 in
theorem pcounted {B Bs pb : Nat} {v : PV} {q : Nat × Nat × Nat} {m : RE} {S : List UInt8} (code : Nat) (s : List UInt8) (w : World) (h : PX w B Bs pb v q m S) (ok : m.Ok) (fit : m.Fit 100) (hc : code < 256) (hs : s.length ≤ 1000) (hS : S.length ≤ 100000000000000) (hBs : Bs ≤ w.heap.size) :
    Calls Tryz.prog 122 #[.pointer (some ⟨pb, 0, none⟩), .int .i64 (code : Int), .string ⟨s.toArray⟩] w fun r w' => r = .returned (.agg #[.int .i64 (code : Int), .int .i64 (((m.id + 1) % 256 : Nat) : Int), .string ⟨s.toArray⟩]) ∧ ∃ v', PX w' B Bs pb v' q { m with cnt := m.cnt - 1, tim := 3, id := (m.id + 1) % 256 } (S ++ lineL code ((m.id + 1) % 256) s) ∧ ES w w' pb v.vals v'.vals := by
  have HIN : Hid (∀ b, inE pb v.vals b → b < w.heap.size) := fun b hb => (h.lt b hb).2
  have BA : Hid (Below w.heap.size w (w.alloc (.cells #[.int .i64 0, .int .i64 0, .string ⟨#[]⟩] 27))) := (Below.refl _ _).alloc (Nat.le_refl _) _
  have RA : Hid ((w.alloc (.cells #[.int .i64 0, .int .i64 0, .string ⟨#[]⟩] 27)).heap[w.heap.size]? = some (.cells #[.int .i64 0, .int .i64 0, .string ⟨#[]⟩] 27 (0, 0))) := heap_alloc_new w _
  have zA : (w.alloc (.cells #[.int .i64 0, .int .i64 0, .string ⟨#[]⟩] 27)).heap.size = w.heap.size + 1 := by simp
  have hlt : pb < w.heap.size := blk_lt h.em.blk
  have hA := h.below BA.out
  have H : Hid (PX (w.alloc (.cells #[.int .i64 0, .int .i64 0, .string ⟨#[]⟩] 27)) B Bs pb v q m S) := hA
  have c15 : (w.alloc (.cells #[.int .i64 0, .int .i64 0, .string ⟨#[]⟩] 27)).cell? ⟨pb, 15, none⟩ = some (.int .i64 m.cnt) := blk_cell hA.em.blk
  have c16 : (w.alloc (.cells #[.int .i64 0, .int .i64 0, .string ⟨#[]⟩] 27)).cell? ⟨pb, 16, none⟩ = some (.int .i64 m.tim) := blk_cell hA.em.blk
  have c17 : (w.alloc (.cells #[.int .i64 0, .int .i64 0, .string ⟨#[]⟩] 27)).cell? ⟨pb, 17, none⟩ = some (.int .u8 (m.id : Int)) := blk_cell hA.em.blk
  have f15 : (w.alloc (.cells #[.int .i64 0, .int .i64 0, .string ⟨#[]⟩] 27)).frozen? ⟨pb, 15, none⟩ = false := blk_free hA.em.blk
  have f16 : (w.alloc (.cells #[.int .i64 0, .int .i64 0, .string ⟨#[]⟩] 27)).frozen? ⟨pb, 16, none⟩ = false := blk_free hA.em.blk
  have f17 : (w.alloc (.cells #[.int .i64 0, .int .i64 0, .string ⟨#[]⟩] 27)).frozen? ⟨pb, 17, none⟩ = false := blk_free hA.em.blk
  have h0 := fit.c0
  have h1 := fit.c1
  have hid := ok.id
  have w1 : IntKind.i64.wrap (m.cnt - 1) = m.cnt - 1 := wrap_in (by omega) (by omega)
  clear h fit ok hA
  go_enter Tryz.func122, Tryz.ntmps122
  go_upto_region 1 with fail
  generalize w.alloc (.cells #[.int .i64 0, .int .i64 0, .string ⟨#[]⟩] 27) = WA at *
  go_wp2_with fail
  have e1 : ((m.id : Int) + 1) % 256 = (((m.id + 1) % 256 : Nat) : Int) := by omega
  simp only [e1]
  have t1 := tset WA pb 15 (.int .i64 (m.cnt - 1))
  have t2 := tset (WA.setCell ⟨pb, 15, none⟩ (.int .i64 (m.cnt - 1))) pb 16 (.int .i64 3)
  have t3 := tset ((WA.setCell ⟨pb, 15, none⟩ (.int .i64 (m.cnt - 1))).setCell ⟨pb, 16, none⟩ (.int .i64 3)) pb 17 (.int .u8 (((m.id + 1) % 256 : Nat) : Int))
  have hp := H.out.num (q' := q) (m' := { m with cnt := m.cnt - 1, tim := 3, id := (m.id + 1) % 256 }) (blk_set (k := 17) (x := .int .u8 (((m.id + 1) % 256 : Nat) : Int)) (blk_set (k := 16) (x := .int .i64 3) (blk_set (k := 15) (x := .int .i64 (m.cnt - 1)) H.out.em.blk))) ((t1.trans t2).trans t3) rfl rfl rfl
  have RS3 : Hid (((((WA.setCell ⟨pb, 15, none⟩ (.int .i64 (m.cnt - 1))).setCell ⟨pb, 16, none⟩ (.int .i64 3)).setCell ⟨pb, 17, none⟩ (.int .u8 (((m.id + 1) % 256 : Nat) : Int)))).heap[w.heap.size]? = some (.cells #[.int .i64 0, .int .i64 0, .string ⟨#[]⟩] 27 (0, 0))) := (((t1.trans t2).trans t3).block _ (by omega) (by omega)).trans RA.out
  have HP : Hid (_) := hp
  have hsz : ((((WA.setCell ⟨pb, 15, none⟩ (.int .i64 (m.cnt - 1))).setCell ⟨pb, 16, none⟩ (.int .i64 3)).setCell ⟨pb, 17, none⟩ (.int .u8 (((m.id + 1) % 256 : Nat) : Int)))).heap.size = WA.heap.size := by simp [World.setCell]
  clear t1 t2 t3 c15 c16 c17 f15 f16 f17 hp e1
  generalize ((WA.setCell ⟨pb, 15, none⟩ (.int .i64 (m.cnt - 1))).setCell ⟨pb, 16, none⟩ (.int .i64 3)).setCell ⟨pb, 17, none⟩ (.int .u8 (((m.id + 1) % 256 : Nat) : Int)) = W3 at *
  have B4 : Hid (Below W3.heap.size W3 (W3.alloc (.cells #[.int .i64 (code : Int), .int .i64 (((m.id + 1) % 256 : Nat) : Int), .string ⟨s.toArray⟩] 27))) := (Below.refl _ _).alloc (Nat.le_refl _) _
  have R4 : Hid ((W3.alloc (.cells #[.int .i64 (code : Int), .int .i64 (((m.id + 1) % 256 : Nat) : Int), .string ⟨s.toArray⟩] 27)).heap[W3.heap.size]? = some (.cells #[.int .i64 (code : Int), .int .i64 (((m.id + 1) % 256 : Nat) : Int), .string ⟨s.toArray⟩] 27 (0, 0))) := heap_alloc_new W3 _
  have z4 : (W3.alloc (.cells #[.int .i64 (code : Int), .int .i64 (((m.id + 1) % 256 : Nat) : Int), .string ⟨s.toArray⟩] 27)).heap.size = W3.heap.size + 1 := by simp
  have HPS : Hid (_) := psendN code ((m.id + 1) % 256) s _ (HP.out.1.below B4.out) hc (by omega) hs hS (by omega)
  have hW3 : W3.heap.size = w.heap.size + 1 := by omega
  rw [hW3] at R4
  generalize W3.alloc (.cells #[.int .i64 (code : Int), .int .i64 (((m.id + 1) % 256 : Nat) : Int), .string ⟨s.toArray⟩] 27) = W4 at *
  refine Calls.mono HPS.out ?_
  rintro e wz ⟨rfl, v', hv1, hv2⟩
  have hin : ∀ b, inE pb v'.vals b → b < w.heap.size ∨ w.heap.size + 2 ≤ b := fun b hb => by
    rcases hv2.i b hb with x | x
    · exact .inl (HIN.out b x)
    · exact .inr (by omega)
  have r0 : wz.heap[w.heap.size]? = some (.cells #[.int .i64 0, .int .i64 0, .string ⟨#[]⟩] 27 (0, 0)) := (hv2.t.block _ (by omega) (fun x => by have := HIN.out _ x; omega)).trans ((B4.out.block _ (by omega)).trans RS3.out)
  have r1 : wz.heap[w.heap.size + 1]? = some (.cells #[.int .i64 (code : Int), .int .i64 (((m.id + 1) % 256 : Nat) : Int), .string ⟨s.toArray⟩] 27 (0, 0)) := (hv2.t.block _ (by omega) (fun x => by have := HIN.out _ x; omega)).trans R4.out
  have HV : Hid (PX wz B Bs pb v' q { m with cnt := m.cnt - 1, tim := 3, id := (m.id + 1) % 256 } (S ++ lineL code ((m.id + 1) % 256) s) ∧ ES w wz pb v.vals v'.vals ∧ ∀ b, inE pb v'.vals b → b < w.heap.size ∨ w.heap.size + 2 ≤ b) := ⟨hv1, ((ES.below BA.out).trans HP.out.2).trans ((ES.below B4.out).trans hv2), hin⟩
  have k0 : wz.cell? ⟨w.heap.size + 1, 0, none⟩ = some (.int .i64 (code : Int)) := blk_cell r1
  have k1 : wz.cell? ⟨w.heap.size + 1, 1, none⟩ = some (.int .i64 (((m.id + 1) % 256 : Nat) : Int)) := blk_cell r1
  have k2 : wz.cell? ⟨w.heap.size + 1, 2, none⟩ = some (.string ⟨s.toArray⟩) := blk_cell r1
  have j0 : wz.cell? ⟨w.heap.size, 0, none⟩ = some (.int .i64 0) := blk_cell r0
  have j1 : wz.cell? ⟨w.heap.size, 1, none⟩ = some (.int .i64 0) := blk_cell r0
  have j2 : wz.cell? ⟨w.heap.size, 2, none⟩ = some (.string ⟨#[]⟩) := blk_cell r0
  have l0 : wz.frozen? ⟨w.heap.size, 0, none⟩ = false := blk_free r0
  have l1 : wz.frozen? ⟨w.heap.size, 1, none⟩ = false := blk_free r0
  have l2 : wz.frozen? ⟨w.heap.size, 2, none⟩ = false := blk_free r0
  have R0 : Hid (_) := r0
  clear hv1 hv2 HPS hin r0 r1 HP RS3 R4 B4
  go_wp2_with fail
  have tt : Tch (fun b => b = w.heap.size) wz (((wz.setCell ⟨w.heap.size, 0, none⟩ (.int .i64 (code : Int))).setCell ⟨w.heap.size, 1, none⟩ (.int .i64 (((m.id + 1) % 256 : Nat) : Int))).setCell ⟨w.heap.size, 2, none⟩ (.string ⟨s.toArray⟩)) := ((tset _ _ _ _).trans (tset _ _ _ _)).trans (tset _ _ _ _)
  refine bodyPost_ret (v := .agg #[.int .i64 (code : Int), .int .i64 (((m.id + 1) % 256 : Nat) : Int), .string ⟨s.toArray⟩]) (by simp [results, Tryz.results122, go_sem, j0, j1, j2]) rfl ⟨rfl, v', HV.out.1.of_tch tt (fun b hb e => by have := HV.out.2.2 b hb; omega), ?_⟩
  exact ⟨Tch.restrict ((HV.out.2.1.t.mono (fun _ x => .inl x)).trans (tt.mono (fun b e => .inr (by omega)))), HV.out.2.1.i⟩
def ActOf (c : PA) (f : Nat) : Prop := ∀ (B Bs pb : Nat) (v : PV) (m : RE) (S : List UInt8) (w : World), PI w B Bs pb v m S → m.Ok → m.Fit 100 → S.length ≤ 100000000000000 → Bs ≤ w.heap.size →
  Calls Tryz.prog f #[.pointer (some ⟨pb, 0, none⟩)] w fun r w' => ActR w w' B Bs pb v (m.pa c).1 (S ++ (m.pa c).2) r
set_option maxRecDepth 100000 in
theorem act_tellDown : ActOf (.l 100) 92 := by
  intro B Bs pb v m S w h _ fit _ _
  have H : Hid (_) := ptell 2 w h (by have := fit.told; omega)
  rw [show (m.pa (.l 100)).2 = [] from rfl, List.append_nil]
  clear h fit
  go_enter Tryz.func92, Tryz.ntmps92
  go_wp2_with fail
  refine Calls.mono H.out ?_
  rintro e wz ⟨rfl, v', hv⟩
  have HV : Hid (_) := hv
  clear hv H
  go_wp2_with fail
  go_end0
  exact ⟨rfl, v', HV.out⟩
set_option maxRecDepth 100000 in
theorem act_tellBegin : ActOf (.l 98) 91 := by
  intro B Bs pb v m S w h _ fit _ _
  have H : Hid (_) := ptell 3 w h (by have := fit.told; omega)
  rw [show (m.pa (.l 98)).2 = [] from rfl, List.append_nil]
  clear h fit
  go_enter Tryz.func91, Tryz.ntmps91
  go_wp2_with fail
  refine Calls.mono H.out ?_
  rintro e wz ⟨rfl, v', hv⟩
  have HV : Hid (_) := hv
  clear hv H
  go_wp2_with fail
  go_end0
  exact ⟨rfl, v', HV.out⟩
set_option maxRecDepth 100000 in
theorem act_tellFinish : ActOf (.l 102) 93 := by
  intro B Bs pb v m S w h _ fit _ _
  have H : Hid (_) := ptell 4 w h (by have := fit.told; omega)
  rw [show (m.pa (.l 102)).2 = [] from rfl, List.append_nil]
  clear h fit
  go_enter Tryz.func93, Tryz.ntmps93
  go_wp2_with fail
  refine Calls.mono H.out ?_
  rintro e wz ⟨rfl, v', hv⟩
  have HV : Hid (_) := hv
  clear hv H
  go_wp2_with fail
  go_end0
  exact ⟨rfl, v', HV.out⟩
set_option maxRecDepth 100000 in
theorem act_tellGiveUp : ActOf (.tell 5) 163 := by
  intro B Bs pb v m S w h _ fit _ _
  have H : Hid (_) := ptell 5 w h (by have := fit.told; omega)
  rw [show (m.pa (.tell 5)).2 = [] from rfl, List.append_nil]
  clear h fit
  go_enter Tryz.func163, Tryz.ntmps163
  go_wp2_with fail
  refine Calls.mono H.out ?_
  rintro e wz ⟨rfl, v', hv⟩
  have HV : Hid (_) := hv
  clear hv H
  go_wp2_with fail
  go_end0
  exact ⟨rfl, v', HV.out⟩
set_option maxRecDepth 100000 in
theorem act_tellLoop : ActOf (.tell 6) 162 := by
  intro B Bs pb v m S w h _ fit _ _
  have H : Hid (_) := ptell 6 w h (by have := fit.told; omega)
  rw [show (m.pa (.tell 6)).2 = [] from rfl, List.append_nil]
  clear h fit
  go_enter Tryz.func162, Tryz.ntmps162
  go_wp2_with fail
  refine Calls.mono H.out ?_
  rintro e wz ⟨rfl, v', hv⟩
  have HV : Hid (_) := hv
  clear hv H
  go_wp2_with fail
  go_end0
  exact ⟨rfl, v', HV.out⟩
set_option maxRecDepth 100000 in
theorem act_tellUp : ActOf (.l 117) 160 := by
  intro B Bs pb v m S w h _ fit _ _
  have c28 : w.cell? ⟨pb, 28, none⟩ = some (.int .i64 (m.naks : Int)) := blk_cell h.em.blk
  have f28 : w.frozen? ⟨pb, 28, none⟩ = false := blk_free h.em.blk
  have hp := h.num (q' := m.props) (m' := { m with naks := 0 }) (blk_set (k := 28) (x := .int .i64 0) h.em.blk) (tset w pb 28 _) rfl rfl rfl
  have HP : Hid (_) := hp
  have H : Hid (_) := ptell 1 _ hp.1 (by have := fit.told; show m.told.length + 1 ≤ _; omega)
  rw [show (m.pa (.l 117)).2 = [] from rfl, List.append_nil]
  clear h fit hp
  go_enter Tryz.func160, Tryz.ntmps160
  go_wp2_with fail
  refine Calls.mono H.out ?_
  rintro e wz ⟨rfl, v', hv⟩
  have HV : Hid (_) := hv
  clear hv H
  go_wp2_with fail
  go_end0
  exact ⟨rfl, v', HV.out.1, HP.out.2.trans HV.out.2⟩
set_option maxRecDepth 100000 in
theorem act_countRequests : ActOf (.l 105) 89 := by
  intro B Bs pb v m S w h _ _ _ _
  have H : Hid (PI w B Bs pb v m S) := h
  have c15 : w.cell? ⟨pb, 15, none⟩ = some (.int .i64 m.cnt) := blk_cell h.em.blk
  have f15 : w.frozen? ⟨pb, 15, none⟩ = false := blk_free h.em.blk
  have c16 : w.cell? ⟨pb, 16, none⟩ = some (.int .i64 m.tim) := blk_cell h.em.blk
  have f16 : w.frozen? ⟨pb, 16, none⟩ = false := blk_free h.em.blk
  rw [show (m.pa (.l 105)).2 = [] from rfl, List.append_nil]
  clear h
  go_enter Tryz.func89, Tryz.ntmps89
  go_wp2_with fail
  go_end0
  exact ⟨rfl, v, H.out.num (q' := m.props) (m' := (m.pa (.l 105)).1) (blk_set (k := 15) (x := .int .i64 5) H.out.em.blk) (tset w pb 15 _) rfl rfl rfl⟩
set_option maxRecDepth 100000 in
theorem act_countEnds : ActOf (.l 116) 94 := by
  intro B Bs pb v m S w h _ _ _ _
  have H : Hid (PI w B Bs pb v m S) := h
  have c15 : w.cell? ⟨pb, 15, none⟩ = some (.int .i64 m.cnt) := blk_cell h.em.blk
  have f15 : w.frozen? ⟨pb, 15, none⟩ = false := blk_free h.em.blk
  have c16 : w.cell? ⟨pb, 16, none⟩ = some (.int .i64 m.tim) := blk_cell h.em.blk
  have f16 : w.frozen? ⟨pb, 16, none⟩ = false := blk_free h.em.blk
  rw [show (m.pa (.l 116)).2 = [] from rfl, List.append_nil]
  clear h
  go_enter Tryz.func94, Tryz.ntmps94
  go_wp2_with fail
  go_end0
  exact ⟨rfl, v, H.out.num (q' := m.props) (m' := (m.pa (.l 116)).1) (blk_set (k := 15) (x := .int .i64 2) H.out.em.blk) (tset w pb 15 _) rfl rfl rfl⟩
set_option maxRecDepth 100000 in
theorem act_countNone : ActOf (.l 122) 140 := by
  intro B Bs pb v m S w h _ _ _ _
  have H : Hid (PI w B Bs pb v m S) := h
  have c15 : w.cell? ⟨pb, 15, none⟩ = some (.int .i64 m.cnt) := blk_cell h.em.blk
  have f15 : w.frozen? ⟨pb, 15, none⟩ = false := blk_free h.em.blk
  have c16 : w.cell? ⟨pb, 16, none⟩ = some (.int .i64 m.tim) := blk_cell h.em.blk
  have f16 : w.frozen? ⟨pb, 16, none⟩ = false := blk_free h.em.blk
  rw [show (m.pa (.l 122)).2 = [] from rfl, List.append_nil]
  clear h
  go_enter Tryz.func140, Tryz.ntmps140
  go_wp2_with fail
  go_end0
  exact ⟨rfl, v, H.out.num (q' := m.props) (m' := (m.pa (.l 122)).1) (blk_set (k := 16) (x := .int .i64 3) (blk_set (k := 15) (x := .int .i64 0) H.out.em.blk)) ((tset w pb 15 _).trans (tset _ pb 16 _)) rfl rfl rfl⟩
set_option maxRecDepth 100000 in
theorem act_sendEnd : ActOf (.l 101) 95 := by
  intro B Bs pb v m S w h ok fit hS hBs
  have H : Hid (_) := pcounted 5 [] w h ok fit (by omega) (by show 0 ≤ 1000; omega) hS hBs
  clear h fit ok
  go_enter Tryz.func95, Tryz.ntmps95
  go_wp2_with fail
  refine Calls.mono H.out ?_
  rintro e wz ⟨rfl, v', hv⟩
  have HV : Hid (_) := hv
  clear hv H
  go_wp2_with fail
  go_end0
  exact ⟨rfl, v', HV.out⟩
set_option maxRecDepth 100000 in
set_option maxHeartbeats 4000000 in
theorem act_sendRequest : ActOf (.l 114) 90 := by
  intro B Bs pb v m S w h ok fit hS hBs
  have H : Hid (PI w B Bs pb v m S) := h
  have OK : Hid (m.Ok) := ok
  have FIT : Hid (m.Fit 100) := fit
  have c9 : w.cell? ⟨pb, 9, none⟩ = some (.int .i64 (m.k0 : Int)) := blk_cell h.em.blk
  have c10 : w.cell? ⟨pb, 10, none⟩ = some (.int .i64 (m.k1 : Int)) := blk_cell h.em.blk
  have c11 : w.cell? ⟨pb, 11, none⟩ = some (.int .i64 (m.k2 : Int)) := blk_cell h.em.blk
  have c22 : w.cell? ⟨pb, 22, none⟩ = some (iv m.props.1) := blk_cell h.em.blk
  have c23 : w.cell? ⟨pb, 23, none⟩ = some (iv m.props.2.1) := blk_cell h.em.blk
  have c24 : w.cell? ⟨pb, 24, none⟩ = some (iv m.props.2.2) := blk_cell h.em.blk
  have f22 : w.frozen? ⟨pb, 22, none⟩ = false := blk_free h.em.blk
  have f23 : w.frozen? ⟨pb, 23, none⟩ = false := blk_free h.em.blk
  have f24 : w.frozen? ⟨pb, 24, none⟩ = false := blk_free h.em.blk
  clear h fit ok
  go_enter Tryz.func90, Tryz.ntmps90
  go_wp2_with fail
  have t1 := tset w pb 22 (.int .i64 (m.k0 : Int))
  have t2 := tset (w.setCell ⟨pb, 22, none⟩ (.int .i64 (m.k0 : Int))) pb 23 (.int .i64 (m.k1 : Int))
  have t3 := tset ((w.setCell ⟨pb, 22, none⟩ (.int .i64 (m.k0 : Int))).setCell ⟨pb, 23, none⟩ (.int .i64 (m.k1 : Int))) pb 24 (.int .i64 (m.k2 : Int))
  have hp := H.out.num (q' := (m.k0, m.k1, m.k2)) (m' := m) (blk_set (k := 24) (x := .int .i64 (m.k2 : Int)) (blk_set (k := 23) (x := .int .i64 (m.k1 : Int)) (blk_set (k := 22) (x := .int .i64 (m.k0 : Int)) H.out.em.blk))) ((t1.trans t2).trans t3) rfl rfl rfl
  have HP : Hid (_) := hp
  have hsz : (((w.setCell ⟨pb, 22, none⟩ (.int .i64 (m.k0 : Int))).setCell ⟨pb, 23, none⟩ (.int .i64 (m.k1 : Int))).setCell ⟨pb, 24, none⟩ (.int .i64 (m.k2 : Int))).heap.size = w.heap.size := by simp [World.setCell]
  clear t1 t2 t3 hp c9 c10 c11 c22 c23 c24 f22 f23 f24
  generalize ((w.setCell ⟨pb, 22, none⟩ (.int .i64 (m.k0 : Int))).setCell ⟨pb, 23, none⟩ (.int .i64 (m.k1 : Int))).setCell ⟨pb, 24, none⟩ (.int .i64 (m.k2 : Int)) = W0 at *
  have HA : Hid (_) := asking_any (m := m) pb W0 (blk_cell HP.out.1.em.blk) (blk_cell HP.out.1.em.blk) (blk_cell HP.out.1.em.blk) (blk_cell HP.out.1.em.blk) (blk_lt HP.out.1.em.blk) OK.out
  refine Calls.mono HA.out ?_
  rintro e w1 ⟨rfl, hb1⟩
  have HB1 : Hid (Below W0.heap.size W0 w1) := hb1
  have hz1 := hb1.size
  have H2 : Hid (_) := pcounted 1 (dataL m.asks) w1 (HP.out.1.below hb1) OK.out FIT.out (by omega) (by rw [dataL_len]; show 3 * 4 ≤ 1000; omega) hS (by omega)
  clear hb1 HA
  go_wp2_with fail
  refine Calls.mono H2.out ?_
  rintro e wz ⟨rfl, v', hv1, hv2⟩
  have c19 : wz.cell? ⟨pb, 19, none⟩ = some (.int .i64 (if m.sid < 0 then 0 else 1)) := blk_cell hv1.em.blk
  have c20 : wz.cell? ⟨pb, 20, none⟩ = some (.int .i64 (if m.sid < 0 then 0 else m.sid)) := blk_cell hv1.em.blk
  have c21 : wz.cell? ⟨pb, 21, none⟩ = some (.string ⟨m.sent.toArray⟩) := blk_cell hv1.em.blk
  have f19 : wz.frozen? ⟨pb, 19, none⟩ = false := blk_free hv1.em.blk
  have f20 : wz.frozen? ⟨pb, 20, none⟩ = false := blk_free hv1.em.blk
  have f21 : wz.frozen? ⟨pb, 21, none⟩ = false := blk_free hv1.em.blk
  have HV : Hid (PX wz B Bs pb v' (m.k0, m.k1, m.k2) { m with cnt := m.cnt - 1, tim := 3, id := (m.id + 1) % 256 } (S ++ lineL 1 ((m.id + 1) % 256) (dataL m.asks)) ∧ ES w wz pb v.vals v'.vals) := ⟨hv1, (HP.out.2.trans (ES.below HB1.out)).trans hv2⟩
  clear hv1 hv2 H2
  generalize (if m.sid < 0 then (0 : Int) else 1) = s1 at *
  generalize (if m.sid < 0 then (0 : Int) else m.sid) = s2 at *
  go_wp2_with fail
  go_end0
  obtain ⟨p0, p1, p2⟩ := asks_props OK.out
  have t1 := tset wz pb 19 (.int .i64 1)
  have t2 := tset (wz.setCell ⟨pb, 19, none⟩ (.int .i64 1)) pb 20 (.int .i64 (((m.id + 1) % 256 : Nat) : Int))
  have t3 := tset ((wz.setCell ⟨pb, 19, none⟩ (.int .i64 1)).setCell ⟨pb, 20, none⟩ (.int .i64 (((m.id + 1) % 256 : Nat) : Int))) pb 21 (.string ⟨(dataL m.asks).toArray⟩)
  have hb := blk_set (k := 21) (x := .string ⟨(dataL m.asks).toArray⟩) (blk_set (k := 20) (x := .int .i64 (((m.id + 1) % 256 : Nat) : Int)) (blk_set (k := 19) (x := .int .i64 1) HV.out.1.em.blk))
  have hq : (m.letter 114).1.props = (m.k0, m.k1, m.k2) := by
    show (termsI (dataL m.asks) 0, termsI (dataL m.asks) 1, termsI (dataL m.asks) 2) = _
    rw [p0, p1, p2]
  have hp := HV.out.1.num (q' := (m.k0, m.k1, m.k2)) (m' := (m.letter 114).1) (by
    refine hb.trans ?_
    show some (Obj.cells _ _ _) = some (Obj.cells _ _ _)
    simp [RE.pcl, RE.letter, RE.act, RE.request, RE.mag]
    exact ⟨by omega, by omega, rfl⟩) ((t1.trans t2).trans t3) rfl rfl rfl
  refine ⟨rfl, v', ?_, HV.out.2.trans hp.2⟩
  show PX _ B Bs pb v' (m.letter 114).1.props _ _
  rw [hq]
  exact hp.1
end Go.Proofs.YtoeihlgidakjbaaGreatDoor
namespace Go.Proofs.YtoeihlgidakjbaaGreatDoor
open Go.RowKit Go.Lib
set_option maxRecDepth 100000 in
set_option maxHeartbeats 2000000 in
theorem clone_any (v : Value) (l : List Int) (w : World) (hi : IntsAt w v l) (h0 : 0 < l.length) (h8 : l.length ≤ 17000000000000) :
    Calls Tryz.prog 64 #[v] w fun r w' => ∃ g cap, r = .returned (.slice (some ⟨g, 0, none⟩) l.length cap) ∧ w'.ownsRow w.heap.size 3 1 (.slice (some ⟨g, 0, none⟩) l.length cap) l.length (l.map zv) ∧ Below w.heap.size w w' := by
  obtain ⟨j0, hj, hy0, hy1, hy2⟩ := info_parts Tryz.infoI
  obtain ⟨a, cap, g, off, rfl, ha, hc⟩ := hi
  obtain ⟨rfl, hg⟩ := ha h0
  have q : ∀ (w : World) (a : Option Addr) (n c n' c' : Nat), (binOp .eql 28 (.slice a n c) (.slice none n' c')).run Tryz.prog w = .ok (.bool a.isNone) w := fun w a n c n' c' => Lib.run_eql_slice_nil w _ _ a n c n' c' Tryz.underlying28
  have HN : Hid (∀ j u, (l.map zv)[j]? = some u → (w.alloc (.cells #[] 3)).cell? ((⟨g, off, none⟩ : Addr).add j) = some u) := by
    intro j u hu
    rw [List.getElem?_map] at hu
    obtain ⟨x, hx, rfl⟩ := Option.map_eq_some_iff.1 hu
    obtain ⟨hjl, rfl⟩ := List.getElem?_eq_some_iff.1 hx
    have hadd : (⟨g, off, none⟩ : Addr).add j = ⟨g, off + j, none⟩ := by unfold Addr.add; split <;> simp_all
    rw [hadd]; exact (World.cell?_alloc_lt w _ ⟨g, off + j, none⟩ hg).trans (hc j hjl)
  clear ha hc
  go_enter Tryz.func64, Tryz.ntmps64
  go_wp2_with (at_builtin; go_must (refine wpList_append_lies _ rfl (.tmp 5) (.tmp 6) 28 rfl w.heap.size 3 j0 (.int .i64 0) 1 8 Tryz.underlying28 hj hy0 hy1 hy2 rfl (by decide) _ 0 [] rfl (World.ownsRow_made w #[] 0 (Nat.le_refl _) (Nat.zero_le _) rfl) ⟨g, off, none⟩ l.length cap (l.map zv) rfl (by simp) HN.out (by intro u hu; obtain ⟨x, _, rfl⟩ := List.mem_map.1 hu; rfl) h0 (by unfold maxLen; omega) (by omega) (by simp) _ rfl ?_; intro gv capv w1 hown1 hgrow1 hat1 hlt1))
  go_ret
  have e0 : 0 + l.length = l.length := by omega
  rw [e0] at hown1
  refine ⟨gv, capv, rfl, by simpa using hown1, ?_⟩
  exact (tch_grown hgrow1).below (Nat.le_refl _) (fun k hk => Nat.le_of_eq (Option.some.inj hk))
set_option maxRecDepth 100000 in
set_option maxHeartbeats 2000000 in
theorem clone_nil (w : World) : Calls Tryz.prog 64 #[.slice none 0 0] w fun r w' => r = .returned (.slice none 0 0) ∧ w' = w := by
  have q : ∀ (w : World) (a : Option Addr) (n c n' c' : Nat), (binOp .eql 28 (.slice a n c) (.slice none n' c')).run Tryz.prog w = .ok (.bool a.isNone) w := fun w a n c n' c' => Lib.run_eql_slice_nil w _ _ a n c n' c' Tryz.underlying28
  go_enter Tryz.func64, Tryz.ntmps64
  go_wp2
  go_ret
  exact ⟨rfl, rfl⟩
set_option maxRecDepth 100000 in
set_option maxHeartbeats 2000000 in
theorem index_any (v : Value) (l : List Int) (x : Int) (w : World) (hi : IntsAt w v l) (h8 : l.length ≤ 17000000000000) :
    Calls Tryz.prog 157 #[v, .int .i64 x] w fun r w' => ∃ n : Int, r = .returned (.int .i64 n) ∧ w = w' ∧ ((0 ≤ n ∧ x ∈ l) ∨ (n = -1 ∧ x ∉ l)) := by
  obtain ⟨a, cap, g, off, rfl, ha, hc⟩ := hi
  have HA : Hid (0 < l.length → a = some ⟨g, off, none⟩ ∧ g < w.heap.size) := ha
  have HC : Hid (∀ k (h : k < l.length), w.cell? ⟨g, off + k, none⟩ = some (.int .i64 l[k])) := hc
  clear ha hc
  go_enter Tryz.func157, Tryz.ntmps157
  go_wp2
  go_loop [8] (fun i => ∃ k : Nat, k ≤ l.length ∧ i = .int .i64 k ∧ Hid (x ∉ l.take k)) (fun i => l.length - (intOf i).toNat)
  case atStart => exact ⟨0, Nat.zero_le _, rfl, by show _ ∉ _; simp⟩
  case round =>
    obtain ⟨k, hk, rfl, HX⟩ := hrel
    by_cases hlt : k < l.length
    · obtain ⟨rfl, _⟩ := HA.out (by omega)
      have hI : (k : Int) < (l.length : Int) := by omega
      have ck := HC.out k hlt
      have HE : Hid (l[k]? = some l[k]) := List.getElem?_eq_getElem hlt
      generalize l[k] = y at *
      by_cases e : x = y
      · have he : (x == y) = true := by simp [e]
        go_wp2
        go_ret
        exact ⟨_, rfl, rfl, .inl ⟨by omega, by subst e; exact List.mem_of_getElem? HE.out⟩⟩
      · have he : (x == y) = false := by simp [e]
        have HN : Hid (x ∉ l.take (k + 1)) := by
          show _ ∉ _
          rw [List.take_add_one, HE.out]
          simp only [Option.toList, List.mem_append, List.mem_singleton, not_or]
          exact ⟨HX.out, e⟩
        go_wp2
        go_round
        case rel => exact ⟨k + 1, by omega, by go_num, HN⟩
        case measure => simp [intOf]; omega
    · have HN : Hid (x ∉ l) := by
        have := HX.out
        rw [List.take_of_length_le (by omega)] at this
        exact this
      go_wp2
      go_ret
      exact ⟨_, rfl, rfl, .inr ⟨rfl, HN.out⟩⟩
set_option maxRecDepth 100000 in
set_option maxHeartbeats 2000000 in
theorem contains_any (v : Value) (l : List Int) (x : Int) (w : World) (hi : IntsAt w v l) (h8 : l.length ≤ 17000000000000) :
    Calls Tryz.prog 125 #[v, .int .i64 x] w fun r w' => r = .returned (.bool (decide (x ∈ l))) ∧ w = w' := by
  have HI : Hid (IntsAt w v l) := hi
  clear hi
  go_enter Tryz.func125, Tryz.ntmps125
  go_wp2_with fail
  refine (index_any v l x w HI.out h8).mono ?_
  rintro e w1 ⟨n, rfl, rfl, hn⟩
  rcases hn with ⟨h0, hm⟩ | ⟨rfl, hm⟩
  · go_wp2
    go_ret
    exact ⟨by simp [hm], rfl⟩
  · go_wp2
    go_ret
    exact ⟨by simp [hm], rfl⟩
end Go.Proofs.YtoeihlgidakjbaaGreatDoor

/- The program's actions without a packet: what each does, by the document's letters. slices.Clone, slices.Index, slices.Contains at numbers. The program's isGood, notGood. The program's takeMagic, heed. The program's isList and IsConfig. The program's Options. -/
import Derived.Test.YtoeihlgidakjbaaGreatDoorEa27
import Derived.Test.YtoeihlgidakjbaaGreatDoorEa7
import Derived.Test.YtoeihlgidakjbaaGreatDoorEa24
namespace Go.Proofs.YtoeihlgidakjbaaGreatDoor
open Go.RowKit Go.Lib
inductive PA
  | l (c : Nat)
  | tell (x : Nat)
  | heed (L : List (Nat × Nat))
  | nak (L : List (Nat × Nat))
namespace RE
def nakW (m : RE) (L : List (Nat × Nat)) : RE × List UInt8 := ({ (m.nakItems L).1 with naks := (m.nakItems L).1.naks + 1 }, lineL 3 m.pi (dataL (m.nakItems L).2))
def pa (m : RE) : PA → RE × List UInt8
  | .l c => m.letter c
  | .tell x => ({ m with told := m.told ++ [x] }, [])
  | .heed L => (m.takeAll L, [])
  | .nak L => m.nakW L
def prun (m : RE) : List PA → RE × List UInt8
  | [] => (m, [])
  | c :: r => let y := m.pa c; let z := prun y.1 r; (z.1, y.2 ++ z.2)
theorem prun_snoc (m : RE) (l : List PA) (c : PA) : m.prun (l ++ [c]) = (((m.prun l).1.pa c).1, (m.prun l).2 ++ ((m.prun l).1.pa c).2) := by
  induction l generalizing m with
  | nil => simp [prun]
  | cons x l ih => simp [prun, ih]
theorem prun_l (m : RE) (l : List Nat) : m.prun (l.map PA.l) = m.run l := by
  induction l generalizing m with
  | nil => rfl
  | cons x l ih => simp only [List.map_cons, prun, run, ih, pa]
end RE
def ItemsOk (L : List (Nat × Nat)) : Prop := L.length ≤ 40 ∧ ∀ x ∈ L, 1 ≤ x.1 ∧ x.1 ≤ 4 ∧ x.2 < 65536
def PA.ok : PA → Prop
  | .heed L => ItemsOk L
  | .nak L => ItemsOk L
  | _ => True
theorem asks_items {m : RE} (ok : m.Ok) : itemsL (dataL m.asks) = some m.asks := by
  obtain ⟨q, hq, hq1, hqm, hml2⟩ := ok.mag
  have h0 := ok.k0
  have h1 := ok.k1
  have h2 := ok.k2
  simp only [RE.asks, dataL, List.flatMap_cons, List.flatMap_nil, itemL, twoL, List.cons_append, List.nil_append, itemsL, itemsAux]
  simp
  omega
theorem asks_props {m : RE} (ok : m.Ok) : termsI (dataL m.asks) 0 = m.k0 ∧ termsI (dataL m.asks) 1 = m.k1 ∧ termsI (dataL m.asks) 2 = m.k2 := by
  unfold termsI
  rw [asks_items ok]
  exact ⟨rfl, rfl, rfl⟩
set_option maxRecDepth 100000 in
set_option maxHeartbeats 4000000 in
theorem pcounted {B Bs pb : Nat} {v : PV} {q : Nat × Nat × Nat} {m : RE} {S : List UInt8} (code : Nat) (s : List UInt8) (w : World) (h : PX w B Bs pb v q m S) (ok : m.Ok) (fit : m.Fit 100) (hc : code < 256) (hs : s.length ≤ 1000) (hS : S.length ≤ 100000000000000) (hBs : Bs ≤ w.heap.size) :
    Calls Tryz.prog 122 #[.pointer (some ⟨pb, 0, none⟩), .int .i64 (code : Int), .string ⟨s.toArray⟩] w fun r w' => r = .returned (.agg #[.int .i64 (code : Int), .int .i64 (((m.id + 1) % 256 : Nat) : Int), .string ⟨s.toArray⟩]) ∧ ∃ v', PX w' B Bs pb v' q { m with cnt := m.cnt - 1, tim := 3, id := (m.id + 1) % 256 } (S ++ lineL code ((m.id + 1) % 256) s) ∧ ES w w' pb v.vals v'.vals := by
  have HIN : Hid (∀ b, inE pb v.vals b → b < w.heap.size) := fun b hb => (h.lt b hb).2
  have BA : Hid (Below w.heap.size w (w.alloc (.cells #[.int .i64 0, .int .i64 0, .string ⟨#[]⟩] 27))) := (Below.refl _ _).alloc (Nat.le_refl _) _
  have RA : Hid ((w.alloc (.cells #[.int .i64 0, .int .i64 0, .string ⟨#[]⟩] 27)).heap[w.heap.size]? = some (.cells #[.int .i64 0, .int .i64 0, .string ⟨#[]⟩] 27 (0, 0))) := heap_alloc_new w _
  have zA : (w.alloc (.cells #[.int .i64 0, .int .i64 0, .string ⟨#[]⟩] 27)).heap.size = w.heap.size + 1 := by simp
  have hlt : pb < w.heap.size := blk_lt h.em.blk
  have hA := h.below BA.out
  have H : Hid (PX (w.alloc (.cells #[.int .i64 0, .int .i64 0, .string ⟨#[]⟩] 27)) B Bs pb v q m S) := hA
  have c15 : (w.alloc (.cells #[.int .i64 0, .int .i64 0, .string ⟨#[]⟩] 27)).cell? ⟨pb, 15, none⟩ = some (.int .i64 m.cnt) := blk_cell hA.em.blk
  have c16 : (w.alloc (.cells #[.int .i64 0, .int .i64 0, .string ⟨#[]⟩] 27)).cell? ⟨pb, 16, none⟩ = some (.int .i64 m.tim) := blk_cell hA.em.blk
  have c17 : (w.alloc (.cells #[.int .i64 0, .int .i64 0, .string ⟨#[]⟩] 27)).cell? ⟨pb, 17, none⟩ = some (.int .u8 (m.id : Int)) := blk_cell hA.em.blk
  have f15 : (w.alloc (.cells #[.int .i64 0, .int .i64 0, .string ⟨#[]⟩] 27)).frozen? ⟨pb, 15, none⟩ = false := blk_free hA.em.blk
  have f16 : (w.alloc (.cells #[.int .i64 0, .int .i64 0, .string ⟨#[]⟩] 27)).frozen? ⟨pb, 16, none⟩ = false := blk_free hA.em.blk
  have f17 : (w.alloc (.cells #[.int .i64 0, .int .i64 0, .string ⟨#[]⟩] 27)).frozen? ⟨pb, 17, none⟩ = false := blk_free hA.em.blk
  have h0 := fit.c0
  have h1 := fit.c1
  have hid := ok.id
  have w1 : IntKind.i64.wrap (m.cnt - 1) = m.cnt - 1 := wrap_in (by omega) (by omega)
  clear h fit ok hA
  go_enter Tryz.func122, Tryz.ntmps122
  go_upto_region 1 with fail
  generalize w.alloc (.cells #[.int .i64 0, .int .i64 0, .string ⟨#[]⟩] 27) = WA at *
  go_wp2_with fail
  have e1 : ((m.id : Int) + 1) % 256 = (((m.id + 1) % 256 : Nat) : Int) := by omega
  simp only [e1]
  have t1 := tset WA pb 15 (.int .i64 (m.cnt - 1))
  have t2 := tset (WA.setCell ⟨pb, 15, none⟩ (.int .i64 (m.cnt - 1))) pb 16 (.int .i64 3)
  have t3 := tset ((WA.setCell ⟨pb, 15, none⟩ (.int .i64 (m.cnt - 1))).setCell ⟨pb, 16, none⟩ (.int .i64 3)) pb 17 (.int .u8 (((m.id + 1) % 256 : Nat) : Int))
  have hp := H.out.num (q' := q) (m' := { m with cnt := m.cnt - 1, tim := 3, id := (m.id + 1) % 256 }) (blk_set (k := 17) (x := .int .u8 (((m.id + 1) % 256 : Nat) : Int)) (blk_set (k := 16) (x := .int .i64 3) (blk_set (k := 15) (x := .int .i64 (m.cnt - 1)) H.out.em.blk))) ((t1.trans t2).trans t3) rfl rfl rfl
  have RS3 : Hid (((((WA.setCell ⟨pb, 15, none⟩ (.int .i64 (m.cnt - 1))).setCell ⟨pb, 16, none⟩ (.int .i64 3)).setCell ⟨pb, 17, none⟩ (.int .u8 (((m.id + 1) % 256 : Nat) : Int)))).heap[w.heap.size]? = some (.cells #[.int .i64 0, .int .i64 0, .string ⟨#[]⟩] 27 (0, 0))) := (((t1.trans t2).trans t3).block _ (by omega) (by omega)).trans RA.out
  have HP : Hid (_) := hp
  have hsz : ((((WA.setCell ⟨pb, 15, none⟩ (.int .i64 (m.cnt - 1))).setCell ⟨pb, 16, none⟩ (.int .i64 3)).setCell ⟨pb, 17, none⟩ (.int .u8 (((m.id + 1) % 256 : Nat) : Int)))).heap.size = WA.heap.size := by simp [World.setCell]
  clear t1 t2 t3 c15 c16 c17 f15 f16 f17 hp e1
  generalize ((WA.setCell ⟨pb, 15, none⟩ (.int .i64 (m.cnt - 1))).setCell ⟨pb, 16, none⟩ (.int .i64 3)).setCell ⟨pb, 17, none⟩ (.int .u8 (((m.id + 1) % 256 : Nat) : Int)) = W3 at *
  have B4 : Hid (Below W3.heap.size W3 (W3.alloc (.cells #[.int .i64 (code : Int), .int .i64 (((m.id + 1) % 256 : Nat) : Int), .string ⟨s.toArray⟩] 27))) := (Below.refl _ _).alloc (Nat.le_refl _) _
  have R4 : Hid ((W3.alloc (.cells #[.int .i64 (code : Int), .int .i64 (((m.id + 1) % 256 : Nat) : Int), .string ⟨s.toArray⟩] 27)).heap[W3.heap.size]? = some (.cells #[.int .i64 (code : Int), .int .i64 (((m.id + 1) % 256 : Nat) : Int), .string ⟨s.toArray⟩] 27 (0, 0))) := heap_alloc_new W3 _
  have z4 : (W3.alloc (.cells #[.int .i64 (code : Int), .int .i64 (((m.id + 1) % 256 : Nat) : Int), .string ⟨s.toArray⟩] 27)).heap.size = W3.heap.size + 1 := by simp
  have HPS : Hid (_) := psendN code ((m.id + 1) % 256) s _ (HP.out.1.below B4.out) hc (by omega) hs hS (by omega)
  have hW3 : W3.heap.size = w.heap.size + 1 := by omega
  rw [hW3] at R4
  generalize W3.alloc (.cells #[.int .i64 (code : Int), .int .i64 (((m.id + 1) % 256 : Nat) : Int), .string ⟨s.toArray⟩] 27) = W4 at *
  refine Calls.mono HPS.out ?_
  rintro e wz ⟨rfl, v', hv1, hv2⟩
  have hin : ∀ b, inE pb v'.vals b → b < w.heap.size ∨ w.heap.size + 2 ≤ b := fun b hb => by
    rcases hv2.i b hb with x | x
    · exact .inl (HIN.out b x)
    · exact .inr (by omega)
  have r0 : wz.heap[w.heap.size]? = some (.cells #[.int .i64 0, .int .i64 0, .string ⟨#[]⟩] 27 (0, 0)) := (hv2.t.block _ (by omega) (fun x => by have := HIN.out _ x; omega)).trans ((B4.out.block _ (by omega)).trans RS3.out)
  have r1 : wz.heap[w.heap.size + 1]? = some (.cells #[.int .i64 (code : Int), .int .i64 (((m.id + 1) % 256 : Nat) : Int), .string ⟨s.toArray⟩] 27 (0, 0)) := (hv2.t.block _ (by omega) (fun x => by have := HIN.out _ x; omega)).trans R4.out
  have HV : Hid (PX wz B Bs pb v' q { m with cnt := m.cnt - 1, tim := 3, id := (m.id + 1) % 256 } (S ++ lineL code ((m.id + 1) % 256) s) ∧ ES w wz pb v.vals v'.vals ∧ ∀ b, inE pb v'.vals b → b < w.heap.size ∨ w.heap.size + 2 ≤ b) := ⟨hv1, ((ES.below BA.out).trans HP.out.2).trans ((ES.below B4.out).trans hv2), hin⟩
  have k0 : wz.cell? ⟨w.heap.size + 1, 0, none⟩ = some (.int .i64 (code : Int)) := blk_cell r1
  have k1 : wz.cell? ⟨w.heap.size + 1, 1, none⟩ = some (.int .i64 (((m.id + 1) % 256 : Nat) : Int)) := blk_cell r1
  have k2 : wz.cell? ⟨w.heap.size + 1, 2, none⟩ = some (.string ⟨s.toArray⟩) := blk_cell r1
  have j0 : wz.cell? ⟨w.heap.size, 0, none⟩ = some (.int .i64 0) := blk_cell r0
  have j1 : wz.cell? ⟨w.heap.size, 1, none⟩ = some (.int .i64 0) := blk_cell r0
  have j2 : wz.cell? ⟨w.heap.size, 2, none⟩ = some (.string ⟨#[]⟩) := blk_cell r0
  have l0 : wz.frozen? ⟨w.heap.size, 0, none⟩ = false := blk_free r0
  have l1 : wz.frozen? ⟨w.heap.size, 1, none⟩ = false := blk_free r0
  have l2 : wz.frozen? ⟨w.heap.size, 2, none⟩ = false := blk_free r0
  have R0 : Hid (_) := r0
  clear hv1 hv2 HPS hin r0 r1 HP RS3 R4 B4
  go_wp2_with fail
  have tt : Tch (fun b => b = w.heap.size) wz (((wz.setCell ⟨w.heap.size, 0, none⟩ (.int .i64 (code : Int))).setCell ⟨w.heap.size, 1, none⟩ (.int .i64 (((m.id + 1) % 256 : Nat) : Int))).setCell ⟨w.heap.size, 2, none⟩ (.string ⟨s.toArray⟩)) := ((tset _ _ _ _).trans (tset _ _ _ _)).trans (tset _ _ _ _)
  refine bodyPost_ret (v := .agg #[.int .i64 (code : Int), .int .i64 (((m.id + 1) % 256 : Nat) : Int), .string ⟨s.toArray⟩]) (by simp [results, Tryz.results122, go_sem, j0, j1, j2]) rfl ⟨rfl, v', HV.out.1.of_tch tt (fun b hb e => by have := HV.out.2.2 b hb; omega), ?_⟩
  exact ⟨Tch.restrict ((HV.out.2.1.t.mono (fun _ x => .inl x)).trans (tt.mono (fun b e => .inr (by omega)))), HV.out.2.1.i⟩
def ActOf (c : PA) (f : Nat) : Prop := ∀ (B Bs pb : Nat) (v : PV) (m : RE) (S : List UInt8) (w : World), PI w B Bs pb v m S → m.Ok → m.Fit 100 → S.length ≤ 100000000000000 → Bs ≤ w.heap.size →
  Calls Tryz.prog f #[.pointer (some ⟨pb, 0, none⟩)] w fun r w' => ActR w w' B Bs pb v (m.pa c).1 (S ++ (m.pa c).2) r
set_option maxRecDepth 100000 in
theorem act_tellDown : ActOf (.l 100) 92 := by
  intro B Bs pb v m S w h _ fit _ _
  have H : Hid (_) := ptell 2 w h (by have := fit.told; omega)
  rw [show (m.pa (.l 100)).2 = [] from rfl, List.append_nil]
  clear h fit
  go_enter Tryz.func92, Tryz.ntmps92
  go_wp2_with fail
  refine Calls.mono H.out ?_
  rintro e wz ⟨rfl, v', hv⟩
  have HV : Hid (_) := hv
  clear hv H
  go_wp2_with fail
  go_end0
  exact ⟨rfl, v', HV.out⟩
set_option maxRecDepth 100000 in
theorem act_tellBegin : ActOf (.l 98) 91 := by
  intro B Bs pb v m S w h _ fit _ _
  have H : Hid (_) := ptell 3 w h (by have := fit.told; omega)
  rw [show (m.pa (.l 98)).2 = [] from rfl, List.append_nil]
  clear h fit
  go_enter Tryz.func91, Tryz.ntmps91
  go_wp2_with fail
  refine Calls.mono H.out ?_
  rintro e wz ⟨rfl, v', hv⟩
  have HV : Hid (_) := hv
  clear hv H
  go_wp2_with fail
  go_end0
  exact ⟨rfl, v', HV.out⟩
set_option maxRecDepth 100000 in
theorem act_tellFinish : ActOf (.l 102) 93 := by
  intro B Bs pb v m S w h _ fit _ _
  have H : Hid (_) := ptell 4 w h (by have := fit.told; omega)
  rw [show (m.pa (.l 102)).2 = [] from rfl, List.append_nil]
  clear h fit
  go_enter Tryz.func93, Tryz.ntmps93
  go_wp2_with fail
  refine Calls.mono H.out ?_
  rintro e wz ⟨rfl, v', hv⟩
  have HV : Hid (_) := hv
  clear hv H
  go_wp2_with fail
  go_end0
  exact ⟨rfl, v', HV.out⟩
set_option maxRecDepth 100000 in
theorem act_tellGiveUp : ActOf (.tell 5) 163 := by
  intro B Bs pb v m S w h _ fit _ _
  have H : Hid (_) := ptell 5 w h (by have := fit.told; omega)
  rw [show (m.pa (.tell 5)).2 = [] from rfl, List.append_nil]
  clear h fit
  go_enter Tryz.func163, Tryz.ntmps163
  go_wp2_with fail
  refine Calls.mono H.out ?_
  rintro e wz ⟨rfl, v', hv⟩
  have HV : Hid (_) := hv
  clear hv H
  go_wp2_with fail
  go_end0
  exact ⟨rfl, v', HV.out⟩
set_option maxRecDepth 100000 in
theorem act_tellLoop : ActOf (.tell 6) 162 := by
  intro B Bs pb v m S w h _ fit _ _
  have H : Hid (_) := ptell 6 w h (by have := fit.told; omega)
  rw [show (m.pa (.tell 6)).2 = [] from rfl, List.append_nil]
  clear h fit
  go_enter Tryz.func162, Tryz.ntmps162
  go_wp2_with fail
  refine Calls.mono H.out ?_
  rintro e wz ⟨rfl, v', hv⟩
  have HV : Hid (_) := hv
  clear hv H
  go_wp2_with fail
  go_end0
  exact ⟨rfl, v', HV.out⟩
set_option maxRecDepth 100000 in
theorem act_tellUp : ActOf (.l 117) 160 := by
  intro B Bs pb v m S w h _ fit _ _
  have c28 : w.cell? ⟨pb, 28, none⟩ = some (.int .i64 (m.naks : Int)) := blk_cell h.em.blk
  have f28 : w.frozen? ⟨pb, 28, none⟩ = false := blk_free h.em.blk
  have hp := h.num (q' := m.props) (m' := { m with naks := 0 }) (blk_set (k := 28) (x := .int .i64 0) h.em.blk) (tset w pb 28 _) rfl rfl rfl
  have HP : Hid (_) := hp
  have H : Hid (_) := ptell 1 _ hp.1 (by have := fit.told; show m.told.length + 1 ≤ _; omega)
  rw [show (m.pa (.l 117)).2 = [] from rfl, List.append_nil]
  clear h fit hp
  go_enter Tryz.func160, Tryz.ntmps160
  go_wp2_with fail
  refine Calls.mono H.out ?_
  rintro e wz ⟨rfl, v', hv⟩
  have HV : Hid (_) := hv
  clear hv H
  go_wp2_with fail
  go_end0
  exact ⟨rfl, v', HV.out.1, HP.out.2.trans HV.out.2⟩
set_option maxRecDepth 100000 in
theorem act_countRequests : ActOf (.l 105) 89 := by
  intro B Bs pb v m S w h _ _ _ _
  have H : Hid (PI w B Bs pb v m S) := h
  have c15 : w.cell? ⟨pb, 15, none⟩ = some (.int .i64 m.cnt) := blk_cell h.em.blk
  have f15 : w.frozen? ⟨pb, 15, none⟩ = false := blk_free h.em.blk
  have c16 : w.cell? ⟨pb, 16, none⟩ = some (.int .i64 m.tim) := blk_cell h.em.blk
  have f16 : w.frozen? ⟨pb, 16, none⟩ = false := blk_free h.em.blk
  rw [show (m.pa (.l 105)).2 = [] from rfl, List.append_nil]
  clear h
  go_enter Tryz.func89, Tryz.ntmps89
  go_wp2_with fail
  go_end0
  exact ⟨rfl, v, H.out.num (q' := m.props) (m' := (m.pa (.l 105)).1) (blk_set (k := 15) (x := .int .i64 5) H.out.em.blk) (tset w pb 15 _) rfl rfl rfl⟩
set_option maxRecDepth 100000 in
theorem act_countEnds : ActOf (.l 116) 94 := by
  intro B Bs pb v m S w h _ _ _ _
  have H : Hid (PI w B Bs pb v m S) := h
  have c15 : w.cell? ⟨pb, 15, none⟩ = some (.int .i64 m.cnt) := blk_cell h.em.blk
  have f15 : w.frozen? ⟨pb, 15, none⟩ = false := blk_free h.em.blk
  have c16 : w.cell? ⟨pb, 16, none⟩ = some (.int .i64 m.tim) := blk_cell h.em.blk
  have f16 : w.frozen? ⟨pb, 16, none⟩ = false := blk_free h.em.blk
  rw [show (m.pa (.l 116)).2 = [] from rfl, List.append_nil]
  clear h
  go_enter Tryz.func94, Tryz.ntmps94
  go_wp2_with fail
  go_end0
  exact ⟨rfl, v, H.out.num (q' := m.props) (m' := (m.pa (.l 116)).1) (blk_set (k := 15) (x := .int .i64 2) H.out.em.blk) (tset w pb 15 _) rfl rfl rfl⟩
set_option maxRecDepth 100000 in
theorem act_countNone : ActOf (.l 122) 140 := by
  intro B Bs pb v m S w h _ _ _ _
  have H : Hid (PI w B Bs pb v m S) := h
  have c15 : w.cell? ⟨pb, 15, none⟩ = some (.int .i64 m.cnt) := blk_cell h.em.blk
  have f15 : w.frozen? ⟨pb, 15, none⟩ = false := blk_free h.em.blk
  have c16 : w.cell? ⟨pb, 16, none⟩ = some (.int .i64 m.tim) := blk_cell h.em.blk
  have f16 : w.frozen? ⟨pb, 16, none⟩ = false := blk_free h.em.blk
  rw [show (m.pa (.l 122)).2 = [] from rfl, List.append_nil]
  clear h
  go_enter Tryz.func140, Tryz.ntmps140
  go_wp2_with fail
  go_end0
  exact ⟨rfl, v, H.out.num (q' := m.props) (m' := (m.pa (.l 122)).1) (blk_set (k := 16) (x := .int .i64 3) (blk_set (k := 15) (x := .int .i64 0) H.out.em.blk)) ((tset w pb 15 _).trans (tset _ pb 16 _)) rfl rfl rfl⟩
set_option maxRecDepth 100000 in
theorem act_sendEnd : ActOf (.l 101) 95 := by
  intro B Bs pb v m S w h ok fit hS hBs
  have H : Hid (_) := pcounted 5 [] w h ok fit (by omega) (by show 0 ≤ 1000; omega) hS hBs
  clear h fit ok
  go_enter Tryz.func95, Tryz.ntmps95
  go_wp2_with fail
  refine Calls.mono H.out ?_
  rintro e wz ⟨rfl, v', hv⟩
  have HV : Hid (_) := hv
  clear hv H
  go_wp2_with fail
  go_end0
  exact ⟨rfl, v', HV.out⟩
set_option maxRecDepth 100000 in
set_option maxHeartbeats 4000000 in
theorem act_sendRequest : ActOf (.l 114) 90 := by
  intro B Bs pb v m S w h ok fit hS hBs
  have H : Hid (PI w B Bs pb v m S) := h
  have OK : Hid (m.Ok) := ok
  have FIT : Hid (m.Fit 100) := fit
  have c9 : w.cell? ⟨pb, 9, none⟩ = some (.int .i64 (m.k0 : Int)) := blk_cell h.em.blk
  have c10 : w.cell? ⟨pb, 10, none⟩ = some (.int .i64 (m.k1 : Int)) := blk_cell h.em.blk
  have c11 : w.cell? ⟨pb, 11, none⟩ = some (.int .i64 (m.k2 : Int)) := blk_cell h.em.blk
  have c22 : w.cell? ⟨pb, 22, none⟩ = some (iv m.props.1) := blk_cell h.em.blk
  have c23 : w.cell? ⟨pb, 23, none⟩ = some (iv m.props.2.1) := blk_cell h.em.blk
  have c24 : w.cell? ⟨pb, 24, none⟩ = some (iv m.props.2.2) := blk_cell h.em.blk
  have f22 : w.frozen? ⟨pb, 22, none⟩ = false := blk_free h.em.blk
  have f23 : w.frozen? ⟨pb, 23, none⟩ = false := blk_free h.em.blk
  have f24 : w.frozen? ⟨pb, 24, none⟩ = false := blk_free h.em.blk
  clear h fit ok
  go_enter Tryz.func90, Tryz.ntmps90
  go_wp2_with fail
  have t1 := tset w pb 22 (.int .i64 (m.k0 : Int))
  have t2 := tset (w.setCell ⟨pb, 22, none⟩ (.int .i64 (m.k0 : Int))) pb 23 (.int .i64 (m.k1 : Int))
  have t3 := tset ((w.setCell ⟨pb, 22, none⟩ (.int .i64 (m.k0 : Int))).setCell ⟨pb, 23, none⟩ (.int .i64 (m.k1 : Int))) pb 24 (.int .i64 (m.k2 : Int))
  have hp := H.out.num (q' := (m.k0, m.k1, m.k2)) (m' := m) (blk_set (k := 24) (x := .int .i64 (m.k2 : Int)) (blk_set (k := 23) (x := .int .i64 (m.k1 : Int)) (blk_set (k := 22) (x := .int .i64 (m.k0 : Int)) H.out.em.blk))) ((t1.trans t2).trans t3) rfl rfl rfl
  have HP : Hid (_) := hp
  have hsz : (((w.setCell ⟨pb, 22, none⟩ (.int .i64 (m.k0 : Int))).setCell ⟨pb, 23, none⟩ (.int .i64 (m.k1 : Int))).setCell ⟨pb, 24, none⟩ (.int .i64 (m.k2 : Int))).heap.size = w.heap.size := by simp [World.setCell]
  clear t1 t2 t3 hp c9 c10 c11 c22 c23 c24 f22 f23 f24
  generalize ((w.setCell ⟨pb, 22, none⟩ (.int .i64 (m.k0 : Int))).setCell ⟨pb, 23, none⟩ (.int .i64 (m.k1 : Int))).setCell ⟨pb, 24, none⟩ (.int .i64 (m.k2 : Int)) = W0 at *
  have HA : Hid (_) := asking_any (m := m) pb W0 (blk_cell HP.out.1.em.blk) (blk_cell HP.out.1.em.blk) (blk_cell HP.out.1.em.blk) (blk_cell HP.out.1.em.blk) (blk_lt HP.out.1.em.blk) OK.out
  refine Calls.mono HA.out ?_
  rintro e w1 ⟨rfl, hb1⟩
  have HB1 : Hid (Below W0.heap.size W0 w1) := hb1
  have hz1 := hb1.size
  have H2 : Hid (_) := pcounted 1 (dataL m.asks) w1 (HP.out.1.below hb1) OK.out FIT.out (by omega) (by rw [dataL_len]; show 3 * 4 ≤ 1000; omega) hS (by omega)
  clear hb1 HA
  go_wp2_with fail
  refine Calls.mono H2.out ?_
  rintro e wz ⟨rfl, v', hv1, hv2⟩
  have c19 : wz.cell? ⟨pb, 19, none⟩ = some (.int .i64 (if m.sid < 0 then 0 else 1)) := blk_cell hv1.em.blk
  have c20 : wz.cell? ⟨pb, 20, none⟩ = some (.int .i64 (if m.sid < 0 then 0 else m.sid)) := blk_cell hv1.em.blk
  have c21 : wz.cell? ⟨pb, 21, none⟩ = some (.string ⟨m.sent.toArray⟩) := blk_cell hv1.em.blk
  have f19 : wz.frozen? ⟨pb, 19, none⟩ = false := blk_free hv1.em.blk
  have f20 : wz.frozen? ⟨pb, 20, none⟩ = false := blk_free hv1.em.blk
  have f21 : wz.frozen? ⟨pb, 21, none⟩ = false := blk_free hv1.em.blk
  have HV : Hid (PX wz B Bs pb v' (m.k0, m.k1, m.k2) { m with cnt := m.cnt - 1, tim := 3, id := (m.id + 1) % 256 } (S ++ lineL 1 ((m.id + 1) % 256) (dataL m.asks)) ∧ ES w wz pb v.vals v'.vals) := ⟨hv1, (HP.out.2.trans (ES.below HB1.out)).trans hv2⟩
  clear hv1 hv2 H2
  generalize (if m.sid < 0 then (0 : Int) else 1) = s1 at *
  generalize (if m.sid < 0 then (0 : Int) else m.sid) = s2 at *
  go_wp2_with fail
  go_end0
  obtain ⟨p0, p1, p2⟩ := asks_props OK.out
  have t1 := tset wz pb 19 (.int .i64 1)
  have t2 := tset (wz.setCell ⟨pb, 19, none⟩ (.int .i64 1)) pb 20 (.int .i64 (((m.id + 1) % 256 : Nat) : Int))
  have t3 := tset ((wz.setCell ⟨pb, 19, none⟩ (.int .i64 1)).setCell ⟨pb, 20, none⟩ (.int .i64 (((m.id + 1) % 256 : Nat) : Int))) pb 21 (.string ⟨(dataL m.asks).toArray⟩)
  have hb := blk_set (k := 21) (x := .string ⟨(dataL m.asks).toArray⟩) (blk_set (k := 20) (x := .int .i64 (((m.id + 1) % 256 : Nat) : Int)) (blk_set (k := 19) (x := .int .i64 1) HV.out.1.em.blk))
  have hq : (m.letter 114).1.props = (m.k0, m.k1, m.k2) := by
    show (termsI (dataL m.asks) 0, termsI (dataL m.asks) 1, termsI (dataL m.asks) 2) = _
    rw [p0, p1, p2]
  have hp := HV.out.1.num (q' := (m.k0, m.k1, m.k2)) (m' := (m.letter 114).1) (by
    refine hb.trans ?_
    show some (Obj.cells _ _ _) = some (Obj.cells _ _ _)
    simp [RE.pcl, RE.letter, RE.act, RE.request, RE.mag]
    exact ⟨by omega, by omega, rfl⟩) ((t1.trans t2).trans t3) rfl rfl rfl
  refine ⟨rfl, v', ?_, HV.out.2.trans hp.2⟩
  show PX _ B Bs pb v' (m.letter 114).1.props _ _
  rw [hq]
  exact hp.1
end Go.Proofs.YtoeihlgidakjbaaGreatDoor
namespace Go.Proofs.YtoeihlgidakjbaaGreatDoor
open Go.RowKit Go.Lib
set_option maxRecDepth 100000 in
set_option maxHeartbeats 2000000 in
theorem clone_any (v : Value) (l : List Int) (w : World) (hi : IntsAt w v l) (h0 : 0 < l.length) (h8 : l.length ≤ 17000000000000) :
    Calls Tryz.prog 64 #[v] w fun r w' => ∃ g cap, r = .returned (.slice (some ⟨g, 0, none⟩) l.length cap) ∧ w'.ownsRow w.heap.size 3 1 (.slice (some ⟨g, 0, none⟩) l.length cap) l.length (l.map zv) ∧ Below w.heap.size w w' := by
  obtain ⟨j0, hj, hy0, hy1, hy2⟩ := info_parts Tryz.infoI
  obtain ⟨a, cap, g, off, rfl, ha, hc⟩ := hi
  obtain ⟨rfl, hg⟩ := ha h0
  have q : ∀ (w : World) (a : Option Addr) (n c n' c' : Nat), (binOp .eql 28 (.slice a n c) (.slice none n' c')).run Tryz.prog w = .ok (.bool a.isNone) w := fun w a n c n' c' => Lib.run_eql_slice_nil w _ _ a n c n' c' Tryz.underlying28
  have HN : Hid (∀ j u, (l.map zv)[j]? = some u → (w.alloc (.cells #[] 3)).cell? ((⟨g, off, none⟩ : Addr).add j) = some u) := by
    intro j u hu
    rw [List.getElem?_map] at hu
    obtain ⟨x, hx, rfl⟩ := Option.map_eq_some_iff.1 hu
    obtain ⟨hjl, rfl⟩ := List.getElem?_eq_some_iff.1 hx
    have hadd : (⟨g, off, none⟩ : Addr).add j = ⟨g, off + j, none⟩ := by unfold Addr.add; split <;> simp_all
    rw [hadd]; exact (World.cell?_alloc_lt w _ ⟨g, off + j, none⟩ hg).trans (hc j hjl)
  clear ha hc
  go_enter Tryz.func64, Tryz.ntmps64
  go_wp2_with (at_builtin; go_must (refine wpList_append_lies _ rfl (.tmp 5) (.tmp 6) 28 rfl w.heap.size 3 j0 (.int .i64 0) 1 8 Tryz.underlying28 hj hy0 hy1 hy2 rfl (by decide) _ 0 [] rfl (World.ownsRow_made w #[] 0 (Nat.le_refl _) (Nat.zero_le _) rfl) ⟨g, off, none⟩ l.length cap (l.map zv) rfl (by simp) HN.out (by intro u hu; obtain ⟨x, _, rfl⟩ := List.mem_map.1 hu; rfl) h0 (by unfold maxLen; omega) (by omega) (by simp) _ rfl ?_; intro gv capv w1 hown1 hgrow1 hat1 hlt1))
  go_ret
  have e0 : 0 + l.length = l.length := by omega
  rw [e0] at hown1
  refine ⟨gv, capv, rfl, by simpa using hown1, ?_⟩
  exact (tch_grown hgrow1).below (Nat.le_refl _) (fun k hk => Nat.le_of_eq (Option.some.inj hk))
set_option maxRecDepth 100000 in
set_option maxHeartbeats 2000000 in
theorem clone_nil (w : World) : Calls Tryz.prog 64 #[.slice none 0 0] w fun r w' => r = .returned (.slice none 0 0) ∧ w' = w := by
  have q : ∀ (w : World) (a : Option Addr) (n c n' c' : Nat), (binOp .eql 28 (.slice a n c) (.slice none n' c')).run Tryz.prog w = .ok (.bool a.isNone) w := fun w a n c n' c' => Lib.run_eql_slice_nil w _ _ a n c n' c' Tryz.underlying28
  go_enter Tryz.func64, Tryz.ntmps64
  go_wp2
  go_ret
  exact ⟨rfl, rfl⟩
set_option maxRecDepth 100000 in
set_option maxHeartbeats 2000000 in
theorem index_any (v : Value) (l : List Int) (x : Int) (w : World) (hi : IntsAt w v l) (h8 : l.length ≤ 17000000000000) :
    Calls Tryz.prog 157 #[v, .int .i64 x] w fun r w' => ∃ n : Int, r = .returned (.int .i64 n) ∧ w = w' ∧ ((0 ≤ n ∧ x ∈ l) ∨ (n = -1 ∧ x ∉ l)) := by
  obtain ⟨a, cap, g, off, rfl, ha, hc⟩ := hi
  have HA : Hid (0 < l.length → a = some ⟨g, off, none⟩ ∧ g < w.heap.size) := ha
  have HC : Hid (∀ k (h : k < l.length), w.cell? ⟨g, off + k, none⟩ = some (.int .i64 l[k])) := hc
  clear ha hc
  go_enter Tryz.func157, Tryz.ntmps157
  go_wp2
  go_loop [8] (fun i => ∃ k : Nat, k ≤ l.length ∧ i = .int .i64 k ∧ Hid (x ∉ l.take k)) (fun i => l.length - (intOf i).toNat)
  case atStart => exact ⟨0, Nat.zero_le _, rfl, by show _ ∉ _; simp⟩
  case round =>
    obtain ⟨k, hk, rfl, HX⟩ := hrel
    by_cases hlt : k < l.length
    · obtain ⟨rfl, _⟩ := HA.out (by omega)
      have hI : (k : Int) < (l.length : Int) := by omega
      have ck := HC.out k hlt
      have HE : Hid (l[k]? = some l[k]) := List.getElem?_eq_getElem hlt
      generalize l[k] = y at *
      by_cases e : x = y
      · have he : (x == y) = true := by simp [e]
        go_wp2
        go_ret
        exact ⟨_, rfl, rfl, .inl ⟨by omega, by subst e; exact List.mem_of_getElem? HE.out⟩⟩
      · have he : (x == y) = false := by simp [e]
        have HN : Hid (x ∉ l.take (k + 1)) := by
          show _ ∉ _
          rw [List.take_add_one, HE.out]
          simp only [Option.toList, List.mem_append, List.mem_singleton, not_or]
          exact ⟨HX.out, e⟩
        go_wp2
        go_round
        case rel => exact ⟨k + 1, by omega, by go_num, HN⟩
        case measure => simp [intOf]; omega
    · have HN : Hid (x ∉ l) := by
        have := HX.out
        rw [List.take_of_length_le (by omega)] at this
        exact this
      go_wp2
      go_ret
      exact ⟨_, rfl, rfl, .inr ⟨rfl, HN.out⟩⟩
set_option maxRecDepth 100000 in
set_option maxHeartbeats 2000000 in
theorem contains_any (v : Value) (l : List Int) (x : Int) (w : World) (hi : IntsAt w v l) (h8 : l.length ≤ 17000000000000) :
    Calls Tryz.prog 125 #[v, .int .i64 x] w fun r w' => r = .returned (.bool (decide (x ∈ l))) ∧ w = w' := by
  have HI : Hid (IntsAt w v l) := hi
  clear hi
  go_enter Tryz.func125, Tryz.ntmps125
  go_wp2_with fail
  refine (index_any v l x w HI.out h8).mono ?_
  rintro e w1 ⟨n, rfl, rfl, hn⟩
  rcases hn with ⟨h0, hm⟩ | ⟨rfl, hm⟩
  · go_wp2
    go_ret
    exact ⟨by simp [hm], rfl⟩
  · go_wp2
    go_ret
    exact ⟨by simp [hm], rfl⟩
end Go.Proofs.YtoeihlgidakjbaaGreatDoor
namespace Go.Proofs.YtoeihlgidakjbaaGreatDoor
open Go.RowKit Go.Lib
set_option maxRecDepth 100000 in
set_option maxHeartbeats 1000000 in
theorem isOwn_any (b mb x : Nat) (l : List Nat) (w : World) (hm : MapIs w mb l) (hc : w.cell? ⟨b, 13, none⟩ = some (.map (some mb))) (hx : x < 65536) :
    Calls Tryz.prog 173 #[.pointer (some ⟨b, 0, none⟩), .int .i64 (x : Int)] w fun r w' => r = .returned (.bool (decide (x ∈ l))) ∧ Below w.heap.size w w' := by
  have hl := hm.look x (by omega)
  generalize decide (x ∈ l) = D at *
  clear hm
  go_enter Tryz.func173, Tryz.ntmps173
  go_wp2_with fail
  go_ret
  exact ⟨rfl, (Below.refl _ _).alloc (Nat.le_refl _) _⟩
theorem PX.acc {w : World} {B Bs pb : Nat} {v : PV} {q : Nat × Nat × Nat} {m : RE} {S : List UInt8} (h : PX w B Bs pb v q m S) : w.ownsRow B 3 1 v.va0 m.a0.length (m.a0.map iv) ∧ w.ownsRow B 3 1 v.va1 m.a1.length (m.a1.map iv) ∧ w.ownsRow B 3 1 v.va2 m.a2.length (m.a2.map iv) := by
  have h0 := h.em.own ⟨3, v.va0, m.a0.map iv⟩ (by simp [RE.prow])
  have h1 := h.em.own ⟨3, v.va1, m.a1.map iv⟩ (by simp [RE.prow])
  have h2 := h.em.own ⟨3, v.va2, m.a2.map iv⟩ (by simp [RE.prow])
  simp only [List.length_map] at h0 h1 h2
  exact ⟨h0, h1, h2⟩
theorem PX.wsh {w : World} {B Bs pb : Nat} {v : PV} {q : Nat × Nat × Nat} {m : RE} {S : List UInt8} (h : PX w B Bs pb v q m S) : w.ownsRow B 3 1 v.vw0 m.w0.length (m.w0.map iv) ∧ w.ownsRow B 3 1 v.vw1 m.w1.length (m.w1.map iv) ∧ w.ownsRow B 3 1 v.vw2 m.w2.length (m.w2.map iv) := by
  have h0 := h.em.own ⟨3, v.vw0, m.w0.map iv⟩ (by simp [RE.prow])
  have h1 := h.em.own ⟨3, v.vw1, m.w1.map iv⟩ (by simp [RE.prow])
  have h2 := h.em.own ⟨3, v.vw2, m.w2.map iv⟩ (by simp [RE.prow])
  simp only [List.length_map] at h0 h1 h2
  exact ⟨h0, h1, h2⟩
theorem contains_nat {B : Nat} (v : Value) (l : List Nat) (x : Nat) (w : World) (h : w.ownsRow B 3 1 v l.length (l.map iv)) (h8 : l.length ≤ 8) :
    Calls Tryz.prog 125 #[v, .int .i64 (x : Int)] w fun r w' => r = .returned (.bool (decide (x ∈ l))) ∧ w = w' := by
  have := contains_any v (l.map fun (n : Nat) => (n : Int)) (x : Int) w (ints_own h) (by simp; omega)
  have e : decide ((x : Int) ∈ l.map fun (n : Nat) => (n : Int)) = decide (x ∈ l) := by simp only [mem_ints]
  rw [e] at this
  exact this
set_option maxRecDepth 100000 in
set_option maxHeartbeats 2000000 in
theorem isGood_1 {B Bs pb : Nat} {v : PV} {q : Nat × Nat × Nat} {m : RE} {S : List UInt8} (Y : Nat) (w : World) (h : PX w B Bs pb v q m S) (ok : m.Ok) :
    Calls Tryz.prog 158 #[.pointer (some ⟨pb, 0, none⟩), .agg #[.int .i64 1, .int .i64 (Y : Int)]] w fun r w' => r = .returned (.bool (decide (Y ∈ m.a0))) ∧ Below w.heap.size w w' := by
  have haa := (ok.aa 1).2.1
  replace haa : m.a0.length ≤ 8 := haa
  have BA : Hid (Below w.heap.size w (w.alloc (.cells #[.int .i64 1, .int .i64 (Y : Int)] 189))) := (Below.refl _ _).alloc (Nat.le_refl _) _
  have hA := h.below BA.out
  have HA : Hid (PX (w.alloc (.cells #[.int .i64 1, .int .i64 (Y : Int)] 189)) B Bs pb v q m S) := hA
  have cA : (w.alloc (.cells #[.int .i64 1, .int .i64 (Y : Int)] 189)).cell? ⟨pb, 3, none⟩ = some v.va0 := blk_cell hA.em.blk
  have ba : (w.alloc (.cells #[.int .i64 1, .int .i64 (Y : Int)] 189)).heap[w.heap.size]? = some (.cells #[.int .i64 1, .int .i64 (Y : Int)] 189 (0, 0)) := heap_alloc_new w _
  have x0 : (w.alloc (.cells #[.int .i64 1, .int .i64 (Y : Int)] 189)).cell? ⟨w.heap.size, 0, none⟩ = some (.int .i64 1) := blk_cell ba
  have x1 : (w.alloc (.cells #[.int .i64 1, .int .i64 (Y : Int)] 189)).cell? ⟨w.heap.size, 1, none⟩ = some (.int .i64 (Y : Int)) := blk_cell ba
  have hwi : IntKind.i64.wrap 0 = 0 := by decide
  clear h ok hA ba
  go_enter Tryz.func158, Tryz.ntmps158
  go_upto_region 1 with fail
  generalize w.alloc (.cells #[.int .i64 1, .int .i64 (Y : Int)] 189) = WA at *
  go_wp2_with fail
  have HCT : Hid (∀ j, Calls Tryz.prog 125 #[v.va0, .int .i64 (Y : Int)] (WA.drewN j) fun r w' => r = .returned (.bool (decide (Y ∈ m.a0))) ∧ w' = WA.drewN j) := fun j => (contains_nat v.va0 m.a0 Y (WA.drewN j) (by exact HA.out.acc.1) haa).mono (by rintro e w' ⟨rfl, rfl⟩; exact ⟨rfl, rfl⟩)
  go_quiet ((go_at_call 125; exact Calls.quiet_of_same (HCT.out _)))
  go_wp2_with fail
  go_ret
  exact ⟨rfl, below_drewN BA.out _⟩
set_option maxRecDepth 100000 in
set_option maxHeartbeats 2000000 in
theorem isGood_2 {B Bs pb : Nat} {v : PV} {q : Nat × Nat × Nat} {m : RE} {S : List UInt8} (Y : Nat) (w : World) (h : PX w B Bs pb v q m S) (ok : m.Ok) :
    Calls Tryz.prog 158 #[.pointer (some ⟨pb, 0, none⟩), .agg #[.int .i64 2, .int .i64 (Y : Int)]] w fun r w' => r = .returned (.bool (decide (Y ∈ m.a1))) ∧ Below w.heap.size w w' := by
  have haa := (ok.aa 2).2.1
  replace haa : m.a1.length ≤ 8 := haa
  have BA : Hid (Below w.heap.size w (w.alloc (.cells #[.int .i64 2, .int .i64 (Y : Int)] 189))) := (Below.refl _ _).alloc (Nat.le_refl _) _
  have hA := h.below BA.out
  have HA : Hid (PX (w.alloc (.cells #[.int .i64 2, .int .i64 (Y : Int)] 189)) B Bs pb v q m S) := hA
  have cA : (w.alloc (.cells #[.int .i64 2, .int .i64 (Y : Int)] 189)).cell? ⟨pb, 4, none⟩ = some v.va1 := blk_cell hA.em.blk
  have ba : (w.alloc (.cells #[.int .i64 2, .int .i64 (Y : Int)] 189)).heap[w.heap.size]? = some (.cells #[.int .i64 2, .int .i64 (Y : Int)] 189 (0, 0)) := heap_alloc_new w _
  have x0 : (w.alloc (.cells #[.int .i64 2, .int .i64 (Y : Int)] 189)).cell? ⟨w.heap.size, 0, none⟩ = some (.int .i64 2) := blk_cell ba
  have x1 : (w.alloc (.cells #[.int .i64 2, .int .i64 (Y : Int)] 189)).cell? ⟨w.heap.size, 1, none⟩ = some (.int .i64 (Y : Int)) := blk_cell ba
  have hwi : IntKind.i64.wrap 1 = 1 := by decide
  clear h ok hA ba
  go_enter Tryz.func158, Tryz.ntmps158
  go_upto_region 1 with fail
  generalize w.alloc (.cells #[.int .i64 2, .int .i64 (Y : Int)] 189) = WA at *
  go_wp2_with fail
  have HCT : Hid (∀ j, Calls Tryz.prog 125 #[v.va1, .int .i64 (Y : Int)] (WA.drewN j) fun r w' => r = .returned (.bool (decide (Y ∈ m.a1))) ∧ w' = WA.drewN j) := fun j => (contains_nat v.va1 m.a1 Y (WA.drewN j) (by exact HA.out.acc.2.1) haa).mono (by rintro e w' ⟨rfl, rfl⟩; exact ⟨rfl, rfl⟩)
  go_quiet ((go_at_call 125; exact Calls.quiet_of_same (HCT.out _)))
  go_wp2_with fail
  go_ret
  exact ⟨rfl, below_drewN BA.out _⟩
set_option maxRecDepth 100000 in
set_option maxHeartbeats 2000000 in
theorem isGood_3 {B Bs pb : Nat} {v : PV} {q : Nat × Nat × Nat} {m : RE} {S : List UInt8} (Y : Nat) (w : World) (h : PX w B Bs pb v q m S) (ok : m.Ok) :
    Calls Tryz.prog 158 #[.pointer (some ⟨pb, 0, none⟩), .agg #[.int .i64 3, .int .i64 (Y : Int)]] w fun r w' => r = .returned (.bool (decide (Y ∈ m.a2))) ∧ Below w.heap.size w w' := by
  have haa := (ok.aa 3).2.1
  replace haa : m.a2.length ≤ 8 := haa
  have BA : Hid (Below w.heap.size w (w.alloc (.cells #[.int .i64 3, .int .i64 (Y : Int)] 189))) := (Below.refl _ _).alloc (Nat.le_refl _) _
  have hA := h.below BA.out
  have HA : Hid (PX (w.alloc (.cells #[.int .i64 3, .int .i64 (Y : Int)] 189)) B Bs pb v q m S) := hA
  have cA : (w.alloc (.cells #[.int .i64 3, .int .i64 (Y : Int)] 189)).cell? ⟨pb, 5, none⟩ = some v.va2 := blk_cell hA.em.blk
  have ba : (w.alloc (.cells #[.int .i64 3, .int .i64 (Y : Int)] 189)).heap[w.heap.size]? = some (.cells #[.int .i64 3, .int .i64 (Y : Int)] 189 (0, 0)) := heap_alloc_new w _
  have x0 : (w.alloc (.cells #[.int .i64 3, .int .i64 (Y : Int)] 189)).cell? ⟨w.heap.size, 0, none⟩ = some (.int .i64 3) := blk_cell ba
  have x1 : (w.alloc (.cells #[.int .i64 3, .int .i64 (Y : Int)] 189)).cell? ⟨w.heap.size, 1, none⟩ = some (.int .i64 (Y : Int)) := blk_cell ba
  have hwi : IntKind.i64.wrap 2 = 2 := by decide
  clear h ok hA ba
  go_enter Tryz.func158, Tryz.ntmps158
  go_upto_region 1 with fail
  generalize w.alloc (.cells #[.int .i64 3, .int .i64 (Y : Int)] 189) = WA at *
  go_wp2_with fail
  have HCT : Hid (∀ j, Calls Tryz.prog 125 #[v.va2, .int .i64 (Y : Int)] (WA.drewN j) fun r w' => r = .returned (.bool (decide (Y ∈ m.a2))) ∧ w' = WA.drewN j) := fun j => (contains_nat v.va2 m.a2 Y (WA.drewN j) (by exact HA.out.acc.2.2) haa).mono (by rintro e w' ⟨rfl, rfl⟩; exact ⟨rfl, rfl⟩)
  go_quiet ((go_at_call 125; exact Calls.quiet_of_same (HCT.out _)))
  go_wp2_with fail
  go_ret
  exact ⟨rfl, below_drewN BA.out _⟩
set_option maxRecDepth 100000 in
set_option maxHeartbeats 2000000 in
theorem isGood_any {B Bs pb : Nat} {v : PV} {q : Nat × Nat × Nat} {m : RE} {S : List UInt8} (X Y : Nat) (w : World) (h : PX w B Bs pb v q m S) (ok : m.Ok) (h1 : 1 ≤ X) (h4 : X ≤ 4) (hY : Y < 65536) :
    Calls Tryz.prog 158 #[.pointer (some ⟨pb, 0, none⟩), .agg #[.int .i64 (X : Int), .int .i64 (Y : Int)]] w fun r w' => r = .returned (.bool (!m.isBad (X, Y))) ∧ Below w.heap.size w w' := by
  rcases (by omega : X = 1 ∨ X = 2 ∨ X = 3 ∨ X = 4) with rfl | rfl | rfl | rfl
  · have e : (!m.isBad (1, Y)) = decide (Y ∈ m.a0) := by simp [RE.isBad, RE.acc]
    rw [e]; exact isGood_1 Y w h ok
  · have e : (!m.isBad (2, Y)) = decide (Y ∈ m.a1) := by simp [RE.isBad, RE.acc]
    rw [e]; exact isGood_2 Y w h ok
  · have e : (!m.isBad (3, Y)) = decide (Y ∈ m.a2) := by simp [RE.isBad, RE.acc]
    rw [e]; exact isGood_3 Y w h ok
  · have e : (!m.isBad (4, Y)) = !decide (Y ∈ m.mg) := by simp [RE.isBad]
    rw [e]
    have BA : Hid (Below w.heap.size w (w.alloc (.cells #[.int .i64 4, .int .i64 (Y : Int)] 189))) := (Below.refl _ _).alloc (Nat.le_refl _) _
    have hA := h.below BA.out
    have HO : Hid (_) := isOwn_any pb v.mb Y m.mg _ hA.mp (blk_cell hA.em.blk) hY
    clear h ok hA e
    go_enter Tryz.func158, Tryz.ntmps158
    go_wp2_with fail
    refine Calls.mono HO.out ?_
    rintro e wz ⟨rfl, hb⟩
    have HB : Hid (Below w.heap.size w wz) := BA.out.trans (hb.mono BA.out.size)
    clear hb HO
    cases hD : decide (Y ∈ m.mg)
    · have HD : Hid (decide (Y ∈ m.mg) = false) := hD
      clear hD
      go_wp2_with fail
      go_ret
      refine ⟨?_, HB.out⟩
      rw [HD.out]; rfl
    · have HD : Hid (decide (Y ∈ m.mg) = true) := hD
      clear hD
      go_wp2_with fail
      go_ret
      refine ⟨?_, HB.out⟩
      rw [HD.out]; rfl
theorem RE.bad_take (m : RE) (l : List (Nat × Nat)) (k : Nat) (h : k < l.length) : m.bad (l.take (k + 1)) = m.bad (l.take k) ++ (if m.isBad l[k] then [l[k]] else []) := by
  rw [List.take_add_one, List.getElem?_eq_getElem h]
  exact RE.bad_snoc m _ _
set_option maxRecDepth 100000 in
set_option maxHeartbeats 4000000 in
theorem notGood_any {B Bs pb H : Nat} {v : PV} {q : Nat × Nat × Nat} {m : RE} {S : List UInt8} (vi : Value) (l : List (Nat × Nat)) (w : World) (h : PX w B Bs pb v q m S) (ok : m.Ok) (hl : ItemsOk l) (oi : w.ownsRow H 189 2 vi l.length (itemC l)) :
    Calls Tryz.prog 128 #[.pointer (some ⟨pb, 0, none⟩), vi] w fun r w' => ∃ vb, r = .returned vb ∧ w'.ownsRow w.heap.size 189 2 vb (m.bad l).length (itemC (m.bad l)) ∧ Below w.heap.size w w' := by
  obtain ⟨i0, hi, hz0, hz1, hz2⟩ := info_parts Tryz.infoTI
  obtain ⟨ad, cap0, g, rfl, ha, hc⟩ := own_shape2 oi
  have HA : Hid (0 < l.length → ad = some ⟨g, 0, none⟩ ∧ H ≤ g ∧ g < w.heap.size) := ha
  have HC : Hid (∀ j u, (itemC l)[j]? = some u → w.cell? ⟨g, j, none⟩ = some u) := hc
  have HP : Hid (PX w B Bs pb v q m S) := h
  have OK : Hid (m.Ok) := ok
  have HL : Hid (ItemsOk l) := hl
  have hll := hl.1
  clear ha hc oi h ok hl
  go_enter Tryz.func128, Tryz.ntmps128
  go_wp2_with fail
  go_loopw [5, 10] (fun vn i wr => ∃ (k n : Nat) (a : Option Addr) (cap : Nat), k ≤ l.length ∧ n ≤ k ∧ vn = .slice a n cap ∧ i = .int .i64 k ∧ Hid (n = (m.bad (l.take k)).length ∧ wr.ownsRow w.heap.size 189 2 (.slice a n cap) n (itemC (m.bad (l.take k))) ∧ Below w.heap.size w wr)) (fun _ i _ => l.length - (intOf i).toNat)
  case atStart => exact ⟨0, 0, none, 0, by omega, by omega, rfl, rfl, rfl, World.ownsRow_nil _ _ _ _, Below.refl _ _⟩
  case round =>
    obtain ⟨k, n, a, cap, hk, hnk, rfl, rfl, HW⟩ := hrel
    by_cases hlk : k < l.length
    · have hI : (k : Int) < (l.length : Int) := by omega
      obtain ⟨rfl, hg1, hg2⟩ := HA.out (by omega)
      obtain ⟨X, hX⟩ : ∃ X, X = (l[k]).1 := ⟨_, rfl⟩
      obtain ⟨Y, hY⟩ : ∃ Y, Y = (l[k]).2 := ⟨_, rfl⟩
      have hxy : l[k] = (X, Y) := by rw [hX, hY]
      have hrng := HL.out.2 _ (List.getElem_mem hlk)
      rw [hxy] at hrng
      have HT : Hid (m.bad (l.take (k + 1)) = m.bad (l.take k) ++ (if m.isBad (X, Y) then [(X, Y)] else [])) := by
        show _ = _
        rw [RE.bad_take m l k hlk, hxy]
      have q0 : wr.cell? ⟨g, k * 2, none⟩ = some (.int .i64 (X : Int)) := (HW.out.2.2.cell (p := ⟨g, k * 2, none⟩) hg2).trans (HC.out _ _ (by rw [(itemC_get l k hlk).1, hX]))
      have q1 : wr.cell? ⟨g, k * 2 + 1, none⟩ = some (.int .i64 (Y : Int)) := (HW.out.2.2.cell (p := ⟨g, k * 2 + 1, none⟩) hg2).trans (HC.out _ _ (by rw [(itemC_get l k hlk).2, hY]))
      have BA : Hid (Below wr.heap.size wr (wr.alloc (.cells #[.int .i64 (X : Int), .int .i64 (Y : Int)] 189))) := (Below.refl _ _).alloc (Nat.le_refl _) _
      have RA : Hid ((wr.alloc (.cells #[.int .i64 (X : Int), .int .i64 (Y : Int)] 189)).heap[wr.heap.size]? = some (.cells #[.int .i64 (X : Int), .int .i64 (Y : Int)] 189 (0, 0))) := heap_alloc_new wr _
      have zA : (wr.alloc (.cells #[.int .i64 (X : Int), .int .i64 (Y : Int)] 189)).heap.size = wr.heap.size + 1 := by simp
      have hzr := HW.out.2.2.size
      have HG : Hid (_) := isGood_any X Y _ ((HP.out.below HW.out.2.2).below BA.out) OK.out hrng.1 hrng.2.1 hrng.2.2
      clear hX hY hxy
      go_wp2_with fail
      refine Calls.mono HG.out ?_
      rintro e w1 ⟨rfl, hb1⟩
      have hz1' := hb1.size
      have ra := (hb1.block _ (by omega)).trans RA.out
      have x0 : w1.cell? ⟨wr.heap.size, 0, none⟩ = some (.int .i64 (X : Int)) := blk_cell ra
      have x1 : w1.cell? ⟨wr.heap.size, 1, none⟩ = some (.int .i64 (Y : Int)) := blk_cell ra
      have HB1 : Hid (Below w.heap.size w w1) := HW.out.2.2.trans ((BA.out.mono hzr).trans (hb1.mono (by omega)))
      have O1 : Hid (w1.ownsRow w.heap.size 189 2 (.slice a n cap) n (itemC (m.bad (l.take k)))) := owns_below (owns_below HW.out.2.1 BA.out) hb1
      have HN : Hid (n = (m.bad (l.take k)).length) := HW.out.1
      clear hb1 HG HW ra q0 q1
      cases hbad : m.isBad (X, Y)
      · have HT2 : Hid (m.bad (l.take (k + 1)) = m.bad (l.take k)) := by show _ = _; rw [HT.out, hbad]; simp
        clear HT
        go_wp2_with fail
        refine ⟨⟨k + 1, n, a, cap, by omega, by omega, rfl, by go_num, ?_, ?_, HB1.out⟩, by simp [intOf]; omega⟩
        · rw [HT2.out]; exact HN.out
        · rw [HT2.out]; exact O1.out
      · have HT2 : Hid (m.bad (l.take (k + 1)) = m.bad (l.take k) ++ [(X, Y)]) := by show _ = _; rw [HT.out, hbad]; simp
        clear HT
        have hzz := HB1.out.size
        go_wp2_with (at_builtin; go_must (refine wpList_append_lies _ rfl (.tmp 18) (.tmp 20) 163 rfl w.heap.size 189 i0 (.agg #[.int .i64 0, .int .i64 0]) 2 16 Tryz.underlying163 hi hz0 hz1 hz2 rfl (by decide) _ n (itemC (m.bad (l.take k))) rfl (O1.out.alloc _) ⟨w1.heap.size, 0, none⟩ 1 1 [.int .i64 (X : Int), .int .i64 (Y : Int)] rfl rfl (news2 _ _ _ _) (by intro u hu; simp at hu; rcases hu with rfl | rfl <;> rfl) (by omega) (by unfold maxLen; omega) (by omega) (by simp; omega) _ rfl ?_; intro gv capv w2 hown1 hgrow1 hat1 hlt1))
        refine ⟨⟨k + 1, n + 1, _, _, by omega, by omega, rfl, by go_num, ?_, ?_, ?_⟩, by simp [intOf]; omega⟩
        · rw [HT2.out, List.length_append, ← HN.out]; rfl
        · rw [HT2.out]
          have e : itemC (m.bad (l.take k) ++ [(X, Y)]) = itemC (m.bad (l.take k)) ++ [.int .i64 (X : Int), .int .i64 (Y : Int)] := by simp [itemC]
          rw [e]; exact hown1
        · exact below_own HB1.out HB1.out.size O1.out _ hgrow1
    · have ht : l.take k = l := List.take_of_length_le (by omega)
      have hI : ¬ (k : Int) < (l.length : Int) := by omega
      have HF : Hid (wr.ownsRow w.heap.size 189 2 (.slice a n cap) (m.bad l).length (itemC (m.bad l)) ∧ Below w.heap.size w wr) := by
        have := HW.out
        rw [ht] at this
        rw [← this.1]
        exact this.2
      clear HW ht
      go_wp2_with fail
      go_ret
      exact ⟨_, rfl, HF.out⟩
end Go.Proofs.YtoeihlgidakjbaaGreatDoor
namespace Go.Proofs.YtoeihlgidakjbaaGreatDoor
open Go.RowKit Go.Lib
set_option maxRecDepth 100000 in
set_option maxHeartbeats 1000000 in
theorem takeMagic_any (b mb x : Nat) (old : Value) (l : List Nat) (w : World) (hm : MapIs w mb l) (hne : mb ≠ b) (c12 : w.cell? ⟨b, 12, none⟩ = some old) (f12 : w.frozen? ⟨b, 12, none⟩ = false) (c13 : w.cell? ⟨b, 13, none⟩ = some (.map (some mb))) (hx : x < 65536) (hl : l.length ≤ 17000000000000) :
    Calls Tryz.prog 99 #[.pointer (some ⟨b, 0, none⟩), .int .i64 (x : Int)] w fun r w' => r = .returned (.tuple #[]) ∧ MapIs w' mb (l ++ [x]) ∧ (w.setCell ⟨b, 12, none⟩ (.int .i64 (x : Int))).grownBy w' (some mb) := by
  have hm1 : MapIs (w.setCell ⟨b, 12, none⟩ (.int .i64 (x : Int))) mb l := hm.blk ((tset w b 12 _).block mb hm.lt hne)
  obtain ⟨wz, hrun, hmz, hgz⟩ := hm1.put x (by omega) (by omega)
  have HZ : Hid (MapIs wz mb (l ++ [x]) ∧ (w.setCell ⟨b, 12, none⟩ (.int .i64 (x : Int))).grownBy wz (some mb)) := ⟨hmz, hgz⟩
  clear hm hm1 hmz hgz
  go_enter Tryz.func99, Tryz.ntmps99
  go_wp2_with fail
  go_end0
  exact ⟨rfl, HZ.out⟩
theorem mag_snoc (m : RE) (x : Nat) : ({ m with mg := m.mg ++ [x] } : RE).mag = x := by simp [RE.mag]
theorem PX.magic {w w' : World} {B Bs pb : Nat} {v : PV} {q : Nat × Nat × Nat} {m : RE} {S : List UInt8} (x : Nat) (h : PX w B Bs pb v q m S) (hm : MapIs w' v.mb (m.mg ++ [x])) (hg : (w.setCell ⟨pb, 12, none⟩ (.int .i64 (x : Int))).grownBy w' (some v.mb)) :
    PX w' B Bs pb v q { m with mg := m.mg ++ [x] } S ∧ ES w w' pb v.vals v.vals := by
  have hne : v.mb ≠ pb := fun e => h.mn (.inl e)
  have t1 := tset w pb 12 (.int .i64 (x : Int))
  have t2 : Tch (fun b => b = v.mb) (w.setCell ⟨pb, 12, none⟩ (.int .i64 (x : Int))) w' := ⟨hg.os, hg.tape, hg.output, hg.size, fun b hb hs => hg.block b hb (fun e => hs (Option.some.inj e))⟩
  have p1 := h.em.num (cs' := ({ m with mg := m.mg ++ [x] } : RE).pcl v q) ((blk_set (k := 12) (x := .int .i64 (x : Int)) h.em.blk).trans (by
    have e := mag_snoc m x
    simp only [RE.pcl, e]
    rfl)) t1
  refine ⟨⟨(p1.1.of_tch t2 (fun b hb e => ?_)), hm, h.mg, h.mn, h.t0, h.s1⟩, ⟨(t1.mono (fun b e => .inl e)).trans (t2.mono (fun b e => inV.2 (.inr e))), fun b hb => .inl hb⟩⟩
  subst e
  exact h.mn hb
theorem RE.takeAll_take (m : RE) (l : List (Nat × Nat)) (k : Nat) (h : k < l.length) : m.takeAll (l.take (k + 1)) = (m.takeAll (l.take k)).take1 l[k] := by
  rw [List.take_add_one, List.getElem?_eq_getElem h]
  exact RE.takeAll_snoc m _ _
end Go.Proofs.YtoeihlgidakjbaaGreatDoor
namespace Go.Proofs.YtoeihlgidakjbaaGreatDoor
open Go.RowKit Go.Lib
set_option maxRecDepth 100000 in
set_option maxHeartbeats 2000000 in
theorem tlist_any (v : Value) (l : List Int) (w : World) (hi : IntsAt w v l) (hr : ∃ a n c, v = .slice a n c ∧ n ≤ c) :
    Calls Tryz.prog 98 #[v] w fun r w' => r = .returned (.bool (isL l)) ∧ w = w' := by
  obtain ⟨a, cap, g, off, rfl, ha, hc⟩ := hi
  obtain ⟨_, _, _, er, hcap⟩ := hr
  cases er
  by_cases h0 : l.length = 0
  · have e : isL l = false := by unfold isL; rw [decide_eq_false]; intro h; have := h.1; omega
    rw [e, h0]
    clear ha hc
    go_enter Tryz.func98, Tryz.ntmps98
    go_wp2_with fail
    go_ret
    exact ⟨rfl, rfl⟩
  · by_cases h8 : 8 < l.length
    · have e : isL l = false := by unfold isL; rw [decide_eq_false]; intro h; have := h.2.1; omega
      rw [e]
      have h8i : (8 : Int) < (l.length : Int) := by omega
      have h1i : ¬ (l.length : Int) < 1 := by omega
      clear ha hc
      go_enter Tryz.func98, Tryz.ntmps98
      go_wp2_with fail
      go_ret
      exact ⟨rfl, rfl⟩
    · obtain ⟨rfl, hg⟩ := ha (by omega)
      have h8i : ¬ (8 : Int) < (l.length : Int) := by omega
      have h1i : ¬ (l.length : Int) < 1 := by omega
      have HC : Hid (∀ k (h : k < l.length), w.cell? ⟨g, off + k, none⟩ = some (.int .i64 l[k])) := hc
      clear ha hc
      go_enter Tryz.func98, Tryz.ntmps98
      go_wp2_with fail
      go_loop [15] (fun i => ∃ k : Nat, k ≤ l.length ∧ i = .int .i64 (k : Int) ∧ Hid ((∀ j, j < k → ∃ x, l[j]? = some x ∧ 0 ≤ x ∧ x ≤ 255) ∧ ∀ i j, i < j → j < k → l[i]? ≠ l[j]?)) (fun i => l.length - (intOf i).toNat)
      case atStart => exact ⟨0, by omega, rfl, fun j hj => by omega, fun i j _ hj => by omega⟩
      case round =>
        obtain ⟨k, hk, rfl, HW⟩ := hrel
        by_cases hlt : k < l.length
        · have hI : (k : Int) < (l.length : Int) := by omega
          have ck := HC.out k hlt
          have HX : Hid (l[k]? = some l[k]) := List.getElem?_eq_getElem hlt
          generalize l[k] = x at *
          by_cases hx0 : x < 0
          · have E : Hid (isL l = false) := by
              show _ = _
              unfold isL; rw [decide_eq_false]; intro h
              have := (h.2.2.1 x (List.mem_of_getElem? HX.out)).1; omega
            go_wp2_with fail
            go_ret
            exact ⟨by rw [E.out]; rfl, rfl⟩
          · by_cases hx1 : 255 < x
            · have E : Hid (isL l = false) := by
                show _ = _
                unfold isL; rw [decide_eq_false]; intro h
                have := (h.2.2.1 x (List.mem_of_getElem? HX.out)).2; omega
              go_wp2_with fail
              go_ret
              exact ⟨by rw [E.out]; rfl, rfl⟩
            · have hkc : k ≤ cap := by omega
              have hkc' : (k : Int) ≤ (cap : Int) := by omega
              have hlen : (l.take k).length = k := by rw [List.length_take]; omega
              have HT : Hid (IntsAt w (.slice (some ⟨g, off, none⟩) k cap) (l.take k)) := by
                refine ⟨some ⟨g, off, none⟩, cap, g, off, by rw [hlen], fun _ => ⟨rfl, hg⟩, fun j hj => ?_⟩
                rw [hlen] at hj
                rw [List.getElem_take]
                exact HC.out j (by omega)
              go_wp2_with fail
              refine (contains_any _ (l.take k) x w HT.out (by rw [hlen]; omega)).mono ?_
              rintro e w1 ⟨rfl, rfl⟩
              by_cases hm : x ∈ l.take k
              · have E : Hid (isL l = false) := by
                  show _ = _
                  unfold isL; rw [decide_eq_false]; intro h
                  obtain ⟨j, hj⟩ := List.getElem?_of_mem hm
                  have hjk : j < k := by have := (List.getElem?_eq_some_iff.1 hj).1; omega
                  rw [List.getElem?_take_of_lt hjk] at hj
                  exact h.2.2.2 j k hjk hlt (hj.trans HX.out.symm)
                rw [decide_eq_true hm]
                go_wp2_with fail
                go_ret
                exact ⟨by rw [E.out]; rfl, rfl⟩
              · rw [decide_eq_false hm]
                go_wp2_with fail
                go_round
                case rel =>
                  refine ⟨k + 1, by omega, by go_num, ?_, ?_⟩
                  · intro j hj
                    rcases (by omega : j < k ∨ j = k) with h | rfl
                    · exact HW.out.1 j h
                    · exact ⟨x, HX.out, by omega, by omega⟩
                  · intro i j hij hj
                    rcases (by omega : j < k ∨ j = k) with h | rfl
                    · exact HW.out.2 i j hij h
                    · rw [HX.out]
                      intro he
                      refine hm (List.mem_of_getElem? (i := i) ?_)
                      rw [List.getElem?_take_of_lt hij]; exact he
                case measure => simp [intOf]; omega
        · have hnI : ¬ (k : Int) < (l.length : Int) := by omega
          have hkl : k = l.length := by omega
          have E : Hid (isL l = true) := by
            show _ = _
            unfold isL; rw [decide_eq_true]
            subst hkl
            refine ⟨by omega, by omega, ?_, HW.out.2⟩
            intro x hx
            obtain ⟨j, hj⟩ := List.getElem?_of_mem hx
            obtain ⟨y, h1, h2, h3⟩ := HW.out.1 j (List.getElem?_eq_some_iff.1 hj).1
            rw [hj] at h1; cases h1; exact ⟨h2, h3⟩
          clear hkl
          go_wp2_with fail
          go_ret
          exact ⟨by rw [E.out]; rfl, rfl⟩
def CfgOk (L : Nat → List Int) (mg : Int) : Prop := (∀ i, i < 6 → IsL (L i)) ∧ 1 ≤ mg ∧ mg ≤ 65535
def CfgR (L : Nat → List Int) (mg : Int) (r : Ending) : Prop := ∃ b, r = .returned (.bool b) ∧ (b = true ↔ CfgOk L mg)
set_option maxRecDepth 100000 in
set_option maxHeartbeats 2000000 in
theorem isConfig_any (X : Nat → Value) (L : Nat → List Int) (mg : Int) (w : World) (hX : ∀ i, i < 6 → IntsAt w (X i) (L i)) (hR : ∀ i, i < 6 → ∃ a n c, X i = .slice a n c ∧ n ≤ c) :
    Calls Tryz.prog 70 #[.agg #[X 0, X 1, X 2, X 3, X 4, X 5, .int .i64 mg]] w fun r w' => CfgR L mg r ∧ Below w.heap.size w w' := by
  have HX : Hid (∀ i, i < 6 → IntsAt w (X i) (L i)) := hX
  have HR : Hid (∀ i, i < 6 → ∃ a n c, X i = .slice a n c ∧ n ≤ c) := hR
  have HB : Hid (Below w.heap.size w (w.alloc (.cells #[X 0, X 1, X 2, X 3, X 4, X 5, .int .i64 mg] 31))) := (Below.refl _ _).alloc (Nat.le_refl _) _
  have HCELL : Hid (∀ i, (w.alloc (.cells #[X 0, X 1, X 2, X 3, X 4, X 5, .int .i64 mg] 31)).cell? ⟨w.heap.size, i, none⟩ = #[X 0, X 1, X 2, X 3, X 4, X 5, Value.int .i64 mg][i]?) := fun i => World.cell?_alloc_at _ _ _ i rfl
  clear hX hR
  by_cases h1 : mg < 1
  · go_enter Tryz.func70, Tryz.ntmps70
    go_wp2_with fail
    go_ret
    exact ⟨⟨false, rfl, by simp only [Bool.false_eq_true, false_iff]; intro h; have := h.2.1; omega⟩, HB.out⟩
  by_cases h2 : 65535 < mg
  · go_enter Tryz.func70, Tryz.ntmps70
    go_wp2_with fail
    go_ret
    exact ⟨⟨false, rfl, by simp only [Bool.false_eq_true, false_iff]; intro h; have := h.2.2; omega⟩, HB.out⟩
  go_enter Tryz.func70, Tryz.ntmps70
  go_wp2_with fail
  go_loop [12] (fun i => ∃ k : Nat, k ≤ 3 ∧ i = .int .i64 (k : Int) ∧ Hid (∀ j, j < k → IsL (L j) ∧ IsL (L (3 + j)))) (fun i => 3 - (intOf i).toNat)
  case atStart => exact ⟨0, by omega, rfl, fun j hj => by omega⟩
  case round =>
    obtain ⟨k, hk, rfl, HW⟩ := hrel
    by_cases hlt : k < 3
    · have hI : (k : Int) < 3 := by omega
      have x1 : (w.alloc (.cells #[X 0, X 1, X 2, X 3, X 4, X 5, .int .i64 mg] 31)).cell? ⟨w.heap.size, k, none⟩ = some (X k) := (HCELL.out k).trans (by rcases (by omega : k = 0 ∨ k = 1 ∨ k = 2) with rfl | rfl | rfl <;> rfl)
      have x2 : (w.alloc (.cells #[X 0, X 1, X 2, X 3, X 4, X 5, .int .i64 mg] 31)).cell? ⟨w.heap.size, 3 + k, none⟩ = some (X (3 + k)) := (HCELL.out (3 + k)).trans (by rcases (by omega : k = 0 ∨ k = 1 ∨ k = 2) with rfl | rfl | rfl <;> rfl)
      have T1 : Hid (_) := tlist_any (X k) (L k) _ ((HX.out k (by omega)).below HB.out) (HR.out k (by omega))
      have T2 : Hid (_) := tlist_any (X (3 + k)) (L (3 + k)) _ ((HX.out (3 + k) (by omega)).below HB.out) (HR.out (3 + k) (by omega))
      generalize (w.alloc (.cells #[X 0, X 1, X 2, X 3, X 4, X 5, .int .i64 mg] 31)) = W at *
      go_wp2_with fail
      refine Calls.mono T1.out ?_
      rintro e w1 ⟨rfl, rfl⟩
      by_cases ha : IsL (L k)
      · have ea : isL (L k) = true := decide_eq_true ha
        rw [ea]
        go_wp2_with fail
        refine Calls.mono T2.out ?_
        rintro e w1 ⟨rfl, rfl⟩
        by_cases hb : IsL (L (3 + k))
        · have eb : isL (L (3 + k)) = true := decide_eq_true hb
          rw [eb]
          go_wp2_with fail
          go_round
          case rel =>
            refine ⟨k + 1, by omega, by go_num, fun j hj => ?_⟩
            rcases (by omega : j < k ∨ j = k) with h | rfl
            · exact HW.out j h
            · exact ⟨ha, hb⟩
          case measure => simp [intOf]; omega
        · have eb : isL (L (3 + k)) = false := decide_eq_false hb
          rw [eb]
          go_wp2_with fail
          go_ret
          exact ⟨⟨false, rfl, by simp only [Bool.false_eq_true, false_iff]; intro h; exact hb (h.1 _ (by omega))⟩, HB.out⟩
      · have ea : isL (L k) = false := decide_eq_false ha
        rw [ea]
        go_wp2_with fail
        go_ret
        exact ⟨⟨false, rfl, by simp only [Bool.false_eq_true, false_iff]; intro h; exact ha (h.1 _ (by omega))⟩, HB.out⟩
    · have hnI : ¬ (k : Int) < 3 := by omega
      go_wp2_with fail
      go_ret
      refine ⟨⟨true, rfl, ⟨fun _ => ⟨fun i hi => ?_, by omega, by omega⟩, fun _ => rfl⟩⟩, HB.out⟩
      rcases (by omega : i < 3 ∨ 3 ≤ i) with x | x
      · exact (HW.out i (by omega)).1
      · have := (HW.out (i - 3) (by omega)).2
        rwa [show 3 + (i - 3) = i by omega] at this
end Go.Proofs.YtoeihlgidakjbaaGreatDoor
namespace Go.Proofs.YtoeihlgidakjbaaGreatDoor
open Go.RowKit Go.Lib
def oC (k a b c : Nat) : Array Value := #[.int .i64 ((if 0 < k then a else 0 : Nat) : Int), .int .i64 ((if 1 < k then b else 0 : Nat) : Int), .int .i64 ((if 2 < k then c else 0 : Nat) : Int)]
set_option maxRecDepth 100000 in
set_option maxHeartbeats 4000000 in
theorem options_any {H : Nat} (vi : Value) (a b c d : Nat) (w : World) (o : w.ownsRow H 189 2 vi 4 (itemC [(1, a), (2, b), (3, c), (4, d)])) :
    Calls Tryz.prog 175 #[vi] w fun r w' => r = .returned (.agg #[iv a, iv b, iv c]) ∧ Below w.heap.size w w' := by
  obtain ⟨ad, cap, g, rfl, ha, hc⟩ := own_shape2 o
  obtain ⟨rfl, hg1, hg2⟩ := ha (by omega)
  have HC : Hid (∀ j u, (itemC [(1, a), (2, b), (3, c), (4, d)])[j]? = some u → w.cell? ⟨g, j, none⟩ = some u) := hc
  clear ha hc o
  go_enter Tryz.func175, Tryz.ntmps175
  go_wp2_with fail
  go_loopw [7] (fun i wr => ∃ k : Nat, k ≤ 4 ∧ i = .int .i64 k ∧ Hid (wr.heap[w.heap.size]? = some (.cells (oC k a b c) 74 (0, 0)) ∧ Below w.heap.size w wr)) (fun i _ => 4 - (intOf i).toNat)
  case atStart => exact ⟨0, by omega, rfl, heap_alloc_new w _, (Below.refl _ _).alloc (Nat.le_refl _) _⟩
  case round =>
    obtain ⟨k, hk, rfl, HW⟩ := hrel
    have hlt := blk_lt HW.out.1
    rcases (by omega : k = 0 ∨ k = 1 ∨ k = 2 ∨ k = 3 ∨ k = 4) with rfl | rfl | rfl | rfl | rfl
    · have q0 : wr.cell? ⟨g, 0, none⟩ = some (.int .i64 1) := (HW.out.2.cell (p := ⟨g, 0, none⟩) hg2).trans (HC.out 0 _ rfl)
      have q1 : wr.cell? ⟨g, 1, none⟩ = some (.int .i64 (a : Int)) := (HW.out.2.cell (p := ⟨g, 1, none⟩) hg2).trans (HC.out 1 _ rfl)
      have BA : Hid (Below wr.heap.size wr (wr.alloc (.cells #[.int .i64 1, .int .i64 (a : Int)] 189))) := (Below.refl _ _).alloc (Nat.le_refl _) _
      have ra : Hid ((wr.alloc (.cells #[.int .i64 1, .int .i64 (a : Int)] 189)).heap[w.heap.size]? = some (.cells (oC 0 a b c) 74 (0, 0))) := (BA.out.block _ hlt).trans HW.out.1
      have x1 : (wr.alloc (.cells #[.int .i64 1, .int .i64 (a : Int)] 189)).cell? ⟨w.heap.size, 0, none⟩ = some (.int .i64 0) := (blk_cell ra.out).trans rfl
      have f1 : (wr.alloc (.cells #[.int .i64 1, .int .i64 (a : Int)] 189)).frozen? ⟨w.heap.size, 0, none⟩ = false := blk_free ra.out
      go_wp2_with fail
      exact ⟨⟨1, by omega, by go_num, (((Below.refl _ (wr.setCell ⟨w.heap.size, 0, none⟩ (.int .i64 (a : Int)))).alloc (Nat.le_refl _) _).block _ (by simpa [World.setCell] using hlt)).trans (blk_set (k := 0) (x := .int .i64 (a : Int)) HW.out.1), (HW.out.2.trans ((tset wr w.heap.size 0 _).below HW.out.2.size (fun b hb => by omega))).trans (((Below.refl _ _).alloc (Nat.le_refl _) _).mono (by simpa [World.setCell] using HW.out.2.size))⟩, by simp [intOf]⟩
    · have q0 : wr.cell? ⟨g, 2, none⟩ = some (.int .i64 2) := (HW.out.2.cell (p := ⟨g, 2, none⟩) hg2).trans (HC.out 2 _ rfl)
      have q1 : wr.cell? ⟨g, 3, none⟩ = some (.int .i64 (b : Int)) := (HW.out.2.cell (p := ⟨g, 3, none⟩) hg2).trans (HC.out 3 _ rfl)
      have BA : Hid (Below wr.heap.size wr (wr.alloc (.cells #[.int .i64 2, .int .i64 (b : Int)] 189))) := (Below.refl _ _).alloc (Nat.le_refl _) _
      have ra : Hid ((wr.alloc (.cells #[.int .i64 2, .int .i64 (b : Int)] 189)).heap[w.heap.size]? = some (.cells (oC 1 a b c) 74 (0, 0))) := (BA.out.block _ hlt).trans HW.out.1
      have x1 : (wr.alloc (.cells #[.int .i64 2, .int .i64 (b : Int)] 189)).cell? ⟨w.heap.size, 1, none⟩ = some (.int .i64 0) := (blk_cell ra.out).trans rfl
      have f1 : (wr.alloc (.cells #[.int .i64 2, .int .i64 (b : Int)] 189)).frozen? ⟨w.heap.size, 1, none⟩ = false := blk_free ra.out
      go_wp2_with fail
      exact ⟨⟨2, by omega, by go_num, (((Below.refl _ (wr.setCell ⟨w.heap.size, 1, none⟩ (.int .i64 (b : Int)))).alloc (Nat.le_refl _) _).block _ (by simpa [World.setCell] using hlt)).trans (blk_set (k := 1) (x := .int .i64 (b : Int)) HW.out.1), (HW.out.2.trans ((tset wr w.heap.size 1 _).below HW.out.2.size (fun b hb => by omega))).trans (((Below.refl _ _).alloc (Nat.le_refl _) _).mono (by simpa [World.setCell] using HW.out.2.size))⟩, by simp [intOf]⟩
    · have q0 : wr.cell? ⟨g, 4, none⟩ = some (.int .i64 3) := (HW.out.2.cell (p := ⟨g, 4, none⟩) hg2).trans (HC.out 4 _ rfl)
      have q1 : wr.cell? ⟨g, 5, none⟩ = some (.int .i64 (c : Int)) := (HW.out.2.cell (p := ⟨g, 5, none⟩) hg2).trans (HC.out 5 _ rfl)
      have BA : Hid (Below wr.heap.size wr (wr.alloc (.cells #[.int .i64 3, .int .i64 (c : Int)] 189))) := (Below.refl _ _).alloc (Nat.le_refl _) _
      have ra : Hid ((wr.alloc (.cells #[.int .i64 3, .int .i64 (c : Int)] 189)).heap[w.heap.size]? = some (.cells (oC 2 a b c) 74 (0, 0))) := (BA.out.block _ hlt).trans HW.out.1
      have x1 : (wr.alloc (.cells #[.int .i64 3, .int .i64 (c : Int)] 189)).cell? ⟨w.heap.size, 2, none⟩ = some (.int .i64 0) := (blk_cell ra.out).trans rfl
      have f1 : (wr.alloc (.cells #[.int .i64 3, .int .i64 (c : Int)] 189)).frozen? ⟨w.heap.size, 2, none⟩ = false := blk_free ra.out
      go_wp2_with fail
      exact ⟨⟨3, by omega, by go_num, (((Below.refl _ (wr.setCell ⟨w.heap.size, 2, none⟩ (.int .i64 (c : Int)))).alloc (Nat.le_refl _) _).block _ (by simpa [World.setCell] using hlt)).trans (blk_set (k := 2) (x := .int .i64 (c : Int)) HW.out.1), (HW.out.2.trans ((tset wr w.heap.size 2 _).below HW.out.2.size (fun b hb => by omega))).trans (((Below.refl _ _).alloc (Nat.le_refl _) _).mono (by simpa [World.setCell] using HW.out.2.size))⟩, by simp [intOf]⟩
    · have q0 : wr.cell? ⟨g, 6, none⟩ = some (.int .i64 4) := (HW.out.2.cell (p := ⟨g, 6, none⟩) hg2).trans (HC.out 6 _ rfl)
      have q1 : wr.cell? ⟨g, 7, none⟩ = some (.int .i64 (d : Int)) := (HW.out.2.cell (p := ⟨g, 7, none⟩) hg2).trans (HC.out 7 _ rfl)
      have BA : Hid (Below wr.heap.size wr (wr.alloc (.cells #[.int .i64 4, .int .i64 (d : Int)] 189))) := (Below.refl _ _).alloc (Nat.le_refl _) _
      have ra : Hid ((wr.alloc (.cells #[.int .i64 4, .int .i64 (d : Int)] 189)).heap[w.heap.size]? = some (.cells (oC 3 a b c) 74 (0, 0))) := (BA.out.block _ hlt).trans HW.out.1
      go_wp2_with fail
      exact ⟨⟨4, by omega, by go_num, ra.out, HW.out.2.trans (BA.out.mono HW.out.2.size)⟩, by simp [intOf]⟩
    · have d0 : wr.cell? ⟨w.heap.size, 0, none⟩ = some (.int .i64 (a : Int)) := (blk_cell HW.out.1).trans rfl
      have d1 : wr.cell? ⟨w.heap.size, 1, none⟩ = some (.int .i64 (b : Int)) := (blk_cell HW.out.1).trans rfl
      have d2 : wr.cell? ⟨w.heap.size, 2, none⟩ = some (.int .i64 (c : Int)) := (blk_cell HW.out.1).trans rfl
      have f0 : wr.frozen? ⟨w.heap.size, 0, none⟩ = false := blk_free HW.out.1
      have f1 : wr.frozen? ⟨w.heap.size, 1, none⟩ = false := blk_free HW.out.1
      have f2 : wr.frozen? ⟨w.heap.size, 2, none⟩ = false := blk_free HW.out.1
      go_wp2_with fail
      have hg := blk_set (k := 2) (x := .int .i64 (c : Int)) (blk_set (k := 1) (x := .int .i64 (b : Int)) (blk_set (k := 0) (x := .int .i64 (a : Int)) HW.out.1))
      refine ⟨rfl, _, results_cell_row (p := 2) (ty := 74) rfl _ _ w.heap.size 74 _ (0, 0) _ rfl hg Tryz.underlying74 rfl Tryz.size3, rfl, ?_⟩
      exact HW.out.2.trans ((((tset _ w.heap.size 0 _).trans (tset _ _ 1 _)).trans (tset _ _ 2 _)).below HW.out.2.size (fun b hb => by omega))
end Go.Proofs.YtoeihlgidakjbaaGreatDoor

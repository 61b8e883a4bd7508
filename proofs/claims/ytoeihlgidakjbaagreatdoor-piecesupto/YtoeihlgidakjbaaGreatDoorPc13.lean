/- The program's actions with a Request: sendAck, sendNak; what heeds a Nak. Lists of actions in memory: what a row of the table answers. -/
import Derived.Test.YtoeihlgidakjbaaGreatDoorPc11
import Derived.Test.YtoeihlgidakjbaaGreatDoorPc12
import Derived.Test.YtoeihlgidakjbaaGreatDoorPc9
namespace Go.Proofs.YtoeihlgidakjbaaGreatDoor
open Go.RowKit Go.Lib
abbrev rqA (pk : Pk) (vi vb : Value) : Array Value := #[.int .i64 (pk.1 : Int), .int .i64 (pk.2.1 : Int), .string ⟨pk.2.2.toArray⟩, vi, vb]
theorem terms_of {s : List UInt8} {a b c d : Nat} (h : itemsL s = some [(1, a), (2, b), (3, c), (4, d)]) : termsI s 0 = a ∧ termsI s 1 = b ∧ termsI s 2 = c := by
  unfold termsI
  rw [h]
  exact ⟨rfl, rfl, rfl⟩
set_option maxRecDepth 100000 in
set_option maxHeartbeats 4000000 in
theorem act_ack {B Bs pb H : Nat} {v : PV} {m : RE} {S : List UInt8} (b1 b2 : Nat) (vi vb : Value) (l : List (Nat × Nat)) (w : World) (h : PI w B Bs pb v m S) (ok : m.Ok) (hS : S.length ≤ 100000000000000) (hBs : Bs ≤ w.heap.size) (n1 : b1 ≠ pb) (n2 : b2 ≠ pb) (p1 : w.heap[b1]? = some (.cells #[.pointer (some ⟨pb, 0, none⟩)] 46 (0, 0))) (p2 : w.heap[b2]? = some (.cells (rqA m.pk vi vb) 168 (0, 0)))
    (oi : w.ownsRow H 189 2 vi l.length (itemC l)) (ni : ∀ b, vi.ownBlock = some b → b ≠ pb) (hl : itemsL m.pd = some l ∧ l.length = 4) :
    Calls Tryz.prog 174 #[.pointer (some ⟨b1, 0, none⟩), .pointer (some ⟨b2, 0, none⟩)] w fun r w' => ActR w w' B Bs pb v (m.letter 97).1 (S ++ (m.letter 97).2) r := by
  obtain ⟨a, b, c, d, rfl⟩ := four_items hl.1 hl.2
  obtain ⟨y0, y1, y2⟩ := terms_of hl.1
  have c1 : w.cell? ⟨b1, 0, none⟩ = some (.pointer (some ⟨pb, 0, none⟩)) := blk_cell p1
  have c28 : w.cell? ⟨pb, 28, none⟩ = some (.int .i64 (m.naks : Int)) := blk_cell h.em.blk
  have f28 : w.frozen? ⟨pb, 28, none⟩ = false := blk_free h.em.blk
  have t1 := tset w pb 28 (.int .i64 0)
  have hp := h.num (q' := m.props) (m' := { m with naks := 0 }) (blk_set (k := 28) (x := .int .i64 0) h.em.blk) t1 rfl rfl rfl
  have HP : Hid (_) := hp
  have hsz : (w.setCell ⟨pb, 28, none⟩ (.int .i64 0)).heap.size = w.heap.size := by simp [World.setCell]
  have r1 := (t1.block b1 (blk_lt p1) n1).trans p1
  have r2 := (t1.block b2 (blk_lt p2) n2).trans p2
  have R12 : Hid ((w.setCell ⟨pb, 28, none⟩ (.int .i64 0)).heap[b1]? = some (.cells #[.pointer (some ⟨pb, 0, none⟩)] 46 (0, 0)) ∧ (w.setCell ⟨pb, 28, none⟩ (.int .i64 0)).heap[b2]? = some (.cells (rqA m.pk vi vb) 168 (0, 0))) := ⟨r1, r2⟩
  have o1 := owns_tch oi t1 (fun x hx e => ni x hx e)
  have hpi := ok.pi
  have hpd := ok.pd
  have d1 : (w.setCell ⟨pb, 28, none⟩ (.int .i64 0)).drew.cell? ⟨b1, 0, none⟩ = some (.pointer (some ⟨pb, 0, none⟩)) := blk_cell (w := w.setCell ⟨pb, 28, none⟩ (.int .i64 0)) r1
  have d2 : (w.setCell ⟨pb, 28, none⟩ (.int .i64 0)).drew.cell? ⟨b2, 3, none⟩ = some vi := blk_cell (w := w.setCell ⟨pb, 28, none⟩ (.int .i64 0)) r2
  have HOP : Hid (Calls Tryz.prog 175 #[vi] (w.setCell ⟨pb, 28, none⟩ (.int .i64 0)).drew fun r w' => r = .returned (.agg #[.int .i64 (a : Int), .int .i64 (b : Int), .int .i64 (c : Int)]) ∧ Below (w.setCell ⟨pb, 28, none⟩ (.int .i64 0)).drew.heap.size (w.setCell ⟨pb, 28, none⟩ (.int .i64 0)).drew w') := options_any vi a b c d (w.setCell ⟨pb, 28, none⟩ (.int .i64 0)).drew (by exact o1)
  clear h ok p1 p2 t1 hp r1 r2 oi o1
  go_enter Tryz.func174, Tryz.ntmps174
  go_upto_region 1 with fail
  generalize w.setCell ⟨pb, 28, none⟩ (.int .i64 0) = W0 at *
  clear c1 c28 f28
  have hb1 := blk_lt R12.out.1
  have hb2 := blk_lt R12.out.2
  have hpb := blk_lt HP.out.1.em.blk
  go_region_law (first | (go_simp; go_at_call 175; refine Calls.mono HOP.out ?_; rintro e wq ⟨rfl, hbq⟩; have hbq' : Below W0.heap.size W0 wq := ⟨hbq.os, hbq.tape, hbq.output, hbq.size, hbq.block⟩; have e1 : wq.cell? ⟨b1, 0, none⟩ = some (.pointer (some ⟨pb, 0, none⟩)) := blk_cell ((hbq'.block _ hb1).trans R12.out.1); have bq := (hbq'.block _ hpb).trans HP.out.1.em.blk; have s25 : wq.cell? ⟨pb, 25, none⟩ = some (iv (termsI m.agr 0)) := blk_cell bq; have s26 : wq.cell? ⟨pb, 26, none⟩ = some (iv (termsI m.agr 1)) := blk_cell bq; have s27 : wq.cell? ⟨pb, 27, none⟩ = some (iv (termsI m.agr 2)) := blk_cell bq; have g25 : wq.frozen? ⟨pb, 25, none⟩ = false := blk_free bq; have g26 : wq.frozen? ⟨pb, 26, none⟩ = false := blk_free bq; have g27 : wq.frozen? ⟨pb, 27, none⟩ = false := blk_free bq))
  all_goals
    have t25 := tset wq pb 25 (.int .i64 (a : Int))
    have t26 := tset (wq.setCell ⟨pb, 25, none⟩ (.int .i64 (a : Int))) pb 26 (.int .i64 (b : Int))
    have t27 := tset ((wq.setCell ⟨pb, 25, none⟩ (.int .i64 (a : Int))).setCell ⟨pb, 26, none⟩ (.int .i64 (b : Int))) pb 27 (.int .i64 (c : Int))
    have tt := (t25.trans t26).trans t27
    have hq := HP.out.1.below hbq'
    have hn := hq.num (q' := m.props) (m' := (m.letter 97).1) ((blk_set (k := 27) (x := .int .i64 (c : Int)) (blk_set (k := 26) (x := .int .i64 (b : Int)) (blk_set (k := 25) (x := .int .i64 (a : Int)) hq.em.blk))).trans (by
      show some (Obj.cells _ _ _) = some (Obj.cells _ _ _)
      simp [RE.pcl, RE.letter, RE.act, y0, y1, y2, RE.mag, iv])) tt rfl rfl rfl
    have HN : Hid (PX (((wq.setCell ⟨pb, 25, none⟩ (.int .i64 (a : Int))).setCell ⟨pb, 26, none⟩ (.int .i64 (b : Int))).setCell ⟨pb, 27, none⟩ (.int .i64 (c : Int))) B Bs pb v m.props (m.letter 97).1 S ∧ ES w (((wq.setCell ⟨pb, 25, none⟩ (.int .i64 (a : Int))).setCell ⟨pb, 26, none⟩ (.int .i64 (b : Int))).setCell ⟨pb, 27, none⟩ (.int .i64 (c : Int))) pb v.vals v.vals) := ⟨hn.1, (HP.out.2.trans (ES.below hbq')).trans hn.2⟩
    have k1 := (tt.block b1 (by have := hbq'.size; omega) n1).trans ((hbq'.block _ hb1).trans R12.out.1)
    have k2 := (tt.block b2 (by have := hbq'.size; omega) n2).trans ((hbq'.block _ hb2).trans R12.out.2)
    have zq := hbq'.size
    have zz : (((wq.setCell ⟨pb, 25, none⟩ (.int .i64 (a : Int))).setCell ⟨pb, 26, none⟩ (.int .i64 (b : Int))).setCell ⟨pb, 27, none⟩ (.int .i64 (c : Int))).heap.size = wq.heap.size := by simp [World.setCell]
    clear t25 t26 t27 tt hq hn hbq hbq' e1 bq s25 s26 s27 g25 g26 g27
    generalize ((wq.setCell ⟨pb, 25, none⟩ (.int .i64 (a : Int))).setCell ⟨pb, 26, none⟩ (.int .i64 (b : Int))).setCell ⟨pb, 27, none⟩ (.int .i64 (c : Int)) = W2 at *
    have l1 : W2.cell? ⟨b1, 0, none⟩ = some (.pointer (some ⟨pb, 0, none⟩)) := blk_cell k1
    have l2 : W2.cell? ⟨b2, 1, none⟩ = some (.int .i64 (m.pi : Int)) := blk_cell k2
    have l3 : W2.cell? ⟨b2, 2, none⟩ = some (.string ⟨m.pd.toArray⟩) := blk_cell k2
    have HS : Hid (_) := psendN 2 m.pi m.pd W2 HN.out.1 (by omega) hpi (by omega) hS (by omega)
    clear k1 k2
    go_wp2_with fail
    refine Calls.mono HS.out ?_
    rintro e wz ⟨rfl, v', hv⟩
    have HV : Hid (_) := hv
    clear hv HS
    go_wp2_with fail
    go_end0
    exact ⟨rfl, v', HV.out.1, HN.out.2.trans HV.out.2⟩
set_option maxRecDepth 100000 in
theorem mk_ack (pb H : Nat) (pk : Pk) (w : World) (vi vb : Value) (l L : List (Nat × Nat)) (oi : w.ownsRow H 189 2 vi l.length (itemC l)) (ob : w.ownsRow H 189 2 vb L.length (itemC L)) (hl : itemsL pk.2.2 = some l ∧ l.length = 4) :
    Calls Tryz.prog 159 #[.pointer (some ⟨pb, 0, none⟩), .agg (rqA pk vi vb)] w fun r w' => MkR w w' pb pk (fun b => vi.ownBlock = some b ∨ vb.ownBlock = some b) (.l 97) r := by
  have hmf : ∀ (fn : Fn) (first cap : Array Value) (w : World), (Instr.makeFunc fn first cap).run Tryz.prog w = .ok (.func fn first cap) w := fun _ _ _ _ => rfl
  have OI : Hid (w.ownsRow H 189 2 vi l.length (itemC l)) := oi
  have HG : Hid (∀ b, (vi.ownBlock = some b ∨ vb.ownBlock = some b) → b < w.heap.size) := fun b hb => hb.elim (fun x => (oi.lt b x).2) (fun x => (ob.lt b x).2)
  have HL : Hid (itemsL pk.2.2 = some l ∧ l.length = 4) := hl
  clear oi ob hl
  go_enter Tryz.func159, Tryz.ntmps159
  go_wp2
  go_ret
  refine mk_of trivial (fun _ _ => by kernel_rfl) HG.out ?_
  intro wr S0 ht hs p1 p2 B Bs v m S hp d1 d2 hd hk ok _ hS hB
  have o1 := owns_tch (owns_below OI.out (box_below w _ _ _ _)) ht (fun b hb => hs b (.inl hb))
  exact act_ack (m := m) (H := H) _ _ vi vb l wr hp ok hS hB d1 d2 p1 (by rw [hk]; exact p2) o1 (fun b hb e => hd b (.inl hb) (.inl e)) (by
    have : m.pd = pk.2.2 := by rw [← hk]; rfl
    rw [this]; exact HL.out)
theorem RE.nak_naks (m : RE) (L : List (Nat × Nat)) : ({ m with naks := m.naks + 1 } : RE).nakItems L = ({ (m.nakItems L).1 with naks := (m.nakItems L).1.naks + 1 }, (m.nakItems L).2) := by
  induction L generalizing m with
  | nil => rfl
  | cons x L ih =>
    have e : ({ m with naks := m.naks + 1 } : RE).named1 x = ({ (m.named1 x).1 with naks := (m.named1 x).1.naks + 1 }, (m.named1 x).2) := by
      unfold RE.named1
      split
      · simp only [RE.hinted, RE.acc, RE.hint]
        split
        · rfl
        · split <;> rfl
      · rfl
    simp only [RE.nakItems, e, ih]
set_option maxRecDepth 100000 in
set_option maxHeartbeats 4000000 in
theorem act_nak {B Bs pb H : Nat} {v : PV} {m : RE} {S : List UInt8} (b1 b2 : Nat) (vi vb : Value) (L : List (Nat × Nat)) (w : World) (h : PI w B Bs pb v m S) (ok : m.Ok) (fit : m.Fit 100) (hS : S.length ≤ 100000000000000) (hBs : Bs ≤ w.heap.size) (n1 : b1 ≠ pb) (n2 : b2 ≠ pb) (p1 : w.heap[b1]? = some (.cells #[.pointer (some ⟨pb, 0, none⟩)] 46 (0, 0))) (p2 : w.heap[b2]? = some (.cells (rqA m.pk vi vb) 168 (0, 0)))
    (ob : w.ownsRow H 189 2 vb L.length (itemC L)) (ni : ∀ b, vb.ownBlock = some b → ¬ inE pb v.vals b) (hL : ItemsOk L) (h0 : 0 < L.length) :
    Calls Tryz.prog 176 #[.pointer (some ⟨b1, 0, none⟩), .pointer (some ⟨b2, 0, none⟩)] w fun r w' => ActR w w' B Bs pb v (m.nakW L).1 (S ++ (m.nakW L).2) r := by
  have c1 : w.cell? ⟨b1, 0, none⟩ = some (.pointer (some ⟨pb, 0, none⟩)) := blk_cell p1
  have c28 : w.cell? ⟨pb, 28, none⟩ = some (.int .i64 (m.naks : Int)) := blk_cell h.em.blk
  have f28 : w.frozen? ⟨pb, 28, none⟩ = false := blk_free h.em.blk
  have hnk := fit.nk
  have hw1 : IntKind.i64.wrap ((m.naks : Int) + 1) = (m.naks : Int) + 1 := wrap_in (by omega) (by omega)
  have t1 := tset w pb 28 (.int .i64 ((m.naks : Int) + 1))
  have hp := h.num (q' := m.props) (m' := { m with naks := m.naks + 1 }) (blk_set (k := 28) (x := .int .i64 ((m.naks : Int) + 1)) h.em.blk) t1 rfl rfl rfl
  have HP : Hid (_) := hp
  have hsz : (w.setCell ⟨pb, 28, none⟩ (.int .i64 ((m.naks : Int) + 1))).heap.size = w.heap.size := by simp [World.setCell]
  have r1 := (t1.block b1 (blk_lt p1) n1).trans p1
  have r2 := (t1.block b2 (blk_lt p2) n2).trans p2
  have o1 := owns_tch ob t1 (fun x hx e => ni x hx (.inl e))
  have ok1 : RE.Ok { m with naks := m.naks + 1 } := ⟨ok.st, ok.id, ok.odd, ok.k0, ok.k1, ok.k2, ok.pc, ok.pi, ok.pd, ok.mg, ok.ms, ok.aa, ok.ww⟩
  have hpi := ok.pi
  have d1 : (w.setCell ⟨pb, 28, none⟩ (.int .i64 ((m.naks : Int) + 1))).drew.cell? ⟨b1, 0, none⟩ = some (.pointer (some ⟨pb, 0, none⟩)) := blk_cell (w := w.setCell ⟨pb, 28, none⟩ (.int .i64 ((m.naks : Int) + 1))) r1
  have d2 : (w.setCell ⟨pb, 28, none⟩ (.int .i64 ((m.naks : Int) + 1))).drew.cell? ⟨b2, 4, none⟩ = some vb := blk_cell (w := w.setCell ⟨pb, 28, none⟩ (.int .i64 ((m.naks : Int) + 1))) r2
  have d3 : (w.setCell ⟨pb, 28, none⟩ (.int .i64 ((m.naks : Int) + 1))).drew.cell? ⟨b2, 1, none⟩ = some (.int .i64 (m.pi : Int)) := blk_cell (w := w.setCell ⟨pb, 28, none⟩ (.int .i64 ((m.naks : Int) + 1))) r2
  have hnm := naming_any vb L (w.setCell ⟨pb, 28, none⟩ (.int .i64 ((m.naks : Int) + 1))).drew (hp.1.below ((Below.refl _ _).drew)) ok1 hL h0 (by exact o1) ni
  rw [RE.nak_naks] at hnm
  have HNM : Hid (_) := hnm
  have R12 : Hid ((w.setCell ⟨pb, 28, none⟩ (.int .i64 ((m.naks : Int) + 1))).heap[b1]? = some (.cells #[.pointer (some ⟨pb, 0, none⟩)] 46 (0, 0)) ∧ (w.setCell ⟨pb, 28, none⟩ (.int .i64 ((m.naks : Int) + 1))).heap[b2]? = some (.cells (rqA m.pk vi vb) 168 (0, 0))) := ⟨r1, r2⟩
  have hlen : (dataL (m.nakItems L).2).length ≤ 1000 := by
    rw [dataL_len, RE.nakItems_len]
    have := hL.1
    omega
  clear h ok p1 p2 t1 hp r1 r2 ob o1 ok1 hnm fit hnk
  go_enter Tryz.func176, Tryz.ntmps176
  go_upto_region 1 with fail
  generalize w.setCell ⟨pb, 28, none⟩ (.int .i64 ((m.naks : Int) + 1)) = W0 at *
  clear c1 c28 f28 hw1
  have hb1 := blk_lt R12.out.1
  have hb2 := blk_lt R12.out.2
  go_region_law (first | (go_simp; go_at_call 177; refine Calls.mono HNM.out ?_; rintro e wq ⟨rfl, pq, tq⟩; have tq' : Tch (fun b => b = pb) W0 wq := ⟨tq.os, tq.tape, tq.output, tq.size, tq.block⟩; have e1 : wq.cell? ⟨b1, 0, none⟩ = some (.pointer (some ⟨pb, 0, none⟩)) := blk_cell ((tq'.block _ hb1 n1).trans R12.out.1); have e2 : wq.cell? ⟨b2, 1, none⟩ = some (.int .i64 (m.pi : Int)) := blk_cell ((tq'.block _ hb2 n2).trans R12.out.2)) | (go_simp; go_at_call 155; refine Calls.mono (psendN 3 m.pi (dataL (m.nakItems L).2) wq pq (by omega) hpi hlen hS (by have := tq'.size; omega)) ?_; rintro e wz ⟨rfl, v', hv1, hv2⟩))
  all_goals
    go_wp2_with fail
    go_end0
    have hq : (m.nakW L).1.props = m.props := by
      obtain ⟨x, y, z, e, _⟩ := RE.nakItems_eq L m
      show RE.props ({ (m.nakItems L).1 with naks := (m.nakItems L).1.naks + 1 }) = _
      rw [e]; rfl
    refine ⟨rfl, v', ?_, (HP.out.2.trans ⟨tq'.mono (fun b e => inV.2 (.inl (.inl e))), fun b hb => .inl hb⟩).trans hv2⟩
    rw [hq]
    exact hv1
set_option maxRecDepth 100000 in
theorem mk_nak (pb H : Nat) (pk : Pk) (w : World) (vi vb : Value) (l L : List (Nat × Nat)) (oi : w.ownsRow H 189 2 vi l.length (itemC l)) (ob : w.ownsRow H 189 2 vb L.length (itemC L)) (hL : ItemsOk L) (h0 : 0 < L.length) :
    Calls Tryz.prog 164 #[.pointer (some ⟨pb, 0, none⟩), .agg (rqA pk vi vb)] w fun r w' => MkR w w' pb pk (fun b => vi.ownBlock = some b ∨ vb.ownBlock = some b) (.nak L) r := by
  have hmf : ∀ (fn : Fn) (first cap : Array Value) (w : World), (Instr.makeFunc fn first cap).run Tryz.prog w = .ok (.func fn first cap) w := fun _ _ _ _ => rfl
  have OB : Hid (w.ownsRow H 189 2 vb L.length (itemC L)) := ob
  have HG : Hid (∀ b, (vi.ownBlock = some b ∨ vb.ownBlock = some b) → b < w.heap.size) := fun b hb => hb.elim (fun x => (oi.lt b x).2) (fun x => (ob.lt b x).2)
  have HL : Hid (ItemsOk L ∧ 0 < L.length) := ⟨hL, h0⟩
  clear oi ob hL h0
  go_enter Tryz.func164, Tryz.ntmps164
  go_wp2
  go_ret
  refine mk_of HL.out.1 (fun _ _ => by kernel_rfl) HG.out ?_
  intro wr S0 ht hs p1 p2 B Bs v m S hp d1 d2 hd hk ok fit hS hB
  have o1 := owns_tch (owns_below OB.out (box_below w _ _ _ _)) ht (fun b hb => hs b (.inr hb))
  exact act_nak (m := m) (H := H) _ _ vi vb L wr hp ok fit hS hB d1 d2 p1 (by rw [hk]; exact p2) o1 (fun b hb => hd b (.inr hb)) HL.out.1 HL.out.2
end Go.Proofs.YtoeihlgidakjbaaGreatDoor
namespace Go.Proofs.YtoeihlgidakjbaaGreatDoor
open Go.RowKit Go.Lib
theorem Tryz.infoFn : (Tryz.prog.info? 113).map (fun i => (i.zero, i.size, i.bytes)) = some (some .nilFunc, 1, 8) := by kernel_rfl
def ActsE (w : World) (H pb : Nat) (pk : Pk) (va : Value) (LS : List PA) : Prop := (LS = [] → va = .slice none 0 0) ∧ ActsIn w H pb pk va LS
theorem acts_nil (w : World) (H pb : Nat) (pk : Pk) : ActsE w H pb pk (.slice none 0 0) [] := ⟨fun _ => rfl, none, 0, 0, [], rfl, fun h => absurd h (Nat.lt_irrefl 0), rfl, fun j u h => by simp at h, fun j c u h => by simp at h⟩
def Acts (w : World) (P : Nat → Prop) (pb : Nat) (pk : Pk) : List PA → List Value → Prop
  | [], [] => True
  | c :: l, u :: us => (∃ F : Nat → Prop, Does w F pb pk c u ∧ ∀ b, F b → P b) ∧ Acts w P pb pk l us
  | _, _ => False
theorem Acts.nil (w : World) (P : Nat → Prop) (pb : Nat) (pk : Pk) : Acts w P pb pk [] [] := trivial
theorem Acts.snoc {w : World} {P : Nat → Prop} {pb : Nat} {pk : Pk} {c : PA} {u : Value} (hu : ∃ F : Nat → Prop, Does w F pb pk c u ∧ ∀ b, F b → P b) : ∀ {l : List PA} {us : List Value}, Acts w P pb pk l us → Acts w P pb pk (l ++ [c]) (us ++ [u])
  | [], [], _ => ⟨hu, trivial⟩
  | [], _ :: _, h => h.elim
  | _ :: _, [], h => h.elim
  | _ :: _, _ :: _, h => ⟨h.1, Acts.snoc hu h.2⟩
theorem Acts.tch {w w' : World} {P S : Nat → Prop} {pb : Nat} {pk : Pk} (ht : Tch S w w') (hs : ∀ b, P b → ¬ S b) : ∀ {l : List PA} {us : List Value}, Acts w P pb pk l us → Acts w' P pb pk l us
  | [], [], _ => trivial
  | [], _ :: _, h => h.elim
  | _ :: _, [], h => h.elim
  | _ :: _, _ :: _, h => by
    obtain ⟨⟨F, d, hf⟩, h2⟩ := h
    exact ⟨⟨F, d.tch ht (fun b hb => hs b (hf b hb)), hf⟩, Acts.tch ht hs h2⟩
theorem Acts.below {w w' : World} {P : Nat → Prop} {pb : Nat} {pk : Pk} {l : List PA} {us : List Value} (h : Acts w P pb pk l us) (hb : Below w.heap.size w w') : Acts w' P pb pk l us := Acts.tch (S := fun _ => False) (Tch.of_below hb) (fun _ _ x => x) h
theorem Acts.me {w : World} {P : Nat → Prop} {pb : Nat} {pk : Pk} {l : List PA} {us : List Value} {a : PA} {f : Nat} (h : Acts w P pb pk l us) (hf : ActIs a f) (ha : a.ok) : Acts w P pb pk (l ++ [a]) (us ++ [methV pb f]) :=
  h.snoc ⟨_, Does.meth hf ha w pb pk, fun _ x => x.elim⟩
theorem Acts.mk {w w' : World} {P F G : Nat → Prop} {pb : Nat} {pk : Pk} {l : List PA} {us : List Value} {a : PA} {u : Value} (h : Acts w P pb pk l us) (d : Does w' F pb pk a u) (f : ∀ b, F b → w.heap.size ≤ b ∨ G b) (hb : Below w.heap.size w w') (hP : ∀ b, w.heap.size ≤ b ∨ G b → P b) : Acts w' P pb pk (l ++ [a]) (us ++ [u]) :=
  (h.below hb).snoc ⟨F, d, fun b x => hP b (f b x)⟩
theorem Acts.get {w : World} {P : Nat → Prop} {pb : Nat} {pk : Pk} : ∀ {l : List PA} {us : List Value}, Acts w P pb pk l us → us.length = l.length ∧ ∀ (j : Nat) (c : PA) (u : Value), l[j]? = some c → us[j]? = some u → ∃ F : Nat → Prop, Does w F pb pk c u ∧ ∀ b, F b → P b
  | [], [], _ => ⟨rfl, fun j c u h => by simp at h⟩
  | [], _ :: _, h => h.elim
  | _ :: _, [], h => h.elim
  | c :: l, u :: us, h => by
    obtain ⟨h1, h2⟩ := Acts.get h.2
    refine ⟨by simp [h1], ?_⟩
    intro j c' u' hc hu
    match j with
    | 0 => simp at hc hu; subst hc; subst hu; exact h.1
    | j + 1 => simp at hc hu; exact h2 j c' u' hc hu
theorem acts_own {w : World} {P : Nat → Prop} {H pb n : Nat} {pk : Pk} {va : Value} {LS : List PA} {us : List Value} (h : w.ownsRow H 113 1 va n us) (ha : Acts w P pb pk LS us) (hP : ∀ b, P b → H ≤ b) (hne : LS ≠ []) : ActsE w H pb pk va LS := by
  refine ⟨fun e => absurd e hne, ?_⟩
  obtain ⟨hl, hg⟩ := ha.get
  have hn : n = LS.length := by have := h.1; omega
  subst hn
  have h0 := h
  have hg' : ∀ (j : Nat) (c : PA) (u : Value), LS[j]? = some c → us[j]? = some u → ∃ F : Nat → Prop, Does w F pb pk c u ∧ ∀ b, F b → H ≤ b := fun j c u x y => by
    obtain ⟨F, d, hf⟩ := hg j c u x y
    exact ⟨F, d, fun b hb => hP b (hf b hb)⟩
  rcases h.2 with ⟨rfl, hz⟩ | ⟨g, cap, cur, rfl, hb, hgg, _⟩
  · have : us = [] := List.eq_nil_of_length_eq_zero (by omega)
    subst this
    exact ⟨none, 0, 0, [], by rw [hz], fun h => by omega, hl, fun j u h => by simp at h, hg'⟩
  · refine ⟨_, cap, g, us, rfl, fun _ => ⟨rfl, hb, (Array.getElem?_eq_some_iff.1 hgg).1⟩, hl, fun j u hu => ?_, hg'⟩
    have hadd : (⟨g, 0, none⟩ : Addr).add j = ⟨g, j, none⟩ := by unfold Addr.add; split <;> simp_all
    rw [← hadd]; exact h0.cells (g := g) rfl j u hu
theorem own_built {w : World} {B e : Nat} (hB : B ≤ w.heap.size) (us : Array Value) (hn : us.size ≤ 100) : (w.alloc (.cells us e)).ownsRow B e 1 (.slice (some ⟨w.heap.size, 0, none⟩) us.size us.size) us.size us.toList :=
  ⟨by simp, .inr ⟨w.heap.size, us.size, us, rfl, hB, heap_alloc_new w _, Nat.le_refl _, by unfold maxLen; omega, by simp, by rw [Nat.mul_one, List.take_of_length_le (by simp)]⟩⟩
theorem newsL (w : World) (A : Array Value) (T N : Nat) (hN : w.heap.size = N) : ∀ (j : Nat) (u : Value), A.toList[j]? = some u → (w.alloc (.cells A T)).cell? (Addr.add ⟨N, 0, none⟩ j) = some u := by
  subst hN
  intro j u hu
  have hadd : (⟨w.heap.size, 0, none⟩ : Addr).add j = ⟨w.heap.size, j, none⟩ := by unfold Addr.add; split <;> simp_all
  rw [hadd, blk_cell (heap_alloc_new w _), ← hu, Array.getElem?_toList]
def AtR (w w' : World) (H pb : Nat) (pk : Pk) (LS : List PA) (r : Ending) : Prop := ∃ va, r = .returned va ∧ ActsE w' H pb pk va LS ∧ Below w.heap.size w w'
end Go.Proofs.YtoeihlgidakjbaaGreatDoor

/- The program's Bytes. The reference's act: what answers a packet. The reference's within and bad. The reference's nak. The reference's act and at, whole; what a received packet does, as plain mathematics. The reference's named: what a Nak turns. The reference's asked: what a Request does. The reference's receive: what a packet does. The reference's Bytes. What is asked of a program's ends that hear bytes. The landed program's ends, with bytes. -/
import Derived.Test.YtoeihlgidakjbaaGreatDoorPc24
import Derived.Test.YtoeihlgidakjbaaGreatDoorPc14
import Derived.Test.YtoeihlgidakjbaaGreatDoorPc16
import Derived.Test.YtoeihlgidakjbaaGreatDoorPc4
import Derived.Test.YtoeihlgidakjbaaGreatDoorPc17
namespace Go.Proofs.YtoeihlgidakjbaaGreatDoor
open Go.RowKit Go.Lib
def BytesAt (w : World) (S : Nat → Prop) (va : Value) (l : List UInt8) : Prop := ∃ (a : Option Addr) (cap g off : Nat), va = .slice a l.length cap ∧ (0 < l.length → a = some ⟨g, off, none⟩ ∧ g < w.heap.size ∧ ¬ S g) ∧ (0 < l.length → Rd w g off l)
def RE.Byt (m : RE) (l : List UInt8) : Prop := ∀ k, k ≤ l.length → (m.bytes (l.take k)).1.Fine 900 ∧ (m.bytes (l.take k)).1.got.length ≤ 89 ∧ (m.bytes (l.take k)).2.length ≤ 90000000000000
theorem RE.bytes_take (m : RE) (l : List UInt8) (k : Nat) (h : k < l.length) : m.bytes (l.take (k + 1)) = (((m.bytes (l.take k)).1.byte1 l[k]).1, (m.bytes (l.take k)).2 ++ ((m.bytes (l.take k)).1.byte1 l[k]).2) := by
  rw [List.take_add_one, List.getElem?_eq_getElem h]
  exact m.bytes_snoc _ _
set_option maxRecDepth 100000 in
set_option maxHeartbeats 4000000 in
theorem pbytes {aS aC aF aL aO aH : Addr} {B pb : Nat} {v : PV} {m : RE} (va : Value) (l : List UInt8) (w0 w : World) (g : Gr w0 aS aC aF aL aO aH) (gt : Gt w0) (hb0 : Below w0.heap.size w0 w) (hB : w0.heap.size ≤ B) (h : PI w B w.heap.size pb v m []) (hva : BytesAt w (inE pb v.vals) va l) (hby : m.Byt l) (hl : l.length ≤ 1000000000000000) :
    Calls Tryz.prog 29 #[.pointer (some ⟨pb, 0, none⟩), va] w fun r w' => ∃ vr v', r = .returned vr ∧ w'.ownsRow w.heap.size 5 1 vr (m.bytes l).2.length ((m.bytes l).2.map bv) ∧ PI w' B w.heap.size pb v' (m.bytes l).1 [] ∧ ES w w' pb v.vals v'.vals ∧ (∀ b, vr.ownBlock = some b → ¬ inE pb v'.vals b) ∧ v'.vs = .slice none 0 0 := by
  obtain ⟨a, cap, gb, off, rfl, ha, hrd⟩ := hva
  have HA : Hid (0 < l.length → a = some ⟨gb, off, none⟩ ∧ gb < w.heap.size ∧ ¬ inE pb v.vals gb) := ha
  have HRD : Hid (0 < l.length → Rd w gb off l) := hrd
  have HP : Hid (PI w B w.heap.size pb v m []) := h
  have HBY : Hid (m.Byt l) := hby
  have HG : Hid (Gr w0 aS aC aF aL aO aH ∧ Gt w0 ∧ Below w0.heap.size w0 w ∧ w0.heap.size ≤ B) := ⟨g, gt, hb0, hB⟩
  clear ha hrd h hby g gt hb0 hB
  go_enter Tryz.func29, Tryz.ntmps29
  go_wp2_with fail
  go_loopw [9] (fun i wr => ∃ (k : Nat), k ≤ l.length ∧ i = .int .i64 k ∧ Hid (∃ v', PI wr B w.heap.size pb v' (m.bytes (l.take k)).1 (m.bytes (l.take k)).2 ∧ ES w wr pb v.vals v'.vals)) (fun i _ => l.length - (intOf i).toNat)
  case atStart => exact ⟨0, Nat.zero_le _, rfl, v, HP.out, ES.refl _ _ _⟩
  case round =>
    obtain ⟨k, hk, rfl, HX⟩ := hrel
    by_cases hlt : k < l.length
    · have h0 : 0 < l.length := by omega
      obtain ⟨rfl, hgb, hnb⟩ := HA.out h0
      obtain ⟨v1, p1, e1⟩ := HX.out
      have hc : wr.cell? ⟨gb, off + k, none⟩ = some (.int .u8 ((l[k]).toNat : Int)) := (World.cell?_of_block (w := w) (a := ⟨gb, off + k, none⟩) (e1.t.block gb hgb hnb)).trans (HRD.out h0 k hlt)
      have hI : (k : Int) < (l.length : Int) := by omega
      obtain ⟨f1, f2, f3⟩ := HBY.out k hk
      have HT : Hid (_) := take_any l[k] w0 wr HG.out.1 HG.out.2.1 (HG.out.2.2.1.trans (e1.t.below HG.out.2.2.1.size (fun x hx => Nat.le_trans HG.out.2.2.2 (HP.out.lt x hx).1))) p1 f1 f3 e1.t.size f2 HG.out.2.2.2
      have HN : Hid (∀ w' v', PI w' B w.heap.size pb v' ((m.bytes (l.take k)).1.byte1 l[k]).1 ((m.bytes (l.take k)).2 ++ ((m.bytes (l.take k)).1.byte1 l[k]).2) → PI w' B w.heap.size pb v' (m.bytes (l.take (k + 1))).1 (m.bytes (l.take (k + 1))).2) := by
        intro w' v' x
        rw [m.bytes_take l k hlt]; exact x
      have E1 : Hid (ES w wr pb v.vals v1.vals) := e1
      clear p1 e1 f1 f2 f3 HX hgb hnb
      generalize l[k] = c at *
      go_wp2_with fail
      refine Calls.mono HT.out ?_
      rintro e w2 ⟨rfl, v2, q1, q2⟩
      have Q : Hid (∃ v', PI w2 B w.heap.size pb v' (m.bytes (l.take (k + 1))).1 (m.bytes (l.take (k + 1))).2 ∧ ES w w2 pb v.vals v'.vals) := ⟨v2, HN.out _ _ q1, E1.out.trans q2⟩
      clear q1 q2 HT HN
      go_wp2_with fail
      exact ⟨⟨k + 1, by omega, by go_num, Q⟩, by simp [intOf]; omega⟩
    · have hkl : k = l.length := by omega
      have hI : ¬ (k : Int) < (l.length : Int) := by omega
      obtain ⟨v1, p1, e1⟩ := HX.out
      rw [hkl, List.take_length] at p1
      have HT : Hid (_) := ptake wr p1
      have E1 : Hid (ES w wr pb v.vals v1.vals) := e1
      clear p1 e1 HX hkl hk hlt
      go_wp2_with fail
      refine Calls.mono HT.out ?_
      rintro e w3 ⟨v3, rfl, r1, r2, r3, r4, r5⟩
      have R : Hid (w3.ownsRow w.heap.size 5 1 v1.vs (m.bytes l).2.length ((m.bytes l).2.map bv) ∧ PI w3 B w.heap.size pb v3 (m.bytes l).1 [] ∧ ES w w3 pb v.vals v3.vals ∧ (∀ b, v1.vs.ownBlock = some b → ¬ inE pb v3.vals b) ∧ v3.vs = .slice none 0 0) := ⟨r3, r1, E1.out.trans r2, r4, r5⟩
      clear r1 r2 r3 r4 r5 HT
      go_wp2_with fail
      go_ret
      exact ⟨_, v3, rfl, R.out⟩
end Go.Proofs.YtoeihlgidakjbaaGreatDoor
namespace Go.Proofs.YtoeihlgidakjbaaGreatDoor
open Go.RowKit Go.Lib
end Go.Proofs.YtoeihlgidakjbaaGreatDoor
namespace Go.Proofs.YtoeihlgidakjbaaGreatDoor
open Go.RowKit Go.Lib
theorem RI.acc {w : World} {B rb : Nat} {v : RV} {m : RE} (h : RI w B rb v m) (i : Nat) (h1 : 1 ≤ i) (h3 : i ≤ 3) : ∃ va, w.cell? ⟨rb, 3 + (i - 1), none⟩ = some va ∧ w.ownsRow B 3 1 va (m.acc i).length ((m.acc i).map iv) := by
  rcases (by omega : i = 1 ∨ i = 2 ∨ i = 3) with rfl | rfl | rfl
  · exact ⟨v.va0, blk_cell h.blk, h.oc (v.va0, m.a0) (by simp [RE.cfg])⟩
  · exact ⟨v.va1, blk_cell h.blk, h.oc (v.va1, m.a1) (by simp [RE.cfg])⟩
  · exact ⟨v.va2, blk_cell h.blk, h.oc (v.va2, m.a2) (by simp [RE.cfg])⟩
end Go.Proofs.YtoeihlgidakjbaaGreatDoor
namespace Go.Proofs.YtoeihlgidakjbaaGreatDoor
open Go.RowKit Go.Lib
end Go.Proofs.YtoeihlgidakjbaaGreatDoor
namespace Go.Proofs.YtoeihlgidakjbaaGreatDoor
open Go.RowKit Go.Lib
namespace RE
end RE
end Go.Proofs.YtoeihlgidakjbaaGreatDoor
namespace Go.Proofs.YtoeihlgidakjbaaGreatDoor
open Go.RowKit Go.Lib
theorem RI.magic {w w1 : World} {B rb : Nat} {v : RV} {m : RE} {x g cap : Nat} {o : Obj} (h : RI w B rb v m) (hown : w1.ownsRow B 3 1 (.slice (some ⟨g, 0, none⟩) (m.mg.length + 1) cap) (m.mg.length + 1) (m.mg.map iv ++ [.int .i64 (x : Int)]))
    (hg : (w.alloc o).grownBy w1 v.vm.ownBlock) (hat : v.vm.ownBlock = some g ∨ g = w.heap.size + 1) :
    RI (w1.setCell ⟨rb, 28, none⟩ (.slice (some ⟨g, 0, none⟩) (m.mg.length + 1) cap)) B rb { v with vm := .slice (some ⟨g, 0, none⟩) (m.mg.length + 1) cap } { m with mg := m.mg ++ [x] } ∧
    RS w (w1.setCell ⟨rb, 28, none⟩ (.slice (some ⟨g, 0, none⟩) (m.mg.length + 1) cap)) rb v { v with vm := .slice (some ⟨g, 0, none⟩) (m.mg.length + 1) cap } := by
  have ht := tch_grown hg
  have hlt := blk_lt h.blk
  have hb1 : w1.heap[rb]? = some (.cells (m.cell v) 129 (0, 0)) := (ht.block rb hlt (fun e => h.m1 e)).trans h.blk
  have hgr : g ≠ rb := by
    rcases hat with e | e
    · intro e2; exact h.m1 (e2 ▸ e)
    · omega
  have hts : Tch (fun b => b = rb) w1 (w1.setCell ⟨rb, 28, none⟩ (.slice (some ⟨g, 0, none⟩) (m.mg.length + 1) cap)) := tset w1 rb 28 _
  have gnew : ∀ b, b < w.heap.size → v.vm.ownBlock ≠ some b → g ≠ b := by
    intro b hb hn e
    rcases hat with e2 | e2
    · exact hn (e ▸ e2)
    · omega
  have hc : ∀ y ∈ m.cfg v, ∀ b, y.1.ownBlock = some b → b < w.heap.size := fun y hy b hb => ((h.oc y hy).lt b hb).2
  constructor
  · refine ⟨?_, h.ge, ?_, ?_, ?_, h.t1, ?_, ?_, ?_⟩
    · exact blk_set (k := 28) hb1
    · exact owns_tch (owns_tch h.ot ht (fun b hb e => h.tm b hb e)) hts (fun b hb e => h.t1 (e ▸ hb))
    · have := owns_tch hown hts (fun b hb e => by simp only [Value.ownBlock, Option.some.injEq] at hb; exact hgr (hb.trans e))
      simpa [iv] using this
    · intro y hy
      exact owns_tch (owns_tch (h.oc y hy) ht (fun b hb e => (h.c1 y hy b hb).2.2 e)) hts (fun b hb e => (h.c1 y hy b hb).1 e)
    · intro e; simp only [Value.ownBlock, Option.some.injEq] at e; exact hgr e
    · intro b hb e
      simp only [Value.ownBlock, Option.some.injEq] at e
      have hbl := (h.ot.lt b hb).2
      exact gnew b hbl (fun x => h.tm b hb x) e
    · intro y hy b hb
      have hy' : y ∈ m.cfg v := hy
      obtain ⟨c1, c2, c3⟩ := h.c1 y hy' b hb
      refine ⟨c1, c2, ?_⟩
      intro e
      simp only [Value.ownBlock, Option.some.injEq] at e
      exact gnew b (hc y hy' b hb) c3 e
  · refine ⟨(ht.mono (fun b x => .inr (.inr x))).trans (hts.mono (fun b x => .inl x)), ⟨rfl, rfl, rfl, rfl, rfl, rfl⟩, ?_⟩
    rintro b (x | x | x)
    · exact .inl (.inl x)
    · exact .inl (.inr (.inl x))
    · simp only [Value.ownBlock, Option.some.injEq] at x
      rcases hat with e | e
      · exact .inl (.inr (.inr (x ▸ e)))
      · exact .inr (by omega)
end Go.Proofs.YtoeihlgidakjbaaGreatDoor
namespace Go.Proofs.YtoeihlgidakjbaaGreatDoor
open Go.RowKit Go.Lib
end Go.Proofs.YtoeihlgidakjbaaGreatDoor
namespace Go.Proofs.YtoeihlgidakjbaaGreatDoor
open Go.RowKit Go.Lib
end Go.Proofs.YtoeihlgidakjbaaGreatDoor
namespace Go.Proofs.YtoeihlgidakjbaaGreatDoor
open Go.RowKit Go.Lib
end Go.Proofs.YtoeihlgidakjbaaGreatDoor
namespace Go.Proofs.YtoeihlgidakjbaaGreatDoor
open Go.RowKit Go.Lib
structure Pgb extends Pg where
  gj : ∀ m, Gd m → J m.sc ∧ m.got.length ≤ 89
  jg : ∀ m, J m.sc → m.got.length ≤ 89 → Gd m
  bytes : ∀ (w0 w : World) (B : Nat) (l : Lay) (m : RE) (va : Value) (s : List UInt8) {aS aC aF aL aO aH : Addr}, Gr w0 aS aC aF aL aO aH → Gt w0 → Below w0.heap.size w0 w → w0.heap.size ≤ B → PE w B l m → Gd m → m.Lim 1000000000000 → s.length ≤ 5000000000 → BytesAt w (all l) va s →
    Calls Tryz.prog 29 #[.pointer (some ⟨pb l, 0, none⟩), va] w fun r w' => ∃ v l', r = .returned v ∧ w'.ownsRow w.heap.size 5 1 v (m.bytes s).2.length ((m.bytes s).2.map bv) ∧ PE w' B l' (m.bytes s).1 ∧ pb l' = pb l ∧
      Tch (all l) w w' ∧ (∀ b, all l' b → all l b ∨ w.heap.size ≤ b) ∧ ∀ b, v.ownBlock = some b → ¬ all l' b
theorem RE.Both.byt {m : RE} {n : Nat} (h : m.Both n) (hn : n ≤ 1000000000000) (l : List UInt8) (hl : l.length ≤ 5000000000) : m.Byt l := by
  intro k hk
  have hk' : (l.take k).length = k := by rw [List.length_take]; omega
  obtain ⟨h1, h2⟩ := RE.bytes_both h k (l.take k) hk'
  have hf := (h1.1.lim h1.2).fit (by omega)
  refine ⟨⟨h1.1.ok, ?_⟩, h1.1.gt, Nat.le_trans (h2 hn (by omega)) (by omega)⟩
  obtain ⟨_, c0, c1, _, q1, q2, q3, q4, q5, q6, q7, _, _⟩ := h1.1.lim h1.2
  constructor <;> omega
section
variable {P : Pg}
end
end Go.Proofs.YtoeihlgidakjbaaGreatDoor
namespace Go.Proofs.YtoeihlgidakjbaaGreatDoor
open Go.RowKit Go.Lib
theorem RE.event_J {m : RE} (h : J m.sc) (k : Int) : J (m.event k).1.sc := by
  obtain ⟨j1, j2, j3, j4, j5⟩ := h
  have h : J m.sc := ⟨j1, j2, j3, j4, j5⟩
  have hl : m.tim - 1 ≥ 0 → J (RE.sc { m with tim := m.tim - 1 }) := fun ht => ⟨j1, j2, ht, by show m.tim - 1 ≤ 3; have : m.tim ≤ 3 := j4; omega, j5⟩
  unfold RE.event
  split
  · exact RE.at_J h _ (by omega) (by omega)
  · split
    · exact h
    · split
      · exact hl (by omega)
      · split
        · rename_i hc
          exact RE.at_J (hl (by omega)) 6 (by omega) (fun _ => hc)
        · exact RE.at_J (hl (by omega)) 7 (by omega) (by omega)
def prgJ : Pg where
  Lay := PLay
  pb := PLay.pb
  all := fun l b => inE l.pb l.v.vals b
  PE := PE
  Gd := fun m => J m.sc ∧ m.got.length ≤ 89
  lt := fun h => h.lt
  tch := fun h ht hs => h.tch ht hs
  mono := fun h hB => h.mono hB
  gnew := fun _ _ => ⟨⟨by show (0 : Int) ≤ 0; omega, by show (0 : Int) ≤ 5; omega, by show (0 : Int) ≤ 0; omega, by show (0 : Int) ≤ 3; omega, fun e => by
    have e' : (0 : Nat) = 7 ∨ (0 : Nat) = 9 := e
    omega⟩, by show 0 ≤ 89; omega⟩
  gev := fun m k h => ⟨RE.event_J h.1 k, by rw [RE.event_got]; exact h.2⟩
  new := fun X L mg w _ _ _ _ _ _ _ hX hR _ => pnew X L mg w hX hR
  event := fun w B l m k _ _ _ _ _ _ _ h hg hl => pevent_all w B l m k h hg.1.2.2.1 (hl.mono (by omega))
  state := fun _ _ _ _ h _ => pstate h
  told := fun _ _ _ _ h _ hl => ptold h (by have := hl.told; omega)
  agreed := fun _ _ _ _ h _ _ => pagreed h
def prgB : Pgb where
  toPg := prgJ
  gj := fun _ h => h
  jg := fun _ h1 h2 => ⟨h1, h2⟩
  bytes := fun w0 w B l m va s _ _ _ _ _ _ hg hgt hb hB h hgd hl hs hva => by
    have hboth : m.Both 1000000000000 := ⟨hl.gro hgd.2, hgd.1⟩
    refine (pbytes va s w0 w hg hgt hb hB h.at hva (hboth.byt (by omega) s hs) (by omega)).mono ?_
    rintro r w' ⟨vr, v', rfl, h1, h2, h3, h4, h5⟩
    exact ⟨vr, ⟨l.pb, v'⟩, rfl, h1, PE.of h2 h5, rfl, h3.t, h3.i, h4⟩
end Go.Proofs.YtoeihlgidakjbaaGreatDoor

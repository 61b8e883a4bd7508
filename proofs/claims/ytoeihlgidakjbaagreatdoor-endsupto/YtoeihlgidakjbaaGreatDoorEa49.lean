/- A script of bounded bulk that is handed in: its steps, and what their bytes are together. The landed program's ends, with bytes. -/
import Derived.Test.YtoeihlgidakjbaaGreatDoorEa26
import Derived.Test.YtoeihlgidakjbaaGreatDoorEa48
import Derived.Test.YtoeihlgidakjbaaGreatDoorRows
import Derived.Test.YtoeihlgidakjbaaGreatDoorEa34
import Derived.Test.YtoeihlgidakjbaaGreatDoorEa47
import Derived.Test.YtoeihlgidakjbaaGreatDoorEa38
namespace Go.Proofs.YtoeihlgidakjbaaGreatDoor
open Go.ChangeShapes Go.WideShapes Go.RowKit Go.Deep Go.Joins
theorem bulk_part {H : Type} {d : DataW H} {l : List (DataW H)} (h : d ∈ l) : Rows.uptoBulk d ≤ Rows.uptoBulkAll l := by
  induction l with
  | nil => cases h
  | cons x r ih =>
    simp only [Rows.uptoBulkAll]
    cases List.mem_cons.1 h with
    | inl e => subst e; omega
    | inr e => have := ih e; omega
theorem bulk_app {H : Type} (l r : List (DataW H)) : Rows.uptoBulkAll (l ++ r) = Rows.uptoBulkAll l + Rows.uptoBulkAll r := by
  induction l with
  | nil => simp [Rows.uptoBulkAll]
  | cons x l ih => simp only [List.cons_append, Rows.uptoBulkAll, ih]; omega
theorem six_list {α : Type} (l : List α) (h : l.length = 6) : ∃ a b c d e f, l = [a, b, c, d, e, f] := by
  match l, h with
  | [a, b, c, d, e, f], _ => exact ⟨a, b, c, d, e, f, rfl⟩
theorem three_list {α : Type} (l : List α) (h : l.length = 3) : ∃ a b c, l = [a, b, c] := by
  match l, h with
  | [a, b, c], _ => exact ⟨a, b, c, rfl⟩
theorem op_bulk {H : Type} {enc : TypeId × Value → H} {W : World} {sp : Nat → Bool} {hd : Bool} {fuel : Nat} {x : DataW H × List MemPlace} (o : OpT) (h : DataW.trod enc Tryz.prog W 0 sp hd fuel 33 o.cells.toList = some x) : o.s.size + o.d.size + 1 ≤ Rows.uptoBulk x.1 := by
  obtain ⟨xs, m, _, hx, hl, hxl, hf⟩ := DataW.trod_struct Tryz.underlying33 h
  have hxl' : xs.length = 6 := hxl
  obtain ⟨y0, y1, y2, y3, y4, y5, rfl⟩ := six_list xs hxl'
  have f2 := at_field hf 2 _ 27 2 rfl rfl rfl
  have f3 := at_field hf 3 _ 9 5 rfl rfl rfl
  simp only [Tryz.cellsS, Tryz.cellsPk, OpT.cells, opA, List.drop, List.take, List.getElem?_cons_succ, List.getElem?_cons_zero] at f2 f3
  obtain ⟨s, e3, r3, _⟩ := DataW.trod_string Tryz.underlying9 f3
  obtain ⟨zs, m2, _, hz, _, hzl, hg⟩ := DataW.trod_struct Tryz.underlying27 f2
  have hzl' : zs.length = 3 := hzl
  obtain ⟨z0, z1, z2, rfl⟩ := three_list zs hzl'
  have p2 := at_field hg 2 _ 9 2 rfl rfl rfl
  simp only [Tryz.cellsS, List.drop, List.take, List.getElem?_cons_succ, List.getElem?_cons_zero] at p2
  obtain ⟨d, e2, r2, _⟩ := DataW.trod_string Tryz.underlying9 p2
  have es : o.s = s := by simpa using e3
  have ed : o.d = d := by simpa using e2
  have hs : s.data.toList.length = s.size := by rw [Array.length_toList]; rfl
  have hdl : d.data.toList.length = d.size := by rw [Array.length_toList]; rfl
  rw [hx, es, ed]
  simp only [List.map, hz, r3, r2, Rows.uptoBulk, Rows.uptoBulkAll, hs, hdl]
  omega
theorem bulk_range {H : Type} (D : Nat → DataW H) (O : Nat → OpT) (n : Nat) (h : ∀ i, i < n → (O i).s.size + 1 ≤ Rows.uptoBulk (D i)) : n + sumS O n ≤ Rows.uptoBulkAll ((List.range n).map D) := by
  induction n with
  | zero => simp [sumS]
  | succ n ih =>
    have h1 := ih (fun i hi => h i (by omega))
    have h2 := h n (by omega)
    rw [List.range_succ, List.map_append, bulk_app]
    simp only [List.map, Rows.uptoBulkAll, sumS]
    omega
theorem scrB_of {H : Type} {enc : TypeId × Value → H} {W : World} {a0 : Option Addr} {len cap : Nat} {d : DataW H} {ps : List MemPlace}
    (h : DataW.Trod enc Tryz.prog W 0 (fun _ => true) true 22 (.slice a0 len cap) d ps) (hsz : ∀ n ∈ d.weights Tryz.prog 22, n ≤ reachBytes) (hbk : Rows.uptoBulk d ≤ 1048576) :
    ∃ g off O, (0 < len → a0 = some ⟨g, off, none⟩) ∧ (0 < len → g < W.heap.size) ∧ ScrT W W.heap.size g off len O ∧ len + sumS O len ≤ 1048576 ∧ ∀ i, i < len → (O i).d.size ≤ 1048576 := by
  obtain ⟨fuel, hf⟩ := h
  rcases open_slice Tryz.underlying22 hf with ⟨hcs, _⟩ | ⟨a, len', cap', m, n, D, Pl, hcs, _, hl, _, hm, hx, hel⟩
  · simp [Value.cells] at hcs
    obtain ⟨_, rfl, _⟩ := hcs
    exact ⟨0, 0, fun _ => default, fun h => absurd h (by omega), fun h => absurd h (by omega), fun i hi => absurd hi (by omega), by simp [sumS], fun i hi => absurd hi (by omega)⟩
  · simp [Value.cells] at hcs
    obtain ⟨rfl, rfl, rfl⟩ := hcs
    simp only [if_true] at hm
    subst hm
    simp only [Prod.mk.injEq] at hx
    obtain ⟨rfl, _⟩ := hx
    rw [Tryz.cellsOp] at hel
    have hW : ∀ i, i < len → ∀ k ∈ (D i).weights Tryz.prog 33, k ≤ reachBytes := fun i hi k hk => hsz k (by
      simp only [DataW.weights, Tryz.underlying22, List.mem_cons, List.mem_append]
      exact .inr (.inl (weightsAll_mem (List.mem_map.2 ⟨i, List.mem_range.2 hi, rfl⟩) k hk)))
    obtain ⟨O, hO⟩ := choose_lt (n := len) (p := fun i (o : OpT) => W.cells? 0 (a.add (i * 14)) 14 = some o.cells.toList ∧ (-9223372036854775808 ≤ o.n ∧ o.n < 9223372036854775808) ∧ (∀ j, j < 6 → IntsH W (o.X j) (o.L j)) ∧ (∀ j, j < 6 → (o.L j).length * 8 ≤ reachBytes) ∧ o.s.size + o.d.size + 1 ≤ Rows.uptoBulk (D i)) (fun i hi => by
      obtain ⟨cs', h1, h2⟩ := hel i (by omega)
      obtain ⟨o, rfl, hn, hI, hB⟩ := opT_of h2
      exact ⟨o, h1, hn, hI, hB _ (hW i hi), op_bulk o h2⟩)
    have hbk' : Rows.uptoBulkAll ((List.range len).map D) ≤ 1048576 := by
      simp only [Rows.uptoBulk] at hbk
      omega
    have hsum : len + sumS O len ≤ 1048576 := Nat.le_trans (bulk_range D O len (fun i hi => by have := (hO i hi).2.2.2.2; omega)) hbk'
    have hds : ∀ i, i < len → (O i).d.size ≤ 1048576 := fun i hi => by
      have h1 := (hO i hi).2.2.2.2
      have h2 := bulk_part (List.mem_map.2 ⟨i, List.mem_range.2 hi, rfl⟩ : D i ∈ (List.range len).map D)
      omega
    obtain ⟨b, off, spot⟩ := a
    by_cases hz : len = 0
    · subst hz
      exact ⟨0, 0, O, fun h => absurd h (by omega), fun h => absurd h (by omega), fun i hi => absurd hi (by omega), hsum, hds⟩
    have c0 : W.cell? ⟨b, off, spot⟩ = some (.int .i64 (O 0).kd) := by
      obtain ⟨_, _, hc⟩ := World.cells?_some (hO 0 (by omega)).1
      have := hc 0 (by omega)
      simp only [Addr.add, if_true, Nat.zero_mul] at this
      exact this
    have hspot : spot = none := World.cell?_spot c0
    subst hspot
    refine ⟨b, off, O, fun _ => rfl, fun _ => glob_size rfl c0, fun i hi => ?_, hsum, hds⟩
    obtain ⟨h1, h2, h3, h4, _⟩ := hO i hi
    rw [add_plain] at h1
    obtain ⟨_, _, hc⟩ := World.cells?_some h1
    refine ⟨fun t ht => ?_, h2.1, h2.2, fun j hj => (h3 j hj).1, fun j hj h0 b hb => (h3 j hj).2 b h0 hb, fun j hj => ?_⟩
    · have := hc t ht
      rw [add_plain] at this
      rw [this, Array.getElem?_toList]
    · have := h4 j hj
      unfold reachBytes at this
      omega
end Go.Proofs.YtoeihlgidakjbaaGreatDoor
namespace Go.Proofs.YtoeihlgidakjbaaGreatDoor
open Go.RowKit Go.Lib
theorem RE.event_J {m : RE} (h : J m.sc) (k : Int) : J (m.event k).1.sc := by
  obtain ⟨j1, j2, j3, j4, j5⟩ := h
  have h : J m.sc := ⟨j1, j2, j3, j4, j5⟩
  have hl : m.tim - 1 ≥ 0 → J (RE.sc { m with tim := m.tim - 1 }) := fun ht => ⟨j1, j2, ht, by show m.tim - 1 ≤ 3; have : m.tim ≤ 3 := j4; omega, j5⟩
  unfold RE.event
  split
  · exact RE.at_J h _ (by omega) (by omega)
  · split
    · exact h
    · split
      · exact hl (by omega)
      · split
        · rename_i hc
          exact RE.at_J (hl (by omega)) 6 (by omega) (fun _ => hc)
        · exact RE.at_J (hl (by omega)) 7 (by omega) (by omega)
def prgJ : Pg where
  Lay := PLay
  pb := PLay.pb
  all := fun l b => inE l.pb l.v.vals b
  PE := PE
  Gd := fun m => J m.sc ∧ m.got.length ≤ 89
  lt := fun h => h.lt
  tch := fun h ht hs => h.tch ht hs
  mono := fun h hB => h.mono hB
  gnew := fun _ _ => ⟨⟨by show (0 : Int) ≤ 0; omega, by show (0 : Int) ≤ 5; omega, by show (0 : Int) ≤ 0; omega, by show (0 : Int) ≤ 3; omega, fun e => by
    have e' : (0 : Nat) = 7 ∨ (0 : Nat) = 9 := e
    omega⟩, by show 0 ≤ 89; omega⟩
  gev := fun m k h => ⟨RE.event_J h.1 k, by rw [RE.event_got]; exact h.2⟩
  new := fun X L mg w _ _ _ _ _ _ _ hX hR _ => pnew X L mg w hX hR
  event := fun w B l m k _ _ _ _ _ _ _ h hg hl => pevent_all w B l m k h hg.1.2.2.1 (hl.mono (by omega))
  state := fun _ _ _ _ h _ => pstate h
  told := fun _ _ _ _ h _ hl => ptold h (by have := hl.told; omega)
  agreed := fun _ _ _ _ h _ _ => pagreed h
def prgB : Pgb where
  toPg := prgJ
  gj := fun _ h => h
  jg := fun _ h1 h2 => ⟨h1, h2⟩
  bytes := fun w0 w B l m va s _ _ _ _ _ _ hg hgt hb hB h hgd hl hs hva => by
    have hboth : m.Both 1000000000000 := ⟨hl.gro hgd.2, hgd.1⟩
    refine (pbytes va s w0 w hg hgt hb hB h.at hva (hboth.byt (by omega) s hs) (by omega)).mono ?_
    rintro r w' ⟨vr, v', rfl, h1, h2, h3, h4, h5⟩
    exact ⟨vr, ⟨l.pb, v'⟩, rfl, h1, PE.of h2 h5, rfl, h3.t, h3.i, h4⟩
end Go.Proofs.YtoeihlgidakjbaaGreatDoor

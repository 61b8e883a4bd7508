/- The laws' UpTo, for the kinds 1 and 2. -/
import Derived.Test.YtoeihlgidakjbaaGreatDoorStep2
namespace Go.Proofs.YtoeihlgidakjbaaGreatDoor
open Go.RowKit Go.Lib

/-- A step of a script in memory: its fourteen cells. -/
structure OpC where
  k : Int
  n : Int
  code : Int
  id : Int
  d : ByteArray
  s : ByteArray
  x0 : Value
  x1 : Value
  x2 : Value
  x3 : Value
  x4 : Value
  x5 : Value
  x6 : Value
  ev : Int
def OpC.val (o : OpC) : Value := .agg #[.int .i64 o.k, .int .i64 o.n, .int .i64 o.code, .int .i64 o.id, .string o.d, .string o.s, o.x0, o.x1, o.x2, o.x3, o.x4, o.x5, o.x6, .int .i64 o.ev]
structure OpIs (w : World) (g p : Nat) (o : OpC) : Prop where
  c0 : w.cell? ⟨g, p, none⟩ = some (.int .i64 o.k)
  c1 : w.cell? ⟨g, p + 1, none⟩ = some (.int .i64 o.n)
  c2 : w.cell? ⟨g, p + 2, none⟩ = some (.int .i64 o.code)
  c3 : w.cell? ⟨g, p + 3, none⟩ = some (.int .i64 o.id)
  c4 : w.cell? ⟨g, p + 4, none⟩ = some (.string o.d)
  c5 : w.cell? ⟨g, p + 5, none⟩ = some (.string o.s)
  c6 : w.cell? ⟨g, p + 6, none⟩ = some o.x0
  c7 : w.cell? ⟨g, p + 7, none⟩ = some o.x1
  c8 : w.cell? ⟨g, p + 8, none⟩ = some o.x2
  c9 : w.cell? ⟨g, p + 9, none⟩ = some o.x3
  c10 : w.cell? ⟨g, p + 10, none⟩ = some o.x4
  c11 : w.cell? ⟨g, p + 11, none⟩ = some o.x5
  c12 : w.cell? ⟨g, p + 12, none⟩ = some o.x6
  c13 : w.cell? ⟨g, p + 13, none⟩ = some (.int .i64 o.ev)
theorem OpIs.below {w w' : World} {B g p : Nat} {o : OpC} (h : OpIs w g p o) (hb : Below B w w') (hg : g < B) : OpIs w' g p o :=
  ⟨(hb.cell (p := ⟨g, p, none⟩) hg).trans h.c0, (hb.cell (p := ⟨g, p + 1, none⟩) hg).trans h.c1, (hb.cell (p := ⟨g, p + 2, none⟩) hg).trans h.c2, (hb.cell (p := ⟨g, p + 3, none⟩) hg).trans h.c3, (hb.cell (p := ⟨g, p + 4, none⟩) hg).trans h.c4, (hb.cell (p := ⟨g, p + 5, none⟩) hg).trans h.c5, (hb.cell (p := ⟨g, p + 6, none⟩) hg).trans h.c6, (hb.cell (p := ⟨g, p + 7, none⟩) hg).trans h.c7, (hb.cell (p := ⟨g, p + 8, none⟩) hg).trans h.c8, (hb.cell (p := ⟨g, p + 9, none⟩) hg).trans h.c9, (hb.cell (p := ⟨g, p + 10, none⟩) hg).trans h.c10, (hb.cell (p := ⟨g, p + 11, none⟩) hg).trans h.c11, (hb.cell (p := ⟨g, p + 12, none⟩) hg).trans h.c12, (hb.cell (p := ⟨g, p + 13, none⟩) hg).trans h.c13⟩
/-- A script in memory: n steps from a place on. -/
def Scr (w : World) (g off n : Nat) (O : Nat → OpC) : Prop := ∀ i, i < n → OpIs w g (off + i * 14) (O i) ∧ (O i).d.size ≤ maxLen ∧ (O i).s.size ≤ 140737488351232

theorem step_12 {aS aC aF aL aO aH : Addr} {B wb : Nat} {vp vh : Value} {es : List HE} (w : World) (hgl : Gl w aS aC aF aL aO aH) (hw : WI w B wb vp vh es) (hes : es.length + 4 ≤ 17000000000000) (o : OpC) (hk1 : 1 ≤ o.k) (hk2 : o.k ≤ 2) (hd : o.d.size ≤ maxLen) (hs : o.s.size ≤ 140737488351232) :
    Calls Tryz.prog 34 #[.pointer (some ⟨wb, 0, none⟩), o.val] w fun r w' => r = .returned (.bool true) ∧ ∃ vh' es', es'.length = es.length + 4 ∧ WI w' B wb vp vh' es' ∧ Below B w w' := by
  obtain ⟨k, n, code, id, d, s, x0, x1, x2, x3, x4, x5, x6, ev⟩ := o
  simp only at hk1 hk2 hd hs
  rcases (by omega : k = 1 ∨ k = 2) with rfl | rfl
  · exact step_frame w hw hes n code id ev d s x0 x1 x2 x3 x4 x5 x6 hd
  · exact step_unframe w hgl hw hes n code id ev d s x0 x1 x2 x3 x4 x5 x6 hs
set_option maxRecDepth 100000 in
set_option maxHeartbeats 2000000 in
theorem upto_12 {aS aC aF aL aO aH : Addr} (g off n cap : Nat) (O : Nat → OpC) (a : Option Addr) (w : World) (hgl : Gl w aS aC aF aL aO aH) (ha : 0 < n → a = some ⟨g, off, none⟩) (hg : 0 < n → g < w.heap.size) (hsc : Scr w g off n O) (hn : n ≤ 1000000000000) :
    Calls Tryz.prog 14 #[.slice a n cap, .int .i64 1, .int .i64 2] w fun r w' => r = .returned (.int .i64 (-1)) ∧ Below w.heap.size w w' := by
  have HG : Hid (Gl w aS aC aF aL aO aH) := hgl
  have HA : Hid (0 < n → a = some ⟨g, off, none⟩) := ha
  have HGL : Hid (0 < n → g < w.heap.size) := hg
  have HS : Hid (Scr w g off n O) := hsc
  clear hgl ha hg hsc
  go_enter Tryz.func14, Tryz.ntmps14
  go_wp2_with fail
  go_loopw [8] (fun i wr => ∃ (k : Nat) (vh : Value) (es : List HE), k ≤ n ∧ i = .int .i64 k ∧ es.length ≤ 4 * k ∧ Hid (WI wr w.heap.size w.heap.size (.slice none 0 0) vh es ∧ Below w.heap.size w wr)) (fun i _ => n - (intOf i).toNat)
  case atStart =>
    refine ⟨0, .slice none 0 0, [], by omega, rfl, by simp, ?_⟩
    refine ⟨⟨by simp, by simp, by simp, by simp, ?_, ?_, by simp, Nat.le_refl _, by simp [Value.ownBlock], ?_⟩, (Below.refl _ _).alloc (Nat.le_refl _) _⟩
    · exact World.ownsRow_nil _ _ _ _
    · intro e he; cases he
    · intro e he; cases he
  case round =>
    obtain ⟨k, vh, es, hk, rfl, hel, HW⟩ := hrel
    by_cases hlt : k < n
    · obtain rfl := HA.out (by omega)
      obtain ⟨hop, hd, hs⟩ := HS.out k hlt
      have hop := hop.below HW.out.2 (HGL.out (by omega))
      have hI : (k : Int) < (n : Int) := by omega
      generalize hO : O k = o at *
      have c0 := hop.c0
      by_cases hk1 : o.k < 1
      · go_wp2_with fail
        exact ⟨⟨k + 1, vh, es, by omega, by go_num, by omega, HW⟩, by simp [intOf]; omega⟩
      · by_cases hk2 : 2 < o.k
        · go_wp2_with fail
          exact ⟨⟨k + 1, vh, es, by omega, by go_num, by omega, HW⟩, by simp [intOf]; omega⟩
        · obtain ⟨_, c1, c2, c3, c4, c5, c6, c7, c8, c9, c10, c11, c12, c13⟩ := hop
          go_wp2_with fail
          refine Calls.mono (step_12 wr (HG.out.below HW.out.2) HW.out.1 (by omega) o (by omega) (by omega) hd hs) ?_
          rintro r w2 ⟨rfl, vh', es', hl, hwi, hb⟩
          have HWI : Hid (WI w2 w.heap.size w.heap.size (.slice none 0 0) vh' es') := hwi
          have HBB : Hid (Below w.heap.size w w2) := HW.out.2.trans hb
          clear hwi hb HW c0 c1 c2 c3 c4 c5 c6 c7 c8 c9 c10 c11 c12 c13
          go_wp2_with fail
          refine Calls.mono (looks_any w2 HWI.out (by omega)) ?_
          rintro r w3 ⟨rfl, nn, rfl⟩
          go_wp2_with fail
          exact ⟨⟨k + 1, vh', es', by omega, by go_num, by omega, HWI.out.of_tch (S := fun _ => False) (Tch.of_below (below_drewN (Below.refl _ _) nn)) id (fun _ _ x => x) (fun _ _ _ _ x => x), below_drewN HBB.out nn⟩, by simp [intOf]; omega⟩
    · go_wp2_with fail
      go_ret
      exact ⟨rfl, HW.out.2⟩
end Go.Proofs.YtoeihlgidakjbaaGreatDoor

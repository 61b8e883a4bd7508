/- The laws' step, of the kinds 1 (Frame) and 2 (Unframe). The laws' step, of the kind 2 (Unframe). The laws' UpTo, for the kinds 1 and 2. The laws' UpTo, of the kinds 3 to 6 without 5, over any program's ends. -/
import Derived.Test.YtoeihlgidakjbaaGreatDoorEa17
import Derived.Test.YtoeihlgidakjbaaGreatDoorEa20
namespace Go.Proofs.YtoeihlgidakjbaaGreatDoor
open Go.RowKit Go.Lib
theorem framed (code id : Int) (s : ByteArray) (hs : s.size ≤ maxLen) : ∃ (l : List UInt8) (e : Int), l.length ≤ 1000 ∧
    (∀ w, Calls Tryz.prog 51 #[.agg #[.int .i64 code, .int .i64 id, .string s]] w fun r w' => ∃ v, r = .returned (.tuple #[v, .int .i64 e]) ∧ w'.ownsRow w.heap.size 5 1 v l.length (l.map bv) ∧ Below w.heap.size w w') ∧
    (∀ w, Calls Tryz.prog 52 #[.agg #[.int .i64 code, .int .i64 id, .string s]] w fun r w' => r = .returned (.tuple #[.string ⟨l.toArray⟩, .int .i64 e]) ∧ Below w.heap.size w w') := by
  cases hp : isPkt code id s.size with
  | false =>
    refine ⟨[], 2, by simp, fun w => (frame_no code id s w hs hp).mono ?_, fun w => rframe_no code id s w hs hp⟩
    rintro r w' ⟨rfl, hb⟩
    exact ⟨_, rfl, World.ownsRow_nil _ _ _ _, hb⟩
  | true =>
    unfold isPkt at hp
    simp only [Bool.and_eq_true, decide_eq_true_eq] at hp
    obtain ⟨⟨⟨⟨h1, h2⟩, h3⟩, h4⟩, h5⟩ := hp
    have e1 : ((UInt8.ofNat code.toNat).toNat : Int) = code := by rw [UInt8.toNat_ofNat']; omega
    have e2 : ((UInt8.ofNat id.toNat).toNat : Int) = id := by rw [UInt8.toNat_ofNat']; omega
    refine ⟨encl (content (UInt8.ofNat code.toNat) (UInt8.ofNat id.toNat) s.data.toList), 0, ?_, fun w => ?_, fun w => ?_⟩
    · have := (escL_len (content (UInt8.ofNat code.toNat) (UInt8.ofNat id.toNat) s.data.toList)).2
      rw [encl_len]
      have h7 : (content (UInt8.ofNat code.toNat) (UInt8.ofNat id.toNat) s.data.toList).length = s.size + 4 := by simp [content, headOf]
      omega
    · have := frame_yes (UInt8.ofNat code.toNat) (UInt8.ofNat id.toNat) s w h5 (by omega)
      rw [e1, e2] at this
      exact this
    · have := rframe_yes (UInt8.ofNat code.toNat) (UInt8.ofNat id.toNat) s w h5 (by omega)
      rw [e1, e2] at this
      exact this
end Go.Proofs.YtoeihlgidakjbaaGreatDoor
namespace Go.Proofs.YtoeihlgidakjbaaGreatDoor
open Go.RowKit Go.Lib
theorem unfR_agg {l : List UInt8} {v : Value} {n : Int} (h : UnfR l v n) : ∃ (c d : Int) (t : ByteArray), v = .agg #[.int .i64 c, .int .i64 d, .string t] := by
  rcases h with ⟨_, rfl, _⟩ | ⟨c, d, t, x, y, _, ⟨_, rfl, _⟩ | ⟨_, _, rfl, _⟩ | ⟨_, _, rfl, _⟩⟩
  · exact ⟨_, _, _, rfl⟩
  · exact ⟨_, _, _, rfl⟩
  · exact ⟨_, _, _, rfl⟩
  · exact ⟨_, _, _, rfl⟩
theorem runframe_det (b : ByteArray) {v : Value} {n : Int} (h : UnfR b.data.toList v n) (w : World) (hn : b.size ≤ 140737488351232) :
    Calls Tryz.prog 55 #[.string b] w fun e w' => Below w.heap.size w w' ∧ e = .returned (.tuple #[v, .int .i64 n]) :=
  (runframe_any b w hn).mono (by
    rintro e w' ⟨hb, v', n', rfl, h'⟩
    obtain ⟨rfl, rfl⟩ := unfR_det h h'
    exact ⟨hb, rfl⟩)
theorem unframe_str {aS aC aF aL aO aH : Addr} (g cap : Nat) (s : ByteArray) (w : World) (hgl : Gl w aS aC aF aL aO aH) (hr : Rd w g 0 s.data.toList) (hbl : g < w.heap.size) (hn : s.size ≤ 140737488351232) :
    Calls Tryz.prog 47 #[.slice (some ⟨g, 0, none⟩) s.size cap] w fun e w' => Below w.heap.size w w' ∧ ∃ v n, e = .returned (.tuple #[v, .int .i64 n]) ∧ UnfR s.data.toList v n := by
  have e : s.data.toList.length = s.size := by simp
  have := unframe_any g 0 cap s.data.toList w hgl hr hbl (by omega)
  rw [e] at this
  exact this
end Go.Proofs.YtoeihlgidakjbaaGreatDoor
namespace Go.Proofs.YtoeihlgidakjbaaGreatDoor
open Go.RowKit Go.Lib
structure OpC where
  k : Int
  n : Int
  code : Int
  id : Int
  d : ByteArray
  s : ByteArray
  x0 : Value
  x1 : Value
  x2 : Value
  x3 : Value
  x4 : Value
  x5 : Value
  x6 : Value
  ev : Int
def OpC.val (o : OpC) : Value := .agg #[.int .i64 o.k, .int .i64 o.n, .int .i64 o.code, .int .i64 o.id, .string o.d, .string o.s, o.x0, o.x1, o.x2, o.x3, o.x4, o.x5, o.x6, .int .i64 o.ev]
structure OpIs (w : World) (g p : Nat) (o : OpC) : Prop where
  c0 : w.cell? ⟨g, p, none⟩ = some (.int .i64 o.k)
  c1 : w.cell? ⟨g, p + 1, none⟩ = some (.int .i64 o.n)
  c2 : w.cell? ⟨g, p + 2, none⟩ = some (.int .i64 o.code)
  c3 : w.cell? ⟨g, p + 3, none⟩ = some (.int .i64 o.id)
  c4 : w.cell? ⟨g, p + 4, none⟩ = some (.string o.d)
  c5 : w.cell? ⟨g, p + 5, none⟩ = some (.string o.s)
  c6 : w.cell? ⟨g, p + 6, none⟩ = some o.x0
  c7 : w.cell? ⟨g, p + 7, none⟩ = some o.x1
  c8 : w.cell? ⟨g, p + 8, none⟩ = some o.x2
  c9 : w.cell? ⟨g, p + 9, none⟩ = some o.x3
  c10 : w.cell? ⟨g, p + 10, none⟩ = some o.x4
  c11 : w.cell? ⟨g, p + 11, none⟩ = some o.x5
  c12 : w.cell? ⟨g, p + 12, none⟩ = some o.x6
  c13 : w.cell? ⟨g, p + 13, none⟩ = some (.int .i64 o.ev)
theorem OpIs.below {w w' : World} {B g p : Nat} {o : OpC} (h : OpIs w g p o) (hb : Below B w w') (hg : g < B) : OpIs w' g p o :=
  ⟨(hb.cell (p := ⟨g, p, none⟩) hg).trans h.c0, (hb.cell (p := ⟨g, p + 1, none⟩) hg).trans h.c1, (hb.cell (p := ⟨g, p + 2, none⟩) hg).trans h.c2, (hb.cell (p := ⟨g, p + 3, none⟩) hg).trans h.c3, (hb.cell (p := ⟨g, p + 4, none⟩) hg).trans h.c4, (hb.cell (p := ⟨g, p + 5, none⟩) hg).trans h.c5, (hb.cell (p := ⟨g, p + 6, none⟩) hg).trans h.c6, (hb.cell (p := ⟨g, p + 7, none⟩) hg).trans h.c7, (hb.cell (p := ⟨g, p + 8, none⟩) hg).trans h.c8, (hb.cell (p := ⟨g, p + 9, none⟩) hg).trans h.c9, (hb.cell (p := ⟨g, p + 10, none⟩) hg).trans h.c10, (hb.cell (p := ⟨g, p + 11, none⟩) hg).trans h.c11, (hb.cell (p := ⟨g, p + 12, none⟩) hg).trans h.c12, (hb.cell (p := ⟨g, p + 13, none⟩) hg).trans h.c13⟩
end Go.Proofs.YtoeihlgidakjbaaGreatDoor
namespace Go.Proofs.YtoeihlgidakjbaaGreatDoor
open Go.RowKit Go.Lib
structure OpT where
  kd : Int
  n : Int
  code : Int
  id : Int
  d : ByteArray
  s : ByteArray
  X : Nat → Value
  L : Nat → List Int
  mg : Int
  ev : Int
def OpT.cells (o : OpT) : Array Value := opA o.kd o.n o.code o.id o.d o.s o.X o.mg o.ev
structure OpAt (w : World) (B g p : Nat) (o : OpT) : Prop where
  c : ∀ i, i < 14 → w.cell? ⟨g, p + i, none⟩ = o.cells[i]?
  n1 : -9223372036854775808 ≤ o.n
  n2 : o.n < 9223372036854775808
  x : ∀ i, i < 6 → IntsAt w (o.X i) (o.L i)
  b : ∀ i, i < 6 → 0 < (o.L i).length → ∀ b, (o.X i).ownBlock = some b → b < B
  l : ∀ i, i < 6 → (o.L i).length ≤ 17592186043904
theorem OpAt.bel {w w' : World} {B g p : Nat} {o : OpT} (h : OpAt w B g p o) (hb : Below B w w') (hg : g < B) : OpAt w' B g p o :=
  ⟨fun i hi => (hb.cell (p := ⟨g, p + i, none⟩) hg).trans (h.c i hi), h.n1, h.n2, fun i hi => (h.x i hi).bel (h.b i hi) hb, h.b, h.l⟩
def ScrT (w : World) (B g off n : Nat) (O : Nat → OpT) : Prop := ∀ i, i < n → OpAt w B g (off + i * 14) (O i)
section
variable {P : Pg}
end
end Go.Proofs.YtoeihlgidakjbaaGreatDoor

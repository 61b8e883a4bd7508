/- The program's rows of the table of states, part 4: what each answers in each state. -/
import Derived.Test.YtoeihlgidakjbaaGreatDoorPc13
namespace Go.Proofs.YtoeihlgidakjbaaGreatDoor
open Go.RowKit Go.Lib
def row_atEnd : List (List PA) := [[], [], [.l 107], [.l 107], [.l 107], [.l 107], [.l 107], [.l 107, .l 54], [.l 107, .l 54], [.l 100, .l 122, .l 107, .l 53]]
set_option maxRecDepth 100000 in
set_option maxHeartbeats 8000000 in
theorem patEnd (pb st H : Nat) (pk : Pk) (w : World) (hst : st < 10) (hlt : pb < w.heap.size) (hH : H ≤ w.heap.size) (c14 : w.cell? ⟨pb, 14, none⟩ = some (.int .i64 (st : Int))) :
    Calls Tryz.prog 105 #[.pointer (some ⟨pb, 0, none⟩), .agg (pkA pk)] w fun r w' => AtR w w' H pb pk ((row_atEnd).getD st []) r := by
  have hmf : ∀ (fn : Fn) (first cap : Array Value) (w : World), (Instr.makeFunc fn first cap).run Tryz.prog w = .ok (.func fn first cap) w := fun _ _ _ _ => rfl
  obtain ⟨i0, hi, hz0, hz1, hz2⟩ := info_parts Tryz.infoFn
  have BA : Hid (Below w.heap.size w (w.alloc (.cells (pkA pk) 27))) := (Below.refl _ _).alloc (Nat.le_refl _) _
  have cA : (w.alloc (.cells (pkA pk) 27)).cell? ⟨pb, 14, none⟩ = some (.int .i64 (st : Int)) := (BA.out.cell (p := ⟨pb, 14, none⟩) hlt).trans c14
  have RB : Hid ((w.alloc (.cells (pkA pk) 27)).heap[w.heap.size]? = some (.cells (pkA pk) 27 (0, 0))) := heap_alloc_new w _
  have z0 : (w.alloc (.cells (pkA pk) 27)).heap.size = w.heap.size + 1 := by simp
  rcases (by omega : st = 0 ∨ st = 1 ∨ st = 2 ∨ st = 3 ∨ st = 4 ∨ st = 5 ∨ st = 6 ∨ st = 7 ∨ st = 8 ∨ st = 9) with rfl | rfl | rfl | rfl | rfl | rfl | rfl | rfl | rfl | rfl
  · show Calls _ _ _ _ (fun r w' => AtR w w' H pb pk [] r)
    go_enter Tryz.func105, Tryz.ntmps105
    go_wp2_with fail
    go_ret
    exact ⟨_, rfl, acts_nil _ _ _ _, BA.out⟩
  · show Calls _ _ _ _ (fun r w' => AtR w w' H pb pk [] r)
    go_enter Tryz.func105, Tryz.ntmps105
    go_wp2_with fail
    go_ret
    exact ⟨_, rfl, acts_nil _ _ _ _, BA.out⟩
  · show Calls _ _ _ _ (fun r w' => AtR w w' H pb pk [.l 107] r)
    go_enter Tryz.func105, Tryz.ntmps105
    have A0 : Hid (Acts (w.alloc (.cells (pkA pk) 27)) (fun b => H ≤ b) pb pk [] []) := Acts.nil _ _ _ _
    go_wp2_with fail
    refine Calls.mono (mk_endack pb pk (fun _ => False) (w.alloc (.cells (pkA pk) 27)) (fun _ x => x.elim)) ?_
    rintro e w1 ⟨f1, g1, h1, F1, rfl, d1, e1, b1⟩
    have A1 : Hid (Acts w1 (fun b => H ≤ b) pb pk [.l 107] [.func (.func f1) g1 h1]) := A0.out.mk d1 e1 b1 (fun b hb => by rcases hb with x | x; omega; exact x.elim)
    have y1 := b1.size
    have BA1 : Hid (Below w.heap.size w w1) := BA.out.trans (b1.mono (by omega))
    have RB' : Hid (w1.heap[w.heap.size]? = some (.cells (pkA pk) 27 (0, 0))) := (b1.block _ (by omega)).trans RB.out
    have x1_0 : w1.cell? ⟨w.heap.size, 0, none⟩ = some (.int .i64 (pk.1 : Int)) := blk_cell RB'.out
    have x1_1 : w1.cell? ⟨w.heap.size, 1, none⟩ = some (.int .i64 (pk.2.1 : Int)) := blk_cell RB'.out
    have x1_2 : w1.cell? ⟨w.heap.size, 2, none⟩ = some (.string ⟨pk.2.2.toArray⟩) := blk_cell RB'.out
    clear d1 e1 b1
    go_wp2_with fail
    go_ret
    have hA : Below w1.heap.size w1 (w1.alloc (.cells #[.func (.func f1) g1 h1] 113)) := (Below.refl _ _).alloc (Nat.le_refl _) _
    have own := own_built (w := w1) (B := H) (e := 113) (by omega) #[.func (.func f1) g1 h1] (by show 1 ≤ 100; omega)
    exact ⟨_, rfl, acts_own own (A1.out.below hA) (fun _ x => x) (by simp), BA1.out.trans (hA.mono (by have := BA1.out.size; omega))⟩
  · show Calls _ _ _ _ (fun r w' => AtR w w' H pb pk [.l 107] r)
    go_enter Tryz.func105, Tryz.ntmps105
    have A0 : Hid (Acts (w.alloc (.cells (pkA pk) 27)) (fun b => H ≤ b) pb pk [] []) := Acts.nil _ _ _ _
    go_wp2_with fail
    refine Calls.mono (mk_endack pb pk (fun _ => False) (w.alloc (.cells (pkA pk) 27)) (fun _ x => x.elim)) ?_
    rintro e w1 ⟨f1, g1, h1, F1, rfl, d1, e1, b1⟩
    have A1 : Hid (Acts w1 (fun b => H ≤ b) pb pk [.l 107] [.func (.func f1) g1 h1]) := A0.out.mk d1 e1 b1 (fun b hb => by rcases hb with x | x; omega; exact x.elim)
    have y1 := b1.size
    have BA1 : Hid (Below w.heap.size w w1) := BA.out.trans (b1.mono (by omega))
    have RB' : Hid (w1.heap[w.heap.size]? = some (.cells (pkA pk) 27 (0, 0))) := (b1.block _ (by omega)).trans RB.out
    have x1_0 : w1.cell? ⟨w.heap.size, 0, none⟩ = some (.int .i64 (pk.1 : Int)) := blk_cell RB'.out
    have x1_1 : w1.cell? ⟨w.heap.size, 1, none⟩ = some (.int .i64 (pk.2.1 : Int)) := blk_cell RB'.out
    have x1_2 : w1.cell? ⟨w.heap.size, 2, none⟩ = some (.string ⟨pk.2.2.toArray⟩) := blk_cell RB'.out
    clear d1 e1 b1
    go_wp2_with fail
    go_ret
    have hA : Below w1.heap.size w1 (w1.alloc (.cells #[.func (.func f1) g1 h1] 113)) := (Below.refl _ _).alloc (Nat.le_refl _) _
    have own := own_built (w := w1) (B := H) (e := 113) (by omega) #[.func (.func f1) g1 h1] (by show 1 ≤ 100; omega)
    exact ⟨_, rfl, acts_own own (A1.out.below hA) (fun _ x => x) (by simp), BA1.out.trans (hA.mono (by have := BA1.out.size; omega))⟩
  · show Calls _ _ _ _ (fun r w' => AtR w w' H pb pk [.l 107] r)
    go_enter Tryz.func105, Tryz.ntmps105
    have A0 : Hid (Acts (w.alloc (.cells (pkA pk) 27)) (fun b => H ≤ b) pb pk [] []) := Acts.nil _ _ _ _
    go_wp2_with fail
    refine Calls.mono (mk_endack pb pk (fun _ => False) (w.alloc (.cells (pkA pk) 27)) (fun _ x => x.elim)) ?_
    rintro e w1 ⟨f1, g1, h1, F1, rfl, d1, e1, b1⟩
    have A1 : Hid (Acts w1 (fun b => H ≤ b) pb pk [.l 107] [.func (.func f1) g1 h1]) := A0.out.mk d1 e1 b1 (fun b hb => by rcases hb with x | x; omega; exact x.elim)
    have y1 := b1.size
    have BA1 : Hid (Below w.heap.size w w1) := BA.out.trans (b1.mono (by omega))
    have RB' : Hid (w1.heap[w.heap.size]? = some (.cells (pkA pk) 27 (0, 0))) := (b1.block _ (by omega)).trans RB.out
    have x1_0 : w1.cell? ⟨w.heap.size, 0, none⟩ = some (.int .i64 (pk.1 : Int)) := blk_cell RB'.out
    have x1_1 : w1.cell? ⟨w.heap.size, 1, none⟩ = some (.int .i64 (pk.2.1 : Int)) := blk_cell RB'.out
    have x1_2 : w1.cell? ⟨w.heap.size, 2, none⟩ = some (.string ⟨pk.2.2.toArray⟩) := blk_cell RB'.out
    clear d1 e1 b1
    go_wp2_with fail
    go_ret
    have hA : Below w1.heap.size w1 (w1.alloc (.cells #[.func (.func f1) g1 h1] 113)) := (Below.refl _ _).alloc (Nat.le_refl _) _
    have own := own_built (w := w1) (B := H) (e := 113) (by omega) #[.func (.func f1) g1 h1] (by show 1 ≤ 100; omega)
    exact ⟨_, rfl, acts_own own (A1.out.below hA) (fun _ x => x) (by simp), BA1.out.trans (hA.mono (by have := BA1.out.size; omega))⟩
  · show Calls _ _ _ _ (fun r w' => AtR w w' H pb pk [.l 107] r)
    go_enter Tryz.func105, Tryz.ntmps105
    have A0 : Hid (Acts (w.alloc (.cells (pkA pk) 27)) (fun b => H ≤ b) pb pk [] []) := Acts.nil _ _ _ _
    go_wp2_with fail
    refine Calls.mono (mk_endack pb pk (fun _ => False) (w.alloc (.cells (pkA pk) 27)) (fun _ x => x.elim)) ?_
    rintro e w1 ⟨f1, g1, h1, F1, rfl, d1, e1, b1⟩
    have A1 : Hid (Acts w1 (fun b => H ≤ b) pb pk [.l 107] [.func (.func f1) g1 h1]) := A0.out.mk d1 e1 b1 (fun b hb => by rcases hb with x | x; omega; exact x.elim)
    have y1 := b1.size
    have BA1 : Hid (Below w.heap.size w w1) := BA.out.trans (b1.mono (by omega))
    have RB' : Hid (w1.heap[w.heap.size]? = some (.cells (pkA pk) 27 (0, 0))) := (b1.block _ (by omega)).trans RB.out
    have x1_0 : w1.cell? ⟨w.heap.size, 0, none⟩ = some (.int .i64 (pk.1 : Int)) := blk_cell RB'.out
    have x1_1 : w1.cell? ⟨w.heap.size, 1, none⟩ = some (.int .i64 (pk.2.1 : Int)) := blk_cell RB'.out
    have x1_2 : w1.cell? ⟨w.heap.size, 2, none⟩ = some (.string ⟨pk.2.2.toArray⟩) := blk_cell RB'.out
    clear d1 e1 b1
    go_wp2_with fail
    go_ret
    have hA : Below w1.heap.size w1 (w1.alloc (.cells #[.func (.func f1) g1 h1] 113)) := (Below.refl _ _).alloc (Nat.le_refl _) _
    have own := own_built (w := w1) (B := H) (e := 113) (by omega) #[.func (.func f1) g1 h1] (by show 1 ≤ 100; omega)
    exact ⟨_, rfl, acts_own own (A1.out.below hA) (fun _ x => x) (by simp), BA1.out.trans (hA.mono (by have := BA1.out.size; omega))⟩
  · show Calls _ _ _ _ (fun r w' => AtR w w' H pb pk [.l 107] r)
    go_enter Tryz.func105, Tryz.ntmps105
    have A0 : Hid (Acts (w.alloc (.cells (pkA pk) 27)) (fun b => H ≤ b) pb pk [] []) := Acts.nil _ _ _ _
    go_wp2_with fail
    refine Calls.mono (mk_endack pb pk (fun _ => False) (w.alloc (.cells (pkA pk) 27)) (fun _ x => x.elim)) ?_
    rintro e w1 ⟨f1, g1, h1, F1, rfl, d1, e1, b1⟩
    have A1 : Hid (Acts w1 (fun b => H ≤ b) pb pk [.l 107] [.func (.func f1) g1 h1]) := A0.out.mk d1 e1 b1 (fun b hb => by rcases hb with x | x; omega; exact x.elim)
    have y1 := b1.size
    have BA1 : Hid (Below w.heap.size w w1) := BA.out.trans (b1.mono (by omega))
    have RB' : Hid (w1.heap[w.heap.size]? = some (.cells (pkA pk) 27 (0, 0))) := (b1.block _ (by omega)).trans RB.out
    have x1_0 : w1.cell? ⟨w.heap.size, 0, none⟩ = some (.int .i64 (pk.1 : Int)) := blk_cell RB'.out
    have x1_1 : w1.cell? ⟨w.heap.size, 1, none⟩ = some (.int .i64 (pk.2.1 : Int)) := blk_cell RB'.out
    have x1_2 : w1.cell? ⟨w.heap.size, 2, none⟩ = some (.string ⟨pk.2.2.toArray⟩) := blk_cell RB'.out
    clear d1 e1 b1
    go_wp2_with fail
    go_ret
    have hA : Below w1.heap.size w1 (w1.alloc (.cells #[.func (.func f1) g1 h1] 113)) := (Below.refl _ _).alloc (Nat.le_refl _) _
    have own := own_built (w := w1) (B := H) (e := 113) (by omega) #[.func (.func f1) g1 h1] (by show 1 ≤ 100; omega)
    exact ⟨_, rfl, acts_own own (A1.out.below hA) (fun _ x => x) (by simp), BA1.out.trans (hA.mono (by have := BA1.out.size; omega))⟩
  · show Calls _ _ _ _ (fun r w' => AtR w w' H pb pk [.l 107, .l 54] r)
    go_enter Tryz.func105, Tryz.ntmps105
    have A0 : Hid (Acts (w.alloc (.cells (pkA pk) 27)) (fun b => H ≤ b) pb pk [] []) := Acts.nil _ _ _ _
    go_wp2_with fail
    refine Calls.mono (mk_endack pb pk (fun _ => False) (w.alloc (.cells (pkA pk) 27)) (fun _ x => x.elim)) ?_
    rintro e w1 ⟨f1, g1, h1, F1, rfl, d1, e1, b1⟩
    have A1 : Hid (Acts w1 (fun b => H ≤ b) pb pk [.l 107] [.func (.func f1) g1 h1]) := A0.out.mk d1 e1 b1 (fun b hb => by rcases hb with x | x; omega; exact x.elim)
    have y1 := b1.size
    have BA1 : Hid (Below w.heap.size w w1) := BA.out.trans (b1.mono (by omega))
    have RB' : Hid (w1.heap[w.heap.size]? = some (.cells (pkA pk) 27 (0, 0))) := (b1.block _ (by omega)).trans RB.out
    have x1_0 : w1.cell? ⟨w.heap.size, 0, none⟩ = some (.int .i64 (pk.1 : Int)) := blk_cell RB'.out
    have x1_1 : w1.cell? ⟨w.heap.size, 1, none⟩ = some (.int .i64 (pk.2.1 : Int)) := blk_cell RB'.out
    have x1_2 : w1.cell? ⟨w.heap.size, 2, none⟩ = some (.string ⟨pk.2.2.toArray⟩) := blk_cell RB'.out
    clear d1 e1 b1
    go_wp2_with fail
    refine Calls.mono (enter_any pb 6 (by omega) pk (fun _ => False) w1 (fun _ x => x.elim)) ?_
    rintro e w2 ⟨f2, g2, h2, F2, rfl, d2, e2, b2⟩
    have A2 : Hid (Acts w2 (fun b => H ≤ b) pb pk [.l 107, .l 54] [.func (.func f1) g1 h1, .func (.func f2) g2 h2]) := A1.out.mk d2 e2 b2 (fun b hb => by rcases hb with x | x; omega; exact x.elim)
    have y2 := b2.size
    have BA12 : Hid (Below w.heap.size w w2) := BA1.out.trans (b2.mono (by omega))
    have RB'' : Hid (w2.heap[w.heap.size]? = some (.cells (pkA pk) 27 (0, 0))) := (b2.block _ (by omega)).trans RB'.out
    have x2_0 : w2.cell? ⟨w.heap.size, 0, none⟩ = some (.int .i64 (pk.1 : Int)) := blk_cell RB''.out
    have x2_1 : w2.cell? ⟨w.heap.size, 1, none⟩ = some (.int .i64 (pk.2.1 : Int)) := blk_cell RB''.out
    have x2_2 : w2.cell? ⟨w.heap.size, 2, none⟩ = some (.string ⟨pk.2.2.toArray⟩) := blk_cell RB''.out
    clear d2 e2 b2
    go_wp2_with fail
    go_ret
    have hA : Below w2.heap.size w2 (w2.alloc (.cells #[.func (.func f1) g1 h1, .func (.func f2) g2 h2] 113)) := (Below.refl _ _).alloc (Nat.le_refl _) _
    have own := own_built (w := w2) (B := H) (e := 113) (by omega) #[.func (.func f1) g1 h1, .func (.func f2) g2 h2] (by show 2 ≤ 100; omega)
    exact ⟨_, rfl, acts_own own (A2.out.below hA) (fun _ x => x) (by simp), BA12.out.trans (hA.mono (by have := BA12.out.size; omega))⟩
  · show Calls _ _ _ _ (fun r w' => AtR w w' H pb pk [.l 107, .l 54] r)
    go_enter Tryz.func105, Tryz.ntmps105
    have A0 : Hid (Acts (w.alloc (.cells (pkA pk) 27)) (fun b => H ≤ b) pb pk [] []) := Acts.nil _ _ _ _
    go_wp2_with fail
    refine Calls.mono (mk_endack pb pk (fun _ => False) (w.alloc (.cells (pkA pk) 27)) (fun _ x => x.elim)) ?_
    rintro e w1 ⟨f1, g1, h1, F1, rfl, d1, e1, b1⟩
    have A1 : Hid (Acts w1 (fun b => H ≤ b) pb pk [.l 107] [.func (.func f1) g1 h1]) := A0.out.mk d1 e1 b1 (fun b hb => by rcases hb with x | x; omega; exact x.elim)
    have y1 := b1.size
    have BA1 : Hid (Below w.heap.size w w1) := BA.out.trans (b1.mono (by omega))
    have RB' : Hid (w1.heap[w.heap.size]? = some (.cells (pkA pk) 27 (0, 0))) := (b1.block _ (by omega)).trans RB.out
    have x1_0 : w1.cell? ⟨w.heap.size, 0, none⟩ = some (.int .i64 (pk.1 : Int)) := blk_cell RB'.out
    have x1_1 : w1.cell? ⟨w.heap.size, 1, none⟩ = some (.int .i64 (pk.2.1 : Int)) := blk_cell RB'.out
    have x1_2 : w1.cell? ⟨w.heap.size, 2, none⟩ = some (.string ⟨pk.2.2.toArray⟩) := blk_cell RB'.out
    clear d1 e1 b1
    go_wp2_with fail
    refine Calls.mono (enter_any pb 6 (by omega) pk (fun _ => False) w1 (fun _ x => x.elim)) ?_
    rintro e w2 ⟨f2, g2, h2, F2, rfl, d2, e2, b2⟩
    have A2 : Hid (Acts w2 (fun b => H ≤ b) pb pk [.l 107, .l 54] [.func (.func f1) g1 h1, .func (.func f2) g2 h2]) := A1.out.mk d2 e2 b2 (fun b hb => by rcases hb with x | x; omega; exact x.elim)
    have y2 := b2.size
    have BA12 : Hid (Below w.heap.size w w2) := BA1.out.trans (b2.mono (by omega))
    have RB'' : Hid (w2.heap[w.heap.size]? = some (.cells (pkA pk) 27 (0, 0))) := (b2.block _ (by omega)).trans RB'.out
    have x2_0 : w2.cell? ⟨w.heap.size, 0, none⟩ = some (.int .i64 (pk.1 : Int)) := blk_cell RB''.out
    have x2_1 : w2.cell? ⟨w.heap.size, 1, none⟩ = some (.int .i64 (pk.2.1 : Int)) := blk_cell RB''.out
    have x2_2 : w2.cell? ⟨w.heap.size, 2, none⟩ = some (.string ⟨pk.2.2.toArray⟩) := blk_cell RB''.out
    clear d2 e2 b2
    go_wp2_with fail
    go_ret
    have hA : Below w2.heap.size w2 (w2.alloc (.cells #[.func (.func f1) g1 h1, .func (.func f2) g2 h2] 113)) := (Below.refl _ _).alloc (Nat.le_refl _) _
    have own := own_built (w := w2) (B := H) (e := 113) (by omega) #[.func (.func f1) g1 h1, .func (.func f2) g2 h2] (by show 2 ≤ 100; omega)
    exact ⟨_, rfl, acts_own own (A2.out.below hA) (fun _ x => x) (by simp), BA12.out.trans (hA.mono (by have := BA12.out.size; omega))⟩
  · show Calls _ _ _ _ (fun r w' => AtR w w' H pb pk [.l 100, .l 122, .l 107, .l 53] r)
    go_enter Tryz.func105, Tryz.ntmps105
    have A0 : Hid (Acts (w.alloc (.cells (pkA pk) 27)) (fun b => H ≤ b) pb pk [] []) := Acts.nil _ _ _ _
    have A1 : Hid (Acts (w.alloc (.cells (pkA pk) 27)) (fun b => H ≤ b) pb pk [.l 100] [methV pb 92]) := A0.out.me a_tellDown trivial
    have A2 : Hid (Acts (w.alloc (.cells (pkA pk) 27)) (fun b => H ≤ b) pb pk [.l 100, .l 122] [methV pb 92, methV pb 140]) := A1.out.me a_countNone trivial
    go_wp2_with fail
    refine Calls.mono (mk_endack pb pk (fun _ => False) (w.alloc (.cells (pkA pk) 27)) (fun _ x => x.elim)) ?_
    rintro e w1 ⟨f1, g1, h1, F1, rfl, d1, e1, b1⟩
    have A3 : Hid (Acts w1 (fun b => H ≤ b) pb pk [.l 100, .l 122, .l 107] [methV pb 92, methV pb 140, .func (.func f1) g1 h1]) := A2.out.mk d1 e1 b1 (fun b hb => by rcases hb with x | x; omega; exact x.elim)
    have y1 := b1.size
    have BA1 : Hid (Below w.heap.size w w1) := BA.out.trans (b1.mono (by omega))
    have RB' : Hid (w1.heap[w.heap.size]? = some (.cells (pkA pk) 27 (0, 0))) := (b1.block _ (by omega)).trans RB.out
    have x1_0 : w1.cell? ⟨w.heap.size, 0, none⟩ = some (.int .i64 (pk.1 : Int)) := blk_cell RB'.out
    have x1_1 : w1.cell? ⟨w.heap.size, 1, none⟩ = some (.int .i64 (pk.2.1 : Int)) := blk_cell RB'.out
    have x1_2 : w1.cell? ⟨w.heap.size, 2, none⟩ = some (.string ⟨pk.2.2.toArray⟩) := blk_cell RB'.out
    clear d1 e1 b1
    go_wp2_with fail
    refine Calls.mono (enter_any pb 5 (by omega) pk (fun _ => False) w1 (fun _ x => x.elim)) ?_
    rintro e w2 ⟨f2, g2, h2, F2, rfl, d2, e2, b2⟩
    have A4 : Hid (Acts w2 (fun b => H ≤ b) pb pk [.l 100, .l 122, .l 107, .l 53] [methV pb 92, methV pb 140, .func (.func f1) g1 h1, .func (.func f2) g2 h2]) := A3.out.mk d2 e2 b2 (fun b hb => by rcases hb with x | x; omega; exact x.elim)
    have y2 := b2.size
    have BA12 : Hid (Below w.heap.size w w2) := BA1.out.trans (b2.mono (by omega))
    have RB'' : Hid (w2.heap[w.heap.size]? = some (.cells (pkA pk) 27 (0, 0))) := (b2.block _ (by omega)).trans RB'.out
    have x2_0 : w2.cell? ⟨w.heap.size, 0, none⟩ = some (.int .i64 (pk.1 : Int)) := blk_cell RB''.out
    have x2_1 : w2.cell? ⟨w.heap.size, 1, none⟩ = some (.int .i64 (pk.2.1 : Int)) := blk_cell RB''.out
    have x2_2 : w2.cell? ⟨w.heap.size, 2, none⟩ = some (.string ⟨pk.2.2.toArray⟩) := blk_cell RB''.out
    clear d2 e2 b2
    go_wp2_with fail
    go_ret
    have hA : Below w2.heap.size w2 (w2.alloc (.cells #[methV pb 92, methV pb 140, .func (.func f1) g1 h1, .func (.func f2) g2 h2] 113)) := (Below.refl _ _).alloc (Nat.le_refl _) _
    have own := own_built (w := w2) (B := H) (e := 113) (by omega) #[methV pb 92, methV pb 140, .func (.func f1) g1 h1, .func (.func f2) g2 h2] (by show 4 ≤ 100; omega)
    exact ⟨_, rfl, acts_own own (A4.out.below hA) (fun _ x => x) (by simp), BA12.out.trans (hA.mono (by have := BA12.out.size; omega))⟩
def row_atEndAck : List (List PA) := [[], [], [], [], [.l 102, .l 50], [.l 102, .l 51], [], [.l 54], [], [.l 100, .l 114, .l 54]]
set_option maxRecDepth 100000 in
set_option maxHeartbeats 8000000 in
theorem patEndAck (pb st H : Nat) (pk : Pk) (w : World) (hst : st < 10) (_hlt : pb < w.heap.size) (hH : H ≤ w.heap.size) (c14 : w.cell? ⟨pb, 14, none⟩ = some (.int .i64 (st : Int))) :
    Calls Tryz.prog 106 #[.pointer (some ⟨pb, 0, none⟩)] w fun r w' => AtR w w' H pb pk ((row_atEndAck).getD st []) r := by
  have hmf : ∀ (fn : Fn) (first cap : Array Value) (w : World), (Instr.makeFunc fn first cap).run Tryz.prog w = .ok (.func fn first cap) w := fun _ _ _ _ => rfl
  obtain ⟨i0, hi, hz0, hz1, hz2⟩ := info_parts Tryz.infoFn
  have BA : Hid (Below w.heap.size w w) := Below.refl _ _
  have z0 : w.heap.size = w.heap.size := rfl
  rcases (by omega : st = 0 ∨ st = 1 ∨ st = 2 ∨ st = 3 ∨ st = 4 ∨ st = 5 ∨ st = 6 ∨ st = 7 ∨ st = 8 ∨ st = 9) with rfl | rfl | rfl | rfl | rfl | rfl | rfl | rfl | rfl | rfl
  · show Calls _ _ _ _ (fun r w' => AtR w w' H pb pk [] r)
    go_enter Tryz.func106, Tryz.ntmps106
    go_wp2_with fail
    go_ret
    exact ⟨_, rfl, acts_nil _ _ _ _, BA.out⟩
  · show Calls _ _ _ _ (fun r w' => AtR w w' H pb pk [] r)
    go_enter Tryz.func106, Tryz.ntmps106
    go_wp2_with fail
    go_ret
    exact ⟨_, rfl, acts_nil _ _ _ _, BA.out⟩
  · show Calls _ _ _ _ (fun r w' => AtR w w' H pb pk [] r)
    go_enter Tryz.func106, Tryz.ntmps106
    go_wp2_with fail
    go_ret
    exact ⟨_, rfl, acts_nil _ _ _ _, BA.out⟩
  · show Calls _ _ _ _ (fun r w' => AtR w w' H pb pk [] r)
    go_enter Tryz.func106, Tryz.ntmps106
    go_wp2_with fail
    go_ret
    exact ⟨_, rfl, acts_nil _ _ _ _, BA.out⟩
  · show Calls _ _ _ _ (fun r w' => AtR w w' H pb pk [.l 102, .l 50] r)
    go_enter Tryz.func106, Tryz.ntmps106
    have A0 : Hid (Acts w (fun b => H ≤ b) pb pk [] []) := Acts.nil _ _ _ _
    have A1 : Hid (Acts w (fun b => H ≤ b) pb pk [.l 102] [methV pb 93]) := A0.out.me a_tellFinish trivial
    go_wp2_with fail
    refine Calls.mono (enter_any pb 2 (by omega) pk (fun _ => False) w (fun _ x => x.elim)) ?_
    rintro e w1 ⟨f1, g1, h1, F1, rfl, d1, e1, b1⟩
    have A2 : Hid (Acts w1 (fun b => H ≤ b) pb pk [.l 102, .l 50] [methV pb 93, .func (.func f1) g1 h1]) := A1.out.mk d1 e1 b1 (fun b hb => by rcases hb with x | x; omega; exact x.elim)
    have y1 := b1.size
    have BA1 : Hid (Below w.heap.size w w1) := BA.out.trans (b1.mono (by omega))
    clear d1 e1 b1
    go_wp2_with fail
    go_ret
    have hA : Below w1.heap.size w1 (w1.alloc (.cells #[methV pb 93, .func (.func f1) g1 h1] 113)) := (Below.refl _ _).alloc (Nat.le_refl _) _
    have own := own_built (w := w1) (B := H) (e := 113) (by omega) #[methV pb 93, .func (.func f1) g1 h1] (by show 2 ≤ 100; omega)
    exact ⟨_, rfl, acts_own own (A2.out.below hA) (fun _ x => x) (by simp), BA1.out.trans (hA.mono (by have := BA1.out.size; omega))⟩
  · show Calls _ _ _ _ (fun r w' => AtR w w' H pb pk [.l 102, .l 51] r)
    go_enter Tryz.func106, Tryz.ntmps106
    have A0 : Hid (Acts w (fun b => H ≤ b) pb pk [] []) := Acts.nil _ _ _ _
    have A1 : Hid (Acts w (fun b => H ≤ b) pb pk [.l 102] [methV pb 93]) := A0.out.me a_tellFinish trivial
    go_wp2_with fail
    refine Calls.mono (enter_any pb 3 (by omega) pk (fun _ => False) w (fun _ x => x.elim)) ?_
    rintro e w1 ⟨f1, g1, h1, F1, rfl, d1, e1, b1⟩
    have A2 : Hid (Acts w1 (fun b => H ≤ b) pb pk [.l 102, .l 51] [methV pb 93, .func (.func f1) g1 h1]) := A1.out.mk d1 e1 b1 (fun b hb => by rcases hb with x | x; omega; exact x.elim)
    have y1 := b1.size
    have BA1 : Hid (Below w.heap.size w w1) := BA.out.trans (b1.mono (by omega))
    clear d1 e1 b1
    go_wp2_with fail
    go_ret
    have hA : Below w1.heap.size w1 (w1.alloc (.cells #[methV pb 93, .func (.func f1) g1 h1] 113)) := (Below.refl _ _).alloc (Nat.le_refl _) _
    have own := own_built (w := w1) (B := H) (e := 113) (by omega) #[methV pb 93, .func (.func f1) g1 h1] (by show 2 ≤ 100; omega)
    exact ⟨_, rfl, acts_own own (A2.out.below hA) (fun _ x => x) (by simp), BA1.out.trans (hA.mono (by have := BA1.out.size; omega))⟩
  · show Calls _ _ _ _ (fun r w' => AtR w w' H pb pk [] r)
    go_enter Tryz.func106, Tryz.ntmps106
    go_wp2_with fail
    go_ret
    exact ⟨_, rfl, acts_nil _ _ _ _, BA.out⟩
  · show Calls _ _ _ _ (fun r w' => AtR w w' H pb pk [.l 54] r)
    go_enter Tryz.func106, Tryz.ntmps106
    have A0 : Hid (Acts w (fun b => H ≤ b) pb pk [] []) := Acts.nil _ _ _ _
    go_wp2_with fail
    refine Calls.mono (enter_any pb 6 (by omega) pk (fun _ => False) w (fun _ x => x.elim)) ?_
    rintro e w1 ⟨f1, g1, h1, F1, rfl, d1, e1, b1⟩
    have A1 : Hid (Acts w1 (fun b => H ≤ b) pb pk [.l 54] [.func (.func f1) g1 h1]) := A0.out.mk d1 e1 b1 (fun b hb => by rcases hb with x | x; omega; exact x.elim)
    have y1 := b1.size
    have BA1 : Hid (Below w.heap.size w w1) := BA.out.trans (b1.mono (by omega))
    clear d1 e1 b1
    go_wp2_with (at_builtin; go_must (refine wpList_append_lies _ rfl (.tmp 30) (.tmp 33) 85 rfl H 113 i0 .nilFunc 1 8 Tryz.underlying85 hi hz0 hz1 hz2 rfl (by decide) _ 0 [] rfl (World.ownsRow_nil _ _ _ _) ⟨w1.heap.size, 0, none⟩ 1 1 [.func (.func f1) g1 h1] rfl rfl (newsL _ #[.func (.func f1) g1 h1] _ _ rfl) (by intro u hu; simp at hu; rcases hu with rfl <;> rfl) (by omega) (by unfold maxLen; omega) (by omega) (by simp; omega) _ rfl ?_; intro gv capv wz hown1 hgrow1 hat1 hlt1))
    go_ret
    have tq := tch_grown hgrow1
    have off : ∀ b, ¬ (Value.slice none 0 0).ownBlock = some b := fun b e => by simp [Value.ownBlock] at e
    exact ⟨_, rfl, acts_own hown1 (A1.out.tch tq (fun b _ => off b)) (fun _ x => x) (by simp), BA1.out.trans (tq.below BA1.out.size (fun b hb => (off b hb).elim))⟩
  · show Calls _ _ _ _ (fun r w' => AtR w w' H pb pk [] r)
    go_enter Tryz.func106, Tryz.ntmps106
    go_wp2_with fail
    go_ret
    exact ⟨_, rfl, acts_nil _ _ _ _, BA.out⟩
  · show Calls _ _ _ _ (fun r w' => AtR w w' H pb pk [.l 100, .l 114, .l 54] r)
    go_enter Tryz.func106, Tryz.ntmps106
    go_wp2_with fail
    have W0 : Hid ((w.alloc (.cells #[methV pb 92, methV pb 90] 113)).ownsRow H 113 1 (.slice (some ⟨w.heap.size, 0, none⟩) 2 2) 2 [methV pb 92, methV pb 90]) := by
      have := own_built (w := w) (B := H) (e := 113) (by omega) #[methV pb 92, methV pb 90] (by show 2 ≤ 100; omega)
      exact this
    have zA : (w.alloc (.cells #[methV pb 92, methV pb 90] 113)).heap.size = w.heap.size + 1 := by simp
    have BB : Hid (Below w.heap.size w (w.alloc (.cells #[methV pb 92, methV pb 90] 113))) := BA.out.trans (((Below.refl _ _).alloc (Nat.le_refl _) _).mono (by omega))
    generalize (w.alloc (.cells #[methV pb 92, methV pb 90] 113)) = WA at *
    have A0 : Hid (Acts WA (fun b => H ≤ b ∧ b ≠ w.heap.size) pb pk [.l 100, .l 114] [methV pb 92, methV pb 90]) := ((Acts.nil _ _ _ _).me a_tellDown trivial).me a_sendRequest trivial
    go_wp2_with fail
    refine Calls.mono (enter_any pb 6 (by omega) pk (fun _ => False) WA (fun _ x => x.elim)) ?_
    rintro e w1 ⟨f1, g1, h1, F1, rfl, d1, e1, b1⟩
    have A1 : Hid (Acts w1 (fun b => H ≤ b ∧ b ≠ w.heap.size) pb pk [.l 100, .l 114, .l 54] [methV pb 92, methV pb 90, .func (.func f1) g1 h1]) := A0.out.mk d1 e1 b1 (fun b hb => by rcases hb with x | x; omega; exact x.elim)
    have y1 := b1.size
    have BB1 : Hid (Below w.heap.size w w1) := BB.out.trans (b1.mono (by omega))
    have W1 : Hid (w1.ownsRow H 113 1 (.slice (some ⟨w.heap.size, 0, none⟩) 2 2) 2 [methV pb 92, methV pb 90]) := owns_below W0.out b1
    clear d1 e1 b1
    go_wp2_with (at_builtin; go_must (refine wpList_append_lies _ rfl (.tmp 30) (.tmp 33) 85 rfl H 113 i0 .nilFunc 1 8 Tryz.underlying85 hi hz0 hz1 hz2 rfl (by decide) _ 2 [methV pb 92, methV pb 90] rfl (W1.out.alloc _) ⟨w1.heap.size, 0, none⟩ 1 1 [.func (.func f1) g1 h1] rfl rfl (newsL _ #[.func (.func f1) g1 h1] _ _ rfl) (by intro u hu; simp at hu; rcases hu with rfl <;> rfl) (by omega) (by unfold maxLen; omega) (by omega) (by simp; omega) _ rfl ?_; intro gv capv wz hown1 hgrow1 hat1 hlt1))
    go_ret
    have tq := tch_grown hgrow1
    have off : ∀ b, (Value.slice (some ⟨w.heap.size, 0, none⟩) 2 2).ownBlock = some b → b = w.heap.size := fun b e => (Option.some.inj e).symm
    exact ⟨_, rfl, acts_own hown1 (A1.out.tch tq (fun b hb x => hb.2 (off b x))) (fun _ x => x.1) (by simp), BB1.out.trans (tq.below BB1.out.size (fun b hb => by rw [off b hb]; omega))⟩
def row_atUnknownCode : List (List PA) := [[], [], [.l 106], [.l 106], [.l 106], [.l 106], [.l 106], [.l 106], [.l 106], [.l 106]]
set_option maxRecDepth 100000 in
set_option maxHeartbeats 8000000 in
theorem patUnknownCode (pb st H : Nat) (pk : Pk) (w : World) (hst : st < 10) (hlt : pb < w.heap.size) (hH : H ≤ w.heap.size) (c14 : w.cell? ⟨pb, 14, none⟩ = some (.int .i64 (st : Int))) :
    Calls Tryz.prog 109 #[.pointer (some ⟨pb, 0, none⟩), .agg (pkA pk)] w fun r w' => AtR w w' H pb pk ((row_atUnknownCode).getD st []) r := by
  have hmf : ∀ (fn : Fn) (first cap : Array Value) (w : World), (Instr.makeFunc fn first cap).run Tryz.prog w = .ok (.func fn first cap) w := fun _ _ _ _ => rfl
  obtain ⟨i0, hi, hz0, hz1, hz2⟩ := info_parts Tryz.infoFn
  have BA : Hid (Below w.heap.size w (w.alloc (.cells (pkA pk) 27))) := (Below.refl _ _).alloc (Nat.le_refl _) _
  have cA : (w.alloc (.cells (pkA pk) 27)).cell? ⟨pb, 14, none⟩ = some (.int .i64 (st : Int)) := (BA.out.cell (p := ⟨pb, 14, none⟩) hlt).trans c14
  have RB : Hid ((w.alloc (.cells (pkA pk) 27)).heap[w.heap.size]? = some (.cells (pkA pk) 27 (0, 0))) := heap_alloc_new w _
  have z0 : (w.alloc (.cells (pkA pk) 27)).heap.size = w.heap.size + 1 := by simp
  rcases (by omega : st = 0 ∨ st = 1 ∨ st = 2 ∨ st = 3 ∨ st = 4 ∨ st = 5 ∨ st = 6 ∨ st = 7 ∨ st = 8 ∨ st = 9) with rfl | rfl | rfl | rfl | rfl | rfl | rfl | rfl | rfl | rfl
  · show Calls _ _ _ _ (fun r w' => AtR w w' H pb pk [] r)
    go_enter Tryz.func109, Tryz.ntmps109
    go_wp2_with fail
    go_ret
    exact ⟨_, rfl, acts_nil _ _ _ _, BA.out⟩
  · show Calls _ _ _ _ (fun r w' => AtR w w' H pb pk [] r)
    go_enter Tryz.func109, Tryz.ntmps109
    go_wp2_with fail
    go_ret
    exact ⟨_, rfl, acts_nil _ _ _ _, BA.out⟩
  · show Calls _ _ _ _ (fun r w' => AtR w w' H pb pk [.l 106] r)
    go_enter Tryz.func109, Tryz.ntmps109
    have A0 : Hid (Acts (w.alloc (.cells (pkA pk) 27)) (fun b => H ≤ b) pb pk [] []) := Acts.nil _ _ _ _
    go_wp2_with fail
    refine Calls.mono (mk_unknown pb pk (fun _ => False) (w.alloc (.cells (pkA pk) 27)) (fun _ x => x.elim)) ?_
    rintro e w1 ⟨f1, g1, h1, F1, rfl, d1, e1, b1⟩
    have A1 : Hid (Acts w1 (fun b => H ≤ b) pb pk [.l 106] [.func (.func f1) g1 h1]) := A0.out.mk d1 e1 b1 (fun b hb => by rcases hb with x | x; omega; exact x.elim)
    have y1 := b1.size
    have BA1 : Hid (Below w.heap.size w w1) := BA.out.trans (b1.mono (by omega))
    have RB' : Hid (w1.heap[w.heap.size]? = some (.cells (pkA pk) 27 (0, 0))) := (b1.block _ (by omega)).trans RB.out
    have x1_0 : w1.cell? ⟨w.heap.size, 0, none⟩ = some (.int .i64 (pk.1 : Int)) := blk_cell RB'.out
    have x1_1 : w1.cell? ⟨w.heap.size, 1, none⟩ = some (.int .i64 (pk.2.1 : Int)) := blk_cell RB'.out
    have x1_2 : w1.cell? ⟨w.heap.size, 2, none⟩ = some (.string ⟨pk.2.2.toArray⟩) := blk_cell RB'.out
    clear d1 e1 b1
    go_wp2_with fail
    go_ret
    have hA : Below w1.heap.size w1 (w1.alloc (.cells #[.func (.func f1) g1 h1] 113)) := (Below.refl _ _).alloc (Nat.le_refl _) _
    have own := own_built (w := w1) (B := H) (e := 113) (by omega) #[.func (.func f1) g1 h1] (by show 1 ≤ 100; omega)
    exact ⟨_, rfl, acts_own own (A1.out.below hA) (fun _ x => x) (by simp), BA1.out.trans (hA.mono (by have := BA1.out.size; omega))⟩
  · show Calls _ _ _ _ (fun r w' => AtR w w' H pb pk [.l 106] r)
    go_enter Tryz.func109, Tryz.ntmps109
    have A0 : Hid (Acts (w.alloc (.cells (pkA pk) 27)) (fun b => H ≤ b) pb pk [] []) := Acts.nil _ _ _ _
    go_wp2_with fail
    refine Calls.mono (mk_unknown pb pk (fun _ => False) (w.alloc (.cells (pkA pk) 27)) (fun _ x => x.elim)) ?_
    rintro e w1 ⟨f1, g1, h1, F1, rfl, d1, e1, b1⟩
    have A1 : Hid (Acts w1 (fun b => H ≤ b) pb pk [.l 106] [.func (.func f1) g1 h1]) := A0.out.mk d1 e1 b1 (fun b hb => by rcases hb with x | x; omega; exact x.elim)
    have y1 := b1.size
    have BA1 : Hid (Below w.heap.size w w1) := BA.out.trans (b1.mono (by omega))
    have RB' : Hid (w1.heap[w.heap.size]? = some (.cells (pkA pk) 27 (0, 0))) := (b1.block _ (by omega)).trans RB.out
    have x1_0 : w1.cell? ⟨w.heap.size, 0, none⟩ = some (.int .i64 (pk.1 : Int)) := blk_cell RB'.out
    have x1_1 : w1.cell? ⟨w.heap.size, 1, none⟩ = some (.int .i64 (pk.2.1 : Int)) := blk_cell RB'.out
    have x1_2 : w1.cell? ⟨w.heap.size, 2, none⟩ = some (.string ⟨pk.2.2.toArray⟩) := blk_cell RB'.out
    clear d1 e1 b1
    go_wp2_with fail
    go_ret
    have hA : Below w1.heap.size w1 (w1.alloc (.cells #[.func (.func f1) g1 h1] 113)) := (Below.refl _ _).alloc (Nat.le_refl _) _
    have own := own_built (w := w1) (B := H) (e := 113) (by omega) #[.func (.func f1) g1 h1] (by show 1 ≤ 100; omega)
    exact ⟨_, rfl, acts_own own (A1.out.below hA) (fun _ x => x) (by simp), BA1.out.trans (hA.mono (by have := BA1.out.size; omega))⟩
  · show Calls _ _ _ _ (fun r w' => AtR w w' H pb pk [.l 106] r)
    go_enter Tryz.func109, Tryz.ntmps109
    have A0 : Hid (Acts (w.alloc (.cells (pkA pk) 27)) (fun b => H ≤ b) pb pk [] []) := Acts.nil _ _ _ _
    go_wp2_with fail
    refine Calls.mono (mk_unknown pb pk (fun _ => False) (w.alloc (.cells (pkA pk) 27)) (fun _ x => x.elim)) ?_
    rintro e w1 ⟨f1, g1, h1, F1, rfl, d1, e1, b1⟩
    have A1 : Hid (Acts w1 (fun b => H ≤ b) pb pk [.l 106] [.func (.func f1) g1 h1]) := A0.out.mk d1 e1 b1 (fun b hb => by rcases hb with x | x; omega; exact x.elim)
    have y1 := b1.size
    have BA1 : Hid (Below w.heap.size w w1) := BA.out.trans (b1.mono (by omega))
    have RB' : Hid (w1.heap[w.heap.size]? = some (.cells (pkA pk) 27 (0, 0))) := (b1.block _ (by omega)).trans RB.out
    have x1_0 : w1.cell? ⟨w.heap.size, 0, none⟩ = some (.int .i64 (pk.1 : Int)) := blk_cell RB'.out
    have x1_1 : w1.cell? ⟨w.heap.size, 1, none⟩ = some (.int .i64 (pk.2.1 : Int)) := blk_cell RB'.out
    have x1_2 : w1.cell? ⟨w.heap.size, 2, none⟩ = some (.string ⟨pk.2.2.toArray⟩) := blk_cell RB'.out
    clear d1 e1 b1
    go_wp2_with fail
    go_ret
    have hA : Below w1.heap.size w1 (w1.alloc (.cells #[.func (.func f1) g1 h1] 113)) := (Below.refl _ _).alloc (Nat.le_refl _) _
    have own := own_built (w := w1) (B := H) (e := 113) (by omega) #[.func (.func f1) g1 h1] (by show 1 ≤ 100; omega)
    exact ⟨_, rfl, acts_own own (A1.out.below hA) (fun _ x => x) (by simp), BA1.out.trans (hA.mono (by have := BA1.out.size; omega))⟩
  · show Calls _ _ _ _ (fun r w' => AtR w w' H pb pk [.l 106] r)
    go_enter Tryz.func109, Tryz.ntmps109
    have A0 : Hid (Acts (w.alloc (.cells (pkA pk) 27)) (fun b => H ≤ b) pb pk [] []) := Acts.nil _ _ _ _
    go_wp2_with fail
    refine Calls.mono (mk_unknown pb pk (fun _ => False) (w.alloc (.cells (pkA pk) 27)) (fun _ x => x.elim)) ?_
    rintro e w1 ⟨f1, g1, h1, F1, rfl, d1, e1, b1⟩
    have A1 : Hid (Acts w1 (fun b => H ≤ b) pb pk [.l 106] [.func (.func f1) g1 h1]) := A0.out.mk d1 e1 b1 (fun b hb => by rcases hb with x | x; omega; exact x.elim)
    have y1 := b1.size
    have BA1 : Hid (Below w.heap.size w w1) := BA.out.trans (b1.mono (by omega))
    have RB' : Hid (w1.heap[w.heap.size]? = some (.cells (pkA pk) 27 (0, 0))) := (b1.block _ (by omega)).trans RB.out
    have x1_0 : w1.cell? ⟨w.heap.size, 0, none⟩ = some (.int .i64 (pk.1 : Int)) := blk_cell RB'.out
    have x1_1 : w1.cell? ⟨w.heap.size, 1, none⟩ = some (.int .i64 (pk.2.1 : Int)) := blk_cell RB'.out
    have x1_2 : w1.cell? ⟨w.heap.size, 2, none⟩ = some (.string ⟨pk.2.2.toArray⟩) := blk_cell RB'.out
    clear d1 e1 b1
    go_wp2_with fail
    go_ret
    have hA : Below w1.heap.size w1 (w1.alloc (.cells #[.func (.func f1) g1 h1] 113)) := (Below.refl _ _).alloc (Nat.le_refl _) _
    have own := own_built (w := w1) (B := H) (e := 113) (by omega) #[.func (.func f1) g1 h1] (by show 1 ≤ 100; omega)
    exact ⟨_, rfl, acts_own own (A1.out.below hA) (fun _ x => x) (by simp), BA1.out.trans (hA.mono (by have := BA1.out.size; omega))⟩
  · show Calls _ _ _ _ (fun r w' => AtR w w' H pb pk [.l 106] r)
    go_enter Tryz.func109, Tryz.ntmps109
    have A0 : Hid (Acts (w.alloc (.cells (pkA pk) 27)) (fun b => H ≤ b) pb pk [] []) := Acts.nil _ _ _ _
    go_wp2_with fail
    refine Calls.mono (mk_unknown pb pk (fun _ => False) (w.alloc (.cells (pkA pk) 27)) (fun _ x => x.elim)) ?_
    rintro e w1 ⟨f1, g1, h1, F1, rfl, d1, e1, b1⟩
    have A1 : Hid (Acts w1 (fun b => H ≤ b) pb pk [.l 106] [.func (.func f1) g1 h1]) := A0.out.mk d1 e1 b1 (fun b hb => by rcases hb with x | x; omega; exact x.elim)
    have y1 := b1.size
    have BA1 : Hid (Below w.heap.size w w1) := BA.out.trans (b1.mono (by omega))
    have RB' : Hid (w1.heap[w.heap.size]? = some (.cells (pkA pk) 27 (0, 0))) := (b1.block _ (by omega)).trans RB.out
    have x1_0 : w1.cell? ⟨w.heap.size, 0, none⟩ = some (.int .i64 (pk.1 : Int)) := blk_cell RB'.out
    have x1_1 : w1.cell? ⟨w.heap.size, 1, none⟩ = some (.int .i64 (pk.2.1 : Int)) := blk_cell RB'.out
    have x1_2 : w1.cell? ⟨w.heap.size, 2, none⟩ = some (.string ⟨pk.2.2.toArray⟩) := blk_cell RB'.out
    clear d1 e1 b1
    go_wp2_with fail
    go_ret
    have hA : Below w1.heap.size w1 (w1.alloc (.cells #[.func (.func f1) g1 h1] 113)) := (Below.refl _ _).alloc (Nat.le_refl _) _
    have own := own_built (w := w1) (B := H) (e := 113) (by omega) #[.func (.func f1) g1 h1] (by show 1 ≤ 100; omega)
    exact ⟨_, rfl, acts_own own (A1.out.below hA) (fun _ x => x) (by simp), BA1.out.trans (hA.mono (by have := BA1.out.size; omega))⟩
  · show Calls _ _ _ _ (fun r w' => AtR w w' H pb pk [.l 106] r)
    go_enter Tryz.func109, Tryz.ntmps109
    have A0 : Hid (Acts (w.alloc (.cells (pkA pk) 27)) (fun b => H ≤ b) pb pk [] []) := Acts.nil _ _ _ _
    go_wp2_with fail
    refine Calls.mono (mk_unknown pb pk (fun _ => False) (w.alloc (.cells (pkA pk) 27)) (fun _ x => x.elim)) ?_
    rintro e w1 ⟨f1, g1, h1, F1, rfl, d1, e1, b1⟩
    have A1 : Hid (Acts w1 (fun b => H ≤ b) pb pk [.l 106] [.func (.func f1) g1 h1]) := A0.out.mk d1 e1 b1 (fun b hb => by rcases hb with x | x; omega; exact x.elim)
    have y1 := b1.size
    have BA1 : Hid (Below w.heap.size w w1) := BA.out.trans (b1.mono (by omega))
    have RB' : Hid (w1.heap[w.heap.size]? = some (.cells (pkA pk) 27 (0, 0))) := (b1.block _ (by omega)).trans RB.out
    have x1_0 : w1.cell? ⟨w.heap.size, 0, none⟩ = some (.int .i64 (pk.1 : Int)) := blk_cell RB'.out
    have x1_1 : w1.cell? ⟨w.heap.size, 1, none⟩ = some (.int .i64 (pk.2.1 : Int)) := blk_cell RB'.out
    have x1_2 : w1.cell? ⟨w.heap.size, 2, none⟩ = some (.string ⟨pk.2.2.toArray⟩) := blk_cell RB'.out
    clear d1 e1 b1
    go_wp2_with fail
    go_ret
    have hA : Below w1.heap.size w1 (w1.alloc (.cells #[.func (.func f1) g1 h1] 113)) := (Below.refl _ _).alloc (Nat.le_refl _) _
    have own := own_built (w := w1) (B := H) (e := 113) (by omega) #[.func (.func f1) g1 h1] (by show 1 ≤ 100; omega)
    exact ⟨_, rfl, acts_own own (A1.out.below hA) (fun _ x => x) (by simp), BA1.out.trans (hA.mono (by have := BA1.out.size; omega))⟩
  · show Calls _ _ _ _ (fun r w' => AtR w w' H pb pk [.l 106] r)
    go_enter Tryz.func109, Tryz.ntmps109
    have A0 : Hid (Acts (w.alloc (.cells (pkA pk) 27)) (fun b => H ≤ b) pb pk [] []) := Acts.nil _ _ _ _
    go_wp2_with fail
    refine Calls.mono (mk_unknown pb pk (fun _ => False) (w.alloc (.cells (pkA pk) 27)) (fun _ x => x.elim)) ?_
    rintro e w1 ⟨f1, g1, h1, F1, rfl, d1, e1, b1⟩
    have A1 : Hid (Acts w1 (fun b => H ≤ b) pb pk [.l 106] [.func (.func f1) g1 h1]) := A0.out.mk d1 e1 b1 (fun b hb => by rcases hb with x | x; omega; exact x.elim)
    have y1 := b1.size
    have BA1 : Hid (Below w.heap.size w w1) := BA.out.trans (b1.mono (by omega))
    have RB' : Hid (w1.heap[w.heap.size]? = some (.cells (pkA pk) 27 (0, 0))) := (b1.block _ (by omega)).trans RB.out
    have x1_0 : w1.cell? ⟨w.heap.size, 0, none⟩ = some (.int .i64 (pk.1 : Int)) := blk_cell RB'.out
    have x1_1 : w1.cell? ⟨w.heap.size, 1, none⟩ = some (.int .i64 (pk.2.1 : Int)) := blk_cell RB'.out
    have x1_2 : w1.cell? ⟨w.heap.size, 2, none⟩ = some (.string ⟨pk.2.2.toArray⟩) := blk_cell RB'.out
    clear d1 e1 b1
    go_wp2_with fail
    go_ret
    have hA : Below w1.heap.size w1 (w1.alloc (.cells #[.func (.func f1) g1 h1] 113)) := (Below.refl _ _).alloc (Nat.le_refl _) _
    have own := own_built (w := w1) (B := H) (e := 113) (by omega) #[.func (.func f1) g1 h1] (by show 1 ≤ 100; omega)
    exact ⟨_, rfl, acts_own own (A1.out.below hA) (fun _ x => x) (by simp), BA1.out.trans (hA.mono (by have := BA1.out.size; omega))⟩
  · show Calls _ _ _ _ (fun r w' => AtR w w' H pb pk [.l 106] r)
    go_enter Tryz.func109, Tryz.ntmps109
    have A0 : Hid (Acts (w.alloc (.cells (pkA pk) 27)) (fun b => H ≤ b) pb pk [] []) := Acts.nil _ _ _ _
    go_wp2_with fail
    refine Calls.mono (mk_unknown pb pk (fun _ => False) (w.alloc (.cells (pkA pk) 27)) (fun _ x => x.elim)) ?_
    rintro e w1 ⟨f1, g1, h1, F1, rfl, d1, e1, b1⟩
    have A1 : Hid (Acts w1 (fun b => H ≤ b) pb pk [.l 106] [.func (.func f1) g1 h1]) := A0.out.mk d1 e1 b1 (fun b hb => by rcases hb with x | x; omega; exact x.elim)
    have y1 := b1.size
    have BA1 : Hid (Below w.heap.size w w1) := BA.out.trans (b1.mono (by omega))
    have RB' : Hid (w1.heap[w.heap.size]? = some (.cells (pkA pk) 27 (0, 0))) := (b1.block _ (by omega)).trans RB.out
    have x1_0 : w1.cell? ⟨w.heap.size, 0, none⟩ = some (.int .i64 (pk.1 : Int)) := blk_cell RB'.out
    have x1_1 : w1.cell? ⟨w.heap.size, 1, none⟩ = some (.int .i64 (pk.2.1 : Int)) := blk_cell RB'.out
    have x1_2 : w1.cell? ⟨w.heap.size, 2, none⟩ = some (.string ⟨pk.2.2.toArray⟩) := blk_cell RB'.out
    clear d1 e1 b1
    go_wp2_with fail
    go_ret
    have hA : Below w1.heap.size w1 (w1.alloc (.cells #[.func (.func f1) g1 h1] 113)) := (Below.refl _ _).alloc (Nat.le_refl _) _
    have own := own_built (w := w1) (B := H) (e := 113) (by omega) #[.func (.func f1) g1 h1] (by show 1 ≤ 100; omega)
    exact ⟨_, rfl, acts_own own (A1.out.below hA) (fun _ x => x) (by simp), BA1.out.trans (hA.mono (by have := BA1.out.size; omega))⟩
def row_atOtherUnknown : List (List PA) := [[], [], [], [], [], [], [], [.l 54], [], []]
set_option maxRecDepth 100000 in
set_option maxHeartbeats 8000000 in
theorem patOtherUnknown (pb st H : Nat) (pk : Pk) (w : World) (hst : st < 10) (_hlt : pb < w.heap.size) (hH : H ≤ w.heap.size) (c14 : w.cell? ⟨pb, 14, none⟩ = some (.int .i64 (st : Int))) :
    Calls Tryz.prog 142 #[.pointer (some ⟨pb, 0, none⟩)] w fun r w' => AtR w w' H pb pk ((row_atOtherUnknown).getD st []) r := by
  have hmf : ∀ (fn : Fn) (first cap : Array Value) (w : World), (Instr.makeFunc fn first cap).run Tryz.prog w = .ok (.func fn first cap) w := fun _ _ _ _ => rfl
  obtain ⟨i0, hi, hz0, hz1, hz2⟩ := info_parts Tryz.infoFn
  have BA : Hid (Below w.heap.size w w) := Below.refl _ _
  have z0 : w.heap.size = w.heap.size := rfl
  rcases (by omega : st = 0 ∨ st = 1 ∨ st = 2 ∨ st = 3 ∨ st = 4 ∨ st = 5 ∨ st = 6 ∨ st = 7 ∨ st = 8 ∨ st = 9) with rfl | rfl | rfl | rfl | rfl | rfl | rfl | rfl | rfl | rfl
  · show Calls _ _ _ _ (fun r w' => AtR w w' H pb pk [] r)
    go_enter Tryz.func142, Tryz.ntmps142
    go_wp2_with fail
    go_ret
    exact ⟨_, rfl, acts_nil _ _ _ _, BA.out⟩
  · show Calls _ _ _ _ (fun r w' => AtR w w' H pb pk [] r)
    go_enter Tryz.func142, Tryz.ntmps142
    go_wp2_with fail
    go_ret
    exact ⟨_, rfl, acts_nil _ _ _ _, BA.out⟩
  · show Calls _ _ _ _ (fun r w' => AtR w w' H pb pk [] r)
    go_enter Tryz.func142, Tryz.ntmps142
    go_wp2_with fail
    go_ret
    exact ⟨_, rfl, acts_nil _ _ _ _, BA.out⟩
  · show Calls _ _ _ _ (fun r w' => AtR w w' H pb pk [] r)
    go_enter Tryz.func142, Tryz.ntmps142
    go_wp2_with fail
    go_ret
    exact ⟨_, rfl, acts_nil _ _ _ _, BA.out⟩
  · show Calls _ _ _ _ (fun r w' => AtR w w' H pb pk [] r)
    go_enter Tryz.func142, Tryz.ntmps142
    go_wp2_with fail
    go_ret
    exact ⟨_, rfl, acts_nil _ _ _ _, BA.out⟩
  · show Calls _ _ _ _ (fun r w' => AtR w w' H pb pk [] r)
    go_enter Tryz.func142, Tryz.ntmps142
    go_wp2_with fail
    go_ret
    exact ⟨_, rfl, acts_nil _ _ _ _, BA.out⟩
  · show Calls _ _ _ _ (fun r w' => AtR w w' H pb pk [] r)
    go_enter Tryz.func142, Tryz.ntmps142
    go_wp2_with fail
    go_ret
    exact ⟨_, rfl, acts_nil _ _ _ _, BA.out⟩
  · show Calls _ _ _ _ (fun r w' => AtR w w' H pb pk [.l 54] r)
    go_enter Tryz.func142, Tryz.ntmps142
    have A0 : Hid (Acts w (fun b => H ≤ b) pb pk [] []) := Acts.nil _ _ _ _
    go_wp2_with fail
    refine Calls.mono (enter_any pb 6 (by omega) pk (fun _ => False) w (fun _ x => x.elim)) ?_
    rintro e w1 ⟨f1, g1, h1, F1, rfl, d1, e1, b1⟩
    have A1 : Hid (Acts w1 (fun b => H ≤ b) pb pk [.l 54] [.func (.func f1) g1 h1]) := A0.out.mk d1 e1 b1 (fun b hb => by rcases hb with x | x; omega; exact x.elim)
    have y1 := b1.size
    have BA1 : Hid (Below w.heap.size w w1) := BA.out.trans (b1.mono (by omega))
    clear d1 e1 b1
    go_wp2_with fail
    go_ret
    have hA : Below w1.heap.size w1 (w1.alloc (.cells #[.func (.func f1) g1 h1] 113)) := (Below.refl _ _).alloc (Nat.le_refl _) _
    have own := own_built (w := w1) (B := H) (e := 113) (by omega) #[.func (.func f1) g1 h1] (by show 1 ≤ 100; omega)
    exact ⟨_, rfl, acts_own own (A1.out.below hA) (fun _ x => x) (by simp), BA1.out.trans (hA.mono (by have := BA1.out.size; omega))⟩
  · show Calls _ _ _ _ (fun r w' => AtR w w' H pb pk [] r)
    go_enter Tryz.func142, Tryz.ntmps142
    go_wp2_with fail
    go_ret
    exact ⟨_, rfl, acts_nil _ _ _ _, BA.out⟩
  · show Calls _ _ _ _ (fun r w' => AtR w w' H pb pk [] r)
    go_enter Tryz.func142, Tryz.ntmps142
    go_wp2_with fail
    go_ret
    exact ⟨_, rfl, acts_nil _ _ _ _, BA.out⟩
def row_atNeededUnknown : List (List PA) := [[], [], [.l 102], [.l 102], [.l 102, .l 50], [.l 102, .l 51], [.l 102, .l 51], [.l 102, .l 51], [.l 102, .l 51], [.l 100, .l 116, .l 101, .l 53]]
set_option maxRecDepth 100000 in
set_option maxHeartbeats 8000000 in
theorem patNeededUnknown (pb st H : Nat) (pk : Pk) (w : World) (hst : st < 10) (_hlt : pb < w.heap.size) (hH : H ≤ w.heap.size) (c14 : w.cell? ⟨pb, 14, none⟩ = some (.int .i64 (st : Int))) :
    Calls Tryz.prog 141 #[.pointer (some ⟨pb, 0, none⟩)] w fun r w' => AtR w w' H pb pk ((row_atNeededUnknown).getD st []) r := by
  have hmf : ∀ (fn : Fn) (first cap : Array Value) (w : World), (Instr.makeFunc fn first cap).run Tryz.prog w = .ok (.func fn first cap) w := fun _ _ _ _ => rfl
  obtain ⟨i0, hi, hz0, hz1, hz2⟩ := info_parts Tryz.infoFn
  have BA : Hid (Below w.heap.size w w) := Below.refl _ _
  have z0 : w.heap.size = w.heap.size := rfl
  rcases (by omega : st = 0 ∨ st = 1 ∨ st = 2 ∨ st = 3 ∨ st = 4 ∨ st = 5 ∨ st = 6 ∨ st = 7 ∨ st = 8 ∨ st = 9) with rfl | rfl | rfl | rfl | rfl | rfl | rfl | rfl | rfl | rfl
  · show Calls _ _ _ _ (fun r w' => AtR w w' H pb pk [] r)
    go_enter Tryz.func141, Tryz.ntmps141
    go_wp2_with fail
    go_ret
    exact ⟨_, rfl, acts_nil _ _ _ _, BA.out⟩
  · show Calls _ _ _ _ (fun r w' => AtR w w' H pb pk [] r)
    go_enter Tryz.func141, Tryz.ntmps141
    go_wp2_with fail
    go_ret
    exact ⟨_, rfl, acts_nil _ _ _ _, BA.out⟩
  · show Calls _ _ _ _ (fun r w' => AtR w w' H pb pk [.l 102] r)
    go_enter Tryz.func141, Tryz.ntmps141
    have A0 : Hid (Acts w (fun b => H ≤ b) pb pk [] []) := Acts.nil _ _ _ _
    have A1 : Hid (Acts w (fun b => H ≤ b) pb pk [.l 102] [methV pb 93]) := A0.out.me a_tellFinish trivial
    go_wp2_with fail
    go_ret
    have hA : Below w.heap.size w (w.alloc (.cells #[methV pb 93] 113)) := (Below.refl _ _).alloc (Nat.le_refl _) _
    have own := own_built (w := w) (B := H) (e := 113) (by omega) #[methV pb 93] (by show 1 ≤ 100; omega)
    exact ⟨_, rfl, acts_own own (A1.out.below hA) (fun _ x => x) (by simp), BA.out.trans (hA.mono (by have := BA.out.size; omega))⟩
  · show Calls _ _ _ _ (fun r w' => AtR w w' H pb pk [.l 102] r)
    go_enter Tryz.func141, Tryz.ntmps141
    have A0 : Hid (Acts w (fun b => H ≤ b) pb pk [] []) := Acts.nil _ _ _ _
    have A1 : Hid (Acts w (fun b => H ≤ b) pb pk [.l 102] [methV pb 93]) := A0.out.me a_tellFinish trivial
    go_wp2_with fail
    go_ret
    have hA : Below w.heap.size w (w.alloc (.cells #[methV pb 93] 113)) := (Below.refl _ _).alloc (Nat.le_refl _) _
    have own := own_built (w := w) (B := H) (e := 113) (by omega) #[methV pb 93] (by show 1 ≤ 100; omega)
    exact ⟨_, rfl, acts_own own (A1.out.below hA) (fun _ x => x) (by simp), BA.out.trans (hA.mono (by have := BA.out.size; omega))⟩
  · show Calls _ _ _ _ (fun r w' => AtR w w' H pb pk [.l 102, .l 50] r)
    go_enter Tryz.func141, Tryz.ntmps141
    have A0 : Hid (Acts w (fun b => H ≤ b) pb pk [] []) := Acts.nil _ _ _ _
    have A1 : Hid (Acts w (fun b => H ≤ b) pb pk [.l 102] [methV pb 93]) := A0.out.me a_tellFinish trivial
    go_wp2_with fail
    refine Calls.mono (enter_any pb 2 (by omega) pk (fun _ => False) w (fun _ x => x.elim)) ?_
    rintro e w1 ⟨f1, g1, h1, F1, rfl, d1, e1, b1⟩
    have A2 : Hid (Acts w1 (fun b => H ≤ b) pb pk [.l 102, .l 50] [methV pb 93, .func (.func f1) g1 h1]) := A1.out.mk d1 e1 b1 (fun b hb => by rcases hb with x | x; omega; exact x.elim)
    have y1 := b1.size
    have BA1 : Hid (Below w.heap.size w w1) := BA.out.trans (b1.mono (by omega))
    clear d1 e1 b1
    go_wp2_with fail
    go_ret
    have hA : Below w1.heap.size w1 (w1.alloc (.cells #[methV pb 93, .func (.func f1) g1 h1] 113)) := (Below.refl _ _).alloc (Nat.le_refl _) _
    have own := own_built (w := w1) (B := H) (e := 113) (by omega) #[methV pb 93, .func (.func f1) g1 h1] (by show 2 ≤ 100; omega)
    exact ⟨_, rfl, acts_own own (A2.out.below hA) (fun _ x => x) (by simp), BA1.out.trans (hA.mono (by have := BA1.out.size; omega))⟩
  · show Calls _ _ _ _ (fun r w' => AtR w w' H pb pk [.l 102, .l 51] r)
    go_enter Tryz.func141, Tryz.ntmps141
    have A0 : Hid (Acts w (fun b => H ≤ b) pb pk [] []) := Acts.nil _ _ _ _
    have A1 : Hid (Acts w (fun b => H ≤ b) pb pk [.l 102] [methV pb 93]) := A0.out.me a_tellFinish trivial
    go_wp2_with fail
    refine Calls.mono (enter_any pb 3 (by omega) pk (fun _ => False) w (fun _ x => x.elim)) ?_
    rintro e w1 ⟨f1, g1, h1, F1, rfl, d1, e1, b1⟩
    have A2 : Hid (Acts w1 (fun b => H ≤ b) pb pk [.l 102, .l 51] [methV pb 93, .func (.func f1) g1 h1]) := A1.out.mk d1 e1 b1 (fun b hb => by rcases hb with x | x; omega; exact x.elim)
    have y1 := b1.size
    have BA1 : Hid (Below w.heap.size w w1) := BA.out.trans (b1.mono (by omega))
    clear d1 e1 b1
    go_wp2_with fail
    go_ret
    have hA : Below w1.heap.size w1 (w1.alloc (.cells #[methV pb 93, .func (.func f1) g1 h1] 113)) := (Below.refl _ _).alloc (Nat.le_refl _) _
    have own := own_built (w := w1) (B := H) (e := 113) (by omega) #[methV pb 93, .func (.func f1) g1 h1] (by show 2 ≤ 100; omega)
    exact ⟨_, rfl, acts_own own (A2.out.below hA) (fun _ x => x) (by simp), BA1.out.trans (hA.mono (by have := BA1.out.size; omega))⟩
  · show Calls _ _ _ _ (fun r w' => AtR w w' H pb pk [.l 102, .l 51] r)
    go_enter Tryz.func141, Tryz.ntmps141
    have A0 : Hid (Acts w (fun b => H ≤ b) pb pk [] []) := Acts.nil _ _ _ _
    have A1 : Hid (Acts w (fun b => H ≤ b) pb pk [.l 102] [methV pb 93]) := A0.out.me a_tellFinish trivial
    go_wp2_with fail
    refine Calls.mono (enter_any pb 3 (by omega) pk (fun _ => False) w (fun _ x => x.elim)) ?_
    rintro e w1 ⟨f1, g1, h1, F1, rfl, d1, e1, b1⟩
    have A2 : Hid (Acts w1 (fun b => H ≤ b) pb pk [.l 102, .l 51] [methV pb 93, .func (.func f1) g1 h1]) := A1.out.mk d1 e1 b1 (fun b hb => by rcases hb with x | x; omega; exact x.elim)
    have y1 := b1.size
    have BA1 : Hid (Below w.heap.size w w1) := BA.out.trans (b1.mono (by omega))
    clear d1 e1 b1
    go_wp2_with fail
    go_ret
    have hA : Below w1.heap.size w1 (w1.alloc (.cells #[methV pb 93, .func (.func f1) g1 h1] 113)) := (Below.refl _ _).alloc (Nat.le_refl _) _
    have own := own_built (w := w1) (B := H) (e := 113) (by omega) #[methV pb 93, .func (.func f1) g1 h1] (by show 2 ≤ 100; omega)
    exact ⟨_, rfl, acts_own own (A2.out.below hA) (fun _ x => x) (by simp), BA1.out.trans (hA.mono (by have := BA1.out.size; omega))⟩
  · show Calls _ _ _ _ (fun r w' => AtR w w' H pb pk [.l 102, .l 51] r)
    go_enter Tryz.func141, Tryz.ntmps141
    have A0 : Hid (Acts w (fun b => H ≤ b) pb pk [] []) := Acts.nil _ _ _ _
    have A1 : Hid (Acts w (fun b => H ≤ b) pb pk [.l 102] [methV pb 93]) := A0.out.me a_tellFinish trivial
    go_wp2_with fail
    refine Calls.mono (enter_any pb 3 (by omega) pk (fun _ => False) w (fun _ x => x.elim)) ?_
    rintro e w1 ⟨f1, g1, h1, F1, rfl, d1, e1, b1⟩
    have A2 : Hid (Acts w1 (fun b => H ≤ b) pb pk [.l 102, .l 51] [methV pb 93, .func (.func f1) g1 h1]) := A1.out.mk d1 e1 b1 (fun b hb => by rcases hb with x | x; omega; exact x.elim)
    have y1 := b1.size
    have BA1 : Hid (Below w.heap.size w w1) := BA.out.trans (b1.mono (by omega))
    clear d1 e1 b1
    go_wp2_with fail
    go_ret
    have hA : Below w1.heap.size w1 (w1.alloc (.cells #[methV pb 93, .func (.func f1) g1 h1] 113)) := (Below.refl _ _).alloc (Nat.le_refl _) _
    have own := own_built (w := w1) (B := H) (e := 113) (by omega) #[methV pb 93, .func (.func f1) g1 h1] (by show 2 ≤ 100; omega)
    exact ⟨_, rfl, acts_own own (A2.out.below hA) (fun _ x => x) (by simp), BA1.out.trans (hA.mono (by have := BA1.out.size; omega))⟩
  · show Calls _ _ _ _ (fun r w' => AtR w w' H pb pk [.l 102, .l 51] r)
    go_enter Tryz.func141, Tryz.ntmps141
    have A0 : Hid (Acts w (fun b => H ≤ b) pb pk [] []) := Acts.nil _ _ _ _
    have A1 : Hid (Acts w (fun b => H ≤ b) pb pk [.l 102] [methV pb 93]) := A0.out.me a_tellFinish trivial
    go_wp2_with fail
    refine Calls.mono (enter_any pb 3 (by omega) pk (fun _ => False) w (fun _ x => x.elim)) ?_
    rintro e w1 ⟨f1, g1, h1, F1, rfl, d1, e1, b1⟩
    have A2 : Hid (Acts w1 (fun b => H ≤ b) pb pk [.l 102, .l 51] [methV pb 93, .func (.func f1) g1 h1]) := A1.out.mk d1 e1 b1 (fun b hb => by rcases hb with x | x; omega; exact x.elim)
    have y1 := b1.size
    have BA1 : Hid (Below w.heap.size w w1) := BA.out.trans (b1.mono (by omega))
    clear d1 e1 b1
    go_wp2_with fail
    go_ret
    have hA : Below w1.heap.size w1 (w1.alloc (.cells #[methV pb 93, .func (.func f1) g1 h1] 113)) := (Below.refl _ _).alloc (Nat.le_refl _) _
    have own := own_built (w := w1) (B := H) (e := 113) (by omega) #[methV pb 93, .func (.func f1) g1 h1] (by show 2 ≤ 100; omega)
    exact ⟨_, rfl, acts_own own (A2.out.below hA) (fun _ x => x) (by simp), BA1.out.trans (hA.mono (by have := BA1.out.size; omega))⟩
  · show Calls _ _ _ _ (fun r w' => AtR w w' H pb pk [.l 100, .l 116, .l 101, .l 53] r)
    go_enter Tryz.func141, Tryz.ntmps141
    have A0 : Hid (Acts w (fun b => H ≤ b) pb pk [] []) := Acts.nil _ _ _ _
    have A1 : Hid (Acts w (fun b => H ≤ b) pb pk [.l 100] [methV pb 92]) := A0.out.me a_tellDown trivial
    have A2 : Hid (Acts w (fun b => H ≤ b) pb pk [.l 100, .l 116] [methV pb 92, methV pb 94]) := A1.out.me a_countEnds trivial
    have A3 : Hid (Acts w (fun b => H ≤ b) pb pk [.l 100, .l 116, .l 101] [methV pb 92, methV pb 94, methV pb 95]) := A2.out.me a_sendEnd trivial
    go_wp2_with fail
    refine Calls.mono (enter_any pb 5 (by omega) pk (fun _ => False) w (fun _ x => x.elim)) ?_
    rintro e w1 ⟨f1, g1, h1, F1, rfl, d1, e1, b1⟩
    have A4 : Hid (Acts w1 (fun b => H ≤ b) pb pk [.l 100, .l 116, .l 101, .l 53] [methV pb 92, methV pb 94, methV pb 95, .func (.func f1) g1 h1]) := A3.out.mk d1 e1 b1 (fun b hb => by rcases hb with x | x; omega; exact x.elim)
    have y1 := b1.size
    have BA1 : Hid (Below w.heap.size w w1) := BA.out.trans (b1.mono (by omega))
    clear d1 e1 b1
    go_wp2_with fail
    go_ret
    have hA : Below w1.heap.size w1 (w1.alloc (.cells #[methV pb 92, methV pb 94, methV pb 95, .func (.func f1) g1 h1] 113)) := (Below.refl _ _).alloc (Nat.le_refl _) _
    have own := own_built (w := w1) (B := H) (e := 113) (by omega) #[methV pb 92, methV pb 94, methV pb 95, .func (.func f1) g1 h1] (by show 4 ≤ 100; omega)
    exact ⟨_, rfl, acts_own own (A4.out.below hA) (fun _ x => x) (by simp), BA1.out.trans (hA.mono (by have := BA1.out.size; omega))⟩
def row_atEcho : List (List PA) := [[], [], [], [], [], [], [], [], [], [.l 111]]
set_option maxRecDepth 100000 in
set_option maxHeartbeats 8000000 in
theorem patEcho (pb st H : Nat) (pk : Pk) (w : World) (hst : st < 10) (hlt : pb < w.heap.size) (hH : H ≤ w.heap.size) (c14 : w.cell? ⟨pb, 14, none⟩ = some (.int .i64 (st : Int))) :
    Calls Tryz.prog 108 #[.pointer (some ⟨pb, 0, none⟩), .agg (pkA pk)] w fun r w' => AtR w w' H pb pk ((row_atEcho).getD st []) r := by
  have hmf : ∀ (fn : Fn) (first cap : Array Value) (w : World), (Instr.makeFunc fn first cap).run Tryz.prog w = .ok (.func fn first cap) w := fun _ _ _ _ => rfl
  obtain ⟨i0, hi, hz0, hz1, hz2⟩ := info_parts Tryz.infoFn
  have BA : Hid (Below w.heap.size w (w.alloc (.cells (pkA pk) 27))) := (Below.refl _ _).alloc (Nat.le_refl _) _
  have cA : (w.alloc (.cells (pkA pk) 27)).cell? ⟨pb, 14, none⟩ = some (.int .i64 (st : Int)) := (BA.out.cell (p := ⟨pb, 14, none⟩) hlt).trans c14
  have RB : Hid ((w.alloc (.cells (pkA pk) 27)).heap[w.heap.size]? = some (.cells (pkA pk) 27 (0, 0))) := heap_alloc_new w _
  have z0 : (w.alloc (.cells (pkA pk) 27)).heap.size = w.heap.size + 1 := by simp
  rcases (by omega : st = 0 ∨ st = 1 ∨ st = 2 ∨ st = 3 ∨ st = 4 ∨ st = 5 ∨ st = 6 ∨ st = 7 ∨ st = 8 ∨ st = 9) with rfl | rfl | rfl | rfl | rfl | rfl | rfl | rfl | rfl | rfl
  · show Calls _ _ _ _ (fun r w' => AtR w w' H pb pk [] r)
    go_enter Tryz.func108, Tryz.ntmps108
    go_wp2_with fail
    go_ret
    exact ⟨_, rfl, acts_nil _ _ _ _, BA.out⟩
  · show Calls _ _ _ _ (fun r w' => AtR w w' H pb pk [] r)
    go_enter Tryz.func108, Tryz.ntmps108
    go_wp2_with fail
    go_ret
    exact ⟨_, rfl, acts_nil _ _ _ _, BA.out⟩
  · show Calls _ _ _ _ (fun r w' => AtR w w' H pb pk [] r)
    go_enter Tryz.func108, Tryz.ntmps108
    go_wp2_with fail
    go_ret
    exact ⟨_, rfl, acts_nil _ _ _ _, BA.out⟩
  · show Calls _ _ _ _ (fun r w' => AtR w w' H pb pk [] r)
    go_enter Tryz.func108, Tryz.ntmps108
    go_wp2_with fail
    go_ret
    exact ⟨_, rfl, acts_nil _ _ _ _, BA.out⟩
  · show Calls _ _ _ _ (fun r w' => AtR w w' H pb pk [] r)
    go_enter Tryz.func108, Tryz.ntmps108
    go_wp2_with fail
    go_ret
    exact ⟨_, rfl, acts_nil _ _ _ _, BA.out⟩
  · show Calls _ _ _ _ (fun r w' => AtR w w' H pb pk [] r)
    go_enter Tryz.func108, Tryz.ntmps108
    go_wp2_with fail
    go_ret
    exact ⟨_, rfl, acts_nil _ _ _ _, BA.out⟩
  · show Calls _ _ _ _ (fun r w' => AtR w w' H pb pk [] r)
    go_enter Tryz.func108, Tryz.ntmps108
    go_wp2_with fail
    go_ret
    exact ⟨_, rfl, acts_nil _ _ _ _, BA.out⟩
  · show Calls _ _ _ _ (fun r w' => AtR w w' H pb pk [] r)
    go_enter Tryz.func108, Tryz.ntmps108
    go_wp2_with fail
    go_ret
    exact ⟨_, rfl, acts_nil _ _ _ _, BA.out⟩
  · show Calls _ _ _ _ (fun r w' => AtR w w' H pb pk [] r)
    go_enter Tryz.func108, Tryz.ntmps108
    go_wp2_with fail
    go_ret
    exact ⟨_, rfl, acts_nil _ _ _ _, BA.out⟩
  · show Calls _ _ _ _ (fun r w' => AtR w w' H pb pk [.l 111] r)
    go_enter Tryz.func108, Tryz.ntmps108
    have A0 : Hid (Acts (w.alloc (.cells (pkA pk) 27)) (fun b => H ≤ b) pb pk [] []) := Acts.nil _ _ _ _
    go_wp2_with fail
    refine Calls.mono (mk_reply pb pk (fun _ => False) (w.alloc (.cells (pkA pk) 27)) (fun _ x => x.elim)) ?_
    rintro e w1 ⟨f1, g1, h1, F1, rfl, d1, e1, b1⟩
    have A1 : Hid (Acts w1 (fun b => H ≤ b) pb pk [.l 111] [.func (.func f1) g1 h1]) := A0.out.mk d1 e1 b1 (fun b hb => by rcases hb with x | x; omega; exact x.elim)
    have y1 := b1.size
    have BA1 : Hid (Below w.heap.size w w1) := BA.out.trans (b1.mono (by omega))
    have RB' : Hid (w1.heap[w.heap.size]? = some (.cells (pkA pk) 27 (0, 0))) := (b1.block _ (by omega)).trans RB.out
    have x1_0 : w1.cell? ⟨w.heap.size, 0, none⟩ = some (.int .i64 (pk.1 : Int)) := blk_cell RB'.out
    have x1_1 : w1.cell? ⟨w.heap.size, 1, none⟩ = some (.int .i64 (pk.2.1 : Int)) := blk_cell RB'.out
    have x1_2 : w1.cell? ⟨w.heap.size, 2, none⟩ = some (.string ⟨pk.2.2.toArray⟩) := blk_cell RB'.out
    clear d1 e1 b1
    go_wp2_with fail
    go_ret
    have hA : Below w1.heap.size w1 (w1.alloc (.cells #[.func (.func f1) g1 h1] 113)) := (Below.refl _ _).alloc (Nat.le_refl _) _
    have own := own_built (w := w1) (B := H) (e := 113) (by omega) #[.func (.func f1) g1 h1] (by show 1 ≤ 100; omega)
    exact ⟨_, rfl, acts_own own (A1.out.below hA) (fun _ x => x) (by simp), BA1.out.trans (hA.mono (by have := BA1.out.size; omega))⟩
end Go.Proofs.YtoeihlgidakjbaaGreatDoor

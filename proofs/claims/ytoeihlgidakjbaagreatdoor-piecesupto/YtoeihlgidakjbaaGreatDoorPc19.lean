/- The program's rows of the table of states, part 3: what each answers in each state. -/
import Derived.Test.YtoeihlgidakjbaaGreatDoorPc13
namespace Go.Proofs.YtoeihlgidakjbaaGreatDoor
open Go.RowKit Go.Lib
def row_atAgreement : List (List PA) := [[], [], [.l 107], [.l 107], [], [], [.l 105, .l 55], [.l 114, .l 54], [.l 105, .l 117, .l 57], [.l 100, .l 114, .l 54]]
set_option maxRecDepth 100000 in
set_option maxHeartbeats 8000000 in
theorem patAgreement (pb st H : Nat) (pk : Pk) (w : World) (hst : st < 10) (hlt : pb < w.heap.size) (hH : H ≤ w.heap.size) (c14 : w.cell? ⟨pb, 14, none⟩ = some (.int .i64 (st : Int))) :
    Calls Tryz.prog 134 #[.pointer (some ⟨pb, 0, none⟩), .agg (pkA pk)] w fun r w' => AtR w w' H pb pk ((row_atAgreement).getD st []) r := by
  have hmf : ∀ (fn : Fn) (first cap : Array Value) (w : World), (Instr.makeFunc fn first cap).run Tryz.prog w = .ok (.func fn first cap) w := fun _ _ _ _ => rfl
  obtain ⟨i0, hi, hz0, hz1, hz2⟩ := info_parts Tryz.infoFn
  have BA : Hid (Below w.heap.size w (w.alloc (.cells (pkA pk) 27))) := (Below.refl _ _).alloc (Nat.le_refl _) _
  have cA : (w.alloc (.cells (pkA pk) 27)).cell? ⟨pb, 14, none⟩ = some (.int .i64 (st : Int)) := (BA.out.cell (p := ⟨pb, 14, none⟩) hlt).trans c14
  have RB : Hid ((w.alloc (.cells (pkA pk) 27)).heap[w.heap.size]? = some (.cells (pkA pk) 27 (0, 0))) := heap_alloc_new w _
  have z0 : (w.alloc (.cells (pkA pk) 27)).heap.size = w.heap.size + 1 := by simp
  rcases (by omega : st = 0 ∨ st = 1 ∨ st = 2 ∨ st = 3 ∨ st = 4 ∨ st = 5 ∨ st = 6 ∨ st = 7 ∨ st = 8 ∨ st = 9) with rfl | rfl | rfl | rfl | rfl | rfl | rfl | rfl | rfl | rfl
  · show Calls _ _ _ _ (fun r w' => AtR w w' H pb pk [] r)
    go_enter Tryz.func134, Tryz.ntmps134
    go_wp2_with fail
    go_ret
    exact ⟨_, rfl, acts_nil _ _ _ _, BA.out⟩
  · show Calls _ _ _ _ (fun r w' => AtR w w' H pb pk [] r)
    go_enter Tryz.func134, Tryz.ntmps134
    go_wp2_with fail
    go_ret
    exact ⟨_, rfl, acts_nil _ _ _ _, BA.out⟩
  · show Calls _ _ _ _ (fun r w' => AtR w w' H pb pk [.l 107] r)
    go_enter Tryz.func134, Tryz.ntmps134
    have A0 : Hid (Acts (w.alloc (.cells (pkA pk) 27)) (fun b => H ≤ b) pb pk [] []) := Acts.nil _ _ _ _
    go_wp2_with fail
    refine Calls.mono (mk_endack pb pk (fun _ => False) (w.alloc (.cells (pkA pk) 27)) (fun _ x => x.elim)) ?_
    rintro e w1 ⟨f1, g1, h1, F1, rfl, d1, e1, b1⟩
    have A1 : Hid (Acts w1 (fun b => H ≤ b) pb pk [.l 107] [.func (.func f1) g1 h1]) := A0.out.mk d1 e1 b1 (fun b hb => by rcases hb with x | x; omega; exact x.elim)
    have y1 := b1.size
    have BA1 : Hid (Below w.heap.size w w1) := BA.out.trans (b1.mono (by omega))
    have RB' : Hid (w1.heap[w.heap.size]? = some (.cells (pkA pk) 27 (0, 0))) := (b1.block _ (by omega)).trans RB.out
    have x1_0 : w1.cell? ⟨w.heap.size, 0, none⟩ = some (.int .i64 (pk.1 : Int)) := blk_cell RB'.out
    have x1_1 : w1.cell? ⟨w.heap.size, 1, none⟩ = some (.int .i64 (pk.2.1 : Int)) := blk_cell RB'.out
    have x1_2 : w1.cell? ⟨w.heap.size, 2, none⟩ = some (.string ⟨pk.2.2.toArray⟩) := blk_cell RB'.out
    clear d1 e1 b1
    go_wp2_with fail
    go_ret
    have hA : Below w1.heap.size w1 (w1.alloc (.cells #[.func (.func f1) g1 h1] 113)) := (Below.refl _ _).alloc (Nat.le_refl _) _
    have own := own_built (w := w1) (B := H) (e := 113) (by omega) #[.func (.func f1) g1 h1] (by show 1 ≤ 100; omega)
    exact ⟨_, rfl, acts_own own (A1.out.below hA) (fun _ x => x) (by simp), BA1.out.trans (hA.mono (by have := BA1.out.size; omega))⟩
  · show Calls _ _ _ _ (fun r w' => AtR w w' H pb pk [.l 107] r)
    go_enter Tryz.func134, Tryz.ntmps134
    have A0 : Hid (Acts (w.alloc (.cells (pkA pk) 27)) (fun b => H ≤ b) pb pk [] []) := Acts.nil _ _ _ _
    go_wp2_with fail
    refine Calls.mono (mk_endack pb pk (fun _ => False) (w.alloc (.cells (pkA pk) 27)) (fun _ x => x.elim)) ?_
    rintro e w1 ⟨f1, g1, h1, F1, rfl, d1, e1, b1⟩
    have A1 : Hid (Acts w1 (fun b => H ≤ b) pb pk [.l 107] [.func (.func f1) g1 h1]) := A0.out.mk d1 e1 b1 (fun b hb => by rcases hb with x | x; omega; exact x.elim)
    have y1 := b1.size
    have BA1 : Hid (Below w.heap.size w w1) := BA.out.trans (b1.mono (by omega))
    have RB' : Hid (w1.heap[w.heap.size]? = some (.cells (pkA pk) 27 (0, 0))) := (b1.block _ (by omega)).trans RB.out
    have x1_0 : w1.cell? ⟨w.heap.size, 0, none⟩ = some (.int .i64 (pk.1 : Int)) := blk_cell RB'.out
    have x1_1 : w1.cell? ⟨w.heap.size, 1, none⟩ = some (.int .i64 (pk.2.1 : Int)) := blk_cell RB'.out
    have x1_2 : w1.cell? ⟨w.heap.size, 2, none⟩ = some (.string ⟨pk.2.2.toArray⟩) := blk_cell RB'.out
    clear d1 e1 b1
    go_wp2_with fail
    go_ret
    have hA : Below w1.heap.size w1 (w1.alloc (.cells #[.func (.func f1) g1 h1] 113)) := (Below.refl _ _).alloc (Nat.le_refl _) _
    have own := own_built (w := w1) (B := H) (e := 113) (by omega) #[.func (.func f1) g1 h1] (by show 1 ≤ 100; omega)
    exact ⟨_, rfl, acts_own own (A1.out.below hA) (fun _ x => x) (by simp), BA1.out.trans (hA.mono (by have := BA1.out.size; omega))⟩
  · show Calls _ _ _ _ (fun r w' => AtR w w' H pb pk [] r)
    go_enter Tryz.func134, Tryz.ntmps134
    go_wp2_with fail
    go_ret
    exact ⟨_, rfl, acts_nil _ _ _ _, BA.out⟩
  · show Calls _ _ _ _ (fun r w' => AtR w w' H pb pk [] r)
    go_enter Tryz.func134, Tryz.ntmps134
    go_wp2_with fail
    go_ret
    exact ⟨_, rfl, acts_nil _ _ _ _, BA.out⟩
  · show Calls _ _ _ _ (fun r w' => AtR w w' H pb pk [.l 105, .l 55] r)
    go_enter Tryz.func134, Tryz.ntmps134
    have A0 : Hid (Acts (w.alloc (.cells (pkA pk) 27)) (fun b => H ≤ b) pb pk [] []) := Acts.nil _ _ _ _
    have A1 : Hid (Acts (w.alloc (.cells (pkA pk) 27)) (fun b => H ≤ b) pb pk [.l 105] [methV pb 89]) := A0.out.me a_countRequests trivial
    go_wp2_with fail
    refine Calls.mono (enter_any pb 7 (by omega) pk (fun _ => False) (w.alloc (.cells (pkA pk) 27)) (fun _ x => x.elim)) ?_
    rintro e w1 ⟨f1, g1, h1, F1, rfl, d1, e1, b1⟩
    have A2 : Hid (Acts w1 (fun b => H ≤ b) pb pk [.l 105, .l 55] [methV pb 89, .func (.func f1) g1 h1]) := A1.out.mk d1 e1 b1 (fun b hb => by rcases hb with x | x; omega; exact x.elim)
    have y1 := b1.size
    have BA1 : Hid (Below w.heap.size w w1) := BA.out.trans (b1.mono (by omega))
    have RB' : Hid (w1.heap[w.heap.size]? = some (.cells (pkA pk) 27 (0, 0))) := (b1.block _ (by omega)).trans RB.out
    have x1_0 : w1.cell? ⟨w.heap.size, 0, none⟩ = some (.int .i64 (pk.1 : Int)) := blk_cell RB'.out
    have x1_1 : w1.cell? ⟨w.heap.size, 1, none⟩ = some (.int .i64 (pk.2.1 : Int)) := blk_cell RB'.out
    have x1_2 : w1.cell? ⟨w.heap.size, 2, none⟩ = some (.string ⟨pk.2.2.toArray⟩) := blk_cell RB'.out
    clear d1 e1 b1
    go_wp2_with fail
    go_ret
    have hA : Below w1.heap.size w1 (w1.alloc (.cells #[methV pb 89, .func (.func f1) g1 h1] 113)) := (Below.refl _ _).alloc (Nat.le_refl _) _
    have own := own_built (w := w1) (B := H) (e := 113) (by omega) #[methV pb 89, .func (.func f1) g1 h1] (by show 2 ≤ 100; omega)
    exact ⟨_, rfl, acts_own own (A2.out.below hA) (fun _ x => x) (by simp), BA1.out.trans (hA.mono (by have := BA1.out.size; omega))⟩
  · show Calls _ _ _ _ (fun r w' => AtR w w' H pb pk [.l 114, .l 54] r)
    go_enter Tryz.func134, Tryz.ntmps134
    have A0 : Hid (Acts (w.alloc (.cells (pkA pk) 27)) (fun b => H ≤ b) pb pk [] []) := Acts.nil _ _ _ _
    have A1 : Hid (Acts (w.alloc (.cells (pkA pk) 27)) (fun b => H ≤ b) pb pk [.l 114] [methV pb 90]) := A0.out.me a_sendRequest trivial
    go_wp2_with fail
    refine Calls.mono (enter_any pb 6 (by omega) pk (fun _ => False) (w.alloc (.cells (pkA pk) 27)) (fun _ x => x.elim)) ?_
    rintro e w1 ⟨f1, g1, h1, F1, rfl, d1, e1, b1⟩
    have A2 : Hid (Acts w1 (fun b => H ≤ b) pb pk [.l 114, .l 54] [methV pb 90, .func (.func f1) g1 h1]) := A1.out.mk d1 e1 b1 (fun b hb => by rcases hb with x | x; omega; exact x.elim)
    have y1 := b1.size
    have BA1 : Hid (Below w.heap.size w w1) := BA.out.trans (b1.mono (by omega))
    have RB' : Hid (w1.heap[w.heap.size]? = some (.cells (pkA pk) 27 (0, 0))) := (b1.block _ (by omega)).trans RB.out
    have x1_0 : w1.cell? ⟨w.heap.size, 0, none⟩ = some (.int .i64 (pk.1 : Int)) := blk_cell RB'.out
    have x1_1 : w1.cell? ⟨w.heap.size, 1, none⟩ = some (.int .i64 (pk.2.1 : Int)) := blk_cell RB'.out
    have x1_2 : w1.cell? ⟨w.heap.size, 2, none⟩ = some (.string ⟨pk.2.2.toArray⟩) := blk_cell RB'.out
    clear d1 e1 b1
    go_wp2_with (at_builtin; go_must (refine wpList_append_lies _ rfl (.tmp 39) (.tmp 44) 85 rfl H 113 i0 .nilFunc 1 8 Tryz.underlying85 hi hz0 hz1 hz2 rfl (by decide) _ 0 [] rfl (World.ownsRow_nil _ _ _ _) ⟨w1.heap.size, 0, none⟩ 2 2 [methV pb 90, .func (.func f1) g1 h1] rfl rfl (newsL _ #[methV pb 90, .func (.func f1) g1 h1] _ _ rfl) (by intro u hu; simp at hu; rcases hu with rfl | rfl <;> rfl) (by omega) (by unfold maxLen; omega) (by omega) (by simp; omega) _ rfl ?_; intro gv capv wz hown1 hgrow1 hat1 hlt1))
    go_ret
    have tq := tch_grown hgrow1
    have off : ∀ b, ¬ (Value.slice none 0 0).ownBlock = some b := fun b e => by simp [Value.ownBlock] at e
    exact ⟨_, rfl, acts_own hown1 (A2.out.tch tq (fun b _ => off b)) (fun _ x => x) (by simp), BA1.out.trans (tq.below BA1.out.size (fun b hb => (off b hb).elim))⟩
  · show Calls _ _ _ _ (fun r w' => AtR w w' H pb pk [.l 105, .l 117, .l 57] r)
    go_enter Tryz.func134, Tryz.ntmps134
    have A0 : Hid (Acts (w.alloc (.cells (pkA pk) 27)) (fun b => H ≤ b) pb pk [] []) := Acts.nil _ _ _ _
    have A1 : Hid (Acts (w.alloc (.cells (pkA pk) 27)) (fun b => H ≤ b) pb pk [.l 105] [methV pb 89]) := A0.out.me a_countRequests trivial
    have A2 : Hid (Acts (w.alloc (.cells (pkA pk) 27)) (fun b => H ≤ b) pb pk [.l 105, .l 117] [methV pb 89, methV pb 160]) := A1.out.me a_tellUp trivial
    go_wp2_with fail
    refine Calls.mono (enter_any pb 9 (by omega) pk (fun _ => False) (w.alloc (.cells (pkA pk) 27)) (fun _ x => x.elim)) ?_
    rintro e w1 ⟨f1, g1, h1, F1, rfl, d1, e1, b1⟩
    have A3 : Hid (Acts w1 (fun b => H ≤ b) pb pk [.l 105, .l 117, .l 57] [methV pb 89, methV pb 160, .func (.func f1) g1 h1]) := A2.out.mk d1 e1 b1 (fun b hb => by rcases hb with x | x; omega; exact x.elim)
    have y1 := b1.size
    have BA1 : Hid (Below w.heap.size w w1) := BA.out.trans (b1.mono (by omega))
    have RB' : Hid (w1.heap[w.heap.size]? = some (.cells (pkA pk) 27 (0, 0))) := (b1.block _ (by omega)).trans RB.out
    have x1_0 : w1.cell? ⟨w.heap.size, 0, none⟩ = some (.int .i64 (pk.1 : Int)) := blk_cell RB'.out
    have x1_1 : w1.cell? ⟨w.heap.size, 1, none⟩ = some (.int .i64 (pk.2.1 : Int)) := blk_cell RB'.out
    have x1_2 : w1.cell? ⟨w.heap.size, 2, none⟩ = some (.string ⟨pk.2.2.toArray⟩) := blk_cell RB'.out
    clear d1 e1 b1
    go_wp2_with fail
    go_ret
    have hA : Below w1.heap.size w1 (w1.alloc (.cells #[methV pb 89, methV pb 160, .func (.func f1) g1 h1] 113)) := (Below.refl _ _).alloc (Nat.le_refl _) _
    have own := own_built (w := w1) (B := H) (e := 113) (by omega) #[methV pb 89, methV pb 160, .func (.func f1) g1 h1] (by show 3 ≤ 100; omega)
    exact ⟨_, rfl, acts_own own (A3.out.below hA) (fun _ x => x) (by simp), BA1.out.trans (hA.mono (by have := BA1.out.size; omega))⟩
  · show Calls _ _ _ _ (fun r w' => AtR w w' H pb pk [.l 100, .l 114, .l 54] r)
    go_enter Tryz.func134, Tryz.ntmps134
    go_wp2_with fail
    have W0 : Hid (((w.alloc (.cells (pkA pk) 27)).alloc (.cells #[methV pb 92] 113)).ownsRow H 113 1 (.slice (some ⟨w.heap.size + 1, 0, none⟩) 1 1) 1 [methV pb 92]) := by
      have := own_built (w := (w.alloc (.cells (pkA pk) 27))) (B := H) (e := 113) (by omega) #[methV pb 92] (by show 1 ≤ 100; omega)
      rw [z0] at this; exact this
    have zA : ((w.alloc (.cells (pkA pk) 27)).alloc (.cells #[methV pb 92] 113)).heap.size = w.heap.size + 1 + 1 := by simp
    have BB : Hid (Below w.heap.size w ((w.alloc (.cells (pkA pk) 27)).alloc (.cells #[methV pb 92] 113))) := BA.out.trans (((Below.refl _ _).alloc (Nat.le_refl _) _).mono (by omega))
    have RC : Hid (((w.alloc (.cells (pkA pk) 27)).alloc (.cells #[methV pb 92] 113)).heap[w.heap.size]? = some (.cells (pkA pk) 27 (0, 0))) := (((Below.refl _ (w.alloc (.cells (pkA pk) 27))).alloc (Nat.le_refl _) _).block _ (by omega)).trans RB.out
    have x0 : ((w.alloc (.cells (pkA pk) 27)).alloc (.cells #[methV pb 92] 113)).cell? ⟨w.heap.size, 0, none⟩ = some (.int .i64 (pk.1 : Int)) := blk_cell RC.out
    have x1 : ((w.alloc (.cells (pkA pk) 27)).alloc (.cells #[methV pb 92] 113)).cell? ⟨w.heap.size, 1, none⟩ = some (.int .i64 (pk.2.1 : Int)) := blk_cell RC.out
    have x2 : ((w.alloc (.cells (pkA pk) 27)).alloc (.cells #[methV pb 92] 113)).cell? ⟨w.heap.size, 2, none⟩ = some (.string ⟨pk.2.2.toArray⟩) := blk_cell RC.out
    generalize ((w.alloc (.cells (pkA pk) 27)).alloc (.cells #[methV pb 92] 113)) = WA at *
    have A0 : Hid (Acts WA (fun b => H ≤ b ∧ b ≠ w.heap.size + 1) pb pk [.l 100] [methV pb 92]) := (Acts.nil _ _ _ _).me a_tellDown trivial
    have A1 : Hid (Acts WA (fun b => H ≤ b ∧ b ≠ w.heap.size + 1) pb pk [.l 100, .l 114] [methV pb 92, methV pb 90]) := A0.out.me a_sendRequest trivial
    go_wp2_with fail
    refine Calls.mono (enter_any pb 6 (by omega) pk (fun _ => False) WA (fun _ x => x.elim)) ?_
    rintro e w1 ⟨f1, g1, h1, F1, rfl, d1, e1, b1⟩
    have A2 : Hid (Acts w1 (fun b => H ≤ b ∧ b ≠ w.heap.size + 1) pb pk [.l 100, .l 114, .l 54] [methV pb 92, methV pb 90, .func (.func f1) g1 h1]) := A1.out.mk d1 e1 b1 (fun b hb => by rcases hb with x | x; omega; exact x.elim)
    have y1 := b1.size
    have BB1 : Hid (Below w.heap.size w w1) := BB.out.trans (b1.mono (by omega))
    have W1 : Hid (w1.ownsRow H 113 1 (.slice (some ⟨w.heap.size + 1, 0, none⟩) 1 1) 1 [methV pb 92]) := owns_below W0.out b1
    have RC' : Hid (w1.heap[w.heap.size]? = some (.cells (pkA pk) 27 (0, 0))) := (b1.block _ (by omega)).trans RC.out
    have x1_0 : w1.cell? ⟨w.heap.size, 0, none⟩ = some (.int .i64 (pk.1 : Int)) := blk_cell RC'.out
    have x1_1 : w1.cell? ⟨w.heap.size, 1, none⟩ = some (.int .i64 (pk.2.1 : Int)) := blk_cell RC'.out
    have x1_2 : w1.cell? ⟨w.heap.size, 2, none⟩ = some (.string ⟨pk.2.2.toArray⟩) := blk_cell RC'.out
    clear d1 e1 b1
    go_wp2_with (at_builtin; go_must (refine wpList_append_lies _ rfl (.tmp 39) (.tmp 44) 85 rfl H 113 i0 .nilFunc 1 8 Tryz.underlying85 hi hz0 hz1 hz2 rfl (by decide) _ 1 [methV pb 92] rfl (W1.out.alloc _) ⟨w1.heap.size, 0, none⟩ 2 2 [methV pb 90, .func (.func f1) g1 h1] rfl rfl (newsL _ #[methV pb 90, .func (.func f1) g1 h1] _ _ rfl) (by intro u hu; simp at hu; rcases hu with rfl | rfl <;> rfl) (by omega) (by unfold maxLen; omega) (by omega) (by simp; omega) _ rfl ?_; intro gv capv wz hown1 hgrow1 hat1 hlt1))
    go_ret
    have tq := tch_grown hgrow1
    have off : ∀ b, (Value.slice (some ⟨w.heap.size + 1, 0, none⟩) 1 1).ownBlock = some b → b = w.heap.size + 1 := fun b e => (Option.some.inj e).symm
    exact ⟨_, rfl, acts_own hown1 (A2.out.tch tq (fun b hb x => hb.2 (off b x))) (fun _ x => x.1) (by simp), BB1.out.trans (tq.below BB1.out.size (fun b hb => by rw [off b hb]; omega))⟩
def row_atRefusal : List (List PA) := [[], [], [.l 107], [.l 107], [], [], [.l 105, .l 114], [.l 114, .l 54], [.l 105, .l 114], [.l 100, .l 114, .l 54]]
set_option maxRecDepth 100000 in
set_option maxHeartbeats 8000000 in
theorem patRefusal (pb st H : Nat) (pk : Pk) (w : World) (hst : st < 10) (hlt : pb < w.heap.size) (hH : H ≤ w.heap.size) (c14 : w.cell? ⟨pb, 14, none⟩ = some (.int .i64 (st : Int))) :
    Calls Tryz.prog 138 #[.pointer (some ⟨pb, 0, none⟩), .agg (pkA pk)] w fun r w' => AtR w w' H pb pk ((row_atRefusal).getD st []) r := by
  have hmf : ∀ (fn : Fn) (first cap : Array Value) (w : World), (Instr.makeFunc fn first cap).run Tryz.prog w = .ok (.func fn first cap) w := fun _ _ _ _ => rfl
  obtain ⟨i0, hi, hz0, hz1, hz2⟩ := info_parts Tryz.infoFn
  have BA : Hid (Below w.heap.size w (w.alloc (.cells (pkA pk) 27))) := (Below.refl _ _).alloc (Nat.le_refl _) _
  have cA : (w.alloc (.cells (pkA pk) 27)).cell? ⟨pb, 14, none⟩ = some (.int .i64 (st : Int)) := (BA.out.cell (p := ⟨pb, 14, none⟩) hlt).trans c14
  have RB : Hid ((w.alloc (.cells (pkA pk) 27)).heap[w.heap.size]? = some (.cells (pkA pk) 27 (0, 0))) := heap_alloc_new w _
  have z0 : (w.alloc (.cells (pkA pk) 27)).heap.size = w.heap.size + 1 := by simp
  rcases (by omega : st = 0 ∨ st = 1 ∨ st = 2 ∨ st = 3 ∨ st = 4 ∨ st = 5 ∨ st = 6 ∨ st = 7 ∨ st = 8 ∨ st = 9) with rfl | rfl | rfl | rfl | rfl | rfl | rfl | rfl | rfl | rfl
  · show Calls _ _ _ _ (fun r w' => AtR w w' H pb pk [] r)
    go_enter Tryz.func138, Tryz.ntmps138
    go_wp2_with fail
    go_ret
    exact ⟨_, rfl, acts_nil _ _ _ _, BA.out⟩
  · show Calls _ _ _ _ (fun r w' => AtR w w' H pb pk [] r)
    go_enter Tryz.func138, Tryz.ntmps138
    go_wp2_with fail
    go_ret
    exact ⟨_, rfl, acts_nil _ _ _ _, BA.out⟩
  · show Calls _ _ _ _ (fun r w' => AtR w w' H pb pk [.l 107] r)
    go_enter Tryz.func138, Tryz.ntmps138
    have A0 : Hid (Acts (w.alloc (.cells (pkA pk) 27)) (fun b => H ≤ b) pb pk [] []) := Acts.nil _ _ _ _
    go_wp2_with fail
    refine Calls.mono (mk_endack pb pk (fun _ => False) (w.alloc (.cells (pkA pk) 27)) (fun _ x => x.elim)) ?_
    rintro e w1 ⟨f1, g1, h1, F1, rfl, d1, e1, b1⟩
    have A1 : Hid (Acts w1 (fun b => H ≤ b) pb pk [.l 107] [.func (.func f1) g1 h1]) := A0.out.mk d1 e1 b1 (fun b hb => by rcases hb with x | x; omega; exact x.elim)
    have y1 := b1.size
    have BA1 : Hid (Below w.heap.size w w1) := BA.out.trans (b1.mono (by omega))
    have RB' : Hid (w1.heap[w.heap.size]? = some (.cells (pkA pk) 27 (0, 0))) := (b1.block _ (by omega)).trans RB.out
    have x1_0 : w1.cell? ⟨w.heap.size, 0, none⟩ = some (.int .i64 (pk.1 : Int)) := blk_cell RB'.out
    have x1_1 : w1.cell? ⟨w.heap.size, 1, none⟩ = some (.int .i64 (pk.2.1 : Int)) := blk_cell RB'.out
    have x1_2 : w1.cell? ⟨w.heap.size, 2, none⟩ = some (.string ⟨pk.2.2.toArray⟩) := blk_cell RB'.out
    clear d1 e1 b1
    go_wp2_with fail
    go_ret
    have hA : Below w1.heap.size w1 (w1.alloc (.cells #[.func (.func f1) g1 h1] 113)) := (Below.refl _ _).alloc (Nat.le_refl _) _
    have own := own_built (w := w1) (B := H) (e := 113) (by omega) #[.func (.func f1) g1 h1] (by show 1 ≤ 100; omega)
    exact ⟨_, rfl, acts_own own (A1.out.below hA) (fun _ x => x) (by simp), BA1.out.trans (hA.mono (by have := BA1.out.size; omega))⟩
  · show Calls _ _ _ _ (fun r w' => AtR w w' H pb pk [.l 107] r)
    go_enter Tryz.func138, Tryz.ntmps138
    have A0 : Hid (Acts (w.alloc (.cells (pkA pk) 27)) (fun b => H ≤ b) pb pk [] []) := Acts.nil _ _ _ _
    go_wp2_with fail
    refine Calls.mono (mk_endack pb pk (fun _ => False) (w.alloc (.cells (pkA pk) 27)) (fun _ x => x.elim)) ?_
    rintro e w1 ⟨f1, g1, h1, F1, rfl, d1, e1, b1⟩
    have A1 : Hid (Acts w1 (fun b => H ≤ b) pb pk [.l 107] [.func (.func f1) g1 h1]) := A0.out.mk d1 e1 b1 (fun b hb => by rcases hb with x | x; omega; exact x.elim)
    have y1 := b1.size
    have BA1 : Hid (Below w.heap.size w w1) := BA.out.trans (b1.mono (by omega))
    have RB' : Hid (w1.heap[w.heap.size]? = some (.cells (pkA pk) 27 (0, 0))) := (b1.block _ (by omega)).trans RB.out
    have x1_0 : w1.cell? ⟨w.heap.size, 0, none⟩ = some (.int .i64 (pk.1 : Int)) := blk_cell RB'.out
    have x1_1 : w1.cell? ⟨w.heap.size, 1, none⟩ = some (.int .i64 (pk.2.1 : Int)) := blk_cell RB'.out
    have x1_2 : w1.cell? ⟨w.heap.size, 2, none⟩ = some (.string ⟨pk.2.2.toArray⟩) := blk_cell RB'.out
    clear d1 e1 b1
    go_wp2_with fail
    go_ret
    have hA : Below w1.heap.size w1 (w1.alloc (.cells #[.func (.func f1) g1 h1] 113)) := (Below.refl _ _).alloc (Nat.le_refl _) _
    have own := own_built (w := w1) (B := H) (e := 113) (by omega) #[.func (.func f1) g1 h1] (by show 1 ≤ 100; omega)
    exact ⟨_, rfl, acts_own own (A1.out.below hA) (fun _ x => x) (by simp), BA1.out.trans (hA.mono (by have := BA1.out.size; omega))⟩
  · show Calls _ _ _ _ (fun r w' => AtR w w' H pb pk [] r)
    go_enter Tryz.func138, Tryz.ntmps138
    go_wp2_with fail
    go_ret
    exact ⟨_, rfl, acts_nil _ _ _ _, BA.out⟩
  · show Calls _ _ _ _ (fun r w' => AtR w w' H pb pk [] r)
    go_enter Tryz.func138, Tryz.ntmps138
    go_wp2_with fail
    go_ret
    exact ⟨_, rfl, acts_nil _ _ _ _, BA.out⟩
  · show Calls _ _ _ _ (fun r w' => AtR w w' H pb pk [.l 105, .l 114] r)
    go_enter Tryz.func138, Tryz.ntmps138
    have A0 : Hid (Acts (w.alloc (.cells (pkA pk) 27)) (fun b => H ≤ b) pb pk [] []) := Acts.nil _ _ _ _
    have A1 : Hid (Acts (w.alloc (.cells (pkA pk) 27)) (fun b => H ≤ b) pb pk [.l 105] [methV pb 89]) := A0.out.me a_countRequests trivial
    have A2 : Hid (Acts (w.alloc (.cells (pkA pk) 27)) (fun b => H ≤ b) pb pk [.l 105, .l 114] [methV pb 89, methV pb 90]) := A1.out.me a_sendRequest trivial
    go_wp2_with fail
    go_ret
    have hA : Below (w.alloc (.cells (pkA pk) 27)).heap.size (w.alloc (.cells (pkA pk) 27)) ((w.alloc (.cells (pkA pk) 27)).alloc (.cells #[methV pb 89, methV pb 90] 113)) := (Below.refl _ _).alloc (Nat.le_refl _) _
    have own := own_built (w := (w.alloc (.cells (pkA pk) 27))) (B := H) (e := 113) (by omega) #[methV pb 89, methV pb 90] (by show 2 ≤ 100; omega)
    rw [z0] at own
    exact ⟨_, rfl, acts_own own (A2.out.below hA) (fun _ x => x) (by simp), BA.out.trans (hA.mono (by have := BA.out.size; omega))⟩
  · show Calls _ _ _ _ (fun r w' => AtR w w' H pb pk [.l 114, .l 54] r)
    go_enter Tryz.func138, Tryz.ntmps138
    have A0 : Hid (Acts (w.alloc (.cells (pkA pk) 27)) (fun b => H ≤ b) pb pk [] []) := Acts.nil _ _ _ _
    have A1 : Hid (Acts (w.alloc (.cells (pkA pk) 27)) (fun b => H ≤ b) pb pk [.l 114] [methV pb 90]) := A0.out.me a_sendRequest trivial
    go_wp2_with fail
    refine Calls.mono (enter_any pb 6 (by omega) pk (fun _ => False) (w.alloc (.cells (pkA pk) 27)) (fun _ x => x.elim)) ?_
    rintro e w1 ⟨f1, g1, h1, F1, rfl, d1, e1, b1⟩
    have A2 : Hid (Acts w1 (fun b => H ≤ b) pb pk [.l 114, .l 54] [methV pb 90, .func (.func f1) g1 h1]) := A1.out.mk d1 e1 b1 (fun b hb => by rcases hb with x | x; omega; exact x.elim)
    have y1 := b1.size
    have BA1 : Hid (Below w.heap.size w w1) := BA.out.trans (b1.mono (by omega))
    have RB' : Hid (w1.heap[w.heap.size]? = some (.cells (pkA pk) 27 (0, 0))) := (b1.block _ (by omega)).trans RB.out
    have x1_0 : w1.cell? ⟨w.heap.size, 0, none⟩ = some (.int .i64 (pk.1 : Int)) := blk_cell RB'.out
    have x1_1 : w1.cell? ⟨w.heap.size, 1, none⟩ = some (.int .i64 (pk.2.1 : Int)) := blk_cell RB'.out
    have x1_2 : w1.cell? ⟨w.heap.size, 2, none⟩ = some (.string ⟨pk.2.2.toArray⟩) := blk_cell RB'.out
    clear d1 e1 b1
    go_wp2_with (at_builtin; go_must (refine wpList_append_lies _ rfl (.tmp 31) (.tmp 36) 85 rfl H 113 i0 .nilFunc 1 8 Tryz.underlying85 hi hz0 hz1 hz2 rfl (by decide) _ 0 [] rfl (World.ownsRow_nil _ _ _ _) ⟨w1.heap.size, 0, none⟩ 2 2 [methV pb 90, .func (.func f1) g1 h1] rfl rfl (newsL _ #[methV pb 90, .func (.func f1) g1 h1] _ _ rfl) (by intro u hu; simp at hu; rcases hu with rfl | rfl <;> rfl) (by omega) (by unfold maxLen; omega) (by omega) (by simp; omega) _ rfl ?_; intro gv capv wz hown1 hgrow1 hat1 hlt1))
    go_ret
    have tq := tch_grown hgrow1
    have off : ∀ b, ¬ (Value.slice none 0 0).ownBlock = some b := fun b e => by simp [Value.ownBlock] at e
    exact ⟨_, rfl, acts_own hown1 (A2.out.tch tq (fun b _ => off b)) (fun _ x => x) (by simp), BA1.out.trans (tq.below BA1.out.size (fun b hb => (off b hb).elim))⟩
  · show Calls _ _ _ _ (fun r w' => AtR w w' H pb pk [.l 105, .l 114] r)
    go_enter Tryz.func138, Tryz.ntmps138
    have A0 : Hid (Acts (w.alloc (.cells (pkA pk) 27)) (fun b => H ≤ b) pb pk [] []) := Acts.nil _ _ _ _
    have A1 : Hid (Acts (w.alloc (.cells (pkA pk) 27)) (fun b => H ≤ b) pb pk [.l 105] [methV pb 89]) := A0.out.me a_countRequests trivial
    have A2 : Hid (Acts (w.alloc (.cells (pkA pk) 27)) (fun b => H ≤ b) pb pk [.l 105, .l 114] [methV pb 89, methV pb 90]) := A1.out.me a_sendRequest trivial
    go_wp2_with fail
    go_ret
    have hA : Below (w.alloc (.cells (pkA pk) 27)).heap.size (w.alloc (.cells (pkA pk) 27)) ((w.alloc (.cells (pkA pk) 27)).alloc (.cells #[methV pb 89, methV pb 90] 113)) := (Below.refl _ _).alloc (Nat.le_refl _) _
    have own := own_built (w := (w.alloc (.cells (pkA pk) 27))) (B := H) (e := 113) (by omega) #[methV pb 89, methV pb 90] (by show 2 ≤ 100; omega)
    rw [z0] at own
    exact ⟨_, rfl, acts_own own (A2.out.below hA) (fun _ x => x) (by simp), BA.out.trans (hA.mono (by have := BA.out.size; omega))⟩
  · show Calls _ _ _ _ (fun r w' => AtR w w' H pb pk [.l 100, .l 114, .l 54] r)
    go_enter Tryz.func138, Tryz.ntmps138
    go_wp2_with fail
    have W0 : Hid (((w.alloc (.cells (pkA pk) 27)).alloc (.cells #[methV pb 92] 113)).ownsRow H 113 1 (.slice (some ⟨w.heap.size + 1, 0, none⟩) 1 1) 1 [methV pb 92]) := by
      have := own_built (w := (w.alloc (.cells (pkA pk) 27))) (B := H) (e := 113) (by omega) #[methV pb 92] (by show 1 ≤ 100; omega)
      rw [z0] at this; exact this
    have zA : ((w.alloc (.cells (pkA pk) 27)).alloc (.cells #[methV pb 92] 113)).heap.size = w.heap.size + 1 + 1 := by simp
    have BB : Hid (Below w.heap.size w ((w.alloc (.cells (pkA pk) 27)).alloc (.cells #[methV pb 92] 113))) := BA.out.trans (((Below.refl _ _).alloc (Nat.le_refl _) _).mono (by omega))
    have RC : Hid (((w.alloc (.cells (pkA pk) 27)).alloc (.cells #[methV pb 92] 113)).heap[w.heap.size]? = some (.cells (pkA pk) 27 (0, 0))) := (((Below.refl _ (w.alloc (.cells (pkA pk) 27))).alloc (Nat.le_refl _) _).block _ (by omega)).trans RB.out
    have x0 : ((w.alloc (.cells (pkA pk) 27)).alloc (.cells #[methV pb 92] 113)).cell? ⟨w.heap.size, 0, none⟩ = some (.int .i64 (pk.1 : Int)) := blk_cell RC.out
    have x1 : ((w.alloc (.cells (pkA pk) 27)).alloc (.cells #[methV pb 92] 113)).cell? ⟨w.heap.size, 1, none⟩ = some (.int .i64 (pk.2.1 : Int)) := blk_cell RC.out
    have x2 : ((w.alloc (.cells (pkA pk) 27)).alloc (.cells #[methV pb 92] 113)).cell? ⟨w.heap.size, 2, none⟩ = some (.string ⟨pk.2.2.toArray⟩) := blk_cell RC.out
    generalize ((w.alloc (.cells (pkA pk) 27)).alloc (.cells #[methV pb 92] 113)) = WA at *
    have A0 : Hid (Acts WA (fun b => H ≤ b ∧ b ≠ w.heap.size + 1) pb pk [.l 100] [methV pb 92]) := (Acts.nil _ _ _ _).me a_tellDown trivial
    have A1 : Hid (Acts WA (fun b => H ≤ b ∧ b ≠ w.heap.size + 1) pb pk [.l 100, .l 114] [methV pb 92, methV pb 90]) := A0.out.me a_sendRequest trivial
    go_wp2_with fail
    refine Calls.mono (enter_any pb 6 (by omega) pk (fun _ => False) WA (fun _ x => x.elim)) ?_
    rintro e w1 ⟨f1, g1, h1, F1, rfl, d1, e1, b1⟩
    have A2 : Hid (Acts w1 (fun b => H ≤ b ∧ b ≠ w.heap.size + 1) pb pk [.l 100, .l 114, .l 54] [methV pb 92, methV pb 90, .func (.func f1) g1 h1]) := A1.out.mk d1 e1 b1 (fun b hb => by rcases hb with x | x; omega; exact x.elim)
    have y1 := b1.size
    have BB1 : Hid (Below w.heap.size w w1) := BB.out.trans (b1.mono (by omega))
    have W1 : Hid (w1.ownsRow H 113 1 (.slice (some ⟨w.heap.size + 1, 0, none⟩) 1 1) 1 [methV pb 92]) := owns_below W0.out b1
    have RC' : Hid (w1.heap[w.heap.size]? = some (.cells (pkA pk) 27 (0, 0))) := (b1.block _ (by omega)).trans RC.out
    have x1_0 : w1.cell? ⟨w.heap.size, 0, none⟩ = some (.int .i64 (pk.1 : Int)) := blk_cell RC'.out
    have x1_1 : w1.cell? ⟨w.heap.size, 1, none⟩ = some (.int .i64 (pk.2.1 : Int)) := blk_cell RC'.out
    have x1_2 : w1.cell? ⟨w.heap.size, 2, none⟩ = some (.string ⟨pk.2.2.toArray⟩) := blk_cell RC'.out
    clear d1 e1 b1
    go_wp2_with (at_builtin; go_must (refine wpList_append_lies _ rfl (.tmp 31) (.tmp 36) 85 rfl H 113 i0 .nilFunc 1 8 Tryz.underlying85 hi hz0 hz1 hz2 rfl (by decide) _ 1 [methV pb 92] rfl (W1.out.alloc _) ⟨w1.heap.size, 0, none⟩ 2 2 [methV pb 90, .func (.func f1) g1 h1] rfl rfl (newsL _ #[methV pb 90, .func (.func f1) g1 h1] _ _ rfl) (by intro u hu; simp at hu; rcases hu with rfl | rfl <;> rfl) (by omega) (by unfold maxLen; omega) (by omega) (by simp; omega) _ rfl ?_; intro gv capv wz hown1 hgrow1 hat1 hlt1))
    go_ret
    have tq := tch_grown hgrow1
    have off : ∀ b, (Value.slice (some ⟨w.heap.size + 1, 0, none⟩) 1 1).ownBlock = some b → b = w.heap.size + 1 := fun b e => (Option.some.inj e).symm
    exact ⟨_, rfl, acts_own hown1 (A2.out.tch tq (fun b hb x => hb.2 (off b x))) (fun _ x => x.1) (by simp), BB1.out.trans (tq.below BB1.out.size (fun b hb => by rw [off b hb]; omega))⟩
end Go.Proofs.YtoeihlgidakjbaaGreatDoor

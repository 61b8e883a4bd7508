/- The program's rows of the table of states, part 2: what each answers in each state. -/
import Derived.Test.YtoeihlgidakjbaaGreatDoorPc13
namespace Go.Proofs.YtoeihlgidakjbaaGreatDoor
open Go.RowKit Go.Lib
def row_atGoodRequest : List (List PA) := [[], [], [.l 107], [.l 105, .l 114, .l 97, .l 56], [], [], [.l 97, .l 56], [.l 97, .l 117, .l 57], [.l 97, .l 56], [.l 100, .l 114, .l 97, .l 56]]
set_option maxRecDepth 100000 in
set_option maxHeartbeats 8000000 in
theorem patGoodRequest (pb st H : Nat) (pk : Pk) (w : World) (hst : st < 10) (hlt : pb < w.heap.size) (hH : H ≤ w.heap.size) (c14 : w.cell? ⟨pb, 14, none⟩ = some (.int .i64 (st : Int))) (vi vb : Value) (l L : List (Nat × Nat)) (oi : w.ownsRow H 189 2 vi l.length (itemC l)) (ob : w.ownsRow H 189 2 vb L.length (itemC L)) (hl : itemsL pk.2.2 = some l ∧ l.length = 4) (hL : ItemsOk L) :
    Calls Tryz.prog 129 #[.pointer (some ⟨pb, 0, none⟩), .agg #[.int .i64 (pk.1 : Int), .int .i64 (pk.2.1 : Int), .string ⟨pk.2.2.toArray⟩, vi, vb]] w fun r w' => AtR w w' H pb pk ((row_atGoodRequest).getD st []) r := by
  have hmf : ∀ (fn : Fn) (first cap : Array Value) (w : World), (Instr.makeFunc fn first cap).run Tryz.prog w = .ok (.func fn first cap) w := fun _ _ _ _ => rfl
  obtain ⟨i0, hi, hz0, hz1, hz2⟩ := info_parts Tryz.infoFn
  have BA : Hid (Below w.heap.size w (w.alloc (.cells #[.int .i64 (pk.1 : Int), .int .i64 (pk.2.1 : Int), .string ⟨pk.2.2.toArray⟩, vi, vb] 168))) := (Below.refl _ _).alloc (Nat.le_refl _) _
  have cA : (w.alloc (.cells #[.int .i64 (pk.1 : Int), .int .i64 (pk.2.1 : Int), .string ⟨pk.2.2.toArray⟩, vi, vb] 168)).cell? ⟨pb, 14, none⟩ = some (.int .i64 (st : Int)) := (BA.out.cell (p := ⟨pb, 14, none⟩) hlt).trans c14
  have RB : Hid ((w.alloc (.cells #[.int .i64 (pk.1 : Int), .int .i64 (pk.2.1 : Int), .string ⟨pk.2.2.toArray⟩, vi, vb] 168)).heap[w.heap.size]? = some (.cells #[.int .i64 (pk.1 : Int), .int .i64 (pk.2.1 : Int), .string ⟨pk.2.2.toArray⟩, vi, vb] 168 (0, 0))) := heap_alloc_new w _
  have z0 : (w.alloc (.cells #[.int .i64 (pk.1 : Int), .int .i64 (pk.2.1 : Int), .string ⟨pk.2.2.toArray⟩, vi, vb] 168)).heap.size = w.heap.size + 1 := by simp
  have OI : Hid (w.ownsRow H 189 2 vi l.length (itemC l)) := oi
  have OB : Hid (w.ownsRow H 189 2 vb L.length (itemC L)) := ob
  have hG : Hid (∀ b, (vi.ownBlock = some b ∨ vb.ownBlock = some b) → H ≤ b ∧ b < w.heap.size) := fun b hb => hb.elim (fun x => oi.lt b x) (fun x => ob.lt b x)
  have HL : Hid (itemsL pk.2.2 = some l ∧ l.length = 4) := hl
  have HLL : Hid (ItemsOk L) := hL
  clear oi ob hl hL
  rcases (by omega : st = 0 ∨ st = 1 ∨ st = 2 ∨ st = 3 ∨ st = 4 ∨ st = 5 ∨ st = 6 ∨ st = 7 ∨ st = 8 ∨ st = 9) with rfl | rfl | rfl | rfl | rfl | rfl | rfl | rfl | rfl | rfl
  · show Calls _ _ _ _ (fun r w' => AtR w w' H pb pk [] r)
    go_enter Tryz.func129, Tryz.ntmps129
    go_wp2_with fail
    go_ret
    exact ⟨_, rfl, acts_nil _ _ _ _, BA.out⟩
  · show Calls _ _ _ _ (fun r w' => AtR w w' H pb pk [] r)
    go_enter Tryz.func129, Tryz.ntmps129
    go_wp2_with fail
    go_ret
    exact ⟨_, rfl, acts_nil _ _ _ _, BA.out⟩
  · show Calls _ _ _ _ (fun r w' => AtR w w' H pb pk [.l 107] r)
    go_enter Tryz.func129, Tryz.ntmps129
    have OI2 : Hid ((w.alloc (.cells #[.int .i64 (pk.1 : Int), .int .i64 (pk.2.1 : Int), .string ⟨pk.2.2.toArray⟩, vi, vb] 168)).ownsRow H 189 2 vi l.length (itemC l)) := owns_below OI.out BA.out
    have OB2 : Hid ((w.alloc (.cells #[.int .i64 (pk.1 : Int), .int .i64 (pk.2.1 : Int), .string ⟨pk.2.2.toArray⟩, vi, vb] 168)).ownsRow H 189 2 vb L.length (itemC L)) := owns_below OB.out BA.out
    have A0 : Hid (Acts (w.alloc (.cells #[.int .i64 (pk.1 : Int), .int .i64 (pk.2.1 : Int), .string ⟨pk.2.2.toArray⟩, vi, vb] 168)) (fun b => H ≤ b) pb pk [] []) := Acts.nil _ _ _ _
    go_wp2_with fail
    refine Calls.mono (mk_endack pb pk (fun b => vi.ownBlock = some b ∨ vb.ownBlock = some b) (w.alloc (.cells #[.int .i64 (pk.1 : Int), .int .i64 (pk.2.1 : Int), .string ⟨pk.2.2.toArray⟩, vi, vb] 168)) (fun b hb => (by have := hG.out b hb; omega))) ?_
    rintro e w1 ⟨f1, g1, h1, F1, rfl, d1, e1, b1⟩
    have A1 : Hid (Acts w1 (fun b => H ≤ b) pb pk [.l 107] [.func (.func f1) g1 h1]) := A0.out.mk d1 e1 b1 (fun b hb => by rcases hb with x | x; omega; (have := hG.out b x; omega))
    have y1 := b1.size
    have BA1 : Hid (Below w.heap.size w w1) := BA.out.trans (b1.mono (by omega))
    have RB' : Hid (w1.heap[w.heap.size]? = some (.cells #[.int .i64 (pk.1 : Int), .int .i64 (pk.2.1 : Int), .string ⟨pk.2.2.toArray⟩, vi, vb] 168 (0, 0))) := (b1.block _ (by omega)).trans RB.out
    have x1_0 : w1.cell? ⟨w.heap.size, 0, none⟩ = some (.int .i64 (pk.1 : Int)) := blk_cell RB'.out
    have x1_1 : w1.cell? ⟨w.heap.size, 1, none⟩ = some (.int .i64 (pk.2.1 : Int)) := blk_cell RB'.out
    have x1_2 : w1.cell? ⟨w.heap.size, 2, none⟩ = some (.string ⟨pk.2.2.toArray⟩) := blk_cell RB'.out
    have x1_3 : w1.cell? ⟨w.heap.size, 3, none⟩ = some (vi) := blk_cell RB'.out
    have x1_4 : w1.cell? ⟨w.heap.size, 4, none⟩ = some (vb) := blk_cell RB'.out
    have OI2x : Hid (w1.ownsRow H 189 2 vi l.length (itemC l)) := owns_below OI2.out b1
    have OB2x : Hid (w1.ownsRow H 189 2 vb L.length (itemC L)) := owns_below OB2.out b1
    clear d1 e1 b1
    go_wp2_with fail
    go_ret
    have hA : Below w1.heap.size w1 (w1.alloc (.cells #[.func (.func f1) g1 h1] 113)) := (Below.refl _ _).alloc (Nat.le_refl _) _
    have own := own_built (w := w1) (B := H) (e := 113) (by omega) #[.func (.func f1) g1 h1] (by show 1 ≤ 100; omega)
    exact ⟨_, rfl, acts_own own (A1.out.below hA) (fun _ x => x) (by simp), BA1.out.trans (hA.mono (by have := BA1.out.size; omega))⟩
  · show Calls _ _ _ _ (fun r w' => AtR w w' H pb pk [.l 105, .l 114, .l 97, .l 56] r)
    go_enter Tryz.func129, Tryz.ntmps129
    have OI2 : Hid ((w.alloc (.cells #[.int .i64 (pk.1 : Int), .int .i64 (pk.2.1 : Int), .string ⟨pk.2.2.toArray⟩, vi, vb] 168)).ownsRow H 189 2 vi l.length (itemC l)) := owns_below OI.out BA.out
    have OB2 : Hid ((w.alloc (.cells #[.int .i64 (pk.1 : Int), .int .i64 (pk.2.1 : Int), .string ⟨pk.2.2.toArray⟩, vi, vb] 168)).ownsRow H 189 2 vb L.length (itemC L)) := owns_below OB.out BA.out
    have A0 : Hid (Acts (w.alloc (.cells #[.int .i64 (pk.1 : Int), .int .i64 (pk.2.1 : Int), .string ⟨pk.2.2.toArray⟩, vi, vb] 168)) (fun b => H ≤ b) pb pk [] []) := Acts.nil _ _ _ _
    have A1 : Hid (Acts (w.alloc (.cells #[.int .i64 (pk.1 : Int), .int .i64 (pk.2.1 : Int), .string ⟨pk.2.2.toArray⟩, vi, vb] 168)) (fun b => H ≤ b) pb pk [.l 105] [methV pb 89]) := A0.out.me a_countRequests trivial
    have A2 : Hid (Acts (w.alloc (.cells #[.int .i64 (pk.1 : Int), .int .i64 (pk.2.1 : Int), .string ⟨pk.2.2.toArray⟩, vi, vb] 168)) (fun b => H ≤ b) pb pk [.l 105, .l 114] [methV pb 89, methV pb 90]) := A1.out.me a_sendRequest trivial
    go_wp2_with fail
    refine Calls.mono (mk_ack pb H pk (w.alloc (.cells #[.int .i64 (pk.1 : Int), .int .i64 (pk.2.1 : Int), .string ⟨pk.2.2.toArray⟩, vi, vb] 168)) vi vb l L OI2.out OB2.out HL.out) ?_
    rintro e w1 ⟨f1, g1, h1, F1, rfl, d1, e1, b1⟩
    have A3 : Hid (Acts w1 (fun b => H ≤ b) pb pk [.l 105, .l 114, .l 97] [methV pb 89, methV pb 90, .func (.func f1) g1 h1]) := A2.out.mk d1 e1 b1 (fun b hb => by rcases hb with x | x; omega; (have := hG.out b x; omega))
    have y1 := b1.size
    have BA1 : Hid (Below w.heap.size w w1) := BA.out.trans (b1.mono (by omega))
    have RB' : Hid (w1.heap[w.heap.size]? = some (.cells #[.int .i64 (pk.1 : Int), .int .i64 (pk.2.1 : Int), .string ⟨pk.2.2.toArray⟩, vi, vb] 168 (0, 0))) := (b1.block _ (by omega)).trans RB.out
    have x1_0 : w1.cell? ⟨w.heap.size, 0, none⟩ = some (.int .i64 (pk.1 : Int)) := blk_cell RB'.out
    have x1_1 : w1.cell? ⟨w.heap.size, 1, none⟩ = some (.int .i64 (pk.2.1 : Int)) := blk_cell RB'.out
    have x1_2 : w1.cell? ⟨w.heap.size, 2, none⟩ = some (.string ⟨pk.2.2.toArray⟩) := blk_cell RB'.out
    have x1_3 : w1.cell? ⟨w.heap.size, 3, none⟩ = some (vi) := blk_cell RB'.out
    have x1_4 : w1.cell? ⟨w.heap.size, 4, none⟩ = some (vb) := blk_cell RB'.out
    have OI2x : Hid (w1.ownsRow H 189 2 vi l.length (itemC l)) := owns_below OI2.out b1
    have OB2x : Hid (w1.ownsRow H 189 2 vb L.length (itemC L)) := owns_below OB2.out b1
    clear d1 e1 b1
    go_wp2_with fail
    refine Calls.mono (enter_any pb 8 (by omega) pk (fun b => vi.ownBlock = some b ∨ vb.ownBlock = some b) w1 (fun b hb => (by have := hG.out b hb; omega))) ?_
    rintro e w2 ⟨f2, g2, h2, F2, rfl, d2, e2, b2⟩
    have A4 : Hid (Acts w2 (fun b => H ≤ b) pb pk [.l 105, .l 114, .l 97, .l 56] [methV pb 89, methV pb 90, .func (.func f1) g1 h1, .func (.func f2) g2 h2]) := A3.out.mk d2 e2 b2 (fun b hb => by rcases hb with x | x; omega; (have := hG.out b x; omega))
    have y2 := b2.size
    have BA12 : Hid (Below w.heap.size w w2) := BA1.out.trans (b2.mono (by omega))
    have RB'' : Hid (w2.heap[w.heap.size]? = some (.cells #[.int .i64 (pk.1 : Int), .int .i64 (pk.2.1 : Int), .string ⟨pk.2.2.toArray⟩, vi, vb] 168 (0, 0))) := (b2.block _ (by omega)).trans RB'.out
    have x2_0 : w2.cell? ⟨w.heap.size, 0, none⟩ = some (.int .i64 (pk.1 : Int)) := blk_cell RB''.out
    have x2_1 : w2.cell? ⟨w.heap.size, 1, none⟩ = some (.int .i64 (pk.2.1 : Int)) := blk_cell RB''.out
    have x2_2 : w2.cell? ⟨w.heap.size, 2, none⟩ = some (.string ⟨pk.2.2.toArray⟩) := blk_cell RB''.out
    have x2_3 : w2.cell? ⟨w.heap.size, 3, none⟩ = some (vi) := blk_cell RB''.out
    have x2_4 : w2.cell? ⟨w.heap.size, 4, none⟩ = some (vb) := blk_cell RB''.out
    have OI2xx : Hid (w2.ownsRow H 189 2 vi l.length (itemC l)) := owns_below OI2x.out b2
    have OB2xx : Hid (w2.ownsRow H 189 2 vb L.length (itemC L)) := owns_below OB2x.out b2
    clear d2 e2 b2
    go_wp2_with fail
    go_ret
    have hA : Below w2.heap.size w2 (w2.alloc (.cells #[methV pb 89, methV pb 90, .func (.func f1) g1 h1, .func (.func f2) g2 h2] 113)) := (Below.refl _ _).alloc (Nat.le_refl _) _
    have own := own_built (w := w2) (B := H) (e := 113) (by omega) #[methV pb 89, methV pb 90, .func (.func f1) g1 h1, .func (.func f2) g2 h2] (by show 4 ≤ 100; omega)
    exact ⟨_, rfl, acts_own own (A4.out.below hA) (fun _ x => x) (by simp), BA12.out.trans (hA.mono (by have := BA12.out.size; omega))⟩
  · show Calls _ _ _ _ (fun r w' => AtR w w' H pb pk [] r)
    go_enter Tryz.func129, Tryz.ntmps129
    go_wp2_with fail
    go_ret
    exact ⟨_, rfl, acts_nil _ _ _ _, BA.out⟩
  · show Calls _ _ _ _ (fun r w' => AtR w w' H pb pk [] r)
    go_enter Tryz.func129, Tryz.ntmps129
    go_wp2_with fail
    go_ret
    exact ⟨_, rfl, acts_nil _ _ _ _, BA.out⟩
  · show Calls _ _ _ _ (fun r w' => AtR w w' H pb pk [.l 97, .l 56] r)
    go_enter Tryz.func129, Tryz.ntmps129
    have OI2 : Hid ((w.alloc (.cells #[.int .i64 (pk.1 : Int), .int .i64 (pk.2.1 : Int), .string ⟨pk.2.2.toArray⟩, vi, vb] 168)).ownsRow H 189 2 vi l.length (itemC l)) := owns_below OI.out BA.out
    have OB2 : Hid ((w.alloc (.cells #[.int .i64 (pk.1 : Int), .int .i64 (pk.2.1 : Int), .string ⟨pk.2.2.toArray⟩, vi, vb] 168)).ownsRow H 189 2 vb L.length (itemC L)) := owns_below OB.out BA.out
    have A0 : Hid (Acts (w.alloc (.cells #[.int .i64 (pk.1 : Int), .int .i64 (pk.2.1 : Int), .string ⟨pk.2.2.toArray⟩, vi, vb] 168)) (fun b => H ≤ b) pb pk [] []) := Acts.nil _ _ _ _
    go_wp2_with fail
    refine Calls.mono (mk_ack pb H pk (w.alloc (.cells #[.int .i64 (pk.1 : Int), .int .i64 (pk.2.1 : Int), .string ⟨pk.2.2.toArray⟩, vi, vb] 168)) vi vb l L OI2.out OB2.out HL.out) ?_
    rintro e w1 ⟨f1, g1, h1, F1, rfl, d1, e1, b1⟩
    have A1 : Hid (Acts w1 (fun b => H ≤ b) pb pk [.l 97] [.func (.func f1) g1 h1]) := A0.out.mk d1 e1 b1 (fun b hb => by rcases hb with x | x; omega; (have := hG.out b x; omega))
    have y1 := b1.size
    have BA1 : Hid (Below w.heap.size w w1) := BA.out.trans (b1.mono (by omega))
    have RB' : Hid (w1.heap[w.heap.size]? = some (.cells #[.int .i64 (pk.1 : Int), .int .i64 (pk.2.1 : Int), .string ⟨pk.2.2.toArray⟩, vi, vb] 168 (0, 0))) := (b1.block _ (by omega)).trans RB.out
    have x1_0 : w1.cell? ⟨w.heap.size, 0, none⟩ = some (.int .i64 (pk.1 : Int)) := blk_cell RB'.out
    have x1_1 : w1.cell? ⟨w.heap.size, 1, none⟩ = some (.int .i64 (pk.2.1 : Int)) := blk_cell RB'.out
    have x1_2 : w1.cell? ⟨w.heap.size, 2, none⟩ = some (.string ⟨pk.2.2.toArray⟩) := blk_cell RB'.out
    have x1_3 : w1.cell? ⟨w.heap.size, 3, none⟩ = some (vi) := blk_cell RB'.out
    have x1_4 : w1.cell? ⟨w.heap.size, 4, none⟩ = some (vb) := blk_cell RB'.out
    have OI2x : Hid (w1.ownsRow H 189 2 vi l.length (itemC l)) := owns_below OI2.out b1
    have OB2x : Hid (w1.ownsRow H 189 2 vb L.length (itemC L)) := owns_below OB2.out b1
    clear d1 e1 b1
    go_wp2_with fail
    refine Calls.mono (enter_any pb 8 (by omega) pk (fun b => vi.ownBlock = some b ∨ vb.ownBlock = some b) w1 (fun b hb => (by have := hG.out b hb; omega))) ?_
    rintro e w2 ⟨f2, g2, h2, F2, rfl, d2, e2, b2⟩
    have A2 : Hid (Acts w2 (fun b => H ≤ b) pb pk [.l 97, .l 56] [.func (.func f1) g1 h1, .func (.func f2) g2 h2]) := A1.out.mk d2 e2 b2 (fun b hb => by rcases hb with x | x; omega; (have := hG.out b x; omega))
    have y2 := b2.size
    have BA12 : Hid (Below w.heap.size w w2) := BA1.out.trans (b2.mono (by omega))
    have RB'' : Hid (w2.heap[w.heap.size]? = some (.cells #[.int .i64 (pk.1 : Int), .int .i64 (pk.2.1 : Int), .string ⟨pk.2.2.toArray⟩, vi, vb] 168 (0, 0))) := (b2.block _ (by omega)).trans RB'.out
    have x2_0 : w2.cell? ⟨w.heap.size, 0, none⟩ = some (.int .i64 (pk.1 : Int)) := blk_cell RB''.out
    have x2_1 : w2.cell? ⟨w.heap.size, 1, none⟩ = some (.int .i64 (pk.2.1 : Int)) := blk_cell RB''.out
    have x2_2 : w2.cell? ⟨w.heap.size, 2, none⟩ = some (.string ⟨pk.2.2.toArray⟩) := blk_cell RB''.out
    have x2_3 : w2.cell? ⟨w.heap.size, 3, none⟩ = some (vi) := blk_cell RB''.out
    have x2_4 : w2.cell? ⟨w.heap.size, 4, none⟩ = some (vb) := blk_cell RB''.out
    have OI2xx : Hid (w2.ownsRow H 189 2 vi l.length (itemC l)) := owns_below OI2x.out b2
    have OB2xx : Hid (w2.ownsRow H 189 2 vb L.length (itemC L)) := owns_below OB2x.out b2
    clear d2 e2 b2
    go_wp2_with (at_builtin; go_must (refine wpList_append_lies _ rfl (.tmp 48) (.tmp 54) 85 rfl H 113 i0 .nilFunc 1 8 Tryz.underlying85 hi hz0 hz1 hz2 rfl (by decide) _ 0 [] rfl (World.ownsRow_nil _ _ _ _) ⟨w2.heap.size, 0, none⟩ 2 2 [.func (.func f1) g1 h1, .func (.func f2) g2 h2] rfl rfl (newsL _ #[.func (.func f1) g1 h1, .func (.func f2) g2 h2] _ _ rfl) (by intro u hu; simp at hu; rcases hu with rfl | rfl <;> rfl) (by omega) (by unfold maxLen; omega) (by omega) (by simp; omega) _ rfl ?_; intro gv capv wz hown1 hgrow1 hat1 hlt1))
    go_ret
    have tq := tch_grown hgrow1
    have off : ∀ b, ¬ (Value.slice none 0 0).ownBlock = some b := fun b e => by simp [Value.ownBlock] at e
    exact ⟨_, rfl, acts_own hown1 (A2.out.tch tq (fun b _ => off b)) (fun _ x => x) (by simp), BA12.out.trans (tq.below BA12.out.size (fun b hb => (off b hb).elim))⟩
  · show Calls _ _ _ _ (fun r w' => AtR w w' H pb pk [.l 97, .l 117, .l 57] r)
    go_enter Tryz.func129, Tryz.ntmps129
    have OI2 : Hid ((w.alloc (.cells #[.int .i64 (pk.1 : Int), .int .i64 (pk.2.1 : Int), .string ⟨pk.2.2.toArray⟩, vi, vb] 168)).ownsRow H 189 2 vi l.length (itemC l)) := owns_below OI.out BA.out
    have OB2 : Hid ((w.alloc (.cells #[.int .i64 (pk.1 : Int), .int .i64 (pk.2.1 : Int), .string ⟨pk.2.2.toArray⟩, vi, vb] 168)).ownsRow H 189 2 vb L.length (itemC L)) := owns_below OB.out BA.out
    have A0 : Hid (Acts (w.alloc (.cells #[.int .i64 (pk.1 : Int), .int .i64 (pk.2.1 : Int), .string ⟨pk.2.2.toArray⟩, vi, vb] 168)) (fun b => H ≤ b) pb pk [] []) := Acts.nil _ _ _ _
    go_wp2_with fail
    refine Calls.mono (mk_ack pb H pk (w.alloc (.cells #[.int .i64 (pk.1 : Int), .int .i64 (pk.2.1 : Int), .string ⟨pk.2.2.toArray⟩, vi, vb] 168)) vi vb l L OI2.out OB2.out HL.out) ?_
    rintro e w1 ⟨f1, g1, h1, F1, rfl, d1, e1, b1⟩
    have A1 : Hid (Acts w1 (fun b => H ≤ b) pb pk [.l 97] [.func (.func f1) g1 h1]) := A0.out.mk d1 e1 b1 (fun b hb => by rcases hb with x | x; omega; (have := hG.out b x; omega))
    have y1 := b1.size
    have BA1 : Hid (Below w.heap.size w w1) := BA.out.trans (b1.mono (by omega))
    have RB' : Hid (w1.heap[w.heap.size]? = some (.cells #[.int .i64 (pk.1 : Int), .int .i64 (pk.2.1 : Int), .string ⟨pk.2.2.toArray⟩, vi, vb] 168 (0, 0))) := (b1.block _ (by omega)).trans RB.out
    have x1_0 : w1.cell? ⟨w.heap.size, 0, none⟩ = some (.int .i64 (pk.1 : Int)) := blk_cell RB'.out
    have x1_1 : w1.cell? ⟨w.heap.size, 1, none⟩ = some (.int .i64 (pk.2.1 : Int)) := blk_cell RB'.out
    have x1_2 : w1.cell? ⟨w.heap.size, 2, none⟩ = some (.string ⟨pk.2.2.toArray⟩) := blk_cell RB'.out
    have x1_3 : w1.cell? ⟨w.heap.size, 3, none⟩ = some (vi) := blk_cell RB'.out
    have x1_4 : w1.cell? ⟨w.heap.size, 4, none⟩ = some (vb) := blk_cell RB'.out
    have OI2x : Hid (w1.ownsRow H 189 2 vi l.length (itemC l)) := owns_below OI2.out b1
    have OB2x : Hid (w1.ownsRow H 189 2 vb L.length (itemC L)) := owns_below OB2.out b1
    clear d1 e1 b1
    have A2 : Hid (Acts w1 (fun b => H ≤ b) pb pk [.l 97, .l 117] [.func (.func f1) g1 h1, methV pb 160]) := A1.out.me a_tellUp trivial
    go_wp2_with fail
    refine Calls.mono (enter_any pb 9 (by omega) pk (fun b => vi.ownBlock = some b ∨ vb.ownBlock = some b) w1 (fun b hb => (by have := hG.out b hb; omega))) ?_
    rintro e w2 ⟨f2, g2, h2, F2, rfl, d2, e2, b2⟩
    have A3 : Hid (Acts w2 (fun b => H ≤ b) pb pk [.l 97, .l 117, .l 57] [.func (.func f1) g1 h1, methV pb 160, .func (.func f2) g2 h2]) := A2.out.mk d2 e2 b2 (fun b hb => by rcases hb with x | x; omega; (have := hG.out b x; omega))
    have y2 := b2.size
    have BA12 : Hid (Below w.heap.size w w2) := BA1.out.trans (b2.mono (by omega))
    have RB'' : Hid (w2.heap[w.heap.size]? = some (.cells #[.int .i64 (pk.1 : Int), .int .i64 (pk.2.1 : Int), .string ⟨pk.2.2.toArray⟩, vi, vb] 168 (0, 0))) := (b2.block _ (by omega)).trans RB'.out
    have x2_0 : w2.cell? ⟨w.heap.size, 0, none⟩ = some (.int .i64 (pk.1 : Int)) := blk_cell RB''.out
    have x2_1 : w2.cell? ⟨w.heap.size, 1, none⟩ = some (.int .i64 (pk.2.1 : Int)) := blk_cell RB''.out
    have x2_2 : w2.cell? ⟨w.heap.size, 2, none⟩ = some (.string ⟨pk.2.2.toArray⟩) := blk_cell RB''.out
    have x2_3 : w2.cell? ⟨w.heap.size, 3, none⟩ = some (vi) := blk_cell RB''.out
    have x2_4 : w2.cell? ⟨w.heap.size, 4, none⟩ = some (vb) := blk_cell RB''.out
    have OI2xx : Hid (w2.ownsRow H 189 2 vi l.length (itemC l)) := owns_below OI2x.out b2
    have OB2xx : Hid (w2.ownsRow H 189 2 vb L.length (itemC L)) := owns_below OB2x.out b2
    clear d2 e2 b2
    go_wp2_with fail
    go_ret
    have hA : Below w2.heap.size w2 (w2.alloc (.cells #[.func (.func f1) g1 h1, methV pb 160, .func (.func f2) g2 h2] 113)) := (Below.refl _ _).alloc (Nat.le_refl _) _
    have own := own_built (w := w2) (B := H) (e := 113) (by omega) #[.func (.func f1) g1 h1, methV pb 160, .func (.func f2) g2 h2] (by show 3 ≤ 100; omega)
    exact ⟨_, rfl, acts_own own (A3.out.below hA) (fun _ x => x) (by simp), BA12.out.trans (hA.mono (by have := BA12.out.size; omega))⟩
  · show Calls _ _ _ _ (fun r w' => AtR w w' H pb pk [.l 97, .l 56] r)
    go_enter Tryz.func129, Tryz.ntmps129
    have OI2 : Hid ((w.alloc (.cells #[.int .i64 (pk.1 : Int), .int .i64 (pk.2.1 : Int), .string ⟨pk.2.2.toArray⟩, vi, vb] 168)).ownsRow H 189 2 vi l.length (itemC l)) := owns_below OI.out BA.out
    have OB2 : Hid ((w.alloc (.cells #[.int .i64 (pk.1 : Int), .int .i64 (pk.2.1 : Int), .string ⟨pk.2.2.toArray⟩, vi, vb] 168)).ownsRow H 189 2 vb L.length (itemC L)) := owns_below OB.out BA.out
    have A0 : Hid (Acts (w.alloc (.cells #[.int .i64 (pk.1 : Int), .int .i64 (pk.2.1 : Int), .string ⟨pk.2.2.toArray⟩, vi, vb] 168)) (fun b => H ≤ b) pb pk [] []) := Acts.nil _ _ _ _
    go_wp2_with fail
    refine Calls.mono (mk_ack pb H pk (w.alloc (.cells #[.int .i64 (pk.1 : Int), .int .i64 (pk.2.1 : Int), .string ⟨pk.2.2.toArray⟩, vi, vb] 168)) vi vb l L OI2.out OB2.out HL.out) ?_
    rintro e w1 ⟨f1, g1, h1, F1, rfl, d1, e1, b1⟩
    have A1 : Hid (Acts w1 (fun b => H ≤ b) pb pk [.l 97] [.func (.func f1) g1 h1]) := A0.out.mk d1 e1 b1 (fun b hb => by rcases hb with x | x; omega; (have := hG.out b x; omega))
    have y1 := b1.size
    have BA1 : Hid (Below w.heap.size w w1) := BA.out.trans (b1.mono (by omega))
    have RB' : Hid (w1.heap[w.heap.size]? = some (.cells #[.int .i64 (pk.1 : Int), .int .i64 (pk.2.1 : Int), .string ⟨pk.2.2.toArray⟩, vi, vb] 168 (0, 0))) := (b1.block _ (by omega)).trans RB.out
    have x1_0 : w1.cell? ⟨w.heap.size, 0, none⟩ = some (.int .i64 (pk.1 : Int)) := blk_cell RB'.out
    have x1_1 : w1.cell? ⟨w.heap.size, 1, none⟩ = some (.int .i64 (pk.2.1 : Int)) := blk_cell RB'.out
    have x1_2 : w1.cell? ⟨w.heap.size, 2, none⟩ = some (.string ⟨pk.2.2.toArray⟩) := blk_cell RB'.out
    have x1_3 : w1.cell? ⟨w.heap.size, 3, none⟩ = some (vi) := blk_cell RB'.out
    have x1_4 : w1.cell? ⟨w.heap.size, 4, none⟩ = some (vb) := blk_cell RB'.out
    have OI2x : Hid (w1.ownsRow H 189 2 vi l.length (itemC l)) := owns_below OI2.out b1
    have OB2x : Hid (w1.ownsRow H 189 2 vb L.length (itemC L)) := owns_below OB2.out b1
    clear d1 e1 b1
    go_wp2_with fail
    refine Calls.mono (enter_any pb 8 (by omega) pk (fun b => vi.ownBlock = some b ∨ vb.ownBlock = some b) w1 (fun b hb => (by have := hG.out b hb; omega))) ?_
    rintro e w2 ⟨f2, g2, h2, F2, rfl, d2, e2, b2⟩
    have A2 : Hid (Acts w2 (fun b => H ≤ b) pb pk [.l 97, .l 56] [.func (.func f1) g1 h1, .func (.func f2) g2 h2]) := A1.out.mk d2 e2 b2 (fun b hb => by rcases hb with x | x; omega; (have := hG.out b x; omega))
    have y2 := b2.size
    have BA12 : Hid (Below w.heap.size w w2) := BA1.out.trans (b2.mono (by omega))
    have RB'' : Hid (w2.heap[w.heap.size]? = some (.cells #[.int .i64 (pk.1 : Int), .int .i64 (pk.2.1 : Int), .string ⟨pk.2.2.toArray⟩, vi, vb] 168 (0, 0))) := (b2.block _ (by omega)).trans RB'.out
    have x2_0 : w2.cell? ⟨w.heap.size, 0, none⟩ = some (.int .i64 (pk.1 : Int)) := blk_cell RB''.out
    have x2_1 : w2.cell? ⟨w.heap.size, 1, none⟩ = some (.int .i64 (pk.2.1 : Int)) := blk_cell RB''.out
    have x2_2 : w2.cell? ⟨w.heap.size, 2, none⟩ = some (.string ⟨pk.2.2.toArray⟩) := blk_cell RB''.out
    have x2_3 : w2.cell? ⟨w.heap.size, 3, none⟩ = some (vi) := blk_cell RB''.out
    have x2_4 : w2.cell? ⟨w.heap.size, 4, none⟩ = some (vb) := blk_cell RB''.out
    have OI2xx : Hid (w2.ownsRow H 189 2 vi l.length (itemC l)) := owns_below OI2x.out b2
    have OB2xx : Hid (w2.ownsRow H 189 2 vb L.length (itemC L)) := owns_below OB2x.out b2
    clear d2 e2 b2
    go_wp2_with (at_builtin; go_must (refine wpList_append_lies _ rfl (.tmp 48) (.tmp 54) 85 rfl H 113 i0 .nilFunc 1 8 Tryz.underlying85 hi hz0 hz1 hz2 rfl (by decide) _ 0 [] rfl (World.ownsRow_nil _ _ _ _) ⟨w2.heap.size, 0, none⟩ 2 2 [.func (.func f1) g1 h1, .func (.func f2) g2 h2] rfl rfl (newsL _ #[.func (.func f1) g1 h1, .func (.func f2) g2 h2] _ _ rfl) (by intro u hu; simp at hu; rcases hu with rfl | rfl <;> rfl) (by omega) (by unfold maxLen; omega) (by omega) (by simp; omega) _ rfl ?_; intro gv capv wz hown1 hgrow1 hat1 hlt1))
    go_ret
    have tq := tch_grown hgrow1
    have off : ∀ b, ¬ (Value.slice none 0 0).ownBlock = some b := fun b e => by simp [Value.ownBlock] at e
    exact ⟨_, rfl, acts_own hown1 (A2.out.tch tq (fun b _ => off b)) (fun _ x => x) (by simp), BA12.out.trans (tq.below BA12.out.size (fun b hb => (off b hb).elim))⟩
  · show Calls _ _ _ _ (fun r w' => AtR w w' H pb pk [.l 100, .l 114, .l 97, .l 56] r)
    go_enter Tryz.func129, Tryz.ntmps129
    go_wp2_with fail
    have W0 : Hid (((w.alloc (.cells #[.int .i64 (pk.1 : Int), .int .i64 (pk.2.1 : Int), .string ⟨pk.2.2.toArray⟩, vi, vb] 168)).alloc (.cells #[methV pb 92, methV pb 90] 113)).ownsRow H 113 1 (.slice (some ⟨w.heap.size + 1, 0, none⟩) 2 2) 2 [methV pb 92, methV pb 90]) := by
      have := own_built (w := (w.alloc (.cells #[.int .i64 (pk.1 : Int), .int .i64 (pk.2.1 : Int), .string ⟨pk.2.2.toArray⟩, vi, vb] 168))) (B := H) (e := 113) (by omega) #[methV pb 92, methV pb 90] (by show 2 ≤ 100; omega)
      rw [z0] at this; exact this
    have zA : ((w.alloc (.cells #[.int .i64 (pk.1 : Int), .int .i64 (pk.2.1 : Int), .string ⟨pk.2.2.toArray⟩, vi, vb] 168)).alloc (.cells #[methV pb 92, methV pb 90] 113)).heap.size = w.heap.size + 1 + 1 := by simp
    have BB : Hid (Below w.heap.size w ((w.alloc (.cells #[.int .i64 (pk.1 : Int), .int .i64 (pk.2.1 : Int), .string ⟨pk.2.2.toArray⟩, vi, vb] 168)).alloc (.cells #[methV pb 92, methV pb 90] 113))) := BA.out.trans (((Below.refl _ _).alloc (Nat.le_refl _) _).mono (by omega))
    have RC : Hid (((w.alloc (.cells #[.int .i64 (pk.1 : Int), .int .i64 (pk.2.1 : Int), .string ⟨pk.2.2.toArray⟩, vi, vb] 168)).alloc (.cells #[methV pb 92, methV pb 90] 113)).heap[w.heap.size]? = some (.cells #[.int .i64 (pk.1 : Int), .int .i64 (pk.2.1 : Int), .string ⟨pk.2.2.toArray⟩, vi, vb] 168 (0, 0))) := (((Below.refl _ (w.alloc (.cells #[.int .i64 (pk.1 : Int), .int .i64 (pk.2.1 : Int), .string ⟨pk.2.2.toArray⟩, vi, vb] 168))).alloc (Nat.le_refl _) _).block _ (by omega)).trans RB.out
    have x0 : ((w.alloc (.cells #[.int .i64 (pk.1 : Int), .int .i64 (pk.2.1 : Int), .string ⟨pk.2.2.toArray⟩, vi, vb] 168)).alloc (.cells #[methV pb 92, methV pb 90] 113)).cell? ⟨w.heap.size, 0, none⟩ = some (.int .i64 (pk.1 : Int)) := blk_cell RC.out
    have x1 : ((w.alloc (.cells #[.int .i64 (pk.1 : Int), .int .i64 (pk.2.1 : Int), .string ⟨pk.2.2.toArray⟩, vi, vb] 168)).alloc (.cells #[methV pb 92, methV pb 90] 113)).cell? ⟨w.heap.size, 1, none⟩ = some (.int .i64 (pk.2.1 : Int)) := blk_cell RC.out
    have x2 : ((w.alloc (.cells #[.int .i64 (pk.1 : Int), .int .i64 (pk.2.1 : Int), .string ⟨pk.2.2.toArray⟩, vi, vb] 168)).alloc (.cells #[methV pb 92, methV pb 90] 113)).cell? ⟨w.heap.size, 2, none⟩ = some (.string ⟨pk.2.2.toArray⟩) := blk_cell RC.out
    have x3 : ((w.alloc (.cells #[.int .i64 (pk.1 : Int), .int .i64 (pk.2.1 : Int), .string ⟨pk.2.2.toArray⟩, vi, vb] 168)).alloc (.cells #[methV pb 92, methV pb 90] 113)).cell? ⟨w.heap.size, 3, none⟩ = some (vi) := blk_cell RC.out
    have x4 : ((w.alloc (.cells #[.int .i64 (pk.1 : Int), .int .i64 (pk.2.1 : Int), .string ⟨pk.2.2.toArray⟩, vi, vb] 168)).alloc (.cells #[methV pb 92, methV pb 90] 113)).cell? ⟨w.heap.size, 4, none⟩ = some (vb) := blk_cell RC.out
    have OI2 : Hid (((w.alloc (.cells #[.int .i64 (pk.1 : Int), .int .i64 (pk.2.1 : Int), .string ⟨pk.2.2.toArray⟩, vi, vb] 168)).alloc (.cells #[methV pb 92, methV pb 90] 113)).ownsRow H 189 2 vi l.length (itemC l)) := owns_below OI.out BB.out
    have OB2 : Hid (((w.alloc (.cells #[.int .i64 (pk.1 : Int), .int .i64 (pk.2.1 : Int), .string ⟨pk.2.2.toArray⟩, vi, vb] 168)).alloc (.cells #[methV pb 92, methV pb 90] 113)).ownsRow H 189 2 vb L.length (itemC L)) := owns_below OB.out BB.out
    generalize ((w.alloc (.cells #[.int .i64 (pk.1 : Int), .int .i64 (pk.2.1 : Int), .string ⟨pk.2.2.toArray⟩, vi, vb] 168)).alloc (.cells #[methV pb 92, methV pb 90] 113)) = WA at *
    have A0 : Hid (Acts WA (fun b => H ≤ b ∧ b ≠ w.heap.size + 1) pb pk [.l 100, .l 114] [methV pb 92, methV pb 90]) := ((Acts.nil _ _ _ _).me a_tellDown trivial).me a_sendRequest trivial
    go_wp2_with fail
    refine Calls.mono (mk_ack pb H pk WA vi vb l L OI2.out OB2.out HL.out) ?_
    rintro e w1 ⟨f1, g1, h1, F1, rfl, d1, e1, b1⟩
    have A1 : Hid (Acts w1 (fun b => H ≤ b ∧ b ≠ w.heap.size + 1) pb pk [.l 100, .l 114, .l 97] [methV pb 92, methV pb 90, .func (.func f1) g1 h1]) := A0.out.mk d1 e1 b1 (fun b hb => by rcases hb with x | x; omega; (have := hG.out b x; omega))
    have y1 := b1.size
    have BB1 : Hid (Below w.heap.size w w1) := BB.out.trans (b1.mono (by omega))
    have W1 : Hid (w1.ownsRow H 113 1 (.slice (some ⟨w.heap.size + 1, 0, none⟩) 2 2) 2 [methV pb 92, methV pb 90]) := owns_below W0.out b1
    have RC' : Hid (w1.heap[w.heap.size]? = some (.cells #[.int .i64 (pk.1 : Int), .int .i64 (pk.2.1 : Int), .string ⟨pk.2.2.toArray⟩, vi, vb] 168 (0, 0))) := (b1.block _ (by omega)).trans RC.out
    have x1_0 : w1.cell? ⟨w.heap.size, 0, none⟩ = some (.int .i64 (pk.1 : Int)) := blk_cell RC'.out
    have x1_1 : w1.cell? ⟨w.heap.size, 1, none⟩ = some (.int .i64 (pk.2.1 : Int)) := blk_cell RC'.out
    have x1_2 : w1.cell? ⟨w.heap.size, 2, none⟩ = some (.string ⟨pk.2.2.toArray⟩) := blk_cell RC'.out
    have x1_3 : w1.cell? ⟨w.heap.size, 3, none⟩ = some (vi) := blk_cell RC'.out
    have x1_4 : w1.cell? ⟨w.heap.size, 4, none⟩ = some (vb) := blk_cell RC'.out
    have OI2x : Hid (w1.ownsRow H 189 2 vi l.length (itemC l)) := owns_below OI2.out b1
    have OB2x : Hid (w1.ownsRow H 189 2 vb L.length (itemC L)) := owns_below OB2.out b1
    clear d1 e1 b1
    go_wp2_with fail
    refine Calls.mono (enter_any pb 8 (by omega) pk (fun b => vi.ownBlock = some b ∨ vb.ownBlock = some b) w1 (fun b hb => (by have := hG.out b hb; omega))) ?_
    rintro e w2 ⟨f2, g2, h2, F2, rfl, d2, e2, b2⟩
    have A2 : Hid (Acts w2 (fun b => H ≤ b ∧ b ≠ w.heap.size + 1) pb pk [.l 100, .l 114, .l 97, .l 56] [methV pb 92, methV pb 90, .func (.func f1) g1 h1, .func (.func f2) g2 h2]) := A1.out.mk d2 e2 b2 (fun b hb => by rcases hb with x | x; omega; (have := hG.out b x; omega))
    have y2 := b2.size
    have BB12 : Hid (Below w.heap.size w w2) := BB1.out.trans (b2.mono (by omega))
    have W2 : Hid (w2.ownsRow H 113 1 (.slice (some ⟨w.heap.size + 1, 0, none⟩) 2 2) 2 [methV pb 92, methV pb 90]) := owns_below W1.out b2
    have RC'' : Hid (w2.heap[w.heap.size]? = some (.cells #[.int .i64 (pk.1 : Int), .int .i64 (pk.2.1 : Int), .string ⟨pk.2.2.toArray⟩, vi, vb] 168 (0, 0))) := (b2.block _ (by omega)).trans RC'.out
    have x2_0 : w2.cell? ⟨w.heap.size, 0, none⟩ = some (.int .i64 (pk.1 : Int)) := blk_cell RC''.out
    have x2_1 : w2.cell? ⟨w.heap.size, 1, none⟩ = some (.int .i64 (pk.2.1 : Int)) := blk_cell RC''.out
    have x2_2 : w2.cell? ⟨w.heap.size, 2, none⟩ = some (.string ⟨pk.2.2.toArray⟩) := blk_cell RC''.out
    have x2_3 : w2.cell? ⟨w.heap.size, 3, none⟩ = some (vi) := blk_cell RC''.out
    have x2_4 : w2.cell? ⟨w.heap.size, 4, none⟩ = some (vb) := blk_cell RC''.out
    have OI2xx : Hid (w2.ownsRow H 189 2 vi l.length (itemC l)) := owns_below OI2x.out b2
    have OB2xx : Hid (w2.ownsRow H 189 2 vb L.length (itemC L)) := owns_below OB2x.out b2
    clear d2 e2 b2
    go_wp2_with (at_builtin; go_must (refine wpList_append_lies _ rfl (.tmp 48) (.tmp 54) 85 rfl H 113 i0 .nilFunc 1 8 Tryz.underlying85 hi hz0 hz1 hz2 rfl (by decide) _ 2 [methV pb 92, methV pb 90] rfl (W2.out.alloc _) ⟨w2.heap.size, 0, none⟩ 2 2 [.func (.func f1) g1 h1, .func (.func f2) g2 h2] rfl rfl (newsL _ #[.func (.func f1) g1 h1, .func (.func f2) g2 h2] _ _ rfl) (by intro u hu; simp at hu; rcases hu with rfl | rfl <;> rfl) (by omega) (by unfold maxLen; omega) (by omega) (by simp; omega) _ rfl ?_; intro gv capv wz hown1 hgrow1 hat1 hlt1))
    go_ret
    have tq := tch_grown hgrow1
    have off : ∀ b, (Value.slice (some ⟨w.heap.size + 1, 0, none⟩) 2 2).ownBlock = some b → b = w.heap.size + 1 := fun b e => (Option.some.inj e).symm
    exact ⟨_, rfl, acts_own hown1 (A2.out.tch tq (fun b hb x => hb.2 (off b x))) (fun _ x => x.1) (by simp), BB12.out.trans (tq.below BB12.out.size (fun b hb => by rw [off b hb]; omega))⟩
def row_atBadRequest (L : List (Nat × Nat)) : List (List PA) := [[], [], [.l 107], [.l 105, .l 114, .nak L, .l 54], [], [], [.nak L, .l 54], [.nak L], [.nak L, .l 54], [.l 100, .l 114, .nak L, .l 54]]
set_option maxRecDepth 100000 in
set_option maxHeartbeats 8000000 in
theorem patBadRequest (pb st H : Nat) (pk : Pk) (w : World) (hst : st < 10) (hlt : pb < w.heap.size) (hH : H ≤ w.heap.size) (c14 : w.cell? ⟨pb, 14, none⟩ = some (.int .i64 (st : Int))) (vi vb : Value) (l L : List (Nat × Nat)) (oi : w.ownsRow H 189 2 vi l.length (itemC l)) (ob : w.ownsRow H 189 2 vb L.length (itemC L)) (hl : itemsL pk.2.2 = some l ∧ l.length = 4) (hL : ItemsOk L) (h0 : 0 < L.length) :
    Calls Tryz.prog 132 #[.pointer (some ⟨pb, 0, none⟩), .agg #[.int .i64 (pk.1 : Int), .int .i64 (pk.2.1 : Int), .string ⟨pk.2.2.toArray⟩, vi, vb]] w fun r w' => AtR w w' H pb pk ((row_atBadRequest L).getD st []) r := by
  have hmf : ∀ (fn : Fn) (first cap : Array Value) (w : World), (Instr.makeFunc fn first cap).run Tryz.prog w = .ok (.func fn first cap) w := fun _ _ _ _ => rfl
  obtain ⟨i0, hi, hz0, hz1, hz2⟩ := info_parts Tryz.infoFn
  have BA : Hid (Below w.heap.size w (w.alloc (.cells #[.int .i64 (pk.1 : Int), .int .i64 (pk.2.1 : Int), .string ⟨pk.2.2.toArray⟩, vi, vb] 168))) := (Below.refl _ _).alloc (Nat.le_refl _) _
  have cA : (w.alloc (.cells #[.int .i64 (pk.1 : Int), .int .i64 (pk.2.1 : Int), .string ⟨pk.2.2.toArray⟩, vi, vb] 168)).cell? ⟨pb, 14, none⟩ = some (.int .i64 (st : Int)) := (BA.out.cell (p := ⟨pb, 14, none⟩) hlt).trans c14
  have RB : Hid ((w.alloc (.cells #[.int .i64 (pk.1 : Int), .int .i64 (pk.2.1 : Int), .string ⟨pk.2.2.toArray⟩, vi, vb] 168)).heap[w.heap.size]? = some (.cells #[.int .i64 (pk.1 : Int), .int .i64 (pk.2.1 : Int), .string ⟨pk.2.2.toArray⟩, vi, vb] 168 (0, 0))) := heap_alloc_new w _
  have z0 : (w.alloc (.cells #[.int .i64 (pk.1 : Int), .int .i64 (pk.2.1 : Int), .string ⟨pk.2.2.toArray⟩, vi, vb] 168)).heap.size = w.heap.size + 1 := by simp
  have OI : Hid (w.ownsRow H 189 2 vi l.length (itemC l)) := oi
  have OB : Hid (w.ownsRow H 189 2 vb L.length (itemC L)) := ob
  have hG : Hid (∀ b, (vi.ownBlock = some b ∨ vb.ownBlock = some b) → H ≤ b ∧ b < w.heap.size) := fun b hb => hb.elim (fun x => oi.lt b x) (fun x => ob.lt b x)
  have HL : Hid (itemsL pk.2.2 = some l ∧ l.length = 4) := hl
  have HLL : Hid (ItemsOk L) := hL
  clear oi ob hl hL
  rcases (by omega : st = 0 ∨ st = 1 ∨ st = 2 ∨ st = 3 ∨ st = 4 ∨ st = 5 ∨ st = 6 ∨ st = 7 ∨ st = 8 ∨ st = 9) with rfl | rfl | rfl | rfl | rfl | rfl | rfl | rfl | rfl | rfl
  · show Calls _ _ _ _ (fun r w' => AtR w w' H pb pk [] r)
    go_enter Tryz.func132, Tryz.ntmps132
    go_wp2_with fail
    go_ret
    exact ⟨_, rfl, acts_nil _ _ _ _, BA.out⟩
  · show Calls _ _ _ _ (fun r w' => AtR w w' H pb pk [] r)
    go_enter Tryz.func132, Tryz.ntmps132
    go_wp2_with fail
    go_ret
    exact ⟨_, rfl, acts_nil _ _ _ _, BA.out⟩
  · show Calls _ _ _ _ (fun r w' => AtR w w' H pb pk [.l 107] r)
    go_enter Tryz.func132, Tryz.ntmps132
    have OI2 : Hid ((w.alloc (.cells #[.int .i64 (pk.1 : Int), .int .i64 (pk.2.1 : Int), .string ⟨pk.2.2.toArray⟩, vi, vb] 168)).ownsRow H 189 2 vi l.length (itemC l)) := owns_below OI.out BA.out
    have OB2 : Hid ((w.alloc (.cells #[.int .i64 (pk.1 : Int), .int .i64 (pk.2.1 : Int), .string ⟨pk.2.2.toArray⟩, vi, vb] 168)).ownsRow H 189 2 vb L.length (itemC L)) := owns_below OB.out BA.out
    have A0 : Hid (Acts (w.alloc (.cells #[.int .i64 (pk.1 : Int), .int .i64 (pk.2.1 : Int), .string ⟨pk.2.2.toArray⟩, vi, vb] 168)) (fun b => H ≤ b) pb pk [] []) := Acts.nil _ _ _ _
    go_wp2_with fail
    refine Calls.mono (mk_endack pb pk (fun b => vi.ownBlock = some b ∨ vb.ownBlock = some b) (w.alloc (.cells #[.int .i64 (pk.1 : Int), .int .i64 (pk.2.1 : Int), .string ⟨pk.2.2.toArray⟩, vi, vb] 168)) (fun b hb => (by have := hG.out b hb; omega))) ?_
    rintro e w1 ⟨f1, g1, h1, F1, rfl, d1, e1, b1⟩
    have A1 : Hid (Acts w1 (fun b => H ≤ b) pb pk [.l 107] [.func (.func f1) g1 h1]) := A0.out.mk d1 e1 b1 (fun b hb => by rcases hb with x | x; omega; (have := hG.out b x; omega))
    have y1 := b1.size
    have BA1 : Hid (Below w.heap.size w w1) := BA.out.trans (b1.mono (by omega))
    have RB' : Hid (w1.heap[w.heap.size]? = some (.cells #[.int .i64 (pk.1 : Int), .int .i64 (pk.2.1 : Int), .string ⟨pk.2.2.toArray⟩, vi, vb] 168 (0, 0))) := (b1.block _ (by omega)).trans RB.out
    have x1_0 : w1.cell? ⟨w.heap.size, 0, none⟩ = some (.int .i64 (pk.1 : Int)) := blk_cell RB'.out
    have x1_1 : w1.cell? ⟨w.heap.size, 1, none⟩ = some (.int .i64 (pk.2.1 : Int)) := blk_cell RB'.out
    have x1_2 : w1.cell? ⟨w.heap.size, 2, none⟩ = some (.string ⟨pk.2.2.toArray⟩) := blk_cell RB'.out
    have x1_3 : w1.cell? ⟨w.heap.size, 3, none⟩ = some (vi) := blk_cell RB'.out
    have x1_4 : w1.cell? ⟨w.heap.size, 4, none⟩ = some (vb) := blk_cell RB'.out
    have OI2x : Hid (w1.ownsRow H 189 2 vi l.length (itemC l)) := owns_below OI2.out b1
    have OB2x : Hid (w1.ownsRow H 189 2 vb L.length (itemC L)) := owns_below OB2.out b1
    clear d1 e1 b1
    go_wp2_with fail
    go_ret
    have hA : Below w1.heap.size w1 (w1.alloc (.cells #[.func (.func f1) g1 h1] 113)) := (Below.refl _ _).alloc (Nat.le_refl _) _
    have own := own_built (w := w1) (B := H) (e := 113) (by omega) #[.func (.func f1) g1 h1] (by show 1 ≤ 100; omega)
    exact ⟨_, rfl, acts_own own (A1.out.below hA) (fun _ x => x) (by simp), BA1.out.trans (hA.mono (by have := BA1.out.size; omega))⟩
  · show Calls _ _ _ _ (fun r w' => AtR w w' H pb pk [.l 105, .l 114, .nak L, .l 54] r)
    go_enter Tryz.func132, Tryz.ntmps132
    have OI2 : Hid ((w.alloc (.cells #[.int .i64 (pk.1 : Int), .int .i64 (pk.2.1 : Int), .string ⟨pk.2.2.toArray⟩, vi, vb] 168)).ownsRow H 189 2 vi l.length (itemC l)) := owns_below OI.out BA.out
    have OB2 : Hid ((w.alloc (.cells #[.int .i64 (pk.1 : Int), .int .i64 (pk.2.1 : Int), .string ⟨pk.2.2.toArray⟩, vi, vb] 168)).ownsRow H 189 2 vb L.length (itemC L)) := owns_below OB.out BA.out
    have A0 : Hid (Acts (w.alloc (.cells #[.int .i64 (pk.1 : Int), .int .i64 (pk.2.1 : Int), .string ⟨pk.2.2.toArray⟩, vi, vb] 168)) (fun b => H ≤ b) pb pk [] []) := Acts.nil _ _ _ _
    have A1 : Hid (Acts (w.alloc (.cells #[.int .i64 (pk.1 : Int), .int .i64 (pk.2.1 : Int), .string ⟨pk.2.2.toArray⟩, vi, vb] 168)) (fun b => H ≤ b) pb pk [.l 105] [methV pb 89]) := A0.out.me a_countRequests trivial
    have A2 : Hid (Acts (w.alloc (.cells #[.int .i64 (pk.1 : Int), .int .i64 (pk.2.1 : Int), .string ⟨pk.2.2.toArray⟩, vi, vb] 168)) (fun b => H ≤ b) pb pk [.l 105, .l 114] [methV pb 89, methV pb 90]) := A1.out.me a_sendRequest trivial
    go_wp2_with fail
    refine Calls.mono (mk_nak pb H pk (w.alloc (.cells #[.int .i64 (pk.1 : Int), .int .i64 (pk.2.1 : Int), .string ⟨pk.2.2.toArray⟩, vi, vb] 168)) vi vb l L OI2.out OB2.out HLL.out h0) ?_
    rintro e w1 ⟨f1, g1, h1, F1, rfl, d1, e1, b1⟩
    have A3 : Hid (Acts w1 (fun b => H ≤ b) pb pk [.l 105, .l 114, .nak L] [methV pb 89, methV pb 90, .func (.func f1) g1 h1]) := A2.out.mk d1 e1 b1 (fun b hb => by rcases hb with x | x; omega; (have := hG.out b x; omega))
    have y1 := b1.size
    have BA1 : Hid (Below w.heap.size w w1) := BA.out.trans (b1.mono (by omega))
    have RB' : Hid (w1.heap[w.heap.size]? = some (.cells #[.int .i64 (pk.1 : Int), .int .i64 (pk.2.1 : Int), .string ⟨pk.2.2.toArray⟩, vi, vb] 168 (0, 0))) := (b1.block _ (by omega)).trans RB.out
    have x1_0 : w1.cell? ⟨w.heap.size, 0, none⟩ = some (.int .i64 (pk.1 : Int)) := blk_cell RB'.out
    have x1_1 : w1.cell? ⟨w.heap.size, 1, none⟩ = some (.int .i64 (pk.2.1 : Int)) := blk_cell RB'.out
    have x1_2 : w1.cell? ⟨w.heap.size, 2, none⟩ = some (.string ⟨pk.2.2.toArray⟩) := blk_cell RB'.out
    have x1_3 : w1.cell? ⟨w.heap.size, 3, none⟩ = some (vi) := blk_cell RB'.out
    have x1_4 : w1.cell? ⟨w.heap.size, 4, none⟩ = some (vb) := blk_cell RB'.out
    have OI2x : Hid (w1.ownsRow H 189 2 vi l.length (itemC l)) := owns_below OI2.out b1
    have OB2x : Hid (w1.ownsRow H 189 2 vb L.length (itemC L)) := owns_below OB2.out b1
    clear d1 e1 b1
    go_wp2_with fail
    refine Calls.mono (enter_any pb 6 (by omega) pk (fun b => vi.ownBlock = some b ∨ vb.ownBlock = some b) w1 (fun b hb => (by have := hG.out b hb; omega))) ?_
    rintro e w2 ⟨f2, g2, h2, F2, rfl, d2, e2, b2⟩
    have A4 : Hid (Acts w2 (fun b => H ≤ b) pb pk [.l 105, .l 114, .nak L, .l 54] [methV pb 89, methV pb 90, .func (.func f1) g1 h1, .func (.func f2) g2 h2]) := A3.out.mk d2 e2 b2 (fun b hb => by rcases hb with x | x; omega; (have := hG.out b x; omega))
    have y2 := b2.size
    have BA12 : Hid (Below w.heap.size w w2) := BA1.out.trans (b2.mono (by omega))
    have RB'' : Hid (w2.heap[w.heap.size]? = some (.cells #[.int .i64 (pk.1 : Int), .int .i64 (pk.2.1 : Int), .string ⟨pk.2.2.toArray⟩, vi, vb] 168 (0, 0))) := (b2.block _ (by omega)).trans RB'.out
    have x2_0 : w2.cell? ⟨w.heap.size, 0, none⟩ = some (.int .i64 (pk.1 : Int)) := blk_cell RB''.out
    have x2_1 : w2.cell? ⟨w.heap.size, 1, none⟩ = some (.int .i64 (pk.2.1 : Int)) := blk_cell RB''.out
    have x2_2 : w2.cell? ⟨w.heap.size, 2, none⟩ = some (.string ⟨pk.2.2.toArray⟩) := blk_cell RB''.out
    have x2_3 : w2.cell? ⟨w.heap.size, 3, none⟩ = some (vi) := blk_cell RB''.out
    have x2_4 : w2.cell? ⟨w.heap.size, 4, none⟩ = some (vb) := blk_cell RB''.out
    have OI2xx : Hid (w2.ownsRow H 189 2 vi l.length (itemC l)) := owns_below OI2x.out b2
    have OB2xx : Hid (w2.ownsRow H 189 2 vb L.length (itemC L)) := owns_below OB2x.out b2
    clear d2 e2 b2
    go_wp2_with fail
    go_ret
    have hA : Below w2.heap.size w2 (w2.alloc (.cells #[methV pb 89, methV pb 90, .func (.func f1) g1 h1, .func (.func f2) g2 h2] 113)) := (Below.refl _ _).alloc (Nat.le_refl _) _
    have own := own_built (w := w2) (B := H) (e := 113) (by omega) #[methV pb 89, methV pb 90, .func (.func f1) g1 h1, .func (.func f2) g2 h2] (by show 4 ≤ 100; omega)
    exact ⟨_, rfl, acts_own own (A4.out.below hA) (fun _ x => x) (by simp), BA12.out.trans (hA.mono (by have := BA12.out.size; omega))⟩
  · show Calls _ _ _ _ (fun r w' => AtR w w' H pb pk [] r)
    go_enter Tryz.func132, Tryz.ntmps132
    go_wp2_with fail
    go_ret
    exact ⟨_, rfl, acts_nil _ _ _ _, BA.out⟩
  · show Calls _ _ _ _ (fun r w' => AtR w w' H pb pk [] r)
    go_enter Tryz.func132, Tryz.ntmps132
    go_wp2_with fail
    go_ret
    exact ⟨_, rfl, acts_nil _ _ _ _, BA.out⟩
  · show Calls _ _ _ _ (fun r w' => AtR w w' H pb pk [.nak L, .l 54] r)
    go_enter Tryz.func132, Tryz.ntmps132
    have OI2 : Hid ((w.alloc (.cells #[.int .i64 (pk.1 : Int), .int .i64 (pk.2.1 : Int), .string ⟨pk.2.2.toArray⟩, vi, vb] 168)).ownsRow H 189 2 vi l.length (itemC l)) := owns_below OI.out BA.out
    have OB2 : Hid ((w.alloc (.cells #[.int .i64 (pk.1 : Int), .int .i64 (pk.2.1 : Int), .string ⟨pk.2.2.toArray⟩, vi, vb] 168)).ownsRow H 189 2 vb L.length (itemC L)) := owns_below OB.out BA.out
    have A0 : Hid (Acts (w.alloc (.cells #[.int .i64 (pk.1 : Int), .int .i64 (pk.2.1 : Int), .string ⟨pk.2.2.toArray⟩, vi, vb] 168)) (fun b => H ≤ b) pb pk [] []) := Acts.nil _ _ _ _
    go_wp2_with fail
    refine Calls.mono (mk_nak pb H pk (w.alloc (.cells #[.int .i64 (pk.1 : Int), .int .i64 (pk.2.1 : Int), .string ⟨pk.2.2.toArray⟩, vi, vb] 168)) vi vb l L OI2.out OB2.out HLL.out h0) ?_
    rintro e w1 ⟨f1, g1, h1, F1, rfl, d1, e1, b1⟩
    have A1 : Hid (Acts w1 (fun b => H ≤ b) pb pk [.nak L] [.func (.func f1) g1 h1]) := A0.out.mk d1 e1 b1 (fun b hb => by rcases hb with x | x; omega; (have := hG.out b x; omega))
    have y1 := b1.size
    have BA1 : Hid (Below w.heap.size w w1) := BA.out.trans (b1.mono (by omega))
    have RB' : Hid (w1.heap[w.heap.size]? = some (.cells #[.int .i64 (pk.1 : Int), .int .i64 (pk.2.1 : Int), .string ⟨pk.2.2.toArray⟩, vi, vb] 168 (0, 0))) := (b1.block _ (by omega)).trans RB.out
    have x1_0 : w1.cell? ⟨w.heap.size, 0, none⟩ = some (.int .i64 (pk.1 : Int)) := blk_cell RB'.out
    have x1_1 : w1.cell? ⟨w.heap.size, 1, none⟩ = some (.int .i64 (pk.2.1 : Int)) := blk_cell RB'.out
    have x1_2 : w1.cell? ⟨w.heap.size, 2, none⟩ = some (.string ⟨pk.2.2.toArray⟩) := blk_cell RB'.out
    have x1_3 : w1.cell? ⟨w.heap.size, 3, none⟩ = some (vi) := blk_cell RB'.out
    have x1_4 : w1.cell? ⟨w.heap.size, 4, none⟩ = some (vb) := blk_cell RB'.out
    have OI2x : Hid (w1.ownsRow H 189 2 vi l.length (itemC l)) := owns_below OI2.out b1
    have OB2x : Hid (w1.ownsRow H 189 2 vb L.length (itemC L)) := owns_below OB2.out b1
    clear d1 e1 b1
    go_wp2_with fail
    refine Calls.mono (enter_any pb 6 (by omega) pk (fun b => vi.ownBlock = some b ∨ vb.ownBlock = some b) w1 (fun b hb => (by have := hG.out b hb; omega))) ?_
    rintro e w2 ⟨f2, g2, h2, F2, rfl, d2, e2, b2⟩
    have A2 : Hid (Acts w2 (fun b => H ≤ b) pb pk [.nak L, .l 54] [.func (.func f1) g1 h1, .func (.func f2) g2 h2]) := A1.out.mk d2 e2 b2 (fun b hb => by rcases hb with x | x; omega; (have := hG.out b x; omega))
    have y2 := b2.size
    have BA12 : Hid (Below w.heap.size w w2) := BA1.out.trans (b2.mono (by omega))
    have RB'' : Hid (w2.heap[w.heap.size]? = some (.cells #[.int .i64 (pk.1 : Int), .int .i64 (pk.2.1 : Int), .string ⟨pk.2.2.toArray⟩, vi, vb] 168 (0, 0))) := (b2.block _ (by omega)).trans RB'.out
    have x2_0 : w2.cell? ⟨w.heap.size, 0, none⟩ = some (.int .i64 (pk.1 : Int)) := blk_cell RB''.out
    have x2_1 : w2.cell? ⟨w.heap.size, 1, none⟩ = some (.int .i64 (pk.2.1 : Int)) := blk_cell RB''.out
    have x2_2 : w2.cell? ⟨w.heap.size, 2, none⟩ = some (.string ⟨pk.2.2.toArray⟩) := blk_cell RB''.out
    have x2_3 : w2.cell? ⟨w.heap.size, 3, none⟩ = some (vi) := blk_cell RB''.out
    have x2_4 : w2.cell? ⟨w.heap.size, 4, none⟩ = some (vb) := blk_cell RB''.out
    have OI2xx : Hid (w2.ownsRow H 189 2 vi l.length (itemC l)) := owns_below OI2x.out b2
    have OB2xx : Hid (w2.ownsRow H 189 2 vb L.length (itemC L)) := owns_below OB2x.out b2
    clear d2 e2 b2
    go_wp2_with (at_builtin; go_must (refine wpList_append_lies _ rfl (.tmp 44) (.tmp 50) 85 rfl H 113 i0 .nilFunc 1 8 Tryz.underlying85 hi hz0 hz1 hz2 rfl (by decide) _ 0 [] rfl (World.ownsRow_nil _ _ _ _) ⟨w2.heap.size, 0, none⟩ 2 2 [.func (.func f1) g1 h1, .func (.func f2) g2 h2] rfl rfl (newsL _ #[.func (.func f1) g1 h1, .func (.func f2) g2 h2] _ _ rfl) (by intro u hu; simp at hu; rcases hu with rfl | rfl <;> rfl) (by omega) (by unfold maxLen; omega) (by omega) (by simp; omega) _ rfl ?_; intro gv capv wz hown1 hgrow1 hat1 hlt1))
    go_ret
    have tq := tch_grown hgrow1
    have off : ∀ b, ¬ (Value.slice none 0 0).ownBlock = some b := fun b e => by simp [Value.ownBlock] at e
    exact ⟨_, rfl, acts_own hown1 (A2.out.tch tq (fun b _ => off b)) (fun _ x => x) (by simp), BA12.out.trans (tq.below BA12.out.size (fun b hb => (off b hb).elim))⟩
  · show Calls _ _ _ _ (fun r w' => AtR w w' H pb pk [.nak L] r)
    go_enter Tryz.func132, Tryz.ntmps132
    have OI2 : Hid ((w.alloc (.cells #[.int .i64 (pk.1 : Int), .int .i64 (pk.2.1 : Int), .string ⟨pk.2.2.toArray⟩, vi, vb] 168)).ownsRow H 189 2 vi l.length (itemC l)) := owns_below OI.out BA.out
    have OB2 : Hid ((w.alloc (.cells #[.int .i64 (pk.1 : Int), .int .i64 (pk.2.1 : Int), .string ⟨pk.2.2.toArray⟩, vi, vb] 168)).ownsRow H 189 2 vb L.length (itemC L)) := owns_below OB.out BA.out
    have A0 : Hid (Acts (w.alloc (.cells #[.int .i64 (pk.1 : Int), .int .i64 (pk.2.1 : Int), .string ⟨pk.2.2.toArray⟩, vi, vb] 168)) (fun b => H ≤ b) pb pk [] []) := Acts.nil _ _ _ _
    go_wp2_with fail
    refine Calls.mono (mk_nak pb H pk (w.alloc (.cells #[.int .i64 (pk.1 : Int), .int .i64 (pk.2.1 : Int), .string ⟨pk.2.2.toArray⟩, vi, vb] 168)) vi vb l L OI2.out OB2.out HLL.out h0) ?_
    rintro e w1 ⟨f1, g1, h1, F1, rfl, d1, e1, b1⟩
    have A1 : Hid (Acts w1 (fun b => H ≤ b) pb pk [.nak L] [.func (.func f1) g1 h1]) := A0.out.mk d1 e1 b1 (fun b hb => by rcases hb with x | x; omega; (have := hG.out b x; omega))
    have y1 := b1.size
    have BA1 : Hid (Below w.heap.size w w1) := BA.out.trans (b1.mono (by omega))
    have RB' : Hid (w1.heap[w.heap.size]? = some (.cells #[.int .i64 (pk.1 : Int), .int .i64 (pk.2.1 : Int), .string ⟨pk.2.2.toArray⟩, vi, vb] 168 (0, 0))) := (b1.block _ (by omega)).trans RB.out
    have x1_0 : w1.cell? ⟨w.heap.size, 0, none⟩ = some (.int .i64 (pk.1 : Int)) := blk_cell RB'.out
    have x1_1 : w1.cell? ⟨w.heap.size, 1, none⟩ = some (.int .i64 (pk.2.1 : Int)) := blk_cell RB'.out
    have x1_2 : w1.cell? ⟨w.heap.size, 2, none⟩ = some (.string ⟨pk.2.2.toArray⟩) := blk_cell RB'.out
    have x1_3 : w1.cell? ⟨w.heap.size, 3, none⟩ = some (vi) := blk_cell RB'.out
    have x1_4 : w1.cell? ⟨w.heap.size, 4, none⟩ = some (vb) := blk_cell RB'.out
    have OI2x : Hid (w1.ownsRow H 189 2 vi l.length (itemC l)) := owns_below OI2.out b1
    have OB2x : Hid (w1.ownsRow H 189 2 vb L.length (itemC L)) := owns_below OB2.out b1
    clear d1 e1 b1
    go_wp2_with fail
    go_ret
    have hA : Below w1.heap.size w1 (w1.alloc (.cells #[.func (.func f1) g1 h1] 113)) := (Below.refl _ _).alloc (Nat.le_refl _) _
    have own := own_built (w := w1) (B := H) (e := 113) (by omega) #[.func (.func f1) g1 h1] (by show 1 ≤ 100; omega)
    exact ⟨_, rfl, acts_own own (A1.out.below hA) (fun _ x => x) (by simp), BA1.out.trans (hA.mono (by have := BA1.out.size; omega))⟩
  · show Calls _ _ _ _ (fun r w' => AtR w w' H pb pk [.nak L, .l 54] r)
    go_enter Tryz.func132, Tryz.ntmps132
    have OI2 : Hid ((w.alloc (.cells #[.int .i64 (pk.1 : Int), .int .i64 (pk.2.1 : Int), .string ⟨pk.2.2.toArray⟩, vi, vb] 168)).ownsRow H 189 2 vi l.length (itemC l)) := owns_below OI.out BA.out
    have OB2 : Hid ((w.alloc (.cells #[.int .i64 (pk.1 : Int), .int .i64 (pk.2.1 : Int), .string ⟨pk.2.2.toArray⟩, vi, vb] 168)).ownsRow H 189 2 vb L.length (itemC L)) := owns_below OB.out BA.out
    have A0 : Hid (Acts (w.alloc (.cells #[.int .i64 (pk.1 : Int), .int .i64 (pk.2.1 : Int), .string ⟨pk.2.2.toArray⟩, vi, vb] 168)) (fun b => H ≤ b) pb pk [] []) := Acts.nil _ _ _ _
    go_wp2_with fail
    refine Calls.mono (mk_nak pb H pk (w.alloc (.cells #[.int .i64 (pk.1 : Int), .int .i64 (pk.2.1 : Int), .string ⟨pk.2.2.toArray⟩, vi, vb] 168)) vi vb l L OI2.out OB2.out HLL.out h0) ?_
    rintro e w1 ⟨f1, g1, h1, F1, rfl, d1, e1, b1⟩
    have A1 : Hid (Acts w1 (fun b => H ≤ b) pb pk [.nak L] [.func (.func f1) g1 h1]) := A0.out.mk d1 e1 b1 (fun b hb => by rcases hb with x | x; omega; (have := hG.out b x; omega))
    have y1 := b1.size
    have BA1 : Hid (Below w.heap.size w w1) := BA.out.trans (b1.mono (by omega))
    have RB' : Hid (w1.heap[w.heap.size]? = some (.cells #[.int .i64 (pk.1 : Int), .int .i64 (pk.2.1 : Int), .string ⟨pk.2.2.toArray⟩, vi, vb] 168 (0, 0))) := (b1.block _ (by omega)).trans RB.out
    have x1_0 : w1.cell? ⟨w.heap.size, 0, none⟩ = some (.int .i64 (pk.1 : Int)) := blk_cell RB'.out
    have x1_1 : w1.cell? ⟨w.heap.size, 1, none⟩ = some (.int .i64 (pk.2.1 : Int)) := blk_cell RB'.out
    have x1_2 : w1.cell? ⟨w.heap.size, 2, none⟩ = some (.string ⟨pk.2.2.toArray⟩) := blk_cell RB'.out
    have x1_3 : w1.cell? ⟨w.heap.size, 3, none⟩ = some (vi) := blk_cell RB'.out
    have x1_4 : w1.cell? ⟨w.heap.size, 4, none⟩ = some (vb) := blk_cell RB'.out
    have OI2x : Hid (w1.ownsRow H 189 2 vi l.length (itemC l)) := owns_below OI2.out b1
    have OB2x : Hid (w1.ownsRow H 189 2 vb L.length (itemC L)) := owns_below OB2.out b1
    clear d1 e1 b1
    go_wp2_with fail
    refine Calls.mono (enter_any pb 6 (by omega) pk (fun b => vi.ownBlock = some b ∨ vb.ownBlock = some b) w1 (fun b hb => (by have := hG.out b hb; omega))) ?_
    rintro e w2 ⟨f2, g2, h2, F2, rfl, d2, e2, b2⟩
    have A2 : Hid (Acts w2 (fun b => H ≤ b) pb pk [.nak L, .l 54] [.func (.func f1) g1 h1, .func (.func f2) g2 h2]) := A1.out.mk d2 e2 b2 (fun b hb => by rcases hb with x | x; omega; (have := hG.out b x; omega))
    have y2 := b2.size
    have BA12 : Hid (Below w.heap.size w w2) := BA1.out.trans (b2.mono (by omega))
    have RB'' : Hid (w2.heap[w.heap.size]? = some (.cells #[.int .i64 (pk.1 : Int), .int .i64 (pk.2.1 : Int), .string ⟨pk.2.2.toArray⟩, vi, vb] 168 (0, 0))) := (b2.block _ (by omega)).trans RB'.out
    have x2_0 : w2.cell? ⟨w.heap.size, 0, none⟩ = some (.int .i64 (pk.1 : Int)) := blk_cell RB''.out
    have x2_1 : w2.cell? ⟨w.heap.size, 1, none⟩ = some (.int .i64 (pk.2.1 : Int)) := blk_cell RB''.out
    have x2_2 : w2.cell? ⟨w.heap.size, 2, none⟩ = some (.string ⟨pk.2.2.toArray⟩) := blk_cell RB''.out
    have x2_3 : w2.cell? ⟨w.heap.size, 3, none⟩ = some (vi) := blk_cell RB''.out
    have x2_4 : w2.cell? ⟨w.heap.size, 4, none⟩ = some (vb) := blk_cell RB''.out
    have OI2xx : Hid (w2.ownsRow H 189 2 vi l.length (itemC l)) := owns_below OI2x.out b2
    have OB2xx : Hid (w2.ownsRow H 189 2 vb L.length (itemC L)) := owns_below OB2x.out b2
    clear d2 e2 b2
    go_wp2_with (at_builtin; go_must (refine wpList_append_lies _ rfl (.tmp 44) (.tmp 50) 85 rfl H 113 i0 .nilFunc 1 8 Tryz.underlying85 hi hz0 hz1 hz2 rfl (by decide) _ 0 [] rfl (World.ownsRow_nil _ _ _ _) ⟨w2.heap.size, 0, none⟩ 2 2 [.func (.func f1) g1 h1, .func (.func f2) g2 h2] rfl rfl (newsL _ #[.func (.func f1) g1 h1, .func (.func f2) g2 h2] _ _ rfl) (by intro u hu; simp at hu; rcases hu with rfl | rfl <;> rfl) (by omega) (by unfold maxLen; omega) (by omega) (by simp; omega) _ rfl ?_; intro gv capv wz hown1 hgrow1 hat1 hlt1))
    go_ret
    have tq := tch_grown hgrow1
    have off : ∀ b, ¬ (Value.slice none 0 0).ownBlock = some b := fun b e => by simp [Value.ownBlock] at e
    exact ⟨_, rfl, acts_own hown1 (A2.out.tch tq (fun b _ => off b)) (fun _ x => x) (by simp), BA12.out.trans (tq.below BA12.out.size (fun b hb => (off b hb).elim))⟩
  · show Calls _ _ _ _ (fun r w' => AtR w w' H pb pk [.l 100, .l 114, .nak L, .l 54] r)
    go_enter Tryz.func132, Tryz.ntmps132
    go_wp2_with fail
    have W0 : Hid (((w.alloc (.cells #[.int .i64 (pk.1 : Int), .int .i64 (pk.2.1 : Int), .string ⟨pk.2.2.toArray⟩, vi, vb] 168)).alloc (.cells #[methV pb 92, methV pb 90] 113)).ownsRow H 113 1 (.slice (some ⟨w.heap.size + 1, 0, none⟩) 2 2) 2 [methV pb 92, methV pb 90]) := by
      have := own_built (w := (w.alloc (.cells #[.int .i64 (pk.1 : Int), .int .i64 (pk.2.1 : Int), .string ⟨pk.2.2.toArray⟩, vi, vb] 168))) (B := H) (e := 113) (by omega) #[methV pb 92, methV pb 90] (by show 2 ≤ 100; omega)
      rw [z0] at this; exact this
    have zA : ((w.alloc (.cells #[.int .i64 (pk.1 : Int), .int .i64 (pk.2.1 : Int), .string ⟨pk.2.2.toArray⟩, vi, vb] 168)).alloc (.cells #[methV pb 92, methV pb 90] 113)).heap.size = w.heap.size + 1 + 1 := by simp
    have BB : Hid (Below w.heap.size w ((w.alloc (.cells #[.int .i64 (pk.1 : Int), .int .i64 (pk.2.1 : Int), .string ⟨pk.2.2.toArray⟩, vi, vb] 168)).alloc (.cells #[methV pb 92, methV pb 90] 113))) := BA.out.trans (((Below.refl _ _).alloc (Nat.le_refl _) _).mono (by omega))
    have RC : Hid (((w.alloc (.cells #[.int .i64 (pk.1 : Int), .int .i64 (pk.2.1 : Int), .string ⟨pk.2.2.toArray⟩, vi, vb] 168)).alloc (.cells #[methV pb 92, methV pb 90] 113)).heap[w.heap.size]? = some (.cells #[.int .i64 (pk.1 : Int), .int .i64 (pk.2.1 : Int), .string ⟨pk.2.2.toArray⟩, vi, vb] 168 (0, 0))) := (((Below.refl _ (w.alloc (.cells #[.int .i64 (pk.1 : Int), .int .i64 (pk.2.1 : Int), .string ⟨pk.2.2.toArray⟩, vi, vb] 168))).alloc (Nat.le_refl _) _).block _ (by omega)).trans RB.out
    have x0 : ((w.alloc (.cells #[.int .i64 (pk.1 : Int), .int .i64 (pk.2.1 : Int), .string ⟨pk.2.2.toArray⟩, vi, vb] 168)).alloc (.cells #[methV pb 92, methV pb 90] 113)).cell? ⟨w.heap.size, 0, none⟩ = some (.int .i64 (pk.1 : Int)) := blk_cell RC.out
    have x1 : ((w.alloc (.cells #[.int .i64 (pk.1 : Int), .int .i64 (pk.2.1 : Int), .string ⟨pk.2.2.toArray⟩, vi, vb] 168)).alloc (.cells #[methV pb 92, methV pb 90] 113)).cell? ⟨w.heap.size, 1, none⟩ = some (.int .i64 (pk.2.1 : Int)) := blk_cell RC.out
    have x2 : ((w.alloc (.cells #[.int .i64 (pk.1 : Int), .int .i64 (pk.2.1 : Int), .string ⟨pk.2.2.toArray⟩, vi, vb] 168)).alloc (.cells #[methV pb 92, methV pb 90] 113)).cell? ⟨w.heap.size, 2, none⟩ = some (.string ⟨pk.2.2.toArray⟩) := blk_cell RC.out
    have x3 : ((w.alloc (.cells #[.int .i64 (pk.1 : Int), .int .i64 (pk.2.1 : Int), .string ⟨pk.2.2.toArray⟩, vi, vb] 168)).alloc (.cells #[methV pb 92, methV pb 90] 113)).cell? ⟨w.heap.size, 3, none⟩ = some (vi) := blk_cell RC.out
    have x4 : ((w.alloc (.cells #[.int .i64 (pk.1 : Int), .int .i64 (pk.2.1 : Int), .string ⟨pk.2.2.toArray⟩, vi, vb] 168)).alloc (.cells #[methV pb 92, methV pb 90] 113)).cell? ⟨w.heap.size, 4, none⟩ = some (vb) := blk_cell RC.out
    have OI2 : Hid (((w.alloc (.cells #[.int .i64 (pk.1 : Int), .int .i64 (pk.2.1 : Int), .string ⟨pk.2.2.toArray⟩, vi, vb] 168)).alloc (.cells #[methV pb 92, methV pb 90] 113)).ownsRow H 189 2 vi l.length (itemC l)) := owns_below OI.out BB.out
    have OB2 : Hid (((w.alloc (.cells #[.int .i64 (pk.1 : Int), .int .i64 (pk.2.1 : Int), .string ⟨pk.2.2.toArray⟩, vi, vb] 168)).alloc (.cells #[methV pb 92, methV pb 90] 113)).ownsRow H 189 2 vb L.length (itemC L)) := owns_below OB.out BB.out
    generalize ((w.alloc (.cells #[.int .i64 (pk.1 : Int), .int .i64 (pk.2.1 : Int), .string ⟨pk.2.2.toArray⟩, vi, vb] 168)).alloc (.cells #[methV pb 92, methV pb 90] 113)) = WA at *
    have A0 : Hid (Acts WA (fun b => H ≤ b ∧ b ≠ w.heap.size + 1) pb pk [.l 100, .l 114] [methV pb 92, methV pb 90]) := ((Acts.nil _ _ _ _).me a_tellDown trivial).me a_sendRequest trivial
    go_wp2_with fail
    refine Calls.mono (mk_nak pb H pk WA vi vb l L OI2.out OB2.out HLL.out h0) ?_
    rintro e w1 ⟨f1, g1, h1, F1, rfl, d1, e1, b1⟩
    have A1 : Hid (Acts w1 (fun b => H ≤ b ∧ b ≠ w.heap.size + 1) pb pk [.l 100, .l 114, .nak L] [methV pb 92, methV pb 90, .func (.func f1) g1 h1]) := A0.out.mk d1 e1 b1 (fun b hb => by rcases hb with x | x; omega; (have := hG.out b x; omega))
    have y1 := b1.size
    have BB1 : Hid (Below w.heap.size w w1) := BB.out.trans (b1.mono (by omega))
    have W1 : Hid (w1.ownsRow H 113 1 (.slice (some ⟨w.heap.size + 1, 0, none⟩) 2 2) 2 [methV pb 92, methV pb 90]) := owns_below W0.out b1
    have RC' : Hid (w1.heap[w.heap.size]? = some (.cells #[.int .i64 (pk.1 : Int), .int .i64 (pk.2.1 : Int), .string ⟨pk.2.2.toArray⟩, vi, vb] 168 (0, 0))) := (b1.block _ (by omega)).trans RC.out
    have x1_0 : w1.cell? ⟨w.heap.size, 0, none⟩ = some (.int .i64 (pk.1 : Int)) := blk_cell RC'.out
    have x1_1 : w1.cell? ⟨w.heap.size, 1, none⟩ = some (.int .i64 (pk.2.1 : Int)) := blk_cell RC'.out
    have x1_2 : w1.cell? ⟨w.heap.size, 2, none⟩ = some (.string ⟨pk.2.2.toArray⟩) := blk_cell RC'.out
    have x1_3 : w1.cell? ⟨w.heap.size, 3, none⟩ = some (vi) := blk_cell RC'.out
    have x1_4 : w1.cell? ⟨w.heap.size, 4, none⟩ = some (vb) := blk_cell RC'.out
    have OI2x : Hid (w1.ownsRow H 189 2 vi l.length (itemC l)) := owns_below OI2.out b1
    have OB2x : Hid (w1.ownsRow H 189 2 vb L.length (itemC L)) := owns_below OB2.out b1
    clear d1 e1 b1
    go_wp2_with fail
    refine Calls.mono (enter_any pb 6 (by omega) pk (fun b => vi.ownBlock = some b ∨ vb.ownBlock = some b) w1 (fun b hb => (by have := hG.out b hb; omega))) ?_
    rintro e w2 ⟨f2, g2, h2, F2, rfl, d2, e2, b2⟩
    have A2 : Hid (Acts w2 (fun b => H ≤ b ∧ b ≠ w.heap.size + 1) pb pk [.l 100, .l 114, .nak L, .l 54] [methV pb 92, methV pb 90, .func (.func f1) g1 h1, .func (.func f2) g2 h2]) := A1.out.mk d2 e2 b2 (fun b hb => by rcases hb with x | x; omega; (have := hG.out b x; omega))
    have y2 := b2.size
    have BB12 : Hid (Below w.heap.size w w2) := BB1.out.trans (b2.mono (by omega))
    have W2 : Hid (w2.ownsRow H 113 1 (.slice (some ⟨w.heap.size + 1, 0, none⟩) 2 2) 2 [methV pb 92, methV pb 90]) := owns_below W1.out b2
    have RC'' : Hid (w2.heap[w.heap.size]? = some (.cells #[.int .i64 (pk.1 : Int), .int .i64 (pk.2.1 : Int), .string ⟨pk.2.2.toArray⟩, vi, vb] 168 (0, 0))) := (b2.block _ (by omega)).trans RC'.out
    have x2_0 : w2.cell? ⟨w.heap.size, 0, none⟩ = some (.int .i64 (pk.1 : Int)) := blk_cell RC''.out
    have x2_1 : w2.cell? ⟨w.heap.size, 1, none⟩ = some (.int .i64 (pk.2.1 : Int)) := blk_cell RC''.out
    have x2_2 : w2.cell? ⟨w.heap.size, 2, none⟩ = some (.string ⟨pk.2.2.toArray⟩) := blk_cell RC''.out
    have x2_3 : w2.cell? ⟨w.heap.size, 3, none⟩ = some (vi) := blk_cell RC''.out
    have x2_4 : w2.cell? ⟨w.heap.size, 4, none⟩ = some (vb) := blk_cell RC''.out
    have OI2xx : Hid (w2.ownsRow H 189 2 vi l.length (itemC l)) := owns_below OI2x.out b2
    have OB2xx : Hid (w2.ownsRow H 189 2 vb L.length (itemC L)) := owns_below OB2x.out b2
    clear d2 e2 b2
    go_wp2_with (at_builtin; go_must (refine wpList_append_lies _ rfl (.tmp 44) (.tmp 50) 85 rfl H 113 i0 .nilFunc 1 8 Tryz.underlying85 hi hz0 hz1 hz2 rfl (by decide) _ 2 [methV pb 92, methV pb 90] rfl (W2.out.alloc _) ⟨w2.heap.size, 0, none⟩ 2 2 [.func (.func f1) g1 h1, .func (.func f2) g2 h2] rfl rfl (newsL _ #[.func (.func f1) g1 h1, .func (.func f2) g2 h2] _ _ rfl) (by intro u hu; simp at hu; rcases hu with rfl | rfl <;> rfl) (by omega) (by unfold maxLen; omega) (by omega) (by simp; omega) _ rfl ?_; intro gv capv wz hown1 hgrow1 hat1 hlt1))
    go_ret
    have tq := tch_grown hgrow1
    have off : ∀ b, (Value.slice (some ⟨w.heap.size + 1, 0, none⟩) 2 2).ownBlock = some b → b = w.heap.size + 1 := fun b e => (Option.some.inj e).symm
    exact ⟨_, rfl, acts_own hown1 (A2.out.tch tq (fun b hb x => hb.2 (off b x))) (fun _ x => x.1) (by simp), BB12.out.trans (tq.below BB12.out.size (fun b hb => by rw [off b hb]; omega))⟩
end Go.Proofs.YtoeihlgidakjbaaGreatDoor

/- The program's rows of the table of states, part 1: what each answers in each state. The program's Event. -/
import Derived.Test.YtoeihlgidakjbaaGreatDoorPc13
namespace Go.Proofs.YtoeihlgidakjbaaGreatDoor
open Go.RowKit Go.Lib
def row_atUp : List (List PA) := [[.l 50], [.l 105, .l 114, .l 54], [], [], [], [], [], [], [], []]
set_option maxRecDepth 100000 in
set_option maxHeartbeats 8000000 in
theorem patUp (pb st H : Nat) (pk : Pk) (w : World) (hst : st < 10) (_hlt : pb < w.heap.size) (hH : H ≤ w.heap.size) (c14 : w.cell? ⟨pb, 14, none⟩ = some (.int .i64 (st : Int))) :
    Calls Tryz.prog 65 #[.pointer (some ⟨pb, 0, none⟩)] w fun r w' => AtR w w' H pb pk ((row_atUp).getD st []) r := by
  have hmf : ∀ (fn : Fn) (first cap : Array Value) (w : World), (Instr.makeFunc fn first cap).run Tryz.prog w = .ok (.func fn first cap) w := fun _ _ _ _ => rfl
  obtain ⟨i0, hi, hz0, hz1, hz2⟩ := info_parts Tryz.infoFn
  have BA : Hid (Below w.heap.size w w) := Below.refl _ _
  have z0 : w.heap.size = w.heap.size := rfl
  rcases (by omega : st = 0 ∨ st = 1 ∨ st = 2 ∨ st = 3 ∨ st = 4 ∨ st = 5 ∨ st = 6 ∨ st = 7 ∨ st = 8 ∨ st = 9) with rfl | rfl | rfl | rfl | rfl | rfl | rfl | rfl | rfl | rfl
  · show Calls _ _ _ _ (fun r w' => AtR w w' H pb pk [.l 50] r)
    go_enter Tryz.func65, Tryz.ntmps65
    have A0 : Hid (Acts w (fun b => H ≤ b) pb pk [] []) := Acts.nil _ _ _ _
    go_wp2_with fail
    refine Calls.mono (enter_any pb 2 (by omega) pk (fun _ => False) w (fun _ x => x.elim)) ?_
    rintro e w1 ⟨f1, g1, h1, F1, rfl, d1, e1, b1⟩
    have A1 : Hid (Acts w1 (fun b => H ≤ b) pb pk [.l 50] [.func (.func f1) g1 h1]) := A0.out.mk d1 e1 b1 (fun b hb => by rcases hb with x | x; omega; exact x.elim)
    have y1 := b1.size
    have BA1 : Hid (Below w.heap.size w w1) := BA.out.trans (b1.mono (by omega))
    clear d1 e1 b1
    go_wp2_with fail
    go_ret
    have hA : Below w1.heap.size w1 (w1.alloc (.cells #[.func (.func f1) g1 h1] 113)) := (Below.refl _ _).alloc (Nat.le_refl _) _
    have own := own_built (w := w1) (B := H) (e := 113) (by omega) #[.func (.func f1) g1 h1] (by show 1 ≤ 100; omega)
    exact ⟨_, rfl, acts_own own (A1.out.below hA) (fun _ x => x) (by simp), BA1.out.trans (hA.mono (by have := BA1.out.size; omega))⟩
  · show Calls _ _ _ _ (fun r w' => AtR w w' H pb pk [.l 105, .l 114, .l 54] r)
    go_enter Tryz.func65, Tryz.ntmps65
    have A0 : Hid (Acts w (fun b => H ≤ b) pb pk [] []) := Acts.nil _ _ _ _
    have A1 : Hid (Acts w (fun b => H ≤ b) pb pk [.l 105] [methV pb 89]) := A0.out.me a_countRequests trivial
    have A2 : Hid (Acts w (fun b => H ≤ b) pb pk [.l 105, .l 114] [methV pb 89, methV pb 90]) := A1.out.me a_sendRequest trivial
    go_wp2_with fail
    refine Calls.mono (enter_any pb 6 (by omega) pk (fun _ => False) w (fun _ x => x.elim)) ?_
    rintro e w1 ⟨f1, g1, h1, F1, rfl, d1, e1, b1⟩
    have A3 : Hid (Acts w1 (fun b => H ≤ b) pb pk [.l 105, .l 114, .l 54] [methV pb 89, methV pb 90, .func (.func f1) g1 h1]) := A2.out.mk d1 e1 b1 (fun b hb => by rcases hb with x | x; omega; exact x.elim)
    have y1 := b1.size
    have BA1 : Hid (Below w.heap.size w w1) := BA.out.trans (b1.mono (by omega))
    clear d1 e1 b1
    go_wp2_with fail
    go_ret
    have hA : Below w1.heap.size w1 (w1.alloc (.cells #[methV pb 89, methV pb 90, .func (.func f1) g1 h1] 113)) := (Below.refl _ _).alloc (Nat.le_refl _) _
    have own := own_built (w := w1) (B := H) (e := 113) (by omega) #[methV pb 89, methV pb 90, .func (.func f1) g1 h1] (by show 3 ≤ 100; omega)
    exact ⟨_, rfl, acts_own own (A3.out.below hA) (fun _ x => x) (by simp), BA1.out.trans (hA.mono (by have := BA1.out.size; omega))⟩
  · show Calls _ _ _ _ (fun r w' => AtR w w' H pb pk [] r)
    go_enter Tryz.func65, Tryz.ntmps65
    go_wp2_with fail
    go_ret
    exact ⟨_, rfl, acts_nil _ _ _ _, BA.out⟩
  · show Calls _ _ _ _ (fun r w' => AtR w w' H pb pk [] r)
    go_enter Tryz.func65, Tryz.ntmps65
    go_wp2_with fail
    go_ret
    exact ⟨_, rfl, acts_nil _ _ _ _, BA.out⟩
  · show Calls _ _ _ _ (fun r w' => AtR w w' H pb pk [] r)
    go_enter Tryz.func65, Tryz.ntmps65
    go_wp2_with fail
    go_ret
    exact ⟨_, rfl, acts_nil _ _ _ _, BA.out⟩
  · show Calls _ _ _ _ (fun r w' => AtR w w' H pb pk [] r)
    go_enter Tryz.func65, Tryz.ntmps65
    go_wp2_with fail
    go_ret
    exact ⟨_, rfl, acts_nil _ _ _ _, BA.out⟩
  · show Calls _ _ _ _ (fun r w' => AtR w w' H pb pk [] r)
    go_enter Tryz.func65, Tryz.ntmps65
    go_wp2_with fail
    go_ret
    exact ⟨_, rfl, acts_nil _ _ _ _, BA.out⟩
  · show Calls _ _ _ _ (fun r w' => AtR w w' H pb pk [] r)
    go_enter Tryz.func65, Tryz.ntmps65
    go_wp2_with fail
    go_ret
    exact ⟨_, rfl, acts_nil _ _ _ _, BA.out⟩
  · show Calls _ _ _ _ (fun r w' => AtR w w' H pb pk [] r)
    go_enter Tryz.func65, Tryz.ntmps65
    go_wp2_with fail
    go_ret
    exact ⟨_, rfl, acts_nil _ _ _ _, BA.out⟩
  · show Calls _ _ _ _ (fun r w' => AtR w w' H pb pk [] r)
    go_enter Tryz.func65, Tryz.ntmps65
    go_wp2_with fail
    go_ret
    exact ⟨_, rfl, acts_nil _ _ _ _, BA.out⟩
def row_atDown : List (List PA) := [[], [], [.l 48], [.l 98, .l 49], [.l 48], [.l 49], [.l 49], [.l 49], [.l 49], [.l 100, .l 49]]
set_option maxRecDepth 100000 in
set_option maxHeartbeats 8000000 in
theorem patDown (pb st H : Nat) (pk : Pk) (w : World) (hst : st < 10) (_hlt : pb < w.heap.size) (hH : H ≤ w.heap.size) (c14 : w.cell? ⟨pb, 14, none⟩ = some (.int .i64 (st : Int))) :
    Calls Tryz.prog 66 #[.pointer (some ⟨pb, 0, none⟩)] w fun r w' => AtR w w' H pb pk ((row_atDown).getD st []) r := by
  have hmf : ∀ (fn : Fn) (first cap : Array Value) (w : World), (Instr.makeFunc fn first cap).run Tryz.prog w = .ok (.func fn first cap) w := fun _ _ _ _ => rfl
  obtain ⟨i0, hi, hz0, hz1, hz2⟩ := info_parts Tryz.infoFn
  have BA : Hid (Below w.heap.size w w) := Below.refl _ _
  have z0 : w.heap.size = w.heap.size := rfl
  rcases (by omega : st = 0 ∨ st = 1 ∨ st = 2 ∨ st = 3 ∨ st = 4 ∨ st = 5 ∨ st = 6 ∨ st = 7 ∨ st = 8 ∨ st = 9) with rfl | rfl | rfl | rfl | rfl | rfl | rfl | rfl | rfl | rfl
  · show Calls _ _ _ _ (fun r w' => AtR w w' H pb pk [] r)
    go_enter Tryz.func66, Tryz.ntmps66
    go_wp2_with fail
    go_ret
    exact ⟨_, rfl, acts_nil _ _ _ _, BA.out⟩
  · show Calls _ _ _ _ (fun r w' => AtR w w' H pb pk [] r)
    go_enter Tryz.func66, Tryz.ntmps66
    go_wp2_with fail
    go_ret
    exact ⟨_, rfl, acts_nil _ _ _ _, BA.out⟩
  · show Calls _ _ _ _ (fun r w' => AtR w w' H pb pk [.l 48] r)
    go_enter Tryz.func66, Tryz.ntmps66
    have A0 : Hid (Acts w (fun b => H ≤ b) pb pk [] []) := Acts.nil _ _ _ _
    go_wp2_with fail
    refine Calls.mono (enter_any pb 0 (by omega) pk (fun _ => False) w (fun _ x => x.elim)) ?_
    rintro e w1 ⟨f1, g1, h1, F1, rfl, d1, e1, b1⟩
    have A1 : Hid (Acts w1 (fun b => H ≤ b) pb pk [.l 48] [.func (.func f1) g1 h1]) := A0.out.mk d1 e1 b1 (fun b hb => by rcases hb with x | x; omega; exact x.elim)
    have y1 := b1.size
    have BA1 : Hid (Below w.heap.size w w1) := BA.out.trans (b1.mono (by omega))
    clear d1 e1 b1
    go_wp2_with fail
    go_ret
    have hA : Below w1.heap.size w1 (w1.alloc (.cells #[.func (.func f1) g1 h1] 113)) := (Below.refl _ _).alloc (Nat.le_refl _) _
    have own := own_built (w := w1) (B := H) (e := 113) (by omega) #[.func (.func f1) g1 h1] (by show 1 ≤ 100; omega)
    exact ⟨_, rfl, acts_own own (A1.out.below hA) (fun _ x => x) (by simp), BA1.out.trans (hA.mono (by have := BA1.out.size; omega))⟩
  · show Calls _ _ _ _ (fun r w' => AtR w w' H pb pk [.l 98, .l 49] r)
    go_enter Tryz.func66, Tryz.ntmps66
    have A0 : Hid (Acts w (fun b => H ≤ b) pb pk [] []) := Acts.nil _ _ _ _
    have A1 : Hid (Acts w (fun b => H ≤ b) pb pk [.l 98] [methV pb 91]) := A0.out.me a_tellBegin trivial
    go_wp2_with fail
    refine Calls.mono (enter_any pb 1 (by omega) pk (fun _ => False) w (fun _ x => x.elim)) ?_
    rintro e w1 ⟨f1, g1, h1, F1, rfl, d1, e1, b1⟩
    have A2 : Hid (Acts w1 (fun b => H ≤ b) pb pk [.l 98, .l 49] [methV pb 91, .func (.func f1) g1 h1]) := A1.out.mk d1 e1 b1 (fun b hb => by rcases hb with x | x; omega; exact x.elim)
    have y1 := b1.size
    have BA1 : Hid (Below w.heap.size w w1) := BA.out.trans (b1.mono (by omega))
    clear d1 e1 b1
    go_wp2_with fail
    go_ret
    have hA : Below w1.heap.size w1 (w1.alloc (.cells #[methV pb 91, .func (.func f1) g1 h1] 113)) := (Below.refl _ _).alloc (Nat.le_refl _) _
    have own := own_built (w := w1) (B := H) (e := 113) (by omega) #[methV pb 91, .func (.func f1) g1 h1] (by show 2 ≤ 100; omega)
    exact ⟨_, rfl, acts_own own (A2.out.below hA) (fun _ x => x) (by simp), BA1.out.trans (hA.mono (by have := BA1.out.size; omega))⟩
  · show Calls _ _ _ _ (fun r w' => AtR w w' H pb pk [.l 48] r)
    go_enter Tryz.func66, Tryz.ntmps66
    have A0 : Hid (Acts w (fun b => H ≤ b) pb pk [] []) := Acts.nil _ _ _ _
    go_wp2_with fail
    refine Calls.mono (enter_any pb 0 (by omega) pk (fun _ => False) w (fun _ x => x.elim)) ?_
    rintro e w1 ⟨f1, g1, h1, F1, rfl, d1, e1, b1⟩
    have A1 : Hid (Acts w1 (fun b => H ≤ b) pb pk [.l 48] [.func (.func f1) g1 h1]) := A0.out.mk d1 e1 b1 (fun b hb => by rcases hb with x | x; omega; exact x.elim)
    have y1 := b1.size
    have BA1 : Hid (Below w.heap.size w w1) := BA.out.trans (b1.mono (by omega))
    clear d1 e1 b1
    go_wp2_with fail
    go_ret
    have hA : Below w1.heap.size w1 (w1.alloc (.cells #[.func (.func f1) g1 h1] 113)) := (Below.refl _ _).alloc (Nat.le_refl _) _
    have own := own_built (w := w1) (B := H) (e := 113) (by omega) #[.func (.func f1) g1 h1] (by show 1 ≤ 100; omega)
    exact ⟨_, rfl, acts_own own (A1.out.below hA) (fun _ x => x) (by simp), BA1.out.trans (hA.mono (by have := BA1.out.size; omega))⟩
  · show Calls _ _ _ _ (fun r w' => AtR w w' H pb pk [.l 49] r)
    go_enter Tryz.func66, Tryz.ntmps66
    have A0 : Hid (Acts w (fun b => H ≤ b) pb pk [] []) := Acts.nil _ _ _ _
    go_wp2_with fail
    refine Calls.mono (enter_any pb 1 (by omega) pk (fun _ => False) w (fun _ x => x.elim)) ?_
    rintro e w1 ⟨f1, g1, h1, F1, rfl, d1, e1, b1⟩
    have A1 : Hid (Acts w1 (fun b => H ≤ b) pb pk [.l 49] [.func (.func f1) g1 h1]) := A0.out.mk d1 e1 b1 (fun b hb => by rcases hb with x | x; omega; exact x.elim)
    have y1 := b1.size
    have BA1 : Hid (Below w.heap.size w w1) := BA.out.trans (b1.mono (by omega))
    clear d1 e1 b1
    go_wp2_with (at_builtin; go_must (refine wpList_append_lies _ rfl (.tmp 30) (.tmp 33) 85 rfl H 113 i0 .nilFunc 1 8 Tryz.underlying85 hi hz0 hz1 hz2 rfl (by decide) _ 0 [] rfl (World.ownsRow_nil _ _ _ _) ⟨w1.heap.size, 0, none⟩ 1 1 [.func (.func f1) g1 h1] rfl rfl (newsL _ #[.func (.func f1) g1 h1] _ _ rfl) (by intro u hu; simp at hu; rcases hu with rfl <;> rfl) (by omega) (by unfold maxLen; omega) (by omega) (by simp; omega) _ rfl ?_; intro gv capv wz hown1 hgrow1 hat1 hlt1))
    go_ret
    have tq := tch_grown hgrow1
    have off : ∀ b, ¬ (Value.slice none 0 0).ownBlock = some b := fun b e => by simp [Value.ownBlock] at e
    exact ⟨_, rfl, acts_own hown1 (A1.out.tch tq (fun b _ => off b)) (fun _ x => x) (by simp), BA1.out.trans (tq.below BA1.out.size (fun b hb => (off b hb).elim))⟩
  · show Calls _ _ _ _ (fun r w' => AtR w w' H pb pk [.l 49] r)
    go_enter Tryz.func66, Tryz.ntmps66
    have A0 : Hid (Acts w (fun b => H ≤ b) pb pk [] []) := Acts.nil _ _ _ _
    go_wp2_with fail
    refine Calls.mono (enter_any pb 1 (by omega) pk (fun _ => False) w (fun _ x => x.elim)) ?_
    rintro e w1 ⟨f1, g1, h1, F1, rfl, d1, e1, b1⟩
    have A1 : Hid (Acts w1 (fun b => H ≤ b) pb pk [.l 49] [.func (.func f1) g1 h1]) := A0.out.mk d1 e1 b1 (fun b hb => by rcases hb with x | x; omega; exact x.elim)
    have y1 := b1.size
    have BA1 : Hid (Below w.heap.size w w1) := BA.out.trans (b1.mono (by omega))
    clear d1 e1 b1
    go_wp2_with (at_builtin; go_must (refine wpList_append_lies _ rfl (.tmp 30) (.tmp 33) 85 rfl H 113 i0 .nilFunc 1 8 Tryz.underlying85 hi hz0 hz1 hz2 rfl (by decide) _ 0 [] rfl (World.ownsRow_nil _ _ _ _) ⟨w1.heap.size, 0, none⟩ 1 1 [.func (.func f1) g1 h1] rfl rfl (newsL _ #[.func (.func f1) g1 h1] _ _ rfl) (by intro u hu; simp at hu; rcases hu with rfl <;> rfl) (by omega) (by unfold maxLen; omega) (by omega) (by simp; omega) _ rfl ?_; intro gv capv wz hown1 hgrow1 hat1 hlt1))
    go_ret
    have tq := tch_grown hgrow1
    have off : ∀ b, ¬ (Value.slice none 0 0).ownBlock = some b := fun b e => by simp [Value.ownBlock] at e
    exact ⟨_, rfl, acts_own hown1 (A1.out.tch tq (fun b _ => off b)) (fun _ x => x) (by simp), BA1.out.trans (tq.below BA1.out.size (fun b hb => (off b hb).elim))⟩
  · show Calls _ _ _ _ (fun r w' => AtR w w' H pb pk [.l 49] r)
    go_enter Tryz.func66, Tryz.ntmps66
    have A0 : Hid (Acts w (fun b => H ≤ b) pb pk [] []) := Acts.nil _ _ _ _
    go_wp2_with fail
    refine Calls.mono (enter_any pb 1 (by omega) pk (fun _ => False) w (fun _ x => x.elim)) ?_
    rintro e w1 ⟨f1, g1, h1, F1, rfl, d1, e1, b1⟩
    have A1 : Hid (Acts w1 (fun b => H ≤ b) pb pk [.l 49] [.func (.func f1) g1 h1]) := A0.out.mk d1 e1 b1 (fun b hb => by rcases hb with x | x; omega; exact x.elim)
    have y1 := b1.size
    have BA1 : Hid (Below w.heap.size w w1) := BA.out.trans (b1.mono (by omega))
    clear d1 e1 b1
    go_wp2_with (at_builtin; go_must (refine wpList_append_lies _ rfl (.tmp 30) (.tmp 33) 85 rfl H 113 i0 .nilFunc 1 8 Tryz.underlying85 hi hz0 hz1 hz2 rfl (by decide) _ 0 [] rfl (World.ownsRow_nil _ _ _ _) ⟨w1.heap.size, 0, none⟩ 1 1 [.func (.func f1) g1 h1] rfl rfl (newsL _ #[.func (.func f1) g1 h1] _ _ rfl) (by intro u hu; simp at hu; rcases hu with rfl <;> rfl) (by omega) (by unfold maxLen; omega) (by omega) (by simp; omega) _ rfl ?_; intro gv capv wz hown1 hgrow1 hat1 hlt1))
    go_ret
    have tq := tch_grown hgrow1
    have off : ∀ b, ¬ (Value.slice none 0 0).ownBlock = some b := fun b e => by simp [Value.ownBlock] at e
    exact ⟨_, rfl, acts_own hown1 (A1.out.tch tq (fun b _ => off b)) (fun _ x => x) (by simp), BA1.out.trans (tq.below BA1.out.size (fun b hb => (off b hb).elim))⟩
  · show Calls _ _ _ _ (fun r w' => AtR w w' H pb pk [.l 49] r)
    go_enter Tryz.func66, Tryz.ntmps66
    have A0 : Hid (Acts w (fun b => H ≤ b) pb pk [] []) := Acts.nil _ _ _ _
    go_wp2_with fail
    refine Calls.mono (enter_any pb 1 (by omega) pk (fun _ => False) w (fun _ x => x.elim)) ?_
    rintro e w1 ⟨f1, g1, h1, F1, rfl, d1, e1, b1⟩
    have A1 : Hid (Acts w1 (fun b => H ≤ b) pb pk [.l 49] [.func (.func f1) g1 h1]) := A0.out.mk d1 e1 b1 (fun b hb => by rcases hb with x | x; omega; exact x.elim)
    have y1 := b1.size
    have BA1 : Hid (Below w.heap.size w w1) := BA.out.trans (b1.mono (by omega))
    clear d1 e1 b1
    go_wp2_with (at_builtin; go_must (refine wpList_append_lies _ rfl (.tmp 30) (.tmp 33) 85 rfl H 113 i0 .nilFunc 1 8 Tryz.underlying85 hi hz0 hz1 hz2 rfl (by decide) _ 0 [] rfl (World.ownsRow_nil _ _ _ _) ⟨w1.heap.size, 0, none⟩ 1 1 [.func (.func f1) g1 h1] rfl rfl (newsL _ #[.func (.func f1) g1 h1] _ _ rfl) (by intro u hu; simp at hu; rcases hu with rfl <;> rfl) (by omega) (by unfold maxLen; omega) (by omega) (by simp; omega) _ rfl ?_; intro gv capv wz hown1 hgrow1 hat1 hlt1))
    go_ret
    have tq := tch_grown hgrow1
    have off : ∀ b, ¬ (Value.slice none 0 0).ownBlock = some b := fun b e => by simp [Value.ownBlock] at e
    exact ⟨_, rfl, acts_own hown1 (A1.out.tch tq (fun b _ => off b)) (fun _ x => x) (by simp), BA1.out.trans (tq.below BA1.out.size (fun b hb => (off b hb).elim))⟩
  · show Calls _ _ _ _ (fun r w' => AtR w w' H pb pk [.l 100, .l 49] r)
    go_enter Tryz.func66, Tryz.ntmps66
    go_wp2_with fail
    have W0 : Hid ((w.alloc (.cells #[methV pb 92] 113)).ownsRow H 113 1 (.slice (some ⟨w.heap.size, 0, none⟩) 1 1) 1 [methV pb 92]) := by
      have := own_built (w := w) (B := H) (e := 113) (by omega) #[methV pb 92] (by show 1 ≤ 100; omega)
      exact this
    have zA : (w.alloc (.cells #[methV pb 92] 113)).heap.size = w.heap.size + 1 := by simp
    have BB : Hid (Below w.heap.size w (w.alloc (.cells #[methV pb 92] 113))) := BA.out.trans (((Below.refl _ _).alloc (Nat.le_refl _) _).mono (by omega))
    generalize (w.alloc (.cells #[methV pb 92] 113)) = WA at *
    have A0 : Hid (Acts WA (fun b => H ≤ b ∧ b ≠ w.heap.size) pb pk [.l 100] [methV pb 92]) := (Acts.nil _ _ _ _).me a_tellDown trivial
    go_wp2_with fail
    refine Calls.mono (enter_any pb 1 (by omega) pk (fun _ => False) WA (fun _ x => x.elim)) ?_
    rintro e w1 ⟨f1, g1, h1, F1, rfl, d1, e1, b1⟩
    have A1 : Hid (Acts w1 (fun b => H ≤ b ∧ b ≠ w.heap.size) pb pk [.l 100, .l 49] [methV pb 92, .func (.func f1) g1 h1]) := A0.out.mk d1 e1 b1 (fun b hb => by rcases hb with x | x; omega; exact x.elim)
    have y1 := b1.size
    have BB1 : Hid (Below w.heap.size w w1) := BB.out.trans (b1.mono (by omega))
    have W1 : Hid (w1.ownsRow H 113 1 (.slice (some ⟨w.heap.size, 0, none⟩) 1 1) 1 [methV pb 92]) := owns_below W0.out b1
    clear d1 e1 b1
    go_wp2_with (at_builtin; go_must (refine wpList_append_lies _ rfl (.tmp 30) (.tmp 33) 85 rfl H 113 i0 .nilFunc 1 8 Tryz.underlying85 hi hz0 hz1 hz2 rfl (by decide) _ 1 [methV pb 92] rfl (W1.out.alloc _) ⟨w1.heap.size, 0, none⟩ 1 1 [.func (.func f1) g1 h1] rfl rfl (newsL _ #[.func (.func f1) g1 h1] _ _ rfl) (by intro u hu; simp at hu; rcases hu with rfl <;> rfl) (by omega) (by unfold maxLen; omega) (by omega) (by simp; omega) _ rfl ?_; intro gv capv wz hown1 hgrow1 hat1 hlt1))
    go_ret
    have tq := tch_grown hgrow1
    have off : ∀ b, (Value.slice (some ⟨w.heap.size, 0, none⟩) 1 1).ownBlock = some b → b = w.heap.size := fun b e => (Option.some.inj e).symm
    exact ⟨_, rfl, acts_own hown1 (A1.out.tch tq (fun b hb x => hb.2 (off b x))) (fun _ x => x.1) (by simp), BB1.out.trans (tq.below BB1.out.size (fun b hb => by rw [off b hb]; omega))⟩
def row_atOpen : List (List PA) := [[.l 98, .l 49], [], [.l 105, .l 114, .l 54], [], [.l 53], [], [], [], [], []]
set_option maxRecDepth 100000 in
set_option maxHeartbeats 8000000 in
theorem patOpen (pb st H : Nat) (pk : Pk) (w : World) (hst : st < 10) (_hlt : pb < w.heap.size) (hH : H ≤ w.heap.size) (c14 : w.cell? ⟨pb, 14, none⟩ = some (.int .i64 (st : Int))) :
    Calls Tryz.prog 67 #[.pointer (some ⟨pb, 0, none⟩)] w fun r w' => AtR w w' H pb pk ((row_atOpen).getD st []) r := by
  have hmf : ∀ (fn : Fn) (first cap : Array Value) (w : World), (Instr.makeFunc fn first cap).run Tryz.prog w = .ok (.func fn first cap) w := fun _ _ _ _ => rfl
  obtain ⟨i0, hi, hz0, hz1, hz2⟩ := info_parts Tryz.infoFn
  have BA : Hid (Below w.heap.size w w) := Below.refl _ _
  have z0 : w.heap.size = w.heap.size := rfl
  rcases (by omega : st = 0 ∨ st = 1 ∨ st = 2 ∨ st = 3 ∨ st = 4 ∨ st = 5 ∨ st = 6 ∨ st = 7 ∨ st = 8 ∨ st = 9) with rfl | rfl | rfl | rfl | rfl | rfl | rfl | rfl | rfl | rfl
  · show Calls _ _ _ _ (fun r w' => AtR w w' H pb pk [.l 98, .l 49] r)
    go_enter Tryz.func67, Tryz.ntmps67
    have A0 : Hid (Acts w (fun b => H ≤ b) pb pk [] []) := Acts.nil _ _ _ _
    have A1 : Hid (Acts w (fun b => H ≤ b) pb pk [.l 98] [methV pb 91]) := A0.out.me a_tellBegin trivial
    go_wp2_with fail
    refine Calls.mono (enter_any pb 1 (by omega) pk (fun _ => False) w (fun _ x => x.elim)) ?_
    rintro e w1 ⟨f1, g1, h1, F1, rfl, d1, e1, b1⟩
    have A2 : Hid (Acts w1 (fun b => H ≤ b) pb pk [.l 98, .l 49] [methV pb 91, .func (.func f1) g1 h1]) := A1.out.mk d1 e1 b1 (fun b hb => by rcases hb with x | x; omega; exact x.elim)
    have y1 := b1.size
    have BA1 : Hid (Below w.heap.size w w1) := BA.out.trans (b1.mono (by omega))
    clear d1 e1 b1
    go_wp2_with fail
    go_ret
    have hA : Below w1.heap.size w1 (w1.alloc (.cells #[methV pb 91, .func (.func f1) g1 h1] 113)) := (Below.refl _ _).alloc (Nat.le_refl _) _
    have own := own_built (w := w1) (B := H) (e := 113) (by omega) #[methV pb 91, .func (.func f1) g1 h1] (by show 2 ≤ 100; omega)
    exact ⟨_, rfl, acts_own own (A2.out.below hA) (fun _ x => x) (by simp), BA1.out.trans (hA.mono (by have := BA1.out.size; omega))⟩
  · show Calls _ _ _ _ (fun r w' => AtR w w' H pb pk [] r)
    go_enter Tryz.func67, Tryz.ntmps67
    go_wp2_with fail
    go_ret
    exact ⟨_, rfl, acts_nil _ _ _ _, BA.out⟩
  · show Calls _ _ _ _ (fun r w' => AtR w w' H pb pk [.l 105, .l 114, .l 54] r)
    go_enter Tryz.func67, Tryz.ntmps67
    have A0 : Hid (Acts w (fun b => H ≤ b) pb pk [] []) := Acts.nil _ _ _ _
    have A1 : Hid (Acts w (fun b => H ≤ b) pb pk [.l 105] [methV pb 89]) := A0.out.me a_countRequests trivial
    have A2 : Hid (Acts w (fun b => H ≤ b) pb pk [.l 105, .l 114] [methV pb 89, methV pb 90]) := A1.out.me a_sendRequest trivial
    go_wp2_with fail
    refine Calls.mono (enter_any pb 6 (by omega) pk (fun _ => False) w (fun _ x => x.elim)) ?_
    rintro e w1 ⟨f1, g1, h1, F1, rfl, d1, e1, b1⟩
    have A3 : Hid (Acts w1 (fun b => H ≤ b) pb pk [.l 105, .l 114, .l 54] [methV pb 89, methV pb 90, .func (.func f1) g1 h1]) := A2.out.mk d1 e1 b1 (fun b hb => by rcases hb with x | x; omega; exact x.elim)
    have y1 := b1.size
    have BA1 : Hid (Below w.heap.size w w1) := BA.out.trans (b1.mono (by omega))
    clear d1 e1 b1
    go_wp2_with fail
    go_ret
    have hA : Below w1.heap.size w1 (w1.alloc (.cells #[methV pb 89, methV pb 90, .func (.func f1) g1 h1] 113)) := (Below.refl _ _).alloc (Nat.le_refl _) _
    have own := own_built (w := w1) (B := H) (e := 113) (by omega) #[methV pb 89, methV pb 90, .func (.func f1) g1 h1] (by show 3 ≤ 100; omega)
    exact ⟨_, rfl, acts_own own (A3.out.below hA) (fun _ x => x) (by simp), BA1.out.trans (hA.mono (by have := BA1.out.size; omega))⟩
  · show Calls _ _ _ _ (fun r w' => AtR w w' H pb pk [] r)
    go_enter Tryz.func67, Tryz.ntmps67
    go_wp2_with fail
    go_ret
    exact ⟨_, rfl, acts_nil _ _ _ _, BA.out⟩
  · show Calls _ _ _ _ (fun r w' => AtR w w' H pb pk [.l 53] r)
    go_enter Tryz.func67, Tryz.ntmps67
    have A0 : Hid (Acts w (fun b => H ≤ b) pb pk [] []) := Acts.nil _ _ _ _
    go_wp2_with fail
    refine Calls.mono (enter_any pb 5 (by omega) pk (fun _ => False) w (fun _ x => x.elim)) ?_
    rintro e w1 ⟨f1, g1, h1, F1, rfl, d1, e1, b1⟩
    have A1 : Hid (Acts w1 (fun b => H ≤ b) pb pk [.l 53] [.func (.func f1) g1 h1]) := A0.out.mk d1 e1 b1 (fun b hb => by rcases hb with x | x; omega; exact x.elim)
    have y1 := b1.size
    have BA1 : Hid (Below w.heap.size w w1) := BA.out.trans (b1.mono (by omega))
    clear d1 e1 b1
    go_wp2_with fail
    go_ret
    have hA : Below w1.heap.size w1 (w1.alloc (.cells #[.func (.func f1) g1 h1] 113)) := (Below.refl _ _).alloc (Nat.le_refl _) _
    have own := own_built (w := w1) (B := H) (e := 113) (by omega) #[.func (.func f1) g1 h1] (by show 1 ≤ 100; omega)
    exact ⟨_, rfl, acts_own own (A1.out.below hA) (fun _ x => x) (by simp), BA1.out.trans (hA.mono (by have := BA1.out.size; omega))⟩
  · show Calls _ _ _ _ (fun r w' => AtR w w' H pb pk [] r)
    go_enter Tryz.func67, Tryz.ntmps67
    go_wp2_with fail
    go_ret
    exact ⟨_, rfl, acts_nil _ _ _ _, BA.out⟩
  · show Calls _ _ _ _ (fun r w' => AtR w w' H pb pk [] r)
    go_enter Tryz.func67, Tryz.ntmps67
    go_wp2_with fail
    go_ret
    exact ⟨_, rfl, acts_nil _ _ _ _, BA.out⟩
  · show Calls _ _ _ _ (fun r w' => AtR w w' H pb pk [] r)
    go_enter Tryz.func67, Tryz.ntmps67
    go_wp2_with fail
    go_ret
    exact ⟨_, rfl, acts_nil _ _ _ _, BA.out⟩
  · show Calls _ _ _ _ (fun r w' => AtR w w' H pb pk [] r)
    go_enter Tryz.func67, Tryz.ntmps67
    go_wp2_with fail
    go_ret
    exact ⟨_, rfl, acts_nil _ _ _ _, BA.out⟩
  · show Calls _ _ _ _ (fun r w' => AtR w w' H pb pk [] r)
    go_enter Tryz.func67, Tryz.ntmps67
    go_wp2_with fail
    go_ret
    exact ⟨_, rfl, acts_nil _ _ _ _, BA.out⟩
def row_atClose : List (List PA) := [[], [.l 102, .l 48], [], [.l 50], [], [.l 52], [.l 116, .l 101, .l 52], [.l 116, .l 101, .l 52], [.l 116, .l 101, .l 52], [.l 100, .l 116, .l 101, .l 52]]
set_option maxRecDepth 100000 in
set_option maxHeartbeats 8000000 in
theorem patClose (pb st H : Nat) (pk : Pk) (w : World) (hst : st < 10) (_hlt : pb < w.heap.size) (hH : H ≤ w.heap.size) (c14 : w.cell? ⟨pb, 14, none⟩ = some (.int .i64 (st : Int))) :
    Calls Tryz.prog 68 #[.pointer (some ⟨pb, 0, none⟩)] w fun r w' => AtR w w' H pb pk ((row_atClose).getD st []) r := by
  have hmf : ∀ (fn : Fn) (first cap : Array Value) (w : World), (Instr.makeFunc fn first cap).run Tryz.prog w = .ok (.func fn first cap) w := fun _ _ _ _ => rfl
  obtain ⟨i0, hi, hz0, hz1, hz2⟩ := info_parts Tryz.infoFn
  have BA : Hid (Below w.heap.size w w) := Below.refl _ _
  have z0 : w.heap.size = w.heap.size := rfl
  rcases (by omega : st = 0 ∨ st = 1 ∨ st = 2 ∨ st = 3 ∨ st = 4 ∨ st = 5 ∨ st = 6 ∨ st = 7 ∨ st = 8 ∨ st = 9) with rfl | rfl | rfl | rfl | rfl | rfl | rfl | rfl | rfl | rfl
  · show Calls _ _ _ _ (fun r w' => AtR w w' H pb pk [] r)
    go_enter Tryz.func68, Tryz.ntmps68
    go_wp2_with fail
    go_ret
    exact ⟨_, rfl, acts_nil _ _ _ _, BA.out⟩
  · show Calls _ _ _ _ (fun r w' => AtR w w' H pb pk [.l 102, .l 48] r)
    go_enter Tryz.func68, Tryz.ntmps68
    have A0 : Hid (Acts w (fun b => H ≤ b) pb pk [] []) := Acts.nil _ _ _ _
    have A1 : Hid (Acts w (fun b => H ≤ b) pb pk [.l 102] [methV pb 93]) := A0.out.me a_tellFinish trivial
    go_wp2_with fail
    refine Calls.mono (enter_any pb 0 (by omega) pk (fun _ => False) w (fun _ x => x.elim)) ?_
    rintro e w1 ⟨f1, g1, h1, F1, rfl, d1, e1, b1⟩
    have A2 : Hid (Acts w1 (fun b => H ≤ b) pb pk [.l 102, .l 48] [methV pb 93, .func (.func f1) g1 h1]) := A1.out.mk d1 e1 b1 (fun b hb => by rcases hb with x | x; omega; exact x.elim)
    have y1 := b1.size
    have BA1 : Hid (Below w.heap.size w w1) := BA.out.trans (b1.mono (by omega))
    clear d1 e1 b1
    go_wp2_with fail
    go_ret
    have hA : Below w1.heap.size w1 (w1.alloc (.cells #[methV pb 93, .func (.func f1) g1 h1] 113)) := (Below.refl _ _).alloc (Nat.le_refl _) _
    have own := own_built (w := w1) (B := H) (e := 113) (by omega) #[methV pb 93, .func (.func f1) g1 h1] (by show 2 ≤ 100; omega)
    exact ⟨_, rfl, acts_own own (A2.out.below hA) (fun _ x => x) (by simp), BA1.out.trans (hA.mono (by have := BA1.out.size; omega))⟩
  · show Calls _ _ _ _ (fun r w' => AtR w w' H pb pk [] r)
    go_enter Tryz.func68, Tryz.ntmps68
    go_wp2_with fail
    go_ret
    exact ⟨_, rfl, acts_nil _ _ _ _, BA.out⟩
  · show Calls _ _ _ _ (fun r w' => AtR w w' H pb pk [.l 50] r)
    go_enter Tryz.func68, Tryz.ntmps68
    have A0 : Hid (Acts w (fun b => H ≤ b) pb pk [] []) := Acts.nil _ _ _ _
    go_wp2_with fail
    refine Calls.mono (enter_any pb 2 (by omega) pk (fun _ => False) w (fun _ x => x.elim)) ?_
    rintro e w1 ⟨f1, g1, h1, F1, rfl, d1, e1, b1⟩
    have A1 : Hid (Acts w1 (fun b => H ≤ b) pb pk [.l 50] [.func (.func f1) g1 h1]) := A0.out.mk d1 e1 b1 (fun b hb => by rcases hb with x | x; omega; exact x.elim)
    have y1 := b1.size
    have BA1 : Hid (Below w.heap.size w w1) := BA.out.trans (b1.mono (by omega))
    clear d1 e1 b1
    go_wp2_with fail
    go_ret
    have hA : Below w1.heap.size w1 (w1.alloc (.cells #[.func (.func f1) g1 h1] 113)) := (Below.refl _ _).alloc (Nat.le_refl _) _
    have own := own_built (w := w1) (B := H) (e := 113) (by omega) #[.func (.func f1) g1 h1] (by show 1 ≤ 100; omega)
    exact ⟨_, rfl, acts_own own (A1.out.below hA) (fun _ x => x) (by simp), BA1.out.trans (hA.mono (by have := BA1.out.size; omega))⟩
  · show Calls _ _ _ _ (fun r w' => AtR w w' H pb pk [] r)
    go_enter Tryz.func68, Tryz.ntmps68
    go_wp2_with fail
    go_ret
    exact ⟨_, rfl, acts_nil _ _ _ _, BA.out⟩
  · show Calls _ _ _ _ (fun r w' => AtR w w' H pb pk [.l 52] r)
    go_enter Tryz.func68, Tryz.ntmps68
    have A0 : Hid (Acts w (fun b => H ≤ b) pb pk [] []) := Acts.nil _ _ _ _
    go_wp2_with fail
    refine Calls.mono (enter_any pb 4 (by omega) pk (fun _ => False) w (fun _ x => x.elim)) ?_
    rintro e w1 ⟨f1, g1, h1, F1, rfl, d1, e1, b1⟩
    have A1 : Hid (Acts w1 (fun b => H ≤ b) pb pk [.l 52] [.func (.func f1) g1 h1]) := A0.out.mk d1 e1 b1 (fun b hb => by rcases hb with x | x; omega; exact x.elim)
    have y1 := b1.size
    have BA1 : Hid (Below w.heap.size w w1) := BA.out.trans (b1.mono (by omega))
    clear d1 e1 b1
    go_wp2_with fail
    go_ret
    have hA : Below w1.heap.size w1 (w1.alloc (.cells #[.func (.func f1) g1 h1] 113)) := (Below.refl _ _).alloc (Nat.le_refl _) _
    have own := own_built (w := w1) (B := H) (e := 113) (by omega) #[.func (.func f1) g1 h1] (by show 1 ≤ 100; omega)
    exact ⟨_, rfl, acts_own own (A1.out.below hA) (fun _ x => x) (by simp), BA1.out.trans (hA.mono (by have := BA1.out.size; omega))⟩
  · show Calls _ _ _ _ (fun r w' => AtR w w' H pb pk [.l 116, .l 101, .l 52] r)
    go_enter Tryz.func68, Tryz.ntmps68
    have A0 : Hid (Acts w (fun b => H ≤ b) pb pk [] []) := Acts.nil _ _ _ _
    have A1 : Hid (Acts w (fun b => H ≤ b) pb pk [.l 116] [methV pb 94]) := A0.out.me a_countEnds trivial
    have A2 : Hid (Acts w (fun b => H ≤ b) pb pk [.l 116, .l 101] [methV pb 94, methV pb 95]) := A1.out.me a_sendEnd trivial
    go_wp2_with fail
    refine Calls.mono (enter_any pb 4 (by omega) pk (fun _ => False) w (fun _ x => x.elim)) ?_
    rintro e w1 ⟨f1, g1, h1, F1, rfl, d1, e1, b1⟩
    have A3 : Hid (Acts w1 (fun b => H ≤ b) pb pk [.l 116, .l 101, .l 52] [methV pb 94, methV pb 95, .func (.func f1) g1 h1]) := A2.out.mk d1 e1 b1 (fun b hb => by rcases hb with x | x; omega; exact x.elim)
    have y1 := b1.size
    have BA1 : Hid (Below w.heap.size w w1) := BA.out.trans (b1.mono (by omega))
    clear d1 e1 b1
    go_wp2_with (at_builtin; go_must (refine wpList_append_lies _ rfl (.tmp 33) (.tmp 40) 85 rfl H 113 i0 .nilFunc 1 8 Tryz.underlying85 hi hz0 hz1 hz2 rfl (by decide) _ 0 [] rfl (World.ownsRow_nil _ _ _ _) ⟨w1.heap.size, 0, none⟩ 3 3 [methV pb 94, methV pb 95, .func (.func f1) g1 h1] rfl rfl (newsL _ #[methV pb 94, methV pb 95, .func (.func f1) g1 h1] _ _ rfl) (by intro u hu; simp at hu; rcases hu with rfl | rfl | rfl <;> rfl) (by omega) (by unfold maxLen; omega) (by omega) (by simp; omega) _ rfl ?_; intro gv capv wz hown1 hgrow1 hat1 hlt1))
    go_ret
    have tq := tch_grown hgrow1
    have off : ∀ b, ¬ (Value.slice none 0 0).ownBlock = some b := fun b e => by simp [Value.ownBlock] at e
    exact ⟨_, rfl, acts_own hown1 (A3.out.tch tq (fun b _ => off b)) (fun _ x => x) (by simp), BA1.out.trans (tq.below BA1.out.size (fun b hb => (off b hb).elim))⟩
  · show Calls _ _ _ _ (fun r w' => AtR w w' H pb pk [.l 116, .l 101, .l 52] r)
    go_enter Tryz.func68, Tryz.ntmps68
    have A0 : Hid (Acts w (fun b => H ≤ b) pb pk [] []) := Acts.nil _ _ _ _
    have A1 : Hid (Acts w (fun b => H ≤ b) pb pk [.l 116] [methV pb 94]) := A0.out.me a_countEnds trivial
    have A2 : Hid (Acts w (fun b => H ≤ b) pb pk [.l 116, .l 101] [methV pb 94, methV pb 95]) := A1.out.me a_sendEnd trivial
    go_wp2_with fail
    refine Calls.mono (enter_any pb 4 (by omega) pk (fun _ => False) w (fun _ x => x.elim)) ?_
    rintro e w1 ⟨f1, g1, h1, F1, rfl, d1, e1, b1⟩
    have A3 : Hid (Acts w1 (fun b => H ≤ b) pb pk [.l 116, .l 101, .l 52] [methV pb 94, methV pb 95, .func (.func f1) g1 h1]) := A2.out.mk d1 e1 b1 (fun b hb => by rcases hb with x | x; omega; exact x.elim)
    have y1 := b1.size
    have BA1 : Hid (Below w.heap.size w w1) := BA.out.trans (b1.mono (by omega))
    clear d1 e1 b1
    go_wp2_with (at_builtin; go_must (refine wpList_append_lies _ rfl (.tmp 33) (.tmp 40) 85 rfl H 113 i0 .nilFunc 1 8 Tryz.underlying85 hi hz0 hz1 hz2 rfl (by decide) _ 0 [] rfl (World.ownsRow_nil _ _ _ _) ⟨w1.heap.size, 0, none⟩ 3 3 [methV pb 94, methV pb 95, .func (.func f1) g1 h1] rfl rfl (newsL _ #[methV pb 94, methV pb 95, .func (.func f1) g1 h1] _ _ rfl) (by intro u hu; simp at hu; rcases hu with rfl | rfl | rfl <;> rfl) (by omega) (by unfold maxLen; omega) (by omega) (by simp; omega) _ rfl ?_; intro gv capv wz hown1 hgrow1 hat1 hlt1))
    go_ret
    have tq := tch_grown hgrow1
    have off : ∀ b, ¬ (Value.slice none 0 0).ownBlock = some b := fun b e => by simp [Value.ownBlock] at e
    exact ⟨_, rfl, acts_own hown1 (A3.out.tch tq (fun b _ => off b)) (fun _ x => x) (by simp), BA1.out.trans (tq.below BA1.out.size (fun b hb => (off b hb).elim))⟩
  · show Calls _ _ _ _ (fun r w' => AtR w w' H pb pk [.l 116, .l 101, .l 52] r)
    go_enter Tryz.func68, Tryz.ntmps68
    have A0 : Hid (Acts w (fun b => H ≤ b) pb pk [] []) := Acts.nil _ _ _ _
    have A1 : Hid (Acts w (fun b => H ≤ b) pb pk [.l 116] [methV pb 94]) := A0.out.me a_countEnds trivial
    have A2 : Hid (Acts w (fun b => H ≤ b) pb pk [.l 116, .l 101] [methV pb 94, methV pb 95]) := A1.out.me a_sendEnd trivial
    go_wp2_with fail
    refine Calls.mono (enter_any pb 4 (by omega) pk (fun _ => False) w (fun _ x => x.elim)) ?_
    rintro e w1 ⟨f1, g1, h1, F1, rfl, d1, e1, b1⟩
    have A3 : Hid (Acts w1 (fun b => H ≤ b) pb pk [.l 116, .l 101, .l 52] [methV pb 94, methV pb 95, .func (.func f1) g1 h1]) := A2.out.mk d1 e1 b1 (fun b hb => by rcases hb with x | x; omega; exact x.elim)
    have y1 := b1.size
    have BA1 : Hid (Below w.heap.size w w1) := BA.out.trans (b1.mono (by omega))
    clear d1 e1 b1
    go_wp2_with (at_builtin; go_must (refine wpList_append_lies _ rfl (.tmp 33) (.tmp 40) 85 rfl H 113 i0 .nilFunc 1 8 Tryz.underlying85 hi hz0 hz1 hz2 rfl (by decide) _ 0 [] rfl (World.ownsRow_nil _ _ _ _) ⟨w1.heap.size, 0, none⟩ 3 3 [methV pb 94, methV pb 95, .func (.func f1) g1 h1] rfl rfl (newsL _ #[methV pb 94, methV pb 95, .func (.func f1) g1 h1] _ _ rfl) (by intro u hu; simp at hu; rcases hu with rfl | rfl | rfl <;> rfl) (by omega) (by unfold maxLen; omega) (by omega) (by simp; omega) _ rfl ?_; intro gv capv wz hown1 hgrow1 hat1 hlt1))
    go_ret
    have tq := tch_grown hgrow1
    have off : ∀ b, ¬ (Value.slice none 0 0).ownBlock = some b := fun b e => by simp [Value.ownBlock] at e
    exact ⟨_, rfl, acts_own hown1 (A3.out.tch tq (fun b _ => off b)) (fun _ x => x) (by simp), BA1.out.trans (tq.below BA1.out.size (fun b hb => (off b hb).elim))⟩
  · show Calls _ _ _ _ (fun r w' => AtR w w' H pb pk [.l 100, .l 116, .l 101, .l 52] r)
    go_enter Tryz.func68, Tryz.ntmps68
    go_wp2_with fail
    have W0 : Hid ((w.alloc (.cells #[methV pb 92] 113)).ownsRow H 113 1 (.slice (some ⟨w.heap.size, 0, none⟩) 1 1) 1 [methV pb 92]) := by
      have := own_built (w := w) (B := H) (e := 113) (by omega) #[methV pb 92] (by show 1 ≤ 100; omega)
      exact this
    have zA : (w.alloc (.cells #[methV pb 92] 113)).heap.size = w.heap.size + 1 := by simp
    have BB : Hid (Below w.heap.size w (w.alloc (.cells #[methV pb 92] 113))) := BA.out.trans (((Below.refl _ _).alloc (Nat.le_refl _) _).mono (by omega))
    generalize (w.alloc (.cells #[methV pb 92] 113)) = WA at *
    have A0 : Hid (Acts WA (fun b => H ≤ b ∧ b ≠ w.heap.size) pb pk [.l 100] [methV pb 92]) := (Acts.nil _ _ _ _).me a_tellDown trivial
    have A1 : Hid (Acts WA (fun b => H ≤ b ∧ b ≠ w.heap.size) pb pk [.l 100, .l 116] [methV pb 92, methV pb 94]) := A0.out.me a_countEnds trivial
    have A2 : Hid (Acts WA (fun b => H ≤ b ∧ b ≠ w.heap.size) pb pk [.l 100, .l 116, .l 101] [methV pb 92, methV pb 94, methV pb 95]) := A1.out.me a_sendEnd trivial
    go_wp2_with fail
    refine Calls.mono (enter_any pb 4 (by omega) pk (fun _ => False) WA (fun _ x => x.elim)) ?_
    rintro e w1 ⟨f1, g1, h1, F1, rfl, d1, e1, b1⟩
    have A3 : Hid (Acts w1 (fun b => H ≤ b ∧ b ≠ w.heap.size) pb pk [.l 100, .l 116, .l 101, .l 52] [methV pb 92, methV pb 94, methV pb 95, .func (.func f1) g1 h1]) := A2.out.mk d1 e1 b1 (fun b hb => by rcases hb with x | x; omega; exact x.elim)
    have y1 := b1.size
    have BB1 : Hid (Below w.heap.size w w1) := BB.out.trans (b1.mono (by omega))
    have W1 : Hid (w1.ownsRow H 113 1 (.slice (some ⟨w.heap.size, 0, none⟩) 1 1) 1 [methV pb 92]) := owns_below W0.out b1
    clear d1 e1 b1
    go_wp2_with (at_builtin; go_must (refine wpList_append_lies _ rfl (.tmp 33) (.tmp 40) 85 rfl H 113 i0 .nilFunc 1 8 Tryz.underlying85 hi hz0 hz1 hz2 rfl (by decide) _ 1 [methV pb 92] rfl (W1.out.alloc _) ⟨w1.heap.size, 0, none⟩ 3 3 [methV pb 94, methV pb 95, .func (.func f1) g1 h1] rfl rfl (newsL _ #[methV pb 94, methV pb 95, .func (.func f1) g1 h1] _ _ rfl) (by intro u hu; simp at hu; rcases hu with rfl | rfl | rfl <;> rfl) (by omega) (by unfold maxLen; omega) (by omega) (by simp; omega) _ rfl ?_; intro gv capv wz hown1 hgrow1 hat1 hlt1))
    go_ret
    have tq := tch_grown hgrow1
    have off : ∀ b, (Value.slice (some ⟨w.heap.size, 0, none⟩) 1 1).ownBlock = some b → b = w.heap.size := fun b e => (Option.some.inj e).symm
    exact ⟨_, rfl, acts_own hown1 (A3.out.tch tq (fun b hb x => hb.2 (off b x))) (fun _ x => x.1) (by simp), BB1.out.trans (tq.below BB1.out.size (fun b hb => by rw [off b hb]; omega))⟩
def row_atTimeout : List (List PA) := [[], [], [], [], [.l 101], [.l 101], [.l 114], [.l 114, .l 54], [.l 114], []]
set_option maxRecDepth 100000 in
set_option maxHeartbeats 8000000 in
theorem patTimeout (pb st H : Nat) (pk : Pk) (w : World) (hst : st < 10) (_hlt : pb < w.heap.size) (hH : H ≤ w.heap.size) (c14 : w.cell? ⟨pb, 14, none⟩ = some (.int .i64 (st : Int))) :
    Calls Tryz.prog 96 #[.pointer (some ⟨pb, 0, none⟩)] w fun r w' => AtR w w' H pb pk ((row_atTimeout).getD st []) r := by
  have hmf : ∀ (fn : Fn) (first cap : Array Value) (w : World), (Instr.makeFunc fn first cap).run Tryz.prog w = .ok (.func fn first cap) w := fun _ _ _ _ => rfl
  obtain ⟨i0, hi, hz0, hz1, hz2⟩ := info_parts Tryz.infoFn
  have BA : Hid (Below w.heap.size w w) := Below.refl _ _
  have z0 : w.heap.size = w.heap.size := rfl
  rcases (by omega : st = 0 ∨ st = 1 ∨ st = 2 ∨ st = 3 ∨ st = 4 ∨ st = 5 ∨ st = 6 ∨ st = 7 ∨ st = 8 ∨ st = 9) with rfl | rfl | rfl | rfl | rfl | rfl | rfl | rfl | rfl | rfl
  · show Calls _ _ _ _ (fun r w' => AtR w w' H pb pk [] r)
    go_enter Tryz.func96, Tryz.ntmps96
    go_wp2_with fail
    go_ret
    exact ⟨_, rfl, acts_nil _ _ _ _, BA.out⟩
  · show Calls _ _ _ _ (fun r w' => AtR w w' H pb pk [] r)
    go_enter Tryz.func96, Tryz.ntmps96
    go_wp2_with fail
    go_ret
    exact ⟨_, rfl, acts_nil _ _ _ _, BA.out⟩
  · show Calls _ _ _ _ (fun r w' => AtR w w' H pb pk [] r)
    go_enter Tryz.func96, Tryz.ntmps96
    go_wp2_with fail
    go_ret
    exact ⟨_, rfl, acts_nil _ _ _ _, BA.out⟩
  · show Calls _ _ _ _ (fun r w' => AtR w w' H pb pk [] r)
    go_enter Tryz.func96, Tryz.ntmps96
    go_wp2_with fail
    go_ret
    exact ⟨_, rfl, acts_nil _ _ _ _, BA.out⟩
  · show Calls _ _ _ _ (fun r w' => AtR w w' H pb pk [.l 101] r)
    go_enter Tryz.func96, Tryz.ntmps96
    have A0 : Hid (Acts w (fun b => H ≤ b) pb pk [] []) := Acts.nil _ _ _ _
    have A1 : Hid (Acts w (fun b => H ≤ b) pb pk [.l 101] [methV pb 95]) := A0.out.me a_sendEnd trivial
    go_wp2_with fail
    go_ret
    have hA : Below w.heap.size w (w.alloc (.cells #[methV pb 95] 113)) := (Below.refl _ _).alloc (Nat.le_refl _) _
    have own := own_built (w := w) (B := H) (e := 113) (by omega) #[methV pb 95] (by show 1 ≤ 100; omega)
    exact ⟨_, rfl, acts_own own (A1.out.below hA) (fun _ x => x) (by simp), BA.out.trans (hA.mono (by have := BA.out.size; omega))⟩
  · show Calls _ _ _ _ (fun r w' => AtR w w' H pb pk [.l 101] r)
    go_enter Tryz.func96, Tryz.ntmps96
    have A0 : Hid (Acts w (fun b => H ≤ b) pb pk [] []) := Acts.nil _ _ _ _
    have A1 : Hid (Acts w (fun b => H ≤ b) pb pk [.l 101] [methV pb 95]) := A0.out.me a_sendEnd trivial
    go_wp2_with fail
    go_ret
    have hA : Below w.heap.size w (w.alloc (.cells #[methV pb 95] 113)) := (Below.refl _ _).alloc (Nat.le_refl _) _
    have own := own_built (w := w) (B := H) (e := 113) (by omega) #[methV pb 95] (by show 1 ≤ 100; omega)
    exact ⟨_, rfl, acts_own own (A1.out.below hA) (fun _ x => x) (by simp), BA.out.trans (hA.mono (by have := BA.out.size; omega))⟩
  · show Calls _ _ _ _ (fun r w' => AtR w w' H pb pk [.l 114] r)
    go_enter Tryz.func96, Tryz.ntmps96
    have A0 : Hid (Acts w (fun b => H ≤ b) pb pk [] []) := Acts.nil _ _ _ _
    have A1 : Hid (Acts w (fun b => H ≤ b) pb pk [.l 114] [methV pb 90]) := A0.out.me a_sendRequest trivial
    go_wp2_with fail
    go_ret
    have hA : Below w.heap.size w (w.alloc (.cells #[methV pb 90] 113)) := (Below.refl _ _).alloc (Nat.le_refl _) _
    have own := own_built (w := w) (B := H) (e := 113) (by omega) #[methV pb 90] (by show 1 ≤ 100; omega)
    exact ⟨_, rfl, acts_own own (A1.out.below hA) (fun _ x => x) (by simp), BA.out.trans (hA.mono (by have := BA.out.size; omega))⟩
  · show Calls _ _ _ _ (fun r w' => AtR w w' H pb pk [.l 114, .l 54] r)
    go_enter Tryz.func96, Tryz.ntmps96
    have A0 : Hid (Acts w (fun b => H ≤ b) pb pk [] []) := Acts.nil _ _ _ _
    have A1 : Hid (Acts w (fun b => H ≤ b) pb pk [.l 114] [methV pb 90]) := A0.out.me a_sendRequest trivial
    go_wp2_with fail
    refine Calls.mono (enter_any pb 6 (by omega) pk (fun _ => False) w (fun _ x => x.elim)) ?_
    rintro e w1 ⟨f1, g1, h1, F1, rfl, d1, e1, b1⟩
    have A2 : Hid (Acts w1 (fun b => H ≤ b) pb pk [.l 114, .l 54] [methV pb 90, .func (.func f1) g1 h1]) := A1.out.mk d1 e1 b1 (fun b hb => by rcases hb with x | x; omega; exact x.elim)
    have y1 := b1.size
    have BA1 : Hid (Below w.heap.size w w1) := BA.out.trans (b1.mono (by omega))
    clear d1 e1 b1
    go_wp2_with fail
    go_ret
    have hA : Below w1.heap.size w1 (w1.alloc (.cells #[methV pb 90, .func (.func f1) g1 h1] 113)) := (Below.refl _ _).alloc (Nat.le_refl _) _
    have own := own_built (w := w1) (B := H) (e := 113) (by omega) #[methV pb 90, .func (.func f1) g1 h1] (by show 2 ≤ 100; omega)
    exact ⟨_, rfl, acts_own own (A2.out.below hA) (fun _ x => x) (by simp), BA1.out.trans (hA.mono (by have := BA1.out.size; omega))⟩
  · show Calls _ _ _ _ (fun r w' => AtR w w' H pb pk [.l 114] r)
    go_enter Tryz.func96, Tryz.ntmps96
    have A0 : Hid (Acts w (fun b => H ≤ b) pb pk [] []) := Acts.nil _ _ _ _
    have A1 : Hid (Acts w (fun b => H ≤ b) pb pk [.l 114] [methV pb 90]) := A0.out.me a_sendRequest trivial
    go_wp2_with fail
    go_ret
    have hA : Below w.heap.size w (w.alloc (.cells #[methV pb 90] 113)) := (Below.refl _ _).alloc (Nat.le_refl _) _
    have own := own_built (w := w) (B := H) (e := 113) (by omega) #[methV pb 90] (by show 1 ≤ 100; omega)
    exact ⟨_, rfl, acts_own own (A1.out.below hA) (fun _ x => x) (by simp), BA.out.trans (hA.mono (by have := BA.out.size; omega))⟩
  · show Calls _ _ _ _ (fun r w' => AtR w w' H pb pk [] r)
    go_enter Tryz.func96, Tryz.ntmps96
    go_wp2_with fail
    go_ret
    exact ⟨_, rfl, acts_nil _ _ _ _, BA.out⟩
def row_atLastTimeout : List (List PA) := [[], [], [], [], [.l 102, .l 50], [.l 102, .l 51], [.l 102, .l 51], [.l 102, .l 51], [.l 102, .l 51], []]
set_option maxRecDepth 100000 in
set_option maxHeartbeats 8000000 in
theorem patLastTimeout (pb st H : Nat) (pk : Pk) (w : World) (hst : st < 10) (_hlt : pb < w.heap.size) (hH : H ≤ w.heap.size) (c14 : w.cell? ⟨pb, 14, none⟩ = some (.int .i64 (st : Int))) :
    Calls Tryz.prog 97 #[.pointer (some ⟨pb, 0, none⟩)] w fun r w' => AtR w w' H pb pk ((row_atLastTimeout).getD st []) r := by
  have hmf : ∀ (fn : Fn) (first cap : Array Value) (w : World), (Instr.makeFunc fn first cap).run Tryz.prog w = .ok (.func fn first cap) w := fun _ _ _ _ => rfl
  obtain ⟨i0, hi, hz0, hz1, hz2⟩ := info_parts Tryz.infoFn
  have BA : Hid (Below w.heap.size w w) := Below.refl _ _
  have z0 : w.heap.size = w.heap.size := rfl
  rcases (by omega : st = 0 ∨ st = 1 ∨ st = 2 ∨ st = 3 ∨ st = 4 ∨ st = 5 ∨ st = 6 ∨ st = 7 ∨ st = 8 ∨ st = 9) with rfl | rfl | rfl | rfl | rfl | rfl | rfl | rfl | rfl | rfl
  · show Calls _ _ _ _ (fun r w' => AtR w w' H pb pk [] r)
    go_enter Tryz.func97, Tryz.ntmps97
    go_wp2_with fail
    go_ret
    exact ⟨_, rfl, acts_nil _ _ _ _, BA.out⟩
  · show Calls _ _ _ _ (fun r w' => AtR w w' H pb pk [] r)
    go_enter Tryz.func97, Tryz.ntmps97
    go_wp2_with fail
    go_ret
    exact ⟨_, rfl, acts_nil _ _ _ _, BA.out⟩
  · show Calls _ _ _ _ (fun r w' => AtR w w' H pb pk [] r)
    go_enter Tryz.func97, Tryz.ntmps97
    go_wp2_with fail
    go_ret
    exact ⟨_, rfl, acts_nil _ _ _ _, BA.out⟩
  · show Calls _ _ _ _ (fun r w' => AtR w w' H pb pk [] r)
    go_enter Tryz.func97, Tryz.ntmps97
    go_wp2_with fail
    go_ret
    exact ⟨_, rfl, acts_nil _ _ _ _, BA.out⟩
  · show Calls _ _ _ _ (fun r w' => AtR w w' H pb pk [.l 102, .l 50] r)
    go_enter Tryz.func97, Tryz.ntmps97
    have A0 : Hid (Acts w (fun b => H ≤ b) pb pk [] []) := Acts.nil _ _ _ _
    have A1 : Hid (Acts w (fun b => H ≤ b) pb pk [.l 102] [methV pb 93]) := A0.out.me a_tellFinish trivial
    go_wp2_with fail
    refine Calls.mono (enter_any pb 2 (by omega) pk (fun _ => False) w (fun _ x => x.elim)) ?_
    rintro e w1 ⟨f1, g1, h1, F1, rfl, d1, e1, b1⟩
    have A2 : Hid (Acts w1 (fun b => H ≤ b) pb pk [.l 102, .l 50] [methV pb 93, .func (.func f1) g1 h1]) := A1.out.mk d1 e1 b1 (fun b hb => by rcases hb with x | x; omega; exact x.elim)
    have y1 := b1.size
    have BA1 : Hid (Below w.heap.size w w1) := BA.out.trans (b1.mono (by omega))
    clear d1 e1 b1
    go_wp2_with fail
    go_ret
    have hA : Below w1.heap.size w1 (w1.alloc (.cells #[methV pb 93, .func (.func f1) g1 h1] 113)) := (Below.refl _ _).alloc (Nat.le_refl _) _
    have own := own_built (w := w1) (B := H) (e := 113) (by omega) #[methV pb 93, .func (.func f1) g1 h1] (by show 2 ≤ 100; omega)
    exact ⟨_, rfl, acts_own own (A2.out.below hA) (fun _ x => x) (by simp), BA1.out.trans (hA.mono (by have := BA1.out.size; omega))⟩
  · show Calls _ _ _ _ (fun r w' => AtR w w' H pb pk [.l 102, .l 51] r)
    go_enter Tryz.func97, Tryz.ntmps97
    have A0 : Hid (Acts w (fun b => H ≤ b) pb pk [] []) := Acts.nil _ _ _ _
    have A1 : Hid (Acts w (fun b => H ≤ b) pb pk [.l 102] [methV pb 93]) := A0.out.me a_tellFinish trivial
    go_wp2_with fail
    refine Calls.mono (enter_any pb 3 (by omega) pk (fun _ => False) w (fun _ x => x.elim)) ?_
    rintro e w1 ⟨f1, g1, h1, F1, rfl, d1, e1, b1⟩
    have A2 : Hid (Acts w1 (fun b => H ≤ b) pb pk [.l 102, .l 51] [methV pb 93, .func (.func f1) g1 h1]) := A1.out.mk d1 e1 b1 (fun b hb => by rcases hb with x | x; omega; exact x.elim)
    have y1 := b1.size
    have BA1 : Hid (Below w.heap.size w w1) := BA.out.trans (b1.mono (by omega))
    clear d1 e1 b1
    go_wp2_with fail
    go_ret
    have hA : Below w1.heap.size w1 (w1.alloc (.cells #[methV pb 93, .func (.func f1) g1 h1] 113)) := (Below.refl _ _).alloc (Nat.le_refl _) _
    have own := own_built (w := w1) (B := H) (e := 113) (by omega) #[methV pb 93, .func (.func f1) g1 h1] (by show 2 ≤ 100; omega)
    exact ⟨_, rfl, acts_own own (A2.out.below hA) (fun _ x => x) (by simp), BA1.out.trans (hA.mono (by have := BA1.out.size; omega))⟩
  · show Calls _ _ _ _ (fun r w' => AtR w w' H pb pk [.l 102, .l 51] r)
    go_enter Tryz.func97, Tryz.ntmps97
    have A0 : Hid (Acts w (fun b => H ≤ b) pb pk [] []) := Acts.nil _ _ _ _
    have A1 : Hid (Acts w (fun b => H ≤ b) pb pk [.l 102] [methV pb 93]) := A0.out.me a_tellFinish trivial
    go_wp2_with fail
    refine Calls.mono (enter_any pb 3 (by omega) pk (fun _ => False) w (fun _ x => x.elim)) ?_
    rintro e w1 ⟨f1, g1, h1, F1, rfl, d1, e1, b1⟩
    have A2 : Hid (Acts w1 (fun b => H ≤ b) pb pk [.l 102, .l 51] [methV pb 93, .func (.func f1) g1 h1]) := A1.out.mk d1 e1 b1 (fun b hb => by rcases hb with x | x; omega; exact x.elim)
    have y1 := b1.size
    have BA1 : Hid (Below w.heap.size w w1) := BA.out.trans (b1.mono (by omega))
    clear d1 e1 b1
    go_wp2_with fail
    go_ret
    have hA : Below w1.heap.size w1 (w1.alloc (.cells #[methV pb 93, .func (.func f1) g1 h1] 113)) := (Below.refl _ _).alloc (Nat.le_refl _) _
    have own := own_built (w := w1) (B := H) (e := 113) (by omega) #[methV pb 93, .func (.func f1) g1 h1] (by show 2 ≤ 100; omega)
    exact ⟨_, rfl, acts_own own (A2.out.below hA) (fun _ x => x) (by simp), BA1.out.trans (hA.mono (by have := BA1.out.size; omega))⟩
  · show Calls _ _ _ _ (fun r w' => AtR w w' H pb pk [.l 102, .l 51] r)
    go_enter Tryz.func97, Tryz.ntmps97
    have A0 : Hid (Acts w (fun b => H ≤ b) pb pk [] []) := Acts.nil _ _ _ _
    have A1 : Hid (Acts w (fun b => H ≤ b) pb pk [.l 102] [methV pb 93]) := A0.out.me a_tellFinish trivial
    go_wp2_with fail
    refine Calls.mono (enter_any pb 3 (by omega) pk (fun _ => False) w (fun _ x => x.elim)) ?_
    rintro e w1 ⟨f1, g1, h1, F1, rfl, d1, e1, b1⟩
    have A2 : Hid (Acts w1 (fun b => H ≤ b) pb pk [.l 102, .l 51] [methV pb 93, .func (.func f1) g1 h1]) := A1.out.mk d1 e1 b1 (fun b hb => by rcases hb with x | x; omega; exact x.elim)
    have y1 := b1.size
    have BA1 : Hid (Below w.heap.size w w1) := BA.out.trans (b1.mono (by omega))
    clear d1 e1 b1
    go_wp2_with fail
    go_ret
    have hA : Below w1.heap.size w1 (w1.alloc (.cells #[methV pb 93, .func (.func f1) g1 h1] 113)) := (Below.refl _ _).alloc (Nat.le_refl _) _
    have own := own_built (w := w1) (B := H) (e := 113) (by omega) #[methV pb 93, .func (.func f1) g1 h1] (by show 2 ≤ 100; omega)
    exact ⟨_, rfl, acts_own own (A2.out.below hA) (fun _ x => x) (by simp), BA1.out.trans (hA.mono (by have := BA1.out.size; omega))⟩
  · show Calls _ _ _ _ (fun r w' => AtR w w' H pb pk [.l 102, .l 51] r)
    go_enter Tryz.func97, Tryz.ntmps97
    have A0 : Hid (Acts w (fun b => H ≤ b) pb pk [] []) := Acts.nil _ _ _ _
    have A1 : Hid (Acts w (fun b => H ≤ b) pb pk [.l 102] [methV pb 93]) := A0.out.me a_tellFinish trivial
    go_wp2_with fail
    refine Calls.mono (enter_any pb 3 (by omega) pk (fun _ => False) w (fun _ x => x.elim)) ?_
    rintro e w1 ⟨f1, g1, h1, F1, rfl, d1, e1, b1⟩
    have A2 : Hid (Acts w1 (fun b => H ≤ b) pb pk [.l 102, .l 51] [methV pb 93, .func (.func f1) g1 h1]) := A1.out.mk d1 e1 b1 (fun b hb => by rcases hb with x | x; omega; exact x.elim)
    have y1 := b1.size
    have BA1 : Hid (Below w.heap.size w w1) := BA.out.trans (b1.mono (by omega))
    clear d1 e1 b1
    go_wp2_with fail
    go_ret
    have hA : Below w1.heap.size w1 (w1.alloc (.cells #[methV pb 93, .func (.func f1) g1 h1] 113)) := (Below.refl _ _).alloc (Nat.le_refl _) _
    have own := own_built (w := w1) (B := H) (e := 113) (by omega) #[methV pb 93, .func (.func f1) g1 h1] (by show 2 ≤ 100; omega)
    exact ⟨_, rfl, acts_own own (A2.out.below hA) (fun _ x => x) (by simp), BA1.out.trans (hA.mono (by have := BA1.out.size; omega))⟩
  · show Calls _ _ _ _ (fun r w' => AtR w w' H pb pk [] r)
    go_enter Tryz.func97, Tryz.ntmps97
    go_wp2_with fail
    go_ret
    exact ⟨_, rfl, acts_nil _ _ _ _, BA.out⟩
end Go.Proofs.YtoeihlgidakjbaaGreatDoor
namespace Go.Proofs.YtoeihlgidakjbaaGreatDoor
open Go.RowKit Go.Lib
def PatR (w w' : World) (B Bs pb : Nat) (v : PV) (S : List UInt8) (E : RE × List UInt8) (r : Ending) : Prop :=
  ∃ va LS m', r = .returned va ∧ ActsIn w' w.heap.size pb m'.pk va LS ∧ PI w' B Bs pb v m' S ∧ ES w w' pb v.vals v.vals ∧ E = m'.prun LS ∧ m'.Ok ∧ m'.Fit 800 ∧ LS.length ≤ 6
theorem atR_pat {w w' : World} {B Bs pb : Nat} {v : PV} {m : RE} {S : List UInt8} {E : RE × List UInt8} {LS : List PA} {r : Ending} (h : AtR w w' w.heap.size pb m.pk LS r) (hp : PI w B Bs pb v m S) (he : E = m.prun LS) (ok : m.Ok) (fit : m.Fit 800) (hl : LS.length ≤ 6) : PatR w w' B Bs pb v S E r := by
  obtain ⟨va, e, ha, hb⟩ := h
  exact ⟨va, _, m, e, ha.2, hp.below hb, ES.below hb, he, ok, fit, hl⟩
theorem PatR.nil {w : World} {B Bs pb : Nat} {v : PV} {m : RE} {S : List UInt8} {E : RE × List UInt8} (hp : PI w B Bs pb v m S) (he : E = (m, [])) (ok : m.Ok) (fit : m.Fit 800) : PatR w w B Bs pb v S E (.returned (.slice none 0 0)) :=
  ⟨_, [], m, rfl, (acts_nil _ _ _ _).2, hp, ES.refl _ _ _, he, ok, fit, by simp⟩
theorem row_ev {R : List (List PA)} {ev : Nat} (h : R = (rowT ev).map (fun l => l.map PA.l)) (m : RE) : m.at_ ev = m.prun (R.getD m.st []) := by
  subst h
  unfold RE.at_
  have e : ((rowT ev).map (fun l => l.map PA.l)).getD m.st [] = ((rowT ev).getD m.st []).map PA.l := by
    simp only [List.getD, List.getElem?_map]
    cases (rowT ev)[m.st]? <;> rfl
  rw [e, RE.prun_l]
theorem row_six {R : List (List PA)} (h : (R.all fun l => Nat.ble l.length 6) = true) (st : Nat) : (R.getD st []).length ≤ 6 := by
  simp only [List.getD]
  cases hx : R[st]? with
  | none => simp
  | some l => exact Nat.le_of_ble_eq_true (List.all_eq_true.1 h l (List.mem_of_getElem? hx))
set_option maxRecDepth 100000 in
set_option maxHeartbeats 4000000 in
theorem ptick {B Bs pb : Nat} {v : PV} {m : RE} {S : List UInt8} (w : World) (h : PI w B Bs pb v m S) (ok : m.Ok) (fit : m.Fit 800) (ht0 : 0 ≤ m.tim) (ht1 : m.tim ≤ 3) :
    Calls Tryz.prog 69 #[.pointer (some ⟨pb, 0, none⟩)] w fun r w' => PatR w w' B Bs pb v S (m.event 5) r := by
  have hst := ok.st
  have HP : Hid (PI w B Bs pb v m S) := h
  have OK : Hid (m.Ok) := ok
  have FIT : Hid (m.Fit 800) := fit
  have c14 : w.cell? ⟨pb, 14, none⟩ = some (.int .i64 (m.st : Int)) := blk_cell h.em.blk
  have c15 : w.cell? ⟨pb, 15, none⟩ = some (.int .i64 m.cnt) := blk_cell h.em.blk
  have c16 : w.cell? ⟨pb, 16, none⟩ = some (.int .i64 m.tim) := blk_cell h.em.blk
  have f16 : w.frozen? ⟨pb, 16, none⟩ = false := blk_free h.em.blk
  have quiet : (m.st < 4 ∨ 8 < m.st ∨ m.tim ≤ 0) → m.event 5 = (m, []) := fun x => by unfold RE.event; rw [if_neg (by omega), if_pos (.inr x)]
  clear h ok fit
  by_cases hs4 : m.st < 4
  · have Q : Hid (PatR w w B Bs pb v S (m.event 5) (.returned (.slice none 0 0))) := PatR.nil HP.out (quiet (.inl hs4)) OK.out FIT.out
    have hs4i : (m.st : Int) < 4 := by omega
    clear quiet
    go_enter Tryz.func69, Tryz.ntmps69
    go_wp2_with fail
    go_ret
    exact Q.out
  by_cases hs8 : 8 < m.st
  · have Q : Hid (PatR w w B Bs pb v S (m.event 5) (.returned (.slice none 0 0))) := PatR.nil HP.out (quiet (.inr (.inl hs8))) OK.out FIT.out
    have hs4i : ¬ (m.st : Int) < 4 := by omega
    have hs8i : (8 : Int) < (m.st : Int) := by omega
    clear quiet
    go_enter Tryz.func69, Tryz.ntmps69
    go_wp2_with fail
    go_ret
    exact Q.out
  have hs4i : ¬ (m.st : Int) < 4 := by omega
  have hs8i : ¬ (8 : Int) < (m.st : Int) := by omega
  by_cases hz : m.tim = 0
  · have Q : Hid (PatR w w B Bs pb v S (m.event 5) (.returned (.slice none 0 0))) := PatR.nil HP.out (quiet (.inr (.inr (by omega)))) OK.out FIT.out
    have hzi : (m.tim == 0) = true := by simp [hz]
    clear quiet
    go_enter Tryz.func69, Tryz.ntmps69
    go_wp2_with fail
    go_ret
    exact Q.out
  have hzi : (m.tim == 0) = false := by simp [hz]
  have hw1 : IntKind.i64.wrap (m.tim - 1) = m.tim - 1 := wrap_in (by omega) (by omega)
  have hp := HP.out.num (q' := m.props) (m' := { m with tim := m.tim - 1 }) (blk_set (k := 16) (x := .int .i64 (m.tim - 1)) HP.out.em.blk) (tset w pb 16 _) rfl rfl rfl
  have hok : RE.Ok { m with tim := m.tim - 1 } := ⟨OK.out.st, OK.out.id, OK.out.odd, OK.out.k0, OK.out.k1, OK.out.k2, OK.out.pc, OK.out.pi, OK.out.pd, OK.out.mg, OK.out.ms, OK.out.aa, OK.out.ww⟩
  have hfit : RE.Fit { m with tim := m.tim - 1 } 800 := ⟨FIT.out.told, FIT.out.mg, FIT.out.c0, FIT.out.c1, FIT.out.nk, FIT.out.lp, FIT.out.h0, FIT.out.h1, FIT.out.h2⟩
  have HQ : Hid (PI (w.setCell ⟨pb, 16, none⟩ (.int .i64 (m.tim - 1))) B Bs pb v { m with tim := m.tim - 1 } S ∧ ES w (w.setCell ⟨pb, 16, none⟩ (.int .i64 (m.tim - 1))) pb v.vals v.vals ∧ RE.Ok { m with tim := m.tim - 1 } ∧ RE.Fit { m with tim := m.tim - 1 } 800) := ⟨hp.1, hp.2, hok, hfit⟩
  have hnq : ¬ ((5 : Int) ≠ 5 ∨ m.st < 4 ∨ 8 < m.st ∨ m.tim ≤ 0) := by omega
  have hsz : (w.setCell ⟨pb, 16, none⟩ (.int .i64 (m.tim - 1))).heap.size = w.heap.size := by simp [World.setCell]
  clear quiet hp hok hfit
  by_cases hpos : 0 < m.tim - 1
  · have he : m.event 5 = ({ m with tim := m.tim - 1 }, []) := by unfold RE.event; rw [if_neg (by omega), if_neg hnq, if_pos hpos]
    have Q : Hid (PatR w (w.setCell ⟨pb, 16, none⟩ (.int .i64 (m.tim - 1))) B Bs pb v S (m.event 5) (.returned (.slice none 0 0))) := ⟨_, [], _, rfl, (acts_nil _ _ _ _).2, HQ.out.1, HQ.out.2.1, he, HQ.out.2.2.1, HQ.out.2.2.2, by simp⟩
    clear hnq he
    go_enter Tryz.func69, Tryz.ntmps69
    go_wp2_with fail
    go_ret
    exact Q.out
  by_cases hcp : 0 < m.cnt
  · have he : m.event 5 = RE.at_ { m with tim := m.tim - 1 } 6 := by unfold RE.event; rw [if_neg (by omega), if_neg hnq, if_neg hpos, if_pos hcp]
    have HE : Hid (m.event 5 = RE.at_ { m with tim := m.tim - 1 } 6) := he
    clear hnq he
    go_enter Tryz.func69, Tryz.ntmps69
    go_wp2_with fail
    refine Calls.mono (patTimeout pb m.st (w.setCell ⟨pb, 16, none⟩ (.int .i64 (m.tim - 1))).heap.size (RE.pk { m with tim := m.tim - 1 }) (w.setCell ⟨pb, 16, none⟩ (.int .i64 (m.tim - 1))) hst (blk_lt HQ.out.1.em.blk) (Nat.le_refl _) (blk_cell HQ.out.1.em.blk)) ?_
    rintro e w1 hR
    have hR' := atR_pat (E := m.event 5) (m := { m with tim := m.tim - 1 }) hR HQ.out.1 (HE.out.trans (row_ev (R := row_atTimeout) (ev := 6) rfl _)) HQ.out.2.2.1 HQ.out.2.2.2 (row_six (by decide) _)
    obtain ⟨va, LS, m', rfl, q2, q3, q4, q5⟩ := hR'
    rw [hsz] at q2
    have Q : Hid (PatR w w1 B Bs pb v S (m.event 5) (.returned va)) := ⟨va, LS, m', rfl, q2, q3, HQ.out.2.1.trans q4, q5⟩
    clear hR q2 q3 q4 q5
    go_wp2_with fail
    go_ret
    exact Q.out
  · have he : m.event 5 = RE.at_ { m with tim := m.tim - 1 } 7 := by unfold RE.event; rw [if_neg (by omega), if_neg hnq, if_neg hpos, if_neg hcp]
    have HE : Hid (m.event 5 = RE.at_ { m with tim := m.tim - 1 } 7) := he
    clear hnq he
    go_enter Tryz.func69, Tryz.ntmps69
    go_wp2_with fail
    refine Calls.mono (patLastTimeout pb m.st (w.setCell ⟨pb, 16, none⟩ (.int .i64 (m.tim - 1))).heap.size (RE.pk { m with tim := m.tim - 1 }) (w.setCell ⟨pb, 16, none⟩ (.int .i64 (m.tim - 1))) hst (blk_lt HQ.out.1.em.blk) (Nat.le_refl _) (blk_cell HQ.out.1.em.blk)) ?_
    rintro e w1 hR
    have hR' := atR_pat (E := m.event 5) (m := { m with tim := m.tim - 1 }) hR HQ.out.1 (HE.out.trans (row_ev (R := row_atLastTimeout) (ev := 7) rfl _)) HQ.out.2.2.1 HQ.out.2.2.2 (row_six (by decide) _)
    obtain ⟨va, LS, m', rfl, q2, q3, q4, q5⟩ := hR'
    rw [hsz] at q2
    have Q : Hid (PatR w w1 B Bs pb v S (m.event 5) (.returned va)) := ⟨va, LS, m', rfl, q2, q3, HQ.out.2.1.trans q4, q5⟩
    clear hR q2 q3 q4 q5
    go_wp2_with fail
    go_ret
    exact Q.out
set_option maxRecDepth 100000 in
set_option maxHeartbeats 4000000 in
theorem pat {B Bs pb : Nat} {v : PV} {m : RE} {S : List UInt8} (k : Int) (w : World) (h : PI w B Bs pb v m S) (ok : m.Ok) (fit : m.Fit 800) (ht0 : 0 ≤ m.tim) (ht1 : m.tim ≤ 3) :
    Calls Tryz.prog 43 #[.pointer (some ⟨pb, 0, none⟩), .int .i64 k] w fun r w' => PatR w w' B Bs pb v S (m.event k) r := by
  have c14 : w.cell? ⟨pb, 14, none⟩ = some (.int .i64 (m.st : Int)) := blk_cell h.em.blk
  by_cases h1 : k = 1
  · subst h1
    have HC : Hid (Calls Tryz.prog 65 #[.pointer (some ⟨pb, 0, none⟩)] w fun r w' => PatR w w' B Bs pb v S (m.event 1) r) := (patUp pb m.st w.heap.size m.pk w ok.st (blk_lt h.em.blk) (Nat.le_refl _) c14).mono (fun e w1 hR => atR_pat (m := m) hR h ((show m.event 1 = m.at_ 1 from rfl).trans (row_ev (R := row_atUp) (ev := 1) rfl _)) ok fit (row_six (by decide) _))
    clear h ok fit c14
    go_enter Tryz.func43, Tryz.ntmps43
    go_wp2_with fail
    refine Calls.mono HC.out ?_
    rintro e w1 ⟨va, LS, m', rfl, q⟩
    have Q : Hid (PatR w w1 B Bs pb v S (m.event 1) (.returned va)) := ⟨va, LS, m', rfl, q⟩
    clear q HC
    go_wp2_with fail
    go_ret
    exact Q.out
  by_cases h2 : k = 2
  · subst h2
    have HC : Hid (Calls Tryz.prog 66 #[.pointer (some ⟨pb, 0, none⟩)] w fun r w' => PatR w w' B Bs pb v S (m.event 2) r) := (patDown pb m.st w.heap.size m.pk w ok.st (blk_lt h.em.blk) (Nat.le_refl _) c14).mono (fun e w1 hR => atR_pat (m := m) hR h ((show m.event 2 = m.at_ 2 from rfl).trans (row_ev (R := row_atDown) (ev := 2) rfl _)) ok fit (row_six (by decide) _))
    clear h ok fit c14
    go_enter Tryz.func43, Tryz.ntmps43
    go_wp2_with fail
    refine Calls.mono HC.out ?_
    rintro e w1 ⟨va, LS, m', rfl, q⟩
    have Q : Hid (PatR w w1 B Bs pb v S (m.event 2) (.returned va)) := ⟨va, LS, m', rfl, q⟩
    clear q HC
    go_wp2_with fail
    go_ret
    exact Q.out
  by_cases h3 : k = 3
  · subst h3
    have HC : Hid (Calls Tryz.prog 67 #[.pointer (some ⟨pb, 0, none⟩)] w fun r w' => PatR w w' B Bs pb v S (m.event 3) r) := (patOpen pb m.st w.heap.size m.pk w ok.st (blk_lt h.em.blk) (Nat.le_refl _) c14).mono (fun e w1 hR => atR_pat (m := m) hR h ((show m.event 3 = m.at_ 3 from rfl).trans (row_ev (R := row_atOpen) (ev := 3) rfl _)) ok fit (row_six (by decide) _))
    clear h ok fit c14
    go_enter Tryz.func43, Tryz.ntmps43
    go_wp2_with fail
    refine Calls.mono HC.out ?_
    rintro e w1 ⟨va, LS, m', rfl, q⟩
    have Q : Hid (PatR w w1 B Bs pb v S (m.event 3) (.returned va)) := ⟨va, LS, m', rfl, q⟩
    clear q HC
    go_wp2_with fail
    go_ret
    exact Q.out
  by_cases h4 : k = 4
  · subst h4
    have HC : Hid (Calls Tryz.prog 68 #[.pointer (some ⟨pb, 0, none⟩)] w fun r w' => PatR w w' B Bs pb v S (m.event 4) r) := (patClose pb m.st w.heap.size m.pk w ok.st (blk_lt h.em.blk) (Nat.le_refl _) c14).mono (fun e w1 hR => atR_pat (m := m) hR h ((show m.event 4 = m.at_ 4 from rfl).trans (row_ev (R := row_atClose) (ev := 4) rfl _)) ok fit (row_six (by decide) _))
    clear h ok fit c14
    go_enter Tryz.func43, Tryz.ntmps43
    go_wp2_with fail
    refine Calls.mono HC.out ?_
    rintro e w1 ⟨va, LS, m', rfl, q⟩
    have Q : Hid (PatR w w1 B Bs pb v S (m.event 4) (.returned va)) := ⟨va, LS, m', rfl, q⟩
    clear q HC
    go_wp2_with fail
    go_ret
    exact Q.out
  by_cases h5 : k = 5
  · subst h5
    have HC : Hid (Calls Tryz.prog 69 #[.pointer (some ⟨pb, 0, none⟩)] w fun r w' => PatR w w' B Bs pb v S (m.event 5) r) := ptick w h ok fit ht0 ht1
    clear h ok fit c14
    go_enter Tryz.func43, Tryz.ntmps43
    go_wp2_with fail
    refine Calls.mono HC.out ?_
    rintro e w1 ⟨va, LS, m', rfl, q⟩
    have Q : Hid (PatR w w1 B Bs pb v S (m.event 5) (.returned va)) := ⟨va, LS, m', rfl, q⟩
    clear q HC
    go_wp2_with fail
    go_ret
    exact Q.out
  have Q : Hid (PatR w w B Bs pb v S (m.event k) (.returned (.slice none 0 0))) := PatR.nil h (by unfold RE.event; rw [if_neg (by omega), if_pos (.inl h5)]) ok fit
  have e1 : (k == 1) = false := by simp [h1]
  have e2 : (k == 2) = false := by simp [h2]
  have e3 : (k == 3) = false := by simp [h3]
  have e4 : (k == 4) = false := by simp [h4]
  have e5 : (k == 5) = false := by simp [h5]
  clear h ok fit c14
  go_enter Tryz.func43, Tryz.ntmps43
  go_wp2_with fail
  go_ret
  exact Q.out
set_option maxRecDepth 100000 in
set_option maxHeartbeats 1000000 in
theorem ptake {B Bs pb : Nat} {v : PV} {m : RE} {S : List UInt8} (w : World) (h : PI w B Bs pb v m S) :
    Calls Tryz.prog 44 #[.pointer (some ⟨pb, 0, none⟩)] w fun r w' => ∃ v', r = .returned v.vs ∧ PI w' B Bs pb v' m [] ∧ ES w w' pb v.vals v'.vals ∧ w'.ownsRow Bs 5 1 v.vs S.length (S.map bv) ∧ (∀ b, v.vs.ownBlock = some b → ¬ inE pb v'.vals b) ∧ v'.vs = .slice none 0 0 := by
  have H : Hid (PI w B Bs pb v m S) := h
  have c32 : w.cell? ⟨pb, 32, none⟩ = some v.vs := blk_cell h.em.blk
  have f32 : w.frozen? ⟨pb, 32, none⟩ = false := blk_free h.em.blk
  clear h
  go_enter Tryz.func44, Tryz.ntmps44
  go_wp2_with fail
  go_ret
  obtain ⟨h1, h2, h3, h4⟩ := H.out.em.drop 8 32 ⟨5, v.vs, S.map bv⟩ rfl
  have h3' := owns_raise h3 H.out.s1
  simp only [List.length_map] at h3'
  have hx := H.out.of_es (v' := { v with vs := .slice none 0 0 }) (q' := m.props) (m' := m) (S' := []) h1 h2 rfl rfl H.out.t0 (fun b hb => by simp [Value.ownBlock] at hb)
  refine ⟨{ v with vs := .slice none 0 0 }, rfl, hx.1, hx.2, h3', ?_, rfl⟩
  intro b hb x
  rcases inV.1 x with y | y
  · exact h4 b hb y
  · subst y
    exact H.out.mn (.inr ⟨v.vs, by simp [PV.rvals], hb⟩)
set_option maxRecDepth 100000 in
set_option maxHeartbeats 2000000 in
theorem pevent {B pb : Nat} {v : PV} {m : RE} (k : Int) (w : World) (h : PI w B w.heap.size pb v m []) (ok : m.Ok) (fit : m.Fit 800) (ht0 : 0 ≤ m.tim) (ht1 : m.tim ≤ 3) :
    Calls Tryz.prog 25 #[.pointer (some ⟨pb, 0, none⟩), .int .i64 k] w fun r w' => ∃ vr v', r = .returned vr ∧ w'.ownsRow w.heap.size 5 1 vr (m.event k).2.length ((m.event k).2.map bv) ∧ PI w' B w.heap.size pb v' (m.event k).1 [] ∧ ES w w' pb v.vals v'.vals ∧ (∀ b, vr.ownBlock = some b → ¬ inE pb v'.vals b) ∧ v'.vs = .slice none 0 0 := by
  have HIN : Hid (∀ b, inE pb v.vals b → b < w.heap.size) := fun b hb => (h.lt b hb).2
  have HC : Hid (_) := pat k w h ok fit ht0 ht1
  clear h ok fit
  go_enter Tryz.func25, Tryz.ntmps25
  go_wp2_with fail
  refine Calls.mono HC.out ?_
  rintro e w1 ⟨va, LS, m', rfl, q2, q3, q4, q5, q6, q7, q8⟩
  have HD : Hid (_) := do_any LS va w1 q3 q6 q7 q8 (by simp) q4.t.size q2 HIN.out
  have Q4 : Hid (ES w w1 pb v.vals v.vals) := q4
  have Q5 : Hid (m.event k = m'.prun LS) := q5
  clear q2 q3 q4 q5 q6 q7 q8 HC
  go_wp2_with fail
  refine Calls.mono HD.out ?_
  rintro e w2 ⟨rfl, v2, p1, p2⟩
  have HT : Hid (_) := ptake w2 p1
  have P2 : Hid (_) := p2
  clear p1 p2 HD
  go_wp2_with fail
  refine Calls.mono HT.out ?_
  rintro e w3 ⟨v3, rfl, r1, r2, r3, r4, r5⟩
  have R : Hid (w3.ownsRow w.heap.size 5 1 v2.vs (m.event k).2.length ((m.event k).2.map bv) ∧ PI w3 B w.heap.size pb v3 (m.event k).1 [] ∧ ES w w3 pb v.vals v3.vals ∧ (∀ b, v2.vs.ownBlock = some b → ¬ inE pb v3.vals b) ∧ v3.vs = .slice none 0 0) := by
    rw [Q5.out]
    exact ⟨by simpa using r3, r1, (Q4.out.trans P2.out).trans r2, r4, r5⟩
  clear r1 r2 r3 r4 r5 HT
  go_wp2_with fail
  go_ret
  exact ⟨_, v3, rfl, R.out⟩
end Go.Proofs.YtoeihlgidakjbaaGreatDoor

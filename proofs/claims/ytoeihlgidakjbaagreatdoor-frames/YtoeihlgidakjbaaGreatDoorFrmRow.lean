/- PROVED: at every script concordlaw.Frames returns true, and its argument reads afterwards as before; conditions: the listed package-level variables hold what the program's text lays (the card ties that). -/
import Derived.Test.YtoeihlgidakjbaaGreatDoorFrmArg
import Derived.Test.YtoeihlgidakjbaaGreatDoorTie
import Derived.Test.YtoeihlgidakjbaaGreatDoorCards
import Derived.Lib.SmallJoins
import Derived.Lib.RowBridge
import Derived.Stop.Joined
namespace Go.Proofs.YtoeihlgidakjbaaGreatDoor
open Go.ChangeShapes Go.WideShapes Go.ChangeAt Go.RowKit Go.Joins Go.Deep

instance : Inhabited OpC := ⟨⟨0, 0, 0, 0, ⟨#[]⟩, ⟨#[]⟩, .bool false, .bool false, .bool false, .bool false, .bool false, .bool false, .bool false, 0⟩⟩
theorem Tryz.laidOut : laidOutB Tryz.prog = true := by kernel_rfl

/-- The cells of a step. -/
theorem opIs_of {W : World} {g p : Nat} {o : OpC} (h : W.cells? 0 ⟨g, p, none⟩ 14 = some o.cells) : OpIs W g p o := by
  obtain ⟨_, _, hc⟩ := World.cells?_some h
  have at_ : ∀ i, i < 14 → W.cell? ⟨g, p + i, none⟩ = o.cells[i]? := fun i hi => by rw [← add_plain]; exact hc i hi
  exact ⟨at_ 0 (by omega), at_ 1 (by omega), at_ 2 (by omega), at_ 3 (by omega), at_ 4 (by omega), at_ 5 (by omega), at_ 6 (by omega), at_ 7 (by omega), at_ 8 (by omega), at_ 9 (by omega), at_ 10 (by omega), at_ 11 (by omega), at_ 12 (by omega), at_ 13 (by omega)⟩

/-- WHAT A SCRIPT THAT IS HANDED IN READS AS: its steps, and where they lie. -/
theorem scr_of {H : Type} {enc : TypeId × Value → H} {W : World} {a0 : Option Addr} {len cap : Nat} {d : DataW H} {ps : List MemPlace}
    (h : DataW.Trod enc Tryz.prog W 0 (fun _ => true) true 22 (.slice a0 len cap) d ps) (hsz : ∀ n ∈ d.weights Tryz.prog 22, n ≤ reachBytes) :
    ∃ g off O, (0 < len → a0 = some ⟨g, off, none⟩) ∧ (0 < len → g < W.heap.size) ∧ Scr W g off len O ∧ len ≤ 1000000000000 := by
  obtain ⟨fuel, hf⟩ := h
  rcases open_slice Tryz.underlying22 hf with ⟨hcs, _⟩ | ⟨a, len', cap', m, n, D, Pl, hcs, _, hl, _, hm, hx, hel⟩
  · simp [Value.cells] at hcs
    obtain ⟨_, rfl, _⟩ := hcs
    exact ⟨0, 0, fun _ => default, fun h => absurd h (by omega), fun h => absurd h (by omega), fun i hi => absurd hi (by omega), by omega⟩
  · simp [Value.cells] at hcs
    obtain ⟨rfl, rfl, rfl⟩ := hcs
    simp only [if_true] at hm
    subst hm
    simp only [Prod.mk.injEq] at hx
    obtain ⟨rfl, _⟩ := hx
    rw [Tryz.cellsOp] at hel
    have hlen : len ≤ 1000000000000 := by
      have := hsz ((((List.range len).map D).length + ((List.range (m - len)).map fun j => D (len + j)).length) * Tryz.prog.bytesOf 33) (by simp [DataW.weights, Tryz.underlying22])
      rw [Tryz.bytesOp] at this
      simp only [List.length_map, List.length_range, reachBytes] at this
      omega
    have hW : ∀ i, i < len → ∀ k ∈ (D i).weights Tryz.prog 33, k ≤ reachBytes := fun i hi k hk => hsz k (by
      simp only [DataW.weights, Tryz.underlying22, List.mem_cons, List.mem_append]
      exact .inr (.inl (weightsAll_mem (List.mem_map.2 ⟨i, List.mem_range.2 hi, rfl⟩) k hk)))
    obtain ⟨O, hO⟩ := choose_lt (n := len) (p := fun i (o : OpC) => W.cells? 0 (a.add (i * 14)) 14 = some o.cells ∧ o.d.size ≤ maxLen ∧ o.s.size ≤ reachBytes) (fun i hi => by
      obtain ⟨cs', h1, h2⟩ := hel i (by omega)
      obtain ⟨o, rfl, hd, hs⟩ := op_of h2
      exact ⟨o, h1, hd, hs _ (hW i hi)⟩)
    obtain ⟨b, off, spot⟩ := a
    by_cases hz : len = 0
    · subst hz
      exact ⟨0, 0, O, fun h => absurd h (by omega), fun h => absurd h (by omega), fun i hi => absurd hi (by omega), by omega⟩
    have c0 : W.cell? ⟨b, off, spot⟩ = some (.int .i64 (O 0).k) := by
      obtain ⟨_, _, hc⟩ := World.cells?_some (hO 0 (by omega)).1
      have := hc 0 (by omega)
      simp only [Addr.add, if_true, Nat.zero_mul] at this
      exact this
    have hspot : spot = none := World.cell?_spot c0
    subst hspot
    refine ⟨b, off, O, fun _ => rfl, fun _ => glob_size rfl c0, fun i hi => ?_, hlen⟩
    obtain ⟨h1, h2, h3⟩ := hO i hi
    rw [add_plain] at h1
    exact ⟨opIs_of h1, h2, h3⟩

set_option maxRecDepth 100000 in
theorem frames_lifted (os : Os) (started : os.Started) (H : Type) (enc : TypeId × Value → H) :
    ReturnsInHanded {} Tryz.checked os 3 .any (fun w args => (Rows.framesSpec.pre enc Tryz.prog Tryz.f3 [] false w args ∧ laidMetH Tryz.prog Rows.framesRow.laid w) ∧ sizedMet enc Tryz.prog Tryz.f3 (OpenSpec.ofChange Rows.framesSpec) false w args)
      (Rows.framesSpec.post enc Tryz.prog Tryz.f3 false true false false) := by
  refine returnsInHanded_of_change_and (C := Tryz.checked) (X := fun w _ => laidMetH Tryz.prog Rows.framesRow.laid w) (fun _ _ _ hh h => h.of_heap hh) Tryz.own started (by kernel_rfl) Tryz.func3
    (ChangeSpec.witness_shaped (enc := enc) (C := Tryz.checked) (os := os) (X := fun w _ => laidMetH Tryz.prog Rows.framesRow.laid w) false (World.doorLaid Tryz.prog 400 os) #[.slice none 0 0] 8 rfl (World.shaped_of_RefB (by kernel_rfl) (by kernel_rfl)) (by kernel_rfl) (by kernel_rfl) (by kernel_rfl) (door_met os _)) ?_
  intro W base args ds gs before hval0 hW _ hsz0 hL _
  have hsz : (DataW.weightsEach Tryz.prog (Tryz.f3.params.toList ++ Rows.framesSpec.plain.varTypes Tryz.prog) (ds ++ gs)).all (· ≤ reachBytes) = true := hsz0
  clear hsz0
  have hval : ∀ (j : Nat) t v, Tryz.f3.params[j]? = some t → args[j]? = some v → Value.okWide Tryz.prog W .any base t v := hval0
  have hW' := hW
  obtain ⟨p, q, hA0, hV, rfl, _, _⟩ := hW
  have hA : DataW.TrodAll enc Tryz.prog W 0 (fun _ => true) true Tryz.f3.params.toList args.toList ds p := hA0
  rw [Tryz.params3] at hA hval hsz
  obtain ⟨v0, d0, rfl, rfl, h0⟩ := trodAll_one hA
  obtain ⟨rfl, rfl⟩ := trodVars_none hV
  obtain ⟨a0, len, cap, rfl⟩ := okWide_slice Tryz.underlying22 (hval 0 22 v0 rfl rfl)
  clear hA0 hval0
  simp only [List.append_nil] at hW'
  have hlt : ∀ y ∈ p, y.block < W.heap.size := fun y hy => by simpa using hW'.lt y (by simp [hy])
  obtain ⟨aS, aC, aF, aL, aO, aH, hgl⟩ := glob_of_laid hL
  obtain ⟨g, off, O, ha, hg, hsc, hn⟩ := scr_of h0 (fun n hn => by
    have := List.all_eq_true.1 hsz _ (DataW.weights_mem_each (j := 0) (t := 22) (d := d0) rfl rfl n hn)
    simpa using this)
  refine (frames_any g off len cap O a0 W hgl ha hg hsc hn).mono fun e W' ⟨he, hb⟩ => ?_
  subst he
  refine ⟨_, rfl, _, _, _, [], p, [], hW', ?_, ?_, ?_, hb.frame _, fun h => by cases h⟩
  · exact trodAll_mk1 (shut_bool Tryz.underlying4 true)
  · exact trodAll_mk1 (Below.trod Tryz.laidOut (by kernel_rfl) (of_decide_eq_true (by kernel_rfl)) h0 hb hlt)
  · exact rfl

theorem frames_said : Rows.FramesSaid :=
  OpenClaim.holds_of_wide 3 Tryz.f3 rfl rfl rfl rfl rfl rfl rfl ⟨rfl, rfl, rfl, rfl, rfl⟩ rfl rfl rfl rfl rfl (by kernel_rfl) Tryz.func3 (by kernel_rfl)
    (of_decide_eq_true (by kernel_rfl)) (by unfold Func.isWrapper; rw [if_neg (of_decide_eq_false (by kernel_rfl))]; exact ⟨rfl, rfl⟩)
    (fun os started H enc _ => frames_lifted os started H enc)

theorem frames_plain (f : FuncId) (fn : Func) (hf : Tryz.pinned.checked.prog.funcNamed "concord/concordlaw.Frames" = some f) (hfn : Tryz.pinned.checked.prog.funcs[f]? = some fn) :
    true = Tryz.pinned.checked.prog.looks [] ∧ ∀ (j : Nat) t, fn.params[j]? = some t → Tryz.pinned.checked.prog.wantsStandIn t = false := by
  obtain rfl : f = 3 := Option.some.inj ((show Tryz.prog.funcNamed "concord/concordlaw.Frames" = some 3 by kernel_rfl).symm.trans hf) |>.symm
  obtain rfl : fn = Tryz.f3 := (Option.some.inj (Tryz.func3.symm.trans hfn)).symm
  refine ⟨by kernel_rfl, fun j t ht => ?_⟩
  rw [Tryz.params3] at ht
  have hm : t = 22 := by simpa using Array.mem_of_getElem? ht
  subst hm
  exact (show Tryz.prog.wantsStandIn 22 = false by kernel_rfl)

theorem frames_card : Rows.FramesCardSaid :=
  Claim7.holds_tied_plain_at .later [] _ _ _ _ frames_said (fun _ h => by cases h) (by kernel_rfl) (fun _ h => by cases h) frames_row_tie rfl ⟨rfl, rfl⟩ (by kernel_rfl) rfl frames_plain (by kernel_rfl)
#print axioms frames_card
end Go.Proofs.YtoeihlgidakjbaaGreatDoor

/- PROVED: at every packet, place and bit concordkeep.Lined returns true, and its arguments read afterwards as before; conditions: the listed package-level variables hold what the program's text lays (the card ties that). -/
import Derived.Test.YtoeihlgidakjbaaDoorLnd2
import Derived.Test.YtoeihlgidakjbaaDoorGlob
import Derived.Test.YtoeihlgidakjbaaDoorTie
import Derived.Test.YtoeihlgidakjbaaDoorCards
import Derived.OpenShut
import Derived.Lib.SmallJoins
import Derived.Stop.Joined
namespace Go.Proofs.YtoeihlgidakjbaaDoor
open Go.ChangeShapes Go.WideShapes Go.ChangeAt Go.RowKit Go.Joins
open Go.ChangeMaps (open_string shut_string)

theorem Tryd.cellsP : Tryd.prog.cellsOf 23 = 3 := by kernel_rfl

theorem lined_all {aS aC aF aL aO aH : Addr} (code id place bit : Int) (s : ByteArray) (w : World) (hgl : Gl w aS aC aF aL aO aH) (hs : s.size ≤ maxLen)
    (hp1 : -9223372036854775808 ≤ place) (hp2 : place < 9223372036854775808) (hq1 : -9223372036854775808 ≤ bit) (hq2 : bit < 9223372036854775808) :
    Calls Tryd.prog 3 #[.agg #[.int .i64 code, .int .i64 id, .string s], .int .i64 place, .int .i64 bit] w fun e w' => e = .returned (.bool true) ∧ Below w.heap.size w w' := by
  cases hp : isPkt code id s.size with
  | false => exact lined_no code id place bit s w hgl hs hp
  | true =>
    unfold isPkt at hp
    simp only [Bool.and_eq_true, decide_eq_true_eq] at hp
    obtain ⟨⟨⟨⟨h1, h2⟩, h3⟩, h4⟩, h5⟩ := hp
    have e1 : ((UInt8.ofNat code.toNat).toNat : Int) = code := by rw [UInt8.toNat_ofNat']; omega
    have e2 : ((UInt8.ofNat id.toNat).toNat : Int) = id := by rw [UInt8.toNat_ofNat']; omega
    have := lined_yes (UInt8.ofNat code.toNat) (UInt8.ofNat id.toNat) place bit s w hgl h5 (by omega) hp1 hp2 hq1 hq2
    rw [e1, e2] at this
    exact this

set_option maxRecDepth 100000 in
theorem lined_lifted (os : Os) (started : os.Started) (H : Type) (enc : TypeId × Value → H) :
    ReturnsInHanded {} Tryd.checked os 3 .any (fun w args => (Rows.linedSpec.pre enc Tryd.prog Tryd.f3 [] false w args ∧ laidMetH Tryd.prog Rows.linedRow.laid w) ∧ sizedMet enc Tryd.prog Tryd.f3 (OpenSpec.ofChange Rows.linedSpec) false w args)
      (Rows.linedSpec.post enc Tryd.prog Tryd.f3 false true false false) := by
  refine returnsInHanded_of_change_and (C := Tryd.checked) (X := fun w _ => laidMetH Tryd.prog Rows.linedRow.laid w) (fun _ _ _ hh h => h.of_heap hh) Tryd.own started (by kernel_rfl) Tryd.func3
    (ChangeSpec.witness_shaped (enc := enc) (C := Tryd.checked) (os := os) (X := fun w _ => laidMetH Tryd.prog Rows.linedRow.laid w) false (World.doorLaid Tryd.prog 400 os) #[.agg #[.int .i64 0, .int .i64 0, .string ⟨#[]⟩], .int .i64 0, .int .i64 0] 8 rfl (World.shaped_of_RefB (by kernel_rfl) (by kernel_rfl)) (by kernel_rfl) (by kernel_rfl) (by kernel_rfl) (door_met os _)) ?_
  intro W base args ds gs before hval0 hW _ _ hL _
  have hval : ∀ (j : Nat) t v, Tryd.f3.params[j]? = some t → args[j]? = some v → Value.okWide Tryd.prog W .any base t v := hval0
  have hW' := hW
  obtain ⟨p, q, hA0, hV, rfl, hfz, hnd⟩ := hW
  have hA : DataW.TrodAll enc Tryd.prog W 0 (fun _ => true) true Tryd.f3.params.toList args.toList ds p := hA0
  rw [Tryd.params3] at hA hval
  obtain ⟨v0, v1, v2, d0, d1, d2, p0, p1, p2, rfl, rfl, rfl, h0, h1, h2⟩ := trodAll_three hA
  obtain ⟨rfl, rfl⟩ := trodVars_none hV
  obtain ⟨c0, c1, c2, y0, y1, y2, m, rfl, rfl, rfl, hy0, hy1, hy2⟩ := open_agg3 Tryd.underlying23 (by kernel_rfl) Tryd.cellsP (hval 0 23 v0 rfl rfl) h0
  obtain ⟨code, e0, rfl, wc⟩ := DataW.trod_int Tryd.underlying3 hy0
  obtain ⟨id, e1, rfl, wi⟩ := DataW.trod_int Tryd.underlying3 hy1
  obtain ⟨s, e2, rfl, hs⟩ := DataW.trod_string Tryd.underlying9 hy2
  simp at e0 e1 e2
  subst e0 e1 e2
  obtain ⟨place, rfl, rfl, rfl, wp⟩ := open_int Tryd.underlying3 (hval 1 3 v1 rfl rfl) h1
  obtain ⟨bit, rfl, rfl, rfl, wb⟩ := open_int Tryd.underlying3 (hval 2 3 v2 rfl rfl) h2
  obtain ⟨aS, aC, aF, aL, aO, aH, hgl⟩ := glob_of_laid hL
  clear hA0 hval0
  simp only [List.append_nil] at hW'
  have bp := bounds_i64 wp
  have bb := bounds_i64 wb
  have pktReads : ∀ (W' : World) (sp : Nat → Bool), DataW.Trod enc Tryd.prog W' 0 sp true 23 (.agg #[.int .i64 code, .int .i64 id, .string s]) (.agg [.lit (.int .i64 code), .lit (.int .i64 id), .lit (.string s.data.toList)]) [] := fun W' sp =>
    shut_agg3 (y0 := (.lit (.int .i64 code), [])) (y1 := (.lit (.int .i64 id), [])) (y2 := (.lit (.string s.data.toList), [])) Tryd.underlying23 (by kernel_rfl) Tryd.cellsP ⟨1, by simp [DataW.trod, Tryd.underlying3, wc]⟩ ⟨1, by simp [DataW.trod, Tryd.underlying3, wi]⟩ ⟨1, by simp [DataW.trod, Tryd.underlying9, hs]⟩
  refine (lined_all code id place bit s W hgl hs (by omega) (by omega) (by omega) (by omega)).mono fun e W' ⟨he, hb⟩ => ?_
  subst he
  refine ⟨_, rfl, _, _, _, [], [], [], hW', ?_, ?_, ?_, hb.frame _, fun h => by cases h⟩
  · exact trodAll_mk1 (shut_bool Tryd.underlying4 true)
  · exact trodAll_mk3 (pktReads W' _) (shut_int Tryd.underlying3 wp) (shut_int Tryd.underlying3 wb)
  · exact rfl

theorem lined_said : Rows.LinedSaid :=
  OpenClaim.holds_of_wide 3 Tryd.f3 rfl rfl rfl rfl rfl rfl rfl ⟨rfl, rfl, rfl, rfl, rfl⟩ rfl rfl rfl rfl rfl (by kernel_rfl) Tryd.func3 (by kernel_rfl)
    (of_decide_eq_true (by kernel_rfl)) (by unfold Func.isWrapper; rw [if_neg (of_decide_eq_false (by kernel_rfl))]; exact ⟨rfl, rfl⟩)
    (fun os started H enc _ => lined_lifted os started H enc)

theorem lined_plain (f : FuncId) (fn : Func) (hf : Tryd.pinned.checked.prog.funcNamed "concord/concordkeep.Lined" = some f) (hfn : Tryd.pinned.checked.prog.funcs[f]? = some fn) :
    true = Tryd.pinned.checked.prog.looks [] ∧ ∀ (j : Nat) t, fn.params[j]? = some t → Tryd.pinned.checked.prog.wantsStandIn t = false := by
  obtain rfl : f = 3 := Option.some.inj ((show Tryd.prog.funcNamed "concord/concordkeep.Lined" = some 3 by kernel_rfl).symm.trans hf) |>.symm
  obtain rfl : fn = Tryd.f3 := (Option.some.inj (Tryd.func3.symm.trans hfn)).symm
  refine ⟨by kernel_rfl, fun j t ht => ?_⟩
  rw [Tryd.params3] at ht
  have hm : t = 23 ∨ t = 3 := by simpa using Array.mem_of_getElem? ht
  rcases hm with rfl | rfl
  · exact (show Tryd.prog.wantsStandIn 23 = false by kernel_rfl)
  · exact (show Tryd.prog.wantsStandIn 3 = false by kernel_rfl)

theorem lined_card : Rows.LinedCardSaid :=
  Claim7.holds_tied_plain_at .later [] _ _ _ _ lined_said (fun _ h => by cases h) (by kernel_rfl) (fun _ h => by cases h) lined_row_tie rfl ⟨rfl, rfl⟩ (by kernel_rfl) rfl lined_plain (by kernel_rfl)
#print axioms lined_card
end Go.Proofs.YtoeihlgidakjbaaDoor

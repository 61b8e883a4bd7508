/- The reference's one, two and sum. The reference's Line and Frame. The reference's Data. -/
import Derived.Test.YtoeihlgidakjbaaGreatDoorEa7
import Derived.Deep.DeepCutAuto
import Derived.Deep.RegionHeld3
namespace Go.Proofs.YtoeihlgidakjbaaGreatDoor
open Go.RowKit
set_option maxHeartbeats 1000000 in
theorem one_any (c : UInt8) (w : World) :
    Calls Tryz.prog 48 #[.int .i64 (c.toNat : Int)] w fun e w' => e = .returned (.string ⟨#[c]⟩) ∧ Below w.heap.size w w' := by
  have hw := wrap_u8_byte c
  have hcv := conv_bytes (w.alloc (.cells #[.int .u8 (c.toNat : Int)] 5)) w.heap.size 0 1 [c] (by intro k hk; simp at hk; subst hk; simp)
  have hl : [c].length = 1 := rfl
  rw [hl] at hcv
  clear hl
  go_enter Tryz.func48, Tryz.ntmps48
  go_wp2
  go_ret
  exact ⟨rfl, (Below.refl _ _).alloc (Nat.le_refl _) _⟩
theorem one_nat (n : Int) (w : World) (h0 : 0 ≤ n) (h : n < 256) :
    Calls Tryz.prog 48 #[.int .i64 n] w fun e w' => e = .returned (.string ⟨#[UInt8.ofNat n.toNat]⟩) ∧ Below w.heap.size w w' := by
  have e : ((UInt8.ofNat n.toNat).toNat : Int) = n := by rw [byte_of _ (by omega)]; omega
  have := one_any (UInt8.ofNat n.toNat) w
  rw [e] at this
  exact this
set_option maxHeartbeats 1000000 in
theorem two_any (n : Nat) (w : World) (hn : n < 65536) :
    Calls Tryz.prog 49 #[.int .i64 (n : Int)] w fun e w' => e = .returned (.string ⟨(twoL n).toArray⟩) ∧ Below w.heap.size w w' := by
  go_enter Tryz.func49, Tryz.ntmps49
  go_wp2_with fail
  refine (one_nat _ _ (by omega) (by omega)).mono ?_
  rintro e w1 ⟨rfl, hb1⟩
  go_wp2_with fail
  refine (one_nat _ _ (by omega) (by omega)).mono ?_
  rintro e w2 ⟨rfl, hb2⟩
  go_wp2_with fail
  go_ret
  exact ⟨ret_str (two_str n hn), hb1.trans (hb2.mono hb1.size)⟩
set_option maxHeartbeats 1000000 in
theorem rsum_any (s : ByteArray) (w : World) (hn : s.size ≤ 140737488351232) :
    Calls Tryz.prog 50 #[.string s] w fun e w' => e = .returned (.int .i64 (sumL s.data.toList : Int)) ∧ w = w' := by
  go_enter Tryz.func50, Tryz.ntmps50
  go_wp2
  go_loop [3, 4] (fun n i => ∃ k : Nat, k ≤ s.size ∧ i = .int .i64 k ∧ n = .int .i64 (sumL (s.data.toList.take k) : Int)) (fun _ i => s.size - (intOf i).toNat)
  case atStart => exact ⟨0, Nat.zero_le _, rfl, rfl⟩
  case round =>
    obtain ⟨k, hk, rfl, rfl⟩ := hrel
    have hs := sumL_lt (s.data.toList.take k)
    by_cases hlt : k < s.size
    · have HS : Hid (sumL (s.data.toList.take (k + 1)) = (sumL (s.data.toList.take k) * 17 + (s[k]).toNat) % 65536) := by
        have hl : k < s.data.toList.length := by simpa using hlt
        rw [take_snoc s.data.toList k hl, sumL_snoc]; rfl
      have hb := UInt8.toNat_lt s[k]
      go_wp2
      go_round
      case rel => exact ⟨k + 1, by omega, by go_num, by rw [HS.out]; go_num⟩
      case measure => simp [intOf]; omega
    · go_wp2
      go_ret
      have hl : s.data.toList.take k = s.data.toList := List.take_of_length_le (by simp; omega)
      rw [hl]
      exact ⟨rfl, rfl⟩
end Go.Proofs.YtoeihlgidakjbaaGreatDoor
namespace Go.Proofs.YtoeihlgidakjbaaGreatDoor
open Go.RowKit
theorem bsz (l : Array UInt8) : (⟨l⟩ : ByteArray).size = l.size := rfl
theorem ext1 (s : ByteArray) (k : Nat) (h : k < s.size) : (s.extract k (k + 1)).data.toList = [s[k]] := by
  have hl : k < s.data.toList.length := by simpa using h
  rw [ByteArray.data_extract, Array.toList_extract, List.extract_eq_take_drop]
  rw [show k + 1 - k = 1 from by omega, List.drop_eq_getElem_cons hl]
  rfl
theorem xor64 (c : UInt8) : bits .xor .i64 (c.toNat : Int) 32 = ((c ^^^ 32).toNat : Int) := by
  have h : ∀ n : Nat, n < 256 → bits .xor .i64 (n : Int) 32 = ((n ^^^ 32 : Nat) : Int) := by decide +kernel
  rw [h _ (UInt8.toNat_lt c), UInt8.toNat_xor]; rfl
theorem xor64w (c : UInt8) : bits .xor .i64 (IntKind.i64.wrap (c.toNat : Int)) 32 = ((c ^^^ 32).toNat : Int) := by
  have h : ∀ n : Nat, n < 256 → bits .xor .i64 (IntKind.i64.wrap (n : Int)) 32 = ((n ^^^ 32 : Nat) : Int) := by decide +kernel
  rw [h _ (UInt8.toNat_lt c), UInt8.toNat_xor]; rfl
theorem content_two (c d : UInt8) (s : List UInt8) : content c d s = headOf c d s ++ twoL (sumL (headOf c d s)) := rfl
theorem sl0 (w : World) (a b c : Value) : (w.alloc (.cells #[a, b, c] 27)).drew.cell? ⟨w.heap.size, 0, none⟩ = some a ∧ (w.alloc (.cells #[a, b, c] 27)).drew.cell? ⟨w.heap.size, 1, none⟩ = some b ∧ (w.alloc (.cells #[a, b, c] 27)).drew.cell? ⟨w.heap.size, 2, none⟩ = some c ∧ w.heap.size < (w.alloc (.cells #[a, b, c] 27)).drew.heap.size ∧ Below w.heap.size w (w.alloc (.cells #[a, b, c] 27)).drew :=
  ⟨by simp, by simp, by simp, by simp, ((Below.refl w.heap.size w).alloc (Nat.le_refl _) _).drew⟩
theorem sl1 {w w1 w2 : World} {a b c : Value} (h : w1.cell? ⟨w.heap.size, 0, none⟩ = some a ∧ w1.cell? ⟨w.heap.size, 1, none⟩ = some b ∧ w1.cell? ⟨w.heap.size, 2, none⟩ = some c ∧ w.heap.size < w1.heap.size ∧ Below w.heap.size w w1) (hb : Below w1.heap.size w1 w2) :
    w2.cell? ⟨w.heap.size, 0, none⟩ = some a ∧ w2.cell? ⟨w.heap.size, 1, none⟩ = some b ∧ w2.cell? ⟨w.heap.size, 2, none⟩ = some c ∧ w.heap.size < w2.heap.size ∧ Below w.heap.size w w2 :=
  ⟨(hb.cell (p := ⟨w.heap.size, 0, none⟩) h.2.2.2.1).trans h.1, (hb.cell (p := ⟨w.heap.size, 1, none⟩) h.2.2.2.1).trans h.2.1, (hb.cell (p := ⟨w.heap.size, 2, none⟩) h.2.2.2.1).trans h.2.2.1, Nat.lt_of_lt_of_le h.2.2.2.1 hb.size, h.2.2.2.2.trans (hb.mono (Nat.le_of_lt h.2.2.2.1))⟩
set_option maxHeartbeats 2000000 in
theorem line_any (c d : UInt8) (s : ByteArray) (w : World) (hn : s.size ≤ 1000000) :
    Calls Tryz.prog 33 #[.agg #[.int .i64 (c.toNat : Int), .int .i64 (d.toNat : Int), .string s]] w fun e w' => e = .returned (.string ⟨(encl (content c d s.data.toList)).toArray⟩) ∧ Below w.heap.size w w' := by
  have hc := UInt8.toNat_lt c
  have hd := UInt8.toNat_lt d
  have hb0 := ((Below.refl w.heap.size w).alloc (Nat.le_refl _) (.cells #[.int .i64 (c.toNat : Int), .int .i64 (d.toNat : Int), .string s] 27)).drew
  have hcat := fun wx => run_string_add_sum (P := Tryz.prog) wx ((⟨#[c]⟩ : ByteArray) ++ ⟨#[d]⟩) s (by rw [ByteArray.size_append, bsz, bsz]; simp; omega)
  go_enter Tryz.func33, Tryz.ntmps33
  go_upto_region 1 with fail
  go_cut [3] (fun v wx => ∃ S : ByteArray, v = .string S ∧ S.data.toList = headOf c d s.data.toList ∧ Below w.heap.size w wx)
  case first =>
    go_region_held3 (fun w' => w'.cell? ⟨w.heap.size, 0, none⟩ = some (.int .i64 (c.toNat : Int)) ∧ w'.cell? ⟨w.heap.size, 1, none⟩ = some (.int .i64 (d.toNat : Int)) ∧ w'.cell? ⟨w.heap.size, 2, none⟩ = some (.string s) ∧ w.heap.size < w'.heap.size ∧ Below w.heap.size w w') (first | exact sl0 _ _ _ _ | exact sl1 (by assumption) (by assumption)) (first | (go_at_call 48; refine (one_nat _ _ (by omega) (by omega)).mono ?_; rintro e wq ⟨rfl, hbq⟩; have HBq : Below w.heap.size w wq := (by first | exact hb0.trans (hbq.mono (by simp)) | exact HBq.trans (hbq.mono HBq.size))))
    all_goals
      go_wp2_with fail
      go_meet
      exact ⟨_, rfl, by simp [headOf], HBq⟩
  case rest =>
    obtain ⟨S1, rfl, hS1, hb1⟩ := hcut
    have hl1 : S1.data.toList.length = s.size + 2 := by rw [hS1, headOf_len]; simp
    have hl1' : S1.size = s.size + 2 := by simpa using hl1
    have H1 : Hid (S1.data.toList = headOf c d s.data.toList) := hS1
    clear hS1 hl1 hb0
    go_wp2_with fail
    refine (rsum_any S1 _ (by omega)).mono ?_
    rintro e w2 ⟨rfl, rfl⟩
    have hsl := sumL_lt S1.data.toList
    have htl : (twoL (sumL S1.data.toList)).length = 2 := rfl
    go_wp2_with fail
    refine (two_any (sumL S1.data.toList) _ hsl).mono ?_
    rintro e w3 ⟨rfl, hb3⟩
    have hb3' := hb1.trans (hb3.mono hb1.size)
    clear hb3 hb1
    go_wp2_with fail
    refine (one_nat _ _ (by omega) (by omega)).mono ?_
    rintro e w4 ⟨rfl, hb4⟩
    have hb4' := hb3'.trans (hb4.mono hb3'.size)
    clear hb4 hb3'
    have H2 : Hid ((S1 ++ ⟨(twoL (sumL S1.data.toList)).toArray⟩).data.toList = content c d s.data.toList) := by
      show _ = _
      rw [app_toList, content_two, H1.out]
    have hl2 : (S1 ++ (⟨(twoL (sumL S1.data.toList)).toArray⟩ : ByteArray)).size = s.size + 4 := by
      have := congrArg List.length H2.out
      rw [content_len, app_toList] at this
      simp only [List.length_append, Array.length_toList] at this
      rw [ByteArray.size_append, bsz]; exact this
    generalize S1 ++ (⟨(twoL (sumL S1.data.toList)).toArray⟩ : ByteArray) = S2 at *
    go_wp2_with fail
    have HL : Hid (S2.data.toList = content c d s.data.toList) := H2
    have hle2 : S2.size ≤ 1000004 := by omega
    clear hl2
    clear H2 H1 hl1' hsl htl
    go_loopw [4, 5] (fun v i wr => ∃ (k : Nat) (S : ByteArray), k ≤ S2.size ∧ i = .int .i64 k ∧ v = .string S ∧ Hid (S.data.toList = 126 :: escL (S2.data.toList.take k)) ∧ S.size ≤ 1 + 2 * k ∧ Below w.heap.size w wr) (fun _ i _ => S2.size - (intOf i).toNat)
    case atStart => exact ⟨0, _, Nat.zero_le _, rfl, rfl, rfl, by rw [bsz]; simp, hb4'⟩
    case round =>
      obtain ⟨k, S, hk, rfl, rfl, HS, hsz, hbr⟩ := hrel
      by_cases hlt : k < S2.size
      · have hll : k < S2.data.toList.length := by simpa using hlt
        have HT : Hid (escL (S2.data.toList.take (k + 1)) = escL (S2.data.toList.take k) ++ esc S2[k]) := escL_take S2.data.toList k hll
        have hx := UInt8.toNat_lt S2[k]
        by_cases h6 : (S2[k]).toNat = 126 ∨ (S2[k]).toNat = 125
        · have HE : Hid (esc S2[k] = [125, S2[k] ^^^ 32]) := by unfold esc; rw [if_pos h6]; exact rfl
          have hR : ∀ S' : ByteArray, S' = S ++ ⟨#[125]⟩ ++ ⟨#[S2[k] ^^^ 32]⟩ → Hid (S'.data.toList = 126 :: escL (S2.data.toList.take (k + 1))) ∧ S'.size ≤ 1 + 2 * (k + 1) := by
            rintro S' rfl
            refine ⟨?_, by rw [ByteArray.size_append, ByteArray.size_append]; show S.size + 1 + 1 ≤ _; omega⟩
            show _ = _
            rw [HT.out, HE.out, app_toList, app_toList, HS.out]; simp
          have HR : Hid (_) := hR
          clear hR
          have hxor := xor64 S2[k]
          have hxor' := xor64w S2[k]
          have hy := UInt8.toNat_lt (S2[k] ^^^ 32)
          have hcat1 := fun wx => run_string_add_sum (P := Tryz.prog) wx S ⟨#[125]⟩ (by show S.size + 1 ≤ _; omega)
          have hcat2 := fun wx => run_string_add_sum (P := Tryz.prog) wx (S ++ ⟨#[125]⟩) ⟨#[S2[k] ^^^ 32]⟩ (by rw [ByteArray.size_append]; show S.size + 1 + 1 ≤ _; omega)
          have hkI : (k : Int) < (S2.size : Int) := by omega
          generalize hq : S2[k] ^^^ 32 = q at *
          clear hq
          rcases h6 with h6 | h6
          · have h1 : (((S2[k]).toNat : Int) == 126) = true := by simp; omega
            clear h6
            go_wp2_with fail
            go_region_held3 (fun w' => Below w.heap.size w w') (first | exact hbr.drew | assumption) (first | (go_at_call 48; refine (one_nat _ _ (by omega) (by omega)).mono ?_; rintro e wq ⟨rfl, hbq⟩; have HBq : Below w.heap.size w wq := (by first | exact hbr.drew.trans (hbq.mono (by simpa using hbr.size)) | exact HBq.trans (hbq.mono HBq.size))))
            all_goals
              go_wp2_with fail
              refine ⟨⟨k + 1, _, by omega, by go_num, rfl, ?_, ?_, HBq⟩, by simp [intOf]; omega⟩
              · exact (HR.out _ (by simp)).1
              · exact (HR.out _ (by simp)).2
          · have h1 : (((S2[k]).toNat : Int) == 126) = false := by simp; omega
            have h2 : (((S2[k]).toNat : Int) == 125) = true := by simp; omega
            clear h6
            go_wp2_with fail
            go_region_held3 (fun w' => Below w.heap.size w w') (first | exact hbr.drew | assumption) (first | (go_at_call 48; refine (one_nat _ _ (by omega) (by omega)).mono ?_; rintro e wq ⟨rfl, hbq⟩; have HBq : Below w.heap.size w wq := (by first | exact hbr.drew.trans (hbq.mono (by simpa using hbr.size)) | exact HBq.trans (hbq.mono HBq.size))))
            all_goals
              go_wp2_with fail
              refine ⟨⟨k + 1, _, by omega, by go_num, rfl, ?_, ?_, HBq⟩, by simp [intOf]; omega⟩
              · exact (HR.out _ (by simp)).1
              · exact (HR.out _ (by simp)).2
        · have HE : Hid (esc S2[k] = [S2[k]]) := by unfold esc; rw [if_neg h6]; exact rfl
          have h1 : (((S2[k]).toNat : Int) == 126) = false := by simp; omega
          have h2 : (((S2[k]).toNat : Int) == 125) = false := by simp; omega
          clear h6
          go_wp2_with fail
          refine ⟨⟨k + 1, _, by omega, by go_num, rfl, ?_, ?_, hbr⟩, by simp [intOf]; omega⟩
          · show _ = _
            rw [HT.out, HE.out, app_toList, HS.out, ext1 S2 k hlt]; simp
          · rw [ByteArray.size_append, ByteArray.size_extract]; omega
      · have ht : S2.data.toList.take k = S2.data.toList := List.take_of_length_le (by simp; omega)
        have HF : Hid (S.data.toList = 126 :: escL (content c d s.data.toList)) := by
          have := HS.out
          rw [ht, HL.out] at this; exact this
        go_wp2_with fail
        refine (one_nat _ _ (by omega) (by omega)).mono ?_
        rintro e w5 ⟨rfl, hb5⟩
        go_wp2_with fail
        go_ret
        refine ⟨ret_str ?_, hbr.trans (hb5.mono hbr.size)⟩
        rw [app_toList, HF.out]; simp [encl]
set_option maxHeartbeats 1000000 in
theorem rframe_yes (c d : UInt8) (s : ByteArray) (w : World) (hn : s.size ≤ 40) (h0 : 0 < c.toNat) :
    Calls Tryz.prog 52 #[.agg #[.int .i64 (c.toNat : Int), .int .i64 (d.toNat : Int), .string s]] w fun e w' => e = .returned (.tuple #[.string ⟨(encl (content c d s.data.toList)).toArray⟩, .int .i64 0]) ∧ Below w.heap.size w w' := by
  have hc := UInt8.toNat_lt c
  have hd := UInt8.toNat_lt d
  have b1 : ¬ (c.toNat : Int) < 1 := by omega
  have b2 : ¬ (255 : Int) < (c.toNat : Int) := by omega
  have b3 : ¬ (d.toNat : Int) < 0 := by omega
  have b4 : ¬ (255 : Int) < (d.toNat : Int) := by omega
  have b5 : ¬ (40 : Int) < (s.size : Int) := by omega
  go_enter Tryz.func52, Tryz.ntmps52
  go_wp2_with fail
  refine (line_any c d s _ (by omega)).mono ?_
  rintro e w1 ⟨rfl, hb1⟩
  go_wp2_with fail
  go_ret2
  exact ⟨rfl, ((Below.refl _ _).alloc (Nat.le_refl _) _).trans (hb1.mono (by simp))⟩
set_option maxHeartbeats 1000000 in
theorem rframe_no (code id : Int) (s : ByteArray) (w : World) (hs : s.size ≤ maxLen) (h : isPkt code id s.size = false) :
    Calls Tryz.prog 52 #[.agg #[.int .i64 code, .int .i64 id, .string s]] w fun e w' => e = .returned (.tuple #[.string ⟨#[]⟩, .int .i64 2]) ∧ Below w.heap.size w w' := by
  unfold maxLen at hs
  have hB : ∀ o : Obj, Below w.heap.size w (w.alloc o) := fun o => (Below.refl _ _).alloc (Nat.le_refl _) o
  by_cases h1 : code < 1
  · go_enter Tryz.func52, Tryz.ntmps52
    go_wp2_with fail
    go_ret2
    exact ⟨rfl, hB _⟩
  · by_cases h2 : 255 < code
    · go_enter Tryz.func52, Tryz.ntmps52
      go_wp2_with fail
      go_ret2
      exact ⟨rfl, hB _⟩
    · by_cases h3 : id < 0
      · go_enter Tryz.func52, Tryz.ntmps52
        go_wp2_with fail
        go_ret2
        exact ⟨rfl, hB _⟩
      · by_cases h4 : 255 < id
        · go_enter Tryz.func52, Tryz.ntmps52
          go_wp2_with fail
          go_ret2
          exact ⟨rfl, hB _⟩
        · have h5 : (40 : Int) < (s.size : Int) := by
            unfold isPkt at h
            simp at h
            omega
          clear h
          go_enter Tryz.func52, Tryz.ntmps52
          go_wp2_with fail
          go_ret2
          exact ⟨rfl, hB _⟩
end Go.Proofs.YtoeihlgidakjbaaGreatDoor
namespace Go.Proofs.YtoeihlgidakjbaaGreatDoor
open Go.RowKit
theorem two_nat (n : Int) (w : World) (h0 : 0 ≤ n) (h : n < 65536) :
    Calls Tryz.prog 49 #[.int .i64 n] w fun e w' => e = .returned (.string ⟨(twoL n.toNat).toArray⟩) ∧ Below w.heap.size w w' := by
  have := two_any n.toNat w (by omega)
  rw [show ((n.toNat : Nat) : Int) = n by omega] at this
  exact this
set_option maxHeartbeats 2000000 in
theorem data_any (v : Value) (l : List (Nat × Nat)) (w : World) (hi : ItemsIn w v l) (hb : ∀ x ∈ l, x.1 < 256 ∧ x.2 < 65536) (hl : l.length ≤ 1000) :
    Calls Tryz.prog 172 #[v] w fun e w' => e = .returned (.string ⟨(dataL l).toArray⟩) ∧ Below w.heap.size w w' := by
  obtain ⟨a, cap, g, rfl, ha, hc⟩ := hi
  have HA : Hid (0 < l.length → a = some ⟨g, 0, none⟩ ∧ g < w.heap.size) := ha
  have HC : Hid (∀ k (h : k < l.length), w.cell? ⟨g, k * 2, none⟩ = some (.int .i64 ((l[k]).1 : Int)) ∧ w.cell? ⟨g, k * 2 + 1, none⟩ = some (.int .i64 ((l[k]).2 : Int))) := hc
  have HB : Hid (∀ x ∈ l, x.1 < 256 ∧ x.2 < 65536) := hb
  clear ha hc hb
  go_enter Tryz.func172, Tryz.ntmps172
  go_wp2_with fail
  go_loopw [3, 4] (fun v i wr => ∃ (k : Nat) (S : ByteArray), k ≤ l.length ∧ i = .int .i64 k ∧ v = .string S ∧ Hid (S.data.toList = dataL (l.take k)) ∧ S.size = 3 * k ∧ Below w.heap.size w wr) (fun _ i _ => l.length - (intOf i).toNat)
  case atStart => exact ⟨0, _, Nat.zero_le _, rfl, rfl, rfl, rfl, Below.refl _ _⟩
  case round =>
    obtain ⟨k, S, hk, rfl, rfl, HS, hsz, hbr⟩ := hrel
    by_cases hlt : k < l.length
    · obtain ⟨rfl, hg⟩ := HA.out (by omega)
      have hI : (k : Int) < (l.length : Int) := by omega
      obtain ⟨hx, hy⟩ := HB.out _ (List.getElem_mem hlt)
      have C0 : Hid (w.cell? ⟨g, k * 2, none⟩ = some (.int .i64 ((l[k]).1 : Int))) := (HC.out k hlt).1
      have C1 : Hid (w.cell? ⟨g, k * 2 + 1, none⟩ = some (.int .i64 ((l[k]).2 : Int))) := (HC.out k hlt).2
      have c0 := (hbr.cell (p := ⟨g, k * 2, none⟩) hg).trans (HC.out k hlt).1
      have c1 := (hbr.cell (p := ⟨g, k * 2 + 1, none⟩) hg).trans (HC.out k hlt).2
      have HT : Hid (dataL (l.take (k + 1)) = dataL (l.take k) ++ itemL (l[k]).1 (l[k]).2) := dataL_take l k hlt
      generalize hX : (l[k]).1 = X at *
      generalize hY : (l[k]).2 = Y at *
      clear hX hY
      have hcat1 := fun wx => run_string_add_sum (P := Tryz.prog) wx S ⟨#[UInt8.ofNat X]⟩ (by show S.size + 1 ≤ _; omega)
      have hcat2 := fun wx => run_string_add_sum (P := Tryz.prog) wx (S ++ ⟨#[UInt8.ofNat X]⟩) ⟨(twoL Y).toArray⟩ (by rw [ByteArray.size_append]; show S.size + 1 + 2 ≤ _; omega)
      have hR : ∀ S' : ByteArray, S' = S ++ ⟨#[UInt8.ofNat X]⟩ ++ ⟨(twoL Y).toArray⟩ → Hid (S'.data.toList = dataL (l.take (k + 1))) ∧ S'.size = 3 * (k + 1) := by
        rintro S' rfl
        refine ⟨?_, by rw [ByteArray.size_append, ByteArray.size_append]; show S.size + 1 + 2 = _; omega⟩
        show _ = _
        rw [HT.out, app_toList, app_toList, HS.out]; simp [itemL]
      have HR : Hid (_) := hR
      clear hR
      go_wp2_with fail
      go_region_held3 (fun w' => w'.cell? ⟨g, k * 2, none⟩ = some (.int .i64 (X : Int)) ∧ w'.cell? ⟨g, k * 2 + 1, none⟩ = some (.int .i64 (Y : Int)) ∧ Below w.heap.size w w') (first | exact ⟨c0, c1, hbr.drew⟩ | exact ⟨(HBq.cell (p := ⟨g, k * 2, none⟩) hg).trans C0.out, (HBq.cell (p := ⟨g, k * 2 + 1, none⟩) hg).trans C1.out, HBq⟩ | assumption) (first | (go_at_call 48; refine (one_nat _ _ (by omega) (by omega)).mono ?_; rintro e wq ⟨rfl, hbq⟩; have HBq : Below w.heap.size w wq := (by first | exact hbr.drew.trans (hbq.mono (by simpa using hbr.size)) | exact HBq.trans (hbq.mono HBq.size))) | (go_at_call 49; refine (two_nat _ _ (by omega) (by omega)).mono ?_; rintro e wq ⟨rfl, hbq⟩; have HBq : Below w.heap.size w wq := (by first | exact hbr.drew.trans (hbq.mono (by simpa using hbr.size)) | exact HBq.trans (hbq.mono HBq.size))))
      all_goals
        go_wp2_with fail
        refine ⟨⟨k + 1, _, by omega, by go_num, rfl, ?_, ?_, HBq⟩, by simp [intOf]; omega⟩
        · exact (HR.out _ (by simp)).1
        · exact (HR.out _ (by simp)).2
    · have ht : l.take k = l := List.take_of_length_le (by omega)
      have HF : Hid (S.data.toList = dataL l) := by have := HS.out; rw [ht] at this; exact this
      go_wp2_with fail
      go_ret
      exact ⟨ret_str HF.out, hbr⟩
end Go.Proofs.YtoeihlgidakjbaaGreatDoor

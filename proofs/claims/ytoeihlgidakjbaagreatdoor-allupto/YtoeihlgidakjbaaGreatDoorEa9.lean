/- The reference's Unframe. -/
import Derived.Test.YtoeihlgidakjbaaGreatDoorEa8
namespace Go.Proofs.YtoeihlgidakjbaaGreatDoor
open Go.RowKit
theorem unfR_det {l : List UInt8} {v v' : Value} {n n' : Int} (h : UnfR l v n) (h' : UnfR l v' n') : v = v' ∧ n = n' := by
  rcases h with ⟨h1, rfl, rfl⟩ | ⟨c, d, t, x, y, h1, h2⟩
  · rcases h' with ⟨_, rfl, rfl⟩ | ⟨c', d', t', x', y', h3, _⟩
    · exact ⟨rfl, rfl⟩
    · rw [h1] at h3; cases h3
  · rcases h' with ⟨h3, _⟩ | ⟨c', d', t', x', y', h3, h4⟩
    · rw [h1] at h3; cases h3
    · have e := Option.some.inj (h1.symm.trans h3)
      have e2 := List.append_inj' e (by simp)
      obtain ⟨e3, e4⟩ := e2
      simp at e3 e4
      obtain ⟨rfl, rfl, rfl⟩ := e3
      obtain ⟨rfl, rfl⟩ := e4
      rcases h2 with ⟨a1, rfl, rfl⟩ | ⟨a1, a2, rfl, rfl⟩ | ⟨a1, a2, rfl, rfl⟩ <;> rcases h4 with ⟨b1, rfl, rfl⟩ | ⟨b1, b2, rfl, rfl⟩ | ⟨b1, b2, rfl, rfl⟩ <;> first | exact ⟨rfl, rfl⟩ | exact absurd b1 a1 | exact absurd a1 b1 | exact absurd b2 a2 | exact absurd a2 b2
theorem zz {w w1 : World} (h : Below (w.heap.size + 2) ((w.alloc (.cells #[.int .i64 0, .int .i64 0, .string ⟨#[]⟩] 27)).alloc (.cells #[.int .i64 0, .int .i64 0, .string ⟨#[]⟩] 27)) w1) :
    ((w1.cell? ⟨w.heap.size, 0, none⟩ = some (.int .i64 0) ∧ w1.cell? ⟨w.heap.size, 1, none⟩ = some (.int .i64 0) ∧ w1.cell? ⟨w.heap.size, 2, none⟩ = some (.string ⟨#[]⟩)) ∧
    (w1.cell? ⟨w.heap.size + 1, 0, none⟩ = some (.int .i64 0) ∧ w1.cell? ⟨w.heap.size + 1, 1, none⟩ = some (.int .i64 0) ∧ w1.cell? ⟨w.heap.size + 1, 2, none⟩ = some (.string ⟨#[]⟩)) ∧
    (w1.frozen? ⟨w.heap.size, 0, none⟩ = false ∧ w1.frozen? ⟨w.heap.size, 1, none⟩ = false ∧ w1.frozen? ⟨w.heap.size, 2, none⟩ = false)) ∧ w.heap.size + 2 ≤ w1.heap.size ∧ Below w.heap.size w w1 := by
  have a : ∀ i, w1.cell? ⟨w.heap.size, i, none⟩ = _ := fun i => (h.cell (p := ⟨w.heap.size, i, none⟩) (by show w.heap.size < _; omega)).trans (World.cell?_alloc_lt _ _ ⟨w.heap.size, i, none⟩ (by simp))
  have b : ∀ i, w1.cell? ⟨w.heap.size + 1, i, none⟩ = _ := fun i => (h.cell (p := ⟨w.heap.size + 1, i, none⟩) (by show w.heap.size + 1 < _; omega)).trans (World.cell?_alloc_at _ _ _ _ (by simp))
  have c : ∀ i, w1.frozen? ⟨w.heap.size, i, none⟩ = _ := fun i => (h.frozen (p := ⟨w.heap.size, i, none⟩) (by show w.heap.size < _; omega)).trans (World.frozen?_alloc_old _ _ ⟨w.heap.size, i, none⟩ (by simp))
  refine ⟨⟨⟨(a 0).trans (by simp), (a 1).trans (by simp), (a 2).trans (by simp)⟩, ⟨(b 0).trans rfl, (b 1).trans rfl, (b 2).trans rfl⟩, ⟨(c 0).trans (by simp), (c 1).trans (by simp), (c 2).trans (by simp)⟩⟩, by have := h.size; simpa using this, ?_⟩
  exact (((Below.refl _ _).alloc (Nat.le_refl _) _).alloc (by simp) _).trans (h.mono (by omega))
theorem sliceA (S : ByteArray) (M : Nat) (h : M ≤ S.size) (wx : World) : (Instr.slice 9 (.string S) none (some (.int .i64 (M : Int))) none).run Tryz.prog wx = .ok (.string (S.extract 0 M)) wx := by
  have h' : (M : Int) ≤ (S.size : Int) := by omega
  have h0 : (0 : Int) ≤ (M : Int) := by omega
  go_simp
theorem sliceB (S : ByteArray) (M : Nat) (h : M ≤ S.size) (wx : World) : (Instr.slice 9 (.string S) (some (.int .i64 (M : Int))) none none).run Tryz.prog wx = .ok (.string (S.extract M S.size)) wx := by
  have h' : (M : Int) ≤ (S.size : Int) := by omega
  have h0 : (0 : Int) ≤ (M : Int) := by omega
  go_simp
theorem sliceC (S : ByteArray) (M : Nat) (h2 : 2 ≤ M) (h : M ≤ S.size) (wx : World) : (Instr.slice 9 (.string S) (some (.int .i64 2)) (some (.int .i64 (M : Int))) none).run Tryz.prog wx = .ok (.string (S.extract 2 M)) wx := by
  have h' : (M : Int) ≤ (S.size : Int) := by omega
  have h0 : (2 : Int) ≤ (M : Int) := by omega
  have h1 : (0 : Int) ≤ (M : Int) := by omega
  go_simp
set_option maxHeartbeats 2000000 in
theorem runframe_any (b : ByteArray) (w : World) (hn : b.size ≤ 140737488351232) :
    Calls Tryz.prog 55 #[.string b] w fun e w' => Below w.heap.size w w' ∧ ∃ v n, e = .returned (.tuple #[v, .int .i64 n]) ∧ UnfR b.data.toList v n := by
  go_enter Tryz.func55, Tryz.ntmps55
  go_wp2_with fail
  go_loopw [5, 6] (fun v i wr => ∃ (k : Nat) (S : ByteArray), k ≤ b.size ∧ i = .int .i64 k ∧ v = .string S ∧ Hid (un b.data.toList [] false = un (b.data.toList.drop k) S.data.toList false) ∧ S.size ≤ k ∧ Below (w.heap.size + 2) ((w.alloc (.cells #[.int .i64 0, .int .i64 0, .string ⟨#[]⟩] 27)).alloc (.cells #[.int .i64 0, .int .i64 0, .string ⟨#[]⟩] 27)) wr) (fun _ i _ => b.size - (intOf i).toNat)
  case atStart => exact ⟨0, _, Nat.zero_le _, rfl, rfl, rfl, Nat.le_refl _, Below.refl _ _⟩
  case round =>
    obtain ⟨k, S, hk, rfl, rfl, HU, hsz, hbr⟩ := hrel
    obtain ⟨⟨⟨z0, z1, z2⟩, ⟨y0, y1, y2⟩, x0, x1, x2⟩, hz, HB⟩ := zz hbr
    by_cases hlt : k < b.size
    · have hll : k < b.data.toList.length := by simpa using hlt
      have HD : Hid (un b.data.toList [] false = un (b[k] :: b.data.toList.drop (k + 1)) S.data.toList false) := by
        have := HU.out; rw [drop_cons' _ k hll] at this; exact this
      have hx := UInt8.toNat_lt b[k]
      clear HU
      by_cases h5 : (b[k]).toNat = 125
      · have h1 : (((b[k]).toNat : Int) == 125) = true := by simp; omega
        by_cases hend : k + 1 = b.size
        · have HN : Hid (UnfR b.data.toList zeroP 3) := .inl ⟨unesc_none (HD.out.trans (by rw [un_esc h5, List.drop_eq_nil_of_le (by simp; omega)]; rfl)), rfl, rfl⟩
          have he : (((k : Int) + 1) == (b.size : Int)) = true := by simp; omega
          clear h5 hend HD
          go_wp2_with fail
          refine bodyPost_ret (v := .tuple #[zeroP, .int .i64 3]) (by simp [results, Tryz.results55, go_sem, zeroP, z0, z1, z2]) rfl ⟨?_, _, _, rfl, HN.out⟩
          exact ((HB.setCell (by simp) _).setCell (by simp) _).setCell (by simp) _
        · have he : (((k : Int) + 1) == (b.size : Int)) = false := by simp; omega
          have hlt2 : k + 1 < b.size := by omega
          have hll2 : k + 1 < b.data.toList.length := by simpa using hlt2
          have HD2 : Hid (un b.data.toList [] false = un (b[k + 1] :: b.data.toList.drop (k + 2)) S.data.toList true) := by
            have := HD.out; rw [un_esc h5, drop_cons' _ (k + 1) hll2] at this; exact this
          have hx2 := UInt8.toNat_lt b[k + 1]
          have hI2 : (k : Int) + 1 < (b.size : Int) := by omega
          clear h5 hend HD
          by_cases h6 : (b[k + 1]).toNat = 126
          · have h2 : (((b[k + 1]).toNat : Int) == 126) = true := by simp; omega
            have HN : Hid (UnfR b.data.toList zeroP 3) := .inl ⟨unesc_none (HD2.out.trans (un_flag h6)), rfl, rfl⟩
            clear h6 HD2
            go_wp2_with fail
            refine bodyPost_ret (v := .tuple #[zeroP, .int .i64 3]) (by simp [results, Tryz.results55, go_sem, zeroP, z0, z1, z2]) rfl ⟨?_, _, _, rfl, HN.out⟩
            exact ((HB.setCell (by simp) _).setCell (by simp) _).setCell (by simp) _
          · have h2 : (((b[k + 1]).toNat : Int) == 126) = false := by simp; omega
            have HD := HD2
            have hy := UInt8.toNat_lt (b[k + 1] ^^^ 32)
            have hxor := xor64 b[k + 1]
            have hxor' := xor64w b[k + 1]
            have HV : Hid (un b.data.toList [] false = un (b.data.toList.drop (k + 2)) (S ++ ⟨#[b[k + 1] ^^^ 32]⟩).data.toList false) := by
              show _ = _
              rw [app_toList]; exact HD.out.trans (un_turn h6)
            have hcat := fun wx => run_string_add_sum (P := Tryz.prog) wx S ⟨#[b[k + 1] ^^^ 32]⟩ (by show S.size + 1 ≤ _; omega)
            generalize hq : b[k + 1] ^^^ 32 = q at *
            clear h6 HD HD2 hq
            go_wp2_with fail
            refine (one_nat _ _ (by omega) (by omega)).mono ?_
            rintro e wq ⟨rfl, hbq⟩
            have hbq' := hbr.trans (hbq.mono hz)
            clear hbq
            go_wp2_with fail
            refine ⟨⟨k + 2, _, by omega, by go_num, rfl, ?_, ?_, hbq'⟩, by simp [intOf]; omega⟩
            · simpa using HV
            · rw [ByteArray.size_append]; show S.size + 1 ≤ _; omega
      · have h1 : (((b[k]).toNat : Int) == 125) = false := by simp; omega
        by_cases h6 : (b[k]).toNat = 126
        · have h2 : (((b[k]).toNat : Int) == 126) = true := by simp; omega
          have HN : Hid (UnfR b.data.toList zeroP 3) := .inl ⟨unesc_none (HD.out.trans (un_flag h6)), rfl, rfl⟩
          clear h6 h5 HD
          go_wp2_with fail
          refine bodyPost_ret (v := .tuple #[zeroP, .int .i64 3]) (by simp [results, Tryz.results55, go_sem, zeroP, z0, z1, z2]) rfl ⟨?_, _, _, rfl, HN.out⟩
          exact ((HB.setCell (by simp) _).setCell (by simp) _).setCell (by simp) _
        · have h2 : (((b[k]).toNat : Int) == 126) = false := by simp; omega
          have HV : Hid (un b.data.toList [] false = un (b.data.toList.drop (k + 1)) (S ++ ⟨#[b[k]]⟩).data.toList false) := by
            show _ = _
            rw [app_toList]; exact HD.out.trans (un_plain h6 h5)
          have hcat := fun wx => run_string_add_sum (P := Tryz.prog) wx S ⟨#[b[k]]⟩ (by show S.size + 1 ≤ _; omega)
          clear h6 h5 HD
          go_wp2_with fail
          refine (one_nat _ _ (by omega) (by omega)).mono ?_
          rintro e wq ⟨rfl, hbq⟩
          have hbq' := hbr.trans (hbq.mono hz)
          clear hbq
          go_wp2_with fail
          refine ⟨⟨k + 1, _, by omega, by go_num, rfl, ?_, ?_, hbq'⟩, by simp [intOf]; omega⟩
          · simpa using HV
          · rw [ByteArray.size_append]; show S.size + 1 ≤ _; omega
    · have HE : Hid (un b.data.toList [] false = some S.data.toList) := by
        have := HU.out; rw [List.drop_eq_nil_of_le (by simp; omega)] at this; exact this
      clear HU
      by_cases h4 : S.size < 4
      · have h1 : (S.size : Int) < 4 := by omega
        have HN : Hid (UnfR b.data.toList zeroP 3) := .inl ⟨unesc_short HE.out (by simpa using h4), rfl, rfl⟩
        clear h4 HE
        go_wp2_with fail
        refine bodyPost_ret (v := .tuple #[zeroP, .int .i64 3]) (by simp [results, Tryz.results55, go_sem, zeroP, z0, z1, z2]) rfl ⟨?_, _, _, rfl, HN.out⟩
        exact ((HB.setCell (by simp) _).setCell (by simp) _).setCell (by simp) _
      · by_cases h44 : 44 < S.size
        · have h1 : ¬ (S.size : Int) < 4 := by omega
          have h2 : (44 : Int) < (S.size : Int) := by omega
          have HN : Hid (UnfR b.data.toList zeroP 3) := .inl ⟨by simp [unesc, HE.out]; omega, rfl, rfl⟩
          clear h4 h44 HE
          go_wp2_with fail
          refine bodyPost_ret (v := .tuple #[zeroP, .int .i64 3]) (by simp [results, Tryz.results55, go_sem, zeroP, z0, z1, z2]) rfl ⟨?_, _, _, rfl, HN.out⟩
          exact ((HB.setCell (by simp) _).setCell (by simp) _).setCell (by simp) _
        · have h1 : ¬ (S.size : Int) < 4 := by omega
          have h2 : ¬ (44 : Int) < (S.size : Int) := by omega
          have HS : Hid (unesc b.data.toList = some S.data.toList) := unesc_some HE.out (by simpa using h4) (by simp; omega)
          clear HE
          obtain ⟨c, d, t, x, y, hSp, hlen⟩ := split4 S.data.toList (by simp; omega)
          obtain ⟨M, hM⟩ : ∃ M, S.size = M + 2 := ⟨S.size - 2, by omega⟩
          have htM : t.length + 2 = M := by simp at hlen; omega
          have HSp : Hid (S.data.toList = (c :: d :: t) ++ [x, y]) := hSp
          have HtM : Hid (t.length + 2 = M) := htM
          have hM4 : 2 ≤ M := by omega
          have hM44 : M ≤ 42 := by omega
          have he1 : (S.extract 0 M).data.toList = c :: d :: t := by
            rw [ByteArray.data_extract, Array.toList_extract, List.extract_eq_take_drop, HSp.out, ← HtM.out]; simp
          have he2 : (S.extract M S.size).data.toList = [x, y] := by
            rw [hM]
            rw [ByteArray.data_extract, Array.toList_extract, List.extract_eq_take_drop, HSp.out, ← HtM.out]; simp
          have he3 : (S.extract 2 M).data.toList = t := by
            rw [ByteArray.data_extract, Array.toList_extract, List.extract_eq_take_drop, HSp.out, ← HtM.out]; simp
          have hsA := sliceA S M (by omega)
          have hsB := sliceB S M (by omega)
          have hsC := sliceC S M hM4 (by omega)
          have HE1 : Hid ((S.extract 0 M).data.toList = c :: d :: t) := he1
          have HE2 : Hid ((S.extract M S.size).data.toList = [x, y]) := he2
          have HE3 : Hid ((S.extract 2 M).data.toList = t) := he3
          generalize S.extract 0 M = SA at *
          generalize S.extract M S.size = SB at *
          generalize S.extract 2 M = SC at *
          have hsl := sumL_lt (c :: d :: t)
          have hSAz : SA.size ≤ 42 := by
            have := congrArg List.length HE1.out
            have h := HtM.out
            simp at this; omega
          clear hSp htM he1 he2 he3 hlen h4 h44
          have hi0 : S[0] = c := by
            have e : S[0] = S.data.toList[0]'(by simp; omega) := rfl
            rw [e]; simp only [HSp.out]; rfl
          have hi1 : S[1] = d := by
            have e : S[1] = S.data.toList[1]'(by simp; omega) := rfl
            rw [e]; simp only [HSp.out]; rfl
          by_cases hs : le16 x y = sumL (c :: d :: t)
          · have hq : (twoL (sumL (c :: d :: t)) == SB.toList) = true := by
              obtain ⟨e1, e2⟩ := (le16_iff x y _ hsl).1 hs
              rw [ByteArray.toList_eq, HE2.out]
              simp [twoL, ← e1, ← e2]
            have hq2 : (twoL (sumL (c :: d :: t)) != SB.toList) = false := by simpa [bne] using hq
            by_cases hc0 : c.toNat = 0
            · have HN : Hid (UnfR b.data.toList zeroP 2) := .inr ⟨c, d, t, x, y, by rw [HS.out, HSp.out], .inr (.inl ⟨hs, hc0, rfl, rfl⟩)⟩
              have hcz : ((c.toNat : Int) == 0) = true := by simp; omega
              clear hs hc0
              go_wp2_with fail
              go_region_held3 (fun w' => Below (w.heap.size + 2) ((w.alloc (.cells #[.int .i64 0, .int .i64 0, .string ⟨#[]⟩] 27)).alloc (.cells #[.int .i64 0, .int .i64 0, .string ⟨#[]⟩] 27)) w') (first | exact hbr.drew | assumption) (first | (go_at_call 50; refine (rsum_any SA _ (by omega)).mono ?_; rintro e wq ⟨rfl, rfl⟩; rw [HE1.out]) | (go_at_call 49; refine (two_any (sumL (c :: d :: t)) _ hsl).mono ?_; rintro e wq ⟨rfl, hbq⟩; have HBq : Below (w.heap.size + 2) ((w.alloc (.cells #[.int .i64 0, .int .i64 0, .string ⟨#[]⟩] 27)).alloc (.cells #[.int .i64 0, .int .i64 0, .string ⟨#[]⟩] 27)) wq := hbr.drew.trans (hbq.mono (by simpa using hz))))
              obtain ⟨⟨⟨q0, q1, q2⟩, ⟨p0, p1, p2⟩, m0, m1, m2⟩, hz2, HB2⟩ := zz HBq
              go_wp2_with fail
              refine bodyPost_ret (v := .tuple #[zeroP, .int .i64 2]) (by simp [results, Tryz.results55, go_sem, zeroP, q0, q1, q2]) rfl ⟨?_, _, _, rfl, HN.out⟩
              exact ((HB2.setCell (by simp) _).setCell (by simp) _).setCell (by simp) _
            · have HN : Hid (UnfR b.data.toList (pktV c d t) 0) := .inr ⟨c, d, t, x, y, by rw [HS.out, HSp.out], .inr (.inr ⟨hs, hc0, rfl, rfl⟩)⟩
              have hcz : ((c.toNat : Int) == 0) = false := by simp; omega
              clear hs hc0
              go_wp2_with fail
              go_region_held3 (fun w' => Below (w.heap.size + 2) ((w.alloc (.cells #[.int .i64 0, .int .i64 0, .string ⟨#[]⟩] 27)).alloc (.cells #[.int .i64 0, .int .i64 0, .string ⟨#[]⟩] 27)) w') (first | exact hbr.drew | assumption) (first | (go_at_call 50; refine (rsum_any SA _ (by omega)).mono ?_; rintro e wq ⟨rfl, rfl⟩; rw [HE1.out]) | (go_at_call 49; refine (two_any (sumL (c :: d :: t)) _ hsl).mono ?_; rintro e wq ⟨rfl, hbq⟩; have HBq : Below (w.heap.size + 2) ((w.alloc (.cells #[.int .i64 0, .int .i64 0, .string ⟨#[]⟩] 27)).alloc (.cells #[.int .i64 0, .int .i64 0, .string ⟨#[]⟩] 27)) wq := hbr.drew.trans (hbq.mono (by simpa using hz))))
              obtain ⟨⟨⟨q0, q1, q2⟩, ⟨p0, p1, p2⟩, m0, m1, m2⟩, hz2, HB2⟩ := zz HBq
              go_wp2_with fail
              go_region
              go_wp2_with fail
              rw [w64b, w64b, str_eq HE3.out]
              refine bodyPost_ret (v := .tuple #[pktV c d t, .int .i64 0]) (by simp [results, Tryz.results55, go_sem, pktV, q0, q1, q2]) rfl ⟨?_, _, _, rfl, HN.out⟩
              exact (((HB2.setCell (by simp) _).setCell (by simp) _).setCell (by simp) _).drew
          · have hq : (twoL (sumL (c :: d :: t)) == SB.toList) = false := by
              rw [ByteArray.toList_eq, HE2.out, Bool.eq_false_iff]
              intro h
              apply hs
              rw [le16_iff x y _ hsl]
              simp [twoL] at h
              exact ⟨h.1.symm, h.2.symm⟩
            have hq2 : (twoL (sumL (c :: d :: t)) != SB.toList) = true := by simpa [bne] using hq
            have HN : Hid (UnfR b.data.toList zeroP 4) := .inr ⟨c, d, t, x, y, by rw [HS.out, HSp.out], .inl ⟨hs, rfl, rfl⟩⟩
            clear hs
            go_wp2_with fail
            go_region_held3 (fun w' => Below (w.heap.size + 2) ((w.alloc (.cells #[.int .i64 0, .int .i64 0, .string ⟨#[]⟩] 27)).alloc (.cells #[.int .i64 0, .int .i64 0, .string ⟨#[]⟩] 27)) w') (first | exact hbr.drew | assumption) (first | (go_at_call 50; refine (rsum_any SA _ (by omega)).mono ?_; rintro e wq ⟨rfl, rfl⟩; rw [HE1.out]) | (go_at_call 49; refine (two_any (sumL (c :: d :: t)) _ hsl).mono ?_; rintro e wq ⟨rfl, hbq⟩; have HBq : Below (w.heap.size + 2) ((w.alloc (.cells #[.int .i64 0, .int .i64 0, .string ⟨#[]⟩] 27)).alloc (.cells #[.int .i64 0, .int .i64 0, .string ⟨#[]⟩] 27)) wq := hbr.drew.trans (hbq.mono (by simpa using hz))))
            obtain ⟨⟨⟨q0, q1, q2⟩, ⟨p0, p1, p2⟩, m0, m1, m2⟩, hz2, HB2⟩ := zz HBq
            go_wp2_with fail
            refine bodyPost_ret (v := .tuple #[zeroP, .int .i64 4]) (by simp [results, Tryz.results55, go_sem, zeroP, q0, q1, q2]) rfl ⟨?_, _, _, rfl, HN.out⟩
            exact ((HB2.setCell (by simp) _).setCell (by simp) _).setCell (by simp) _
end Go.Proofs.YtoeihlgidakjbaaGreatDoor

/- The reference's Bytes. -/
import Derived.Test.YtoeihlgidakjbaaGreatDoorEa38
namespace Go.Proofs.YtoeihlgidakjbaaGreatDoor
open Go.RowKit Go.Lib
theorem ba_snoc (a : List UInt8) (c : UInt8) : (⟨a.toArray⟩ : ByteArray) ++ ⟨#[c]⟩ = ⟨(a ++ [c]).toArray⟩ := by
  apply ByteArray.ext
  simp
theorem ba_one (s : ByteArray) (k : Nat) (h : k < s.size) : s.extract k (k + 1) = ⟨#[s[k]]⟩ := by
  apply ByteArray.ext
  apply Array.ext
  · have := h
    simp only [ByteArray.data_extract, Array.size_extract]
    have e : s.data.size = s.size := rfl
    rw [e]; simp; omega
  · intro i h1 h2
    have hi : i = 0 := by simpa using h2
    subst hi
    simp [ByteArray.getElem_eq_getElem_data]
def RE.Byr (m : RE) (l : List UInt8) : Prop := ∀ k, k ≤ l.length → (m.bytes (l.take k)).1.Fine 2100 ∧ (m.bytes (l.take k)).1.mg.length ≤ 16000000000000 ∧ (m.bytes (l.take k)).1.got.length ≤ 89 ∧ (m.bytes (l.take k)).2.length ≤ 90000000000000
theorem RE.bytes_takeR (m : RE) (l : List UInt8) (k : Nat) (h : k < l.length) : m.bytes (l.take (k + 1)) = (((m.bytes (l.take k)).1.byte1 l[k]).1, (m.bytes (l.take k)).2 ++ ((m.bytes (l.take k)).1.byte1 l[k]).2) := by
  rw [List.take_add_one, List.getElem?_eq_getElem h]
  exact m.bytes_snoc _ _
theorem ba_list_get (s : ByteArray) (k : Nat) (_h : k < s.data.toList.length) (h' : k < s.size) : s.data.toList[k] = s[k] := by
  rw [Array.getElem_toList, ByteArray.getElem_eq_getElem_data]
theorem unfR_L2 {l : List UInt8} {v : Value} {n : Int} (h : UnfR l v n) : (unframeL l = none ∧ n ≠ 0 ∧ v = zeroP) ∨ (∃ c d t, unframeL l = some (c, d, t) ∧ v = pktV c d t ∧ n = 0 ∧ t.length ≤ 40) := by
  rcases unfR_L h with ⟨h1, h2⟩ | h1
  · left
    refine ⟨h1, h2, ?_⟩
    rcases h with ⟨_, hv, _⟩ | ⟨c, d, t, x, y, _, ⟨_, hv, _⟩ | ⟨_, _, hv, _⟩ | ⟨_, _, _, hn⟩⟩
    · exact hv
    · exact hv
    · exact hv
    · exact absurd hn h2
  · exact .inr h1
theorem byte1_no {m : RE} {b : UInt8} (hb : b.toNat = 126) (h : m.got = [] ∨ 88 < m.got.length ∨ unframeL m.got = none) : m.byte1 b = ({ m with got := [] }, []) := by
  unfold RE.byte1
  rw [if_neg (by omega)]
  by_cases h2 : m.got = [] ∨ 88 < m.got.length
  · rw [if_pos h2]
  · rw [if_neg h2]
    rcases h with h | h | h
    · exact absurd (.inl h) h2
    · exact absurd (.inr h) h2
    · rw [h]
theorem byte1_yes {m : RE} {b : UInt8} {p : UInt8 × UInt8 × List UInt8} (hb : b.toNat = 126) (h1 : m.got ≠ []) (h2 : m.got.length ≤ 88) (h : unframeL m.got = some p) : m.byte1 b = (({ m with got := [] } : RE).come p).receive := by
  unfold RE.byte1
  rw [if_neg (by omega), if_neg (by rintro (x | x); exact h1 x; omega), h]
set_option maxRecDepth 100000 in
set_option maxHeartbeats 4000000 in
theorem rbytes_any {B rb : Nat} {v : RV} {m : RE} (s : ByteArray) (w : World) (h : RI w B rb v m) (hby : m.Byr s.data.toList) (hs : s.size ≤ 1000000000000) :
    Calls Tryz.prog 61 #[.pointer (some ⟨rb, 0, none⟩), .string s] w fun r w' => r = .returned (.string ⟨(m.bytes s.data.toList).2.toArray⟩) ∧ ∃ v', RI w' B rb v' (m.bytes s.data.toList).1 ∧ RS w w' rb v v' := by
  have H : Hid (RI w B rb v m) := h
  have HBY : Hid (m.Byr s.data.toList) := hby
  have hsz : s.data.toList.length = s.size := by rw [Array.length_toList]; rfl
  clear h hby
  go_enter Tryz.func61, Tryz.ntmps61
  go_wp2_with fail
  go_loopw [5, 6] (fun out i wr => ∃ (k : Nat) (O : ByteArray), k ≤ s.size ∧ i = .int .i64 k ∧ out = .string O ∧ Hid (O.data.toList = (m.bytes (s.data.toList.take k)).2 ∧ ∃ v', RI wr B rb v' (m.bytes (s.data.toList.take k)).1 ∧ RS w wr rb v v')) (fun _ i _ => s.size - (intOf i).toNat)
  case atStart => exact ⟨0, _, Nat.zero_le _, rfl, rfl, rfl, v, H.out, RS.refl _ _ _⟩
  case round =>
    obtain ⟨k, O, hk, rfl, rfl, HW⟩ := hrel
    by_cases hlt : k < s.size
    · have hI : (k : Int) < (s.size : Int) := by omega
      obtain ⟨f1, f2, f3, f4⟩ := HBY.out k (by omega)
      have HT : Hid (m.bytes (s.data.toList.take (k + 1)) = (((m.bytes (s.data.toList.take k)).1.byte1 s[k]).1, (m.bytes (s.data.toList.take k)).2 ++ ((m.bytes (s.data.toList.take k)).1.byte1 s[k]).2)) := by
        show _ = _
        rw [m.bytes_takeR _ k (by omega), ba_list_get s k (by omega) hlt]
      have hOl : O.size ≤ 90000000000000 := by
        have := congrArg List.length HW.out.1
        rw [Array.length_toList] at this
        have e : O.data.size = O.size := rfl
        omega
      obtain ⟨HO, v', hri, hrs⟩ := HW.out
      have HO' : Hid (_) := HO
      clear HW HO
      have hone := ba_one s k hlt
      have hslc : ∀ wx, (Instr.slice 9 (.string s) (some (.int .i64 (k : Int))) (some (.int .i64 ((k : Int) + 1))) none).run Tryz.prog wx = .ok (.string ⟨#[s[k]]⟩) wx := by
        intro wx
        have := run_slice_string (P := Tryz.prog) wx 9 s .i64 .i64 (k : Int) ((k : Int) + 1) Tryz.underlying9 (by omega) (by omega) (by omega)
        rw [this]
        have e1 : ((k : Int)).toNat = k := by omega
        have e2 : ((k : Int) + 1).toNat = k + 1 := by omega
        rw [e1, e2, hone]
      have hix : ∀ wx, (Instr.index 9 (.string s) (.int .i64 (k : Int))).run Tryz.prog wx = .ok (.int .u8 ((s[k]).toNat : Int)) wx := fun wx => by
        rw [run_index_string wx 9 s .i64 (k : Int) Tryz.underlying9, dif_pos (by omega)]; rfl
      generalize (m.bytes (s.data.toList.take k)).1 = mk at *
      generalize (m.bytes (s.data.toList.take k)).2 = ok at *
      generalize s[k] = c at *
      have c9 : wr.cell? ⟨rb, 9, none⟩ = some (.string ⟨mk.got.toArray⟩) := blk_cell hri.blk
      have f9 : wr.frozen? ⟨rb, 9, none⟩ = false := blk_free hri.blk
      have HRI : Hid (RI wr B rb v' mk ∧ RS w wr rb v v') := ⟨hri, hrs⟩
      have hgs : (⟨mk.got.toArray⟩ : ByteArray).size = mk.got.length := by show mk.got.toArray.size = _; simp
      clear hri hrs hone
      by_cases h6 : c.toNat = 126
      · have hne : ((c.toNat : Int) != 126) = false := by simp; omega
        have hne2 : ((c.toNat : Int) == 126) = true := by simp; omega
        have H9 : Hid (RI (wr.setCell ⟨rb, 9, none⟩ (.string ⟨#[]⟩)) B rb v' { mk with got := [] } ∧ RS w (wr.setCell ⟨rb, 9, none⟩ (.string ⟨#[]⟩)) rb v v') :=
          ⟨HRI.out.1.num (m' := { mk with got := [] }) (blk_set (k := 9) (x := .string ⟨#[]⟩) HRI.out.1.blk) (tset wr rb 9 _) rfl rfl rfl, HRI.out.2.trans (RS.num (tset wr rb 9 _))⟩
        by_cases h0 : mk.got = []
        · have E2 : Hid (mk.byte1 c = ({ mk with got := [] }, [])) := byte1_no h6 (.inl h0)
          have g0 : ((mk.got.length : Int) == 0) = true := by simp [h0]
          clear h0 h6 hgs
          go_wp2_with fail
          refine ⟨⟨k + 1, O, by omega, by go_num, rfl, ?_, v', ?_, H9.out.2⟩, by simp [intOf]; omega⟩
          · rw [HT.out, E2.out, HO'.out]; simp
          · rw [HT.out, E2.out]; exact H9.out.1
        · have h0l : 0 < mk.got.length := List.length_pos_iff.2 h0
          have g0 : ((mk.got.length : Int) == 0) = false := by simp [h0]
          by_cases h88 : 88 < mk.got.length
          · have E2 : Hid (mk.byte1 c = ({ mk with got := [] }, [])) := byte1_no h6 (.inr (.inl h88))
            have g88 : (88 : Int) < (mk.got.length : Int) := by omega
            clear h0 h6 h88 hgs
            go_wp2_with fail
            refine ⟨⟨k + 1, O, by omega, by go_num, rfl, ?_, v', ?_, H9.out.2⟩, by simp [intOf]; omega⟩
            · rw [HT.out, E2.out, HO'.out]; simp
            · rw [HT.out, E2.out]; exact H9.out.1
          · have g88 : ¬ (88 : Int) < (mk.got.length : Int) := by omega
            have HU : Hid (_) := runframe_any ⟨mk.got.toArray⟩ (wr.setCell ⟨rb, 9, none⟩ (.string ⟨#[]⟩)) (by omega)
            have HQ : Hid (∀ p, unframeL mk.got = some p → mk.byte1 c = (({ mk with got := [] } : RE).come p).receive) := fun p hp => byte1_yes h6 h0 (by omega) hp
            have HZ : Hid (unframeL mk.got = none → mk.byte1 c = ({ mk with got := [] }, [])) := fun hp => byte1_no h6 (.inr (.inr hp))
            have HF1 : Hid (mk.Fine 2100 ∧ mk.mg.length ≤ 16000000000000) := ⟨f1, f2⟩
            clear h0 h6 h88 hgs h0l f1 f2 f3
            go_wp2_with fail
            refine Calls.mono HU.out ?_
            rintro e w1 ⟨hb1, vv, n, rfl, hunf⟩
            rcases unfR_L2 hunf with ⟨hu, hn, rfl⟩ | ⟨pc, pd, pt, hu, rfl, rfl, hpt⟩
            · have E2 : Hid (mk.byte1 c = ({ mk with got := [] }, [])) := HZ.out hu
              have B1 : Hid (Below (wr.setCell ⟨rb, 9, none⟩ (.string ⟨#[]⟩)).heap.size (wr.setCell ⟨rb, 9, none⟩ (.string ⟨#[]⟩)) (w1.alloc (.cells #[.int .i64 0, .int .i64 0, .string ⟨#[]⟩] 27))) := hb1.trans (((Below.refl _ _).alloc (Nat.le_refl _) _).mono hb1.size)
              have hn0 : (n == 0) = false := by simp [hn]
              unfold zeroP
              clear hb1 hu hn HU HQ HZ hunf
              go_wp2_with fail
              refine ⟨⟨k + 1, O, by omega, by go_num, rfl, ?_, v', ?_, H9.out.2.trans ⟨Tch.of_below B1.out, ⟨rfl, rfl, rfl, rfl, rfl, rfl⟩, fun _ x => .inl x⟩⟩, by simp [intOf]; omega⟩
              · rw [HT.out, E2.out, HO'.out]; simp
              · rw [HT.out, E2.out]; exact H9.out.1.below B1.out
            · have E2 : Hid (mk.byte1 c = (({ mk with got := [] } : RE).come (pc, pd, pt)).receive) := HQ.out _ hu
              have B1 : Hid (Below (wr.setCell ⟨rb, 9, none⟩ (.string ⟨#[]⟩)).heap.size (wr.setCell ⟨rb, 9, none⟩ (.string ⟨#[]⟩)) (w1.alloc (.cells #[.int .i64 (pc.toNat : Int), .int .i64 (pd.toNat : Int), .string ⟨pt.toArray⟩] 27))) := hb1.trans (((Below.refl _ _).alloc (Nat.le_refl _) _).mono hb1.size)
              have R1 : Hid (RI (w1.alloc (.cells #[.int .i64 (pc.toNat : Int), .int .i64 (pd.toNat : Int), .string ⟨pt.toArray⟩] 27)) B rb v' { mk with got := [] }) := H9.out.1.below B1.out
              have k17 : (w1.alloc (.cells #[.int .i64 (pc.toNat : Int), .int .i64 (pd.toNat : Int), .string ⟨pt.toArray⟩] 27)).frozen? ⟨rb, 17, none⟩ = false := blk_free R1.out.blk
              have k18 : (w1.alloc (.cells #[.int .i64 (pc.toNat : Int), .int .i64 (pd.toNat : Int), .string ⟨pt.toArray⟩] 27)).frozen? ⟨rb, 18, none⟩ = false := blk_free R1.out.blk
              have k19 : (w1.alloc (.cells #[.int .i64 (pc.toNat : Int), .int .i64 (pd.toNat : Int), .string ⟨pt.toArray⟩] 27)).frozen? ⟨rb, 19, none⟩ = false := blk_free R1.out.blk
              have y17 : (w1.alloc (.cells #[.int .i64 (pc.toNat : Int), .int .i64 (pd.toNat : Int), .string ⟨pt.toArray⟩] 27)).cell? ⟨rb, 17, none⟩ = some (.int .i64 (mk.pc : Int)) := blk_cell R1.out.blk
              have y18 : (w1.alloc (.cells #[.int .i64 (pc.toNat : Int), .int .i64 (pd.toNat : Int), .string ⟨pt.toArray⟩] 27)).cell? ⟨rb, 18, none⟩ = some (.int .i64 (mk.pi : Int)) := blk_cell R1.out.blk
              have y19 : (w1.alloc (.cells #[.int .i64 (pc.toNat : Int), .int .i64 (pd.toNat : Int), .string ⟨pt.toArray⟩] 27)).cell? ⟨rb, 19, none⟩ = some (.string ⟨mk.pd.toArray⟩) := blk_cell R1.out.blk
              have hb3 := blk_set (k := 19) (x := .string ⟨pt.toArray⟩) (blk_set (k := 18) (x := .int .i64 (pd.toNat : Int)) (blk_set (k := 17) (x := .int .i64 (pc.toNat : Int)) R1.out.blk))
              have ht3 := ((tset (w1.alloc (.cells #[.int .i64 (pc.toNat : Int), .int .i64 (pd.toNat : Int), .string ⟨pt.toArray⟩] 27)) rb 17 (.int .i64 (pc.toNat : Int))).trans (tset _ rb 18 (.int .i64 (pd.toNat : Int)))).trans (tset _ rb 19 (.string ⟨pt.toArray⟩))
              have R3 : Hid (RI ((((w1.alloc (.cells #[.int .i64 (pc.toNat : Int), .int .i64 (pd.toNat : Int), .string ⟨pt.toArray⟩] 27)).setCell ⟨rb, 17, none⟩ (.int .i64 (pc.toNat : Int))).setCell ⟨rb, 18, none⟩ (.int .i64 (pd.toNat : Int))).setCell ⟨rb, 19, none⟩ (.string ⟨pt.toArray⟩)) B rb v' (({ mk with got := [] } : RE).come (pc, pd, pt))) := R1.out.num (m' := (({ mk with got := [] } : RE).come (pc, pd, pt))) hb3 ht3 rfl rfl rfl
              have S3 : Hid (RS w ((((w1.alloc (.cells #[.int .i64 (pc.toNat : Int), .int .i64 (pd.toNat : Int), .string ⟨pt.toArray⟩] 27)).setCell ⟨rb, 17, none⟩ (.int .i64 (pc.toNat : Int))).setCell ⟨rb, 18, none⟩ (.int .i64 (pd.toNat : Int))).setCell ⟨rb, 19, none⟩ (.string ⟨pt.toArray⟩)) rb v v') := (H9.out.2.trans ⟨Tch.of_below B1.out, ⟨rfl, rfl, rfl, rfl, rfl, rfl⟩, fun _ x => .inl x⟩).trans (RS.num ht3)
              have FC : (({ mk with got := [] } : RE).come (pc, pd, pt)).Fine 2100 := RE.come_fine (RE.got_fine HF1.out.1 _) _ hpt
              have HRC : Hid (_) := receive_any _ R3.out FC.1 (FC.2.less (by omega)) HF1.out.2
              have hlen : ((({ mk with got := [] } : RE).come (pc, pd, pt)).receive.2).length ≤ 4000 := RE.receive_len (FC.less (by omega))
              generalize hE : (({ mk with got := [] } : RE).come (pc, pd, pt)).receive = E at *
              have hcz : O.size + (⟨E.2.toArray⟩ : ByteArray).size ≤ 100000000000000 := by show O.size + E.2.toArray.size ≤ _; rw [List.size_toArray]; omega
              have hcat := fun wx => run_string_add_sum (P := Tryz.prog) wx O ⟨E.2.toArray⟩ (by omega)
              unfold pktV
              clear hb1 hu HU HQ HZ hunf hb3 ht3 FC hE hlen hcz
              go_upto_region 14 with fail
              generalize ((((w1.alloc (.cells #[.int .i64 (pc.toNat : Int), .int .i64 (pd.toNat : Int), .string ⟨pt.toArray⟩] 27)).setCell ⟨rb, 17, none⟩ (.int .i64 (pc.toNat : Int))).setCell ⟨rb, 18, none⟩ (.int .i64 (pd.toNat : Int))).setCell ⟨rb, 19, none⟩ (.string ⟨pt.toArray⟩)) = W3 at *
              clear k17 k18 k19 y17 y18 y19 R1 B1 H9 HRI c9 f9
              go_wp2_with fail
              refine Calls.mono HRC.out ?_
              rintro e w4 ⟨rfl, v4, h4, s4⟩
              have Q : Hid (RI w4 B rb v4 E.1 ∧ RS w w4 rb v v4) := ⟨h4, S3.out.trans s4⟩
              clear h4 s4 HRC
              go_wp2_with fail
              refine ⟨⟨k + 1, _, by omega, by go_num, rfl, ?_, v4, ?_, Q.out.2⟩, by simp [intOf]; omega⟩
              · rw [HT.out, E2.out, app_toList, HO'.out]
              · rw [HT.out, E2.out]; exact Q.out.1
      · have hne : ((c.toNat : Int) != 126) = true := by simp; omega
        have hne2 : ((c.toNat : Int) == 126) = false := by simp; omega
        have E1 : Hid (mk.byte1 c = (if mk.got.length ≤ 88 then { mk with got := mk.got ++ [c] } else mk, [])) := by show _ = _; unfold RE.byte1; rw [if_pos h6]
        by_cases h88 : mk.got.length ≤ 88
        · have h88i : (mk.got.length : Int) ≤ 88 := by omega
          have hcsz : (⟨mk.got.toArray⟩ : ByteArray).size + (⟨#[c]⟩ : ByteArray).size ≤ 1000 := by show (⟨mk.got.toArray⟩ : ByteArray).size + 1 ≤ 1000; omega
          have hcat := fun wx => run_string_add_sum (P := Tryz.prog) wx ⟨mk.got.toArray⟩ ⟨#[c]⟩ (by omega)
          have hw1 : IntKind.i64.wrap ((k : Int) + 1) = (k : Int) + 1 := wrap_in (by omega) (by omega)
          have E2 : Hid (mk.byte1 c = ({ mk with got := mk.got ++ [c] }, [])) := by show _ = _; rw [E1.out, if_pos h88]
          clear h88 h6 E1 hgs
          go_wp2_with fail
          go_region
          all_goals
            go_wp2_with fail
            refine ⟨⟨k + 1, O, by omega, by go_num, rfl, ?_, v', ?_, ?_⟩, by simp [intOf]; omega⟩
            · rw [HT.out, E2.out, HO'.out]; simp
            · rw [HT.out, E2.out]
              have hb := blk_set (k := 9) (x := .string (⟨mk.got.toArray⟩ ++ ⟨#[c]⟩)) HRI.out.1.blk
              exact HRI.out.1.num (m' := { mk with got := mk.got ++ [c] }) (by unfold RE.cell; simp only; rw [← ba_snoc]; exact hb) (tset wr rb 9 _).drew rfl rfl rfl
            · exact HRI.out.2.trans (RS.num (tset wr rb 9 _).drew)
        · have h88i : ¬ (mk.got.length : Int) ≤ 88 := by omega
          have E2 : Hid (mk.byte1 c = (mk, [])) := by show _ = _; rw [E1.out, if_neg h88]
          clear h88 h6 E1 hgs
          go_wp2_with fail
          refine ⟨⟨k + 1, O, by omega, by go_num, rfl, ?_, v', ?_, HRI.out.2⟩, by simp [intOf]; omega⟩
          · rw [HT.out, E2.out, HO'.out]; simp
          · rw [HT.out, E2.out]; exact HRI.out.1
    · have hnI : ¬ (k : Int) < (s.size : Int) := by omega
      have HF : Hid (O.data.toList = (m.bytes s.data.toList).2 ∧ ∃ v', RI wr B rb v' (m.bytes s.data.toList).1 ∧ RS w wr rb v v') := by
        have := HW.out
        rw [List.take_of_length_le (by omega)] at this; exact this
      clear HW
      go_wp2_with fail
      go_ret
      exact ⟨ret_str HF.out.1, HF.out.2⟩
end Go.Proofs.YtoeihlgidakjbaaGreatDoor

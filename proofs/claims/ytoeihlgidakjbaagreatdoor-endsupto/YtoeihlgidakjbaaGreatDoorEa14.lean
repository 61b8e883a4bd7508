/- The reference's at and Event. The reference's Event. The reference's isList and copied. -/
import Derived.Test.YtoeihlgidakjbaaGreatDoorEa13
namespace Go.Proofs.YtoeihlgidakjbaaGreatDoor
open Go.RowKit Go.Lib
def ActC (c : Nat) : Prop := ∀ (B rb : Nat) (v : RV) (m : RE) (w : World), RI w B rb v m → m.Ok → m.Fit 100 →
  Calls Tryz.prog 117 #[.pointer (some ⟨rb, 0, none⟩), .int .u8 (c : Int)] w fun r w' => r = .returned (.string ⟨(m.act c).2.toArray⟩) ∧ ∃ v', RI w' B rb v' (m.act c).1 ∧ RS w w' rb v v'
theorem actC_ev : ∀ c, c = 117 ∨ c = 100 ∨ c = 98 ∨ c = 102 ∨ c = 105 ∨ c = 116 ∨ c = 122 ∨ c = 114 ∨ c = 101 → ActC c := by
  rintro c (rfl | rfl | rfl | rfl | rfl | rfl | rfl | rfl | rfl) B rb v m w h ok fit
  · exact act_u w h fit
  · exact act_d w h fit
  · exact act_b w h fit
  · exact act_f w h fit
  · exact act_i w h
  · exact act_t w h
  · exact act_z w h
  · exact act_r w h ok fit
  · exact act_e w h ok fit
theorem rowS_size (L : List Nat) : (rowS L).size = L.length := by simp [rowS, bsz]
theorem rowS_get (L : List Nat) (k : Nat) (h : k < (rowS L).size) (hl : k < L.length) (hc : L[k] < 256) : ((rowS L)[k]).toNat = L[k] := by
  have e : (rowS L)[k] = UInt8.ofNat L[k] := by simp [rowS, ByteArray.getElem_eq_getElem_data]
  rw [e, UInt8.toNat_ofNat']; omega
theorem arr10 {α : Type} (cs : List α) (h : cs.length = 10) : ∃ v0 v1 v2 v3 v4 v5 v6 v7 v8 v9, cs = [v0, v1, v2, v3, v4, v5, v6, v7, v8, v9] := by
  match cs, h with
  | [v0, v1, v2, v3, v4, v5, v6, v7, v8, v9], _ => exact ⟨_, _, _, _, _, _, _, _, _, _, rfl⟩
set_option maxRecDepth 100000 in
set_option maxHeartbeats 2000000 in
theorem at_any {B rb : Nat} {v : RV} {m : RE} (ev : Nat) (w : World) (h : RI w B rb v m) (ok : m.Ok) (fit : m.Fit 500) (h1 : 1 ≤ ev) (h2 : ev ≤ 17) (h3 : ev ≠ 5)
    (hact : ∀ c ∈ (rowT ev).getD m.st [], (48 ≤ c ∧ c ≤ 57) ∨ ActC c) :
    Calls Tryz.prog 83 #[.pointer (some ⟨rb, 0, none⟩), .int .i64 (ev : Int)] w fun r w' => r = .returned (.string ⟨(m.at_ ev).2.toArray⟩) ∧ ∃ v', RI w' B rb v' (m.at_ ev).1 ∧ RS w w' rb v v' := by
  have hst := ok.st
  obtain ⟨hl4, hl256, hl10⟩ := rowT_small ev (by omega) m.st hst
  obtain ⟨l0, l1, l2, l3, l4, l5, l6, l7, l8, l9, hrow⟩ := arr10 (rowT ev) hl10
  have hrv : rowV ev = #[.string (rowS l0), .string (rowS l1), .string (rowS l2), .string (rowS l3), .string (rowS l4), .string (rowS l5), .string (rowS l6), .string (rowS l7), .string (rowS l8), .string (rowS l9)] := by unfold rowV; rw [hrow]; rfl
  obtain ⟨L, hL⟩ : ∃ L, L = (rowT ev).getD m.st [] := ⟨_, rfl⟩
  have hcell : (#[Value.string (rowS l0), .string (rowS l1), .string (rowS l2), .string (rowS l3), .string (rowS l4), .string (rowS l5), .string (rowS l6), .string (rowS l7), .string (rowS l8), .string (rowS l9)] : Array Value)[m.st]? = some (.string (rowS L)) := by
    rw [← hrv]
    unfold rowV
    rw [List.getElem?_toArray, List.getElem?_map, hL, List.getD, List.getElem?_eq_getElem (by omega)]; rfl
  rw [← hL] at hl4 hl256 hact
  have HM : Hid (m.at_ ev = m.run L) := by show _ = _; rw [hL]; rfl
  have HCELL : Hid (_) := hcell
  have H : Hid (RI w B rb v m) := h
  have OK : Hid (m.Ok) := ok
  have FIT : Hid (m.Fit 500) := fit
  have HACT : Hid (∀ c ∈ L, (48 ≤ c ∧ c ≤ 57) ∨ ActC c) := hact
  have H256 : Hid (∀ c ∈ L, c < 256) := hl256
  clear h ok fit hact hrow hcell hL hl256 hl10
  go_enter Tryz.func83, Tryz.ntmps83
  go_wp2_with fail
  refine (row_any ev w h1 h2 h3).mono ?_
  rintro e w1 ⟨rfl, hb1⟩
  rw [hrv]
  clear hrv
  have R1 := H.out.below hb1
  have hrb1 := blk_lt R1.blk
  have c5 : ∀ cs T, w1.heap.size < (w1.alloc (.cells cs T)).heap.size := fun cs T => by simp
  have c7 : (w1.alloc (.cells #[Value.string (rowS l0), .string (rowS l1), .string (rowS l2), .string (rowS l3), .string (rowS l4), .string (rowS l5), .string (rowS l6), .string (rowS l7), .string (rowS l8), .string (rowS l9)] 142)).cell? ⟨rb, 7, none⟩ = some (.int .i64 (m.st : Int)) := (World.cell?_alloc_lt w1 _ ⟨rb, 7, none⟩ hrb1).trans (blk_cell R1.blk)
  have cs : (w1.alloc (.cells #[Value.string (rowS l0), .string (rowS l1), .string (rowS l2), .string (rowS l3), .string (rowS l4), .string (rowS l5), .string (rowS l6), .string (rowS l7), .string (rowS l8), .string (rowS l9)] 142)).cell? ⟨w1.heap.size, m.st, none⟩ = some (.string (rowS L)) := (blk_cell (heap_alloc_new w1 _)).trans HCELL.out
  have R1H : Hid (_) := R1
  have hI : (m.st : Int) < 10 := by omega
  clear R1 c5
  go_wp2_with fail
  have hSz := rowS_size L
  have HR0 : Hid (RI (w1.alloc (.cells #[Value.string (rowS l0), .string (rowS l1), .string (rowS l2), .string (rowS l3), .string (rowS l4), .string (rowS l5), .string (rowS l6), .string (rowS l7), .string (rowS l8), .string (rowS l9)] 142)) B rb v m ∧ RS w (w1.alloc (.cells #[Value.string (rowS l0), .string (rowS l1), .string (rowS l2), .string (rowS l3), .string (rowS l4), .string (rowS l5), .string (rowS l6), .string (rowS l7), .string (rowS l8), .string (rowS l9)] 142)) rb v v) :=
    ⟨R1H.out.below ((Below.refl _ _).alloc (Nat.le_refl _) _), ⟨(Tch.of_below hb1).trans (Tch.of_below ((Below.refl _ _).alloc (Nat.le_refl _) _)), ⟨rfl, rfl, rfl, rfl, rfl, rfl⟩, fun _ x => .inl x⟩⟩
  clear R1H c7 cs hb1 hrb1
  generalize (w1.alloc (.cells #[Value.string (rowS l0), .string (rowS l1), .string (rowS l2), .string (rowS l3), .string (rowS l4), .string (rowS l5), .string (rowS l6), .string (rowS l7), .string (rowS l8), .string (rowS l9)] 142)) = W0 at *
  go_loopw [7, 8] (fun out i wr => ∃ (k : Nat) (v' : RV) (O : ByteArray), k ≤ L.length ∧ i = .int .i64 k ∧ out = .string O ∧ O.size ≤ 1000 * k ∧ Hid (O.data.toList = (m.run (L.take k)).2 ∧ RI wr B rb v' (m.run (L.take k)).1 ∧ RS w wr rb v v')) (fun _ i _ => L.length - (intOf i).toNat)
  case atStart => exact ⟨0, v, _, Nat.zero_le _, rfl, rfl, by show 0 ≤ _; omega, rfl, HR0.out⟩
  case round =>
    obtain ⟨k, v', O, hk, rfl, rfl, hO, HW⟩ := hrel
    by_cases hlt : k < L.length
    · have hI : (k : Int) < ((rowS L).size : Int) := by omega
      have hc256 := H256.out _ (List.getElem_mem hlt)
      have hSk := rowS_get L k (by omega) hlt hc256
      have HT : Hid (m.run (L.take (k + 1)) = (((m.run (L.take k)).1.letter L[k]).1, (m.run (L.take k)).2 ++ ((m.run (L.take k)).1.letter L[k]).2)) := by
        show _ = _
        rw [List.take_add_one, List.getElem?_eq_getElem hlt]
        exact RE.run_snoc m (L.take k) L[k]
      have hOK : (m.run (L.take k)).1.Ok := RE.run_ok OK.out _
      have hFIT : (m.run (L.take k)).1.Fit 100 := RE.run_fit (k := 100) (L.take k) (by
        obtain ⟨told, mg, c0, c1, nk, lp, h0, h1, h2⟩ := FIT.out
        have : (L.take k).length ≤ 4 := by rw [List.length_take]; omega
        constructor <;> omega) OK.out
      have hA := HACT.out _ (List.getElem_mem hlt)
      generalize (m.run (L.take k)).1 = mk at *
      generalize hc : L[k] = c at *
      by_cases hd : 48 ≤ c ∧ c ≤ 57
      · have g1 : (48 : Int) ≤ (((rowS L)[k]).toNat : Int) := by omega
        have g2 : (((rowS L)[k]).toNat : Int) ≤ 57 := by omega
        have c7 : wr.cell? ⟨rb, 7, none⟩ = some (.int .i64 (mk.st : Int)) := blk_cell HW.out.2.1.blk
        have f7 : wr.frozen? ⟨rb, 7, none⟩ = false := blk_free HW.out.2.1.blk
        go_wp2_with fail
        have el : mk.letter c = ({ mk with st := c - 48 }, []) := by unfold RE.letter; rw [if_pos hd]
        have ec : (c : Int) - 48 = ((c - 48 : Nat) : Int) := by omega
        have hb := blk_set (k := 7) (x := .int .i64 ((c : Int) - 48)) HW.out.2.1.blk
        refine ⟨⟨k + 1, v', O, by omega, by go_num, rfl, by omega, ?_, ?_, HW.out.2.2.trans (RS.num (tset wr rb 7 _))⟩, by simp [intOf]; omega⟩
        · rw [HT.out, el, HW.out.1]; simp
        · rw [HT.out, el]
          exact HW.out.2.1.num (by rw [hb, ec]; rfl) (tset wr rb 7 _) rfl rfl rfl
      · have HA : Hid (ActC c) := hA.resolve_left hd
        have hlen := RE.act_len hOK c
        have el : Hid (mk.letter c = mk.act c) := by show _ = _; unfold RE.letter; rw [if_neg hd]
        have FK : Hid (mk.Ok ∧ mk.Fit 100) := ⟨hOK, hFIT⟩
        clear hA hOK hFIT
        have hcat := fun wx => run_string_add_sum (P := Tryz.prog) wx O ⟨(mk.act c).2.toArray⟩ (by show O.size + (mk.act c).2.toArray.size ≤ _; rw [List.size_toArray]; omega)
        rcases (by omega : c < 48 ∨ 57 < c) with hd2 | hd2
        · have g1 : ¬ (48 : Int) ≤ (c : Int) := by omega
          go_wp2_with fail
          refine (HA.out B rb v' mk wr HW.out.2.1 FK.out.1 FK.out.2).mono ?_
          rintro e w2 ⟨rfl, v2, hi2, hs2⟩
          have H2 : Hid (_) := And.intro hi2 hs2
          clear hi2 hs2
          go_wp2_with fail
          refine ⟨⟨k + 1, v2, _, by omega, by go_num, rfl, ?_, ?_, ?_, HW.out.2.2.trans H2.out.2⟩, by simp [intOf]; omega⟩
          · rw [ByteArray.size_append]; show O.size + (mk.act c).2.toArray.size ≤ _; rw [List.size_toArray]; omega
          · rw [HT.out, el.out, app_toList, HW.out.1]
          · rw [HT.out, el.out]; exact H2.out.1
        · have g1 : (48 : Int) ≤ (c : Int) := by omega
          have g2 : ¬ (c : Int) ≤ 57 := by omega
          go_wp2_with fail
          refine (HA.out B rb v' mk wr HW.out.2.1 FK.out.1 FK.out.2).mono ?_
          rintro e w2 ⟨rfl, v2, hi2, hs2⟩
          have H2 : Hid (_) := And.intro hi2 hs2
          clear hi2 hs2
          go_wp2_with fail
          refine ⟨⟨k + 1, v2, _, by omega, by go_num, rfl, ?_, ?_, ?_, HW.out.2.2.trans H2.out.2⟩, by simp [intOf]; omega⟩
          · rw [ByteArray.size_append]; show O.size + (mk.act c).2.toArray.size ≤ _; rw [List.size_toArray]; omega
          · rw [HT.out, el.out, app_toList, HW.out.1]
          · rw [HT.out, el.out]; exact H2.out.1
    · have ht : L.take k = L := List.take_of_length_le (by omega)
      have HF : Hid (O.data.toList = (m.at_ ev).2 ∧ RI wr B rb v' (m.at_ ev).1 ∧ RS w wr rb v v') := by
        have := HW.out
        rw [ht, ← HM.out] at this; exact this
      have hnI : ¬ (k : Int) < ((rowS L).size : Int) := by omega
      clear HW
      go_wp2_with fail
      go_ret
      exact ⟨ret_str HF.out.1, v', HF.out.2⟩
end Go.Proofs.YtoeihlgidakjbaaGreatDoor
namespace Go.Proofs.YtoeihlgidakjbaaGreatDoor
open Go.RowKit Go.Lib
theorem ev_letters : ∀ ev ∈ [1, 2, 3, 4, 6, 7], ∀ st, st < 10 → ∀ c ∈ (rowT ev).getD st [], (48 ≤ c ∧ c ≤ 57) ∨ (c = 117 ∨ c = 100 ∨ c = 98 ∨ c = 102 ∨ c = 105 ∨ c = 116 ∨ c = 122 ∨ c = 114 ∨ c = 101) := by decide +kernel
theorem ev_act {ev st : Nat} (h : ev ∈ [1, 2, 3, 4, 6, 7]) (hs : st < 10) : ∀ c ∈ (rowT ev).getD st [], (48 ≤ c ∧ c ≤ 57) ∨ ActC c :=
  fun c hc => (ev_letters ev h st hs c hc).imp id (actC_ev c)
set_option maxRecDepth 100000 in
set_option maxHeartbeats 2000000 in
theorem revent_any {B rb : Nat} {v : RV} {m : RE} (k : Int) (w : World) (h : RI w B rb v m) (ok : m.Ok) (fit : m.Fit 500) (ht1 : m.tim ≤ 1000) :
    Calls Tryz.prog 60 #[.pointer (some ⟨rb, 0, none⟩), .int .i64 k] w fun r w' => r = .returned (.string ⟨(m.event k).2.toArray⟩) ∧ ∃ v', RI w' B rb v' (m.event k).1 ∧ RS w w' rb v v' := by
  have hst := ok.st
  have H : Hid (RI w B rb v m) := h
  have OK : Hid (m.Ok) := ok
  have FIT : Hid (m.Fit 500) := fit
  have c7 : w.cell? ⟨rb, 7, none⟩ = some (.int .i64 (m.st : Int)) := blk_cell h.blk
  have c10 : w.cell? ⟨rb, 10, none⟩ = some (.int .i64 m.cnt) := blk_cell h.blk
  have c11 : w.cell? ⟨rb, 11, none⟩ = some (.int .i64 m.tim) := blk_cell h.blk
  have f11 : w.frozen? ⟨rb, 11, none⟩ = false := blk_free h.blk
  clear h ok fit
  by_cases hk : 1 ≤ k ∧ k ≤ 4
  · have he : m.event k = m.at_ k.toNat := by unfold RE.event; rw [if_pos hk]
    rw [he]
    have h1 := hk.1
    have h2 := hk.2
    go_enter Tryz.func60, Tryz.ntmps60
    go_wp2_with fail
    have hat := at_any k.toNat w H.out OK.out FIT.out (by omega) (by omega) (by omega) (ev_act (by simp; omega) hst)
    rw [show ((k.toNat : Nat) : Int) = k by omega] at hat
    refine hat.mono ?_
    rintro e w1 ⟨rfl, h1⟩
    have H1 : Hid (_) := h1
    clear h1 hat
    go_wp2_with fail
    go_ret
    exact ⟨rfl, H1.out⟩
  · have quiet : (k ≠ 5 ∨ m.st < 4 ∨ 8 < m.st ∨ m.tim ≤ 0) → m.event k = (m, []) := fun x => by unfold RE.event; rw [if_neg hk, if_pos x]
    by_cases h5 : k ≠ 5
    · have he := quiet (.inl h5)
      rw [he]
      have hn : (k == 5) = false := by simpa using h5
      clear quiet
      rcases (by omega : k < 1 ∨ 4 < k) with hk1 | hk1
      · clear hk
        go_enter Tryz.func60, Tryz.ntmps60
        go_wp2_with fail
        go_ret
        exact ⟨rfl, v, H.out, RS.refl _ _ _⟩
      · have hk2 : 1 ≤ k := by omega
        clear hk
        go_enter Tryz.func60, Tryz.ntmps60
        go_wp2_with fail
        go_ret
        exact ⟨rfl, v, H.out, RS.refl _ _ _⟩
    · have h5' : k = 5 := by omega
      subst h5'
      by_cases hs4 : m.st < 4
      · rw [quiet (.inr (.inl hs4))]
        have hi : (m.st : Int) < 4 := by omega
        clear quiet
        go_enter Tryz.func60, Tryz.ntmps60
        go_wp2_with fail
        go_ret
        exact ⟨rfl, v, H.out, RS.refl _ _ _⟩
      · have hi : ¬ (m.st : Int) < 4 := by omega
        by_cases hs8 : 8 < m.st
        · rw [quiet (.inr (.inr (.inl hs8)))]
          have hi2 : (8 : Int) < (m.st : Int) := by omega
          clear quiet
          go_enter Tryz.func60, Tryz.ntmps60
          go_wp2_with fail
          go_ret
          exact ⟨rfl, v, H.out, RS.refl _ _ _⟩
        · have hi2 : ¬ (8 : Int) < (m.st : Int) := by omega
          by_cases ht0 : m.tim ≤ 0
          · rw [quiet (.inr (.inr (.inr ht0)))]
            clear quiet
            go_enter Tryz.func60, Tryz.ntmps60
            go_wp2_with fail
            go_ret
            exact ⟨rfl, v, H.out, RS.refl _ _ _⟩
          · have he : m.event 5 = if 0 < m.tim - 1 then ({ m with tim := m.tim - 1 }, []) else if 0 < m.cnt then { m with tim := m.tim - 1 }.at_ 6 else { m with tim := m.tim - 1 }.at_ 7 := by
              unfold RE.event; rw [if_neg hk, if_neg (by omega)]
            rw [he]
            clear quiet he
            have hts : Tch (fun b => b = rb) w (w.setCell ⟨rb, 11, none⟩ (.int .i64 (m.tim - 1))) := tset w rb 11 _
            have hh : RI (w.setCell ⟨rb, 11, none⟩ (.int .i64 (m.tim - 1))) B rb v { m with tim := m.tim - 1 } := H.out.num (blk_set (k := 11) (x := .int .i64 (m.tim - 1)) H.out.blk) hts rfl rfl rfl
            have OK2 : Hid (RE.Ok { m with tim := m.tim - 1 }) := ⟨OK.out.st, OK.out.id, OK.out.odd, OK.out.k0, OK.out.k1, OK.out.k2, OK.out.pc, OK.out.pi, OK.out.pd, OK.out.mg, OK.out.ms, OK.out.aa, OK.out.ww⟩
            have FIT2 : Hid (RE.Fit { m with tim := m.tim - 1 } 500) := ⟨FIT.out.told, FIT.out.mg, FIT.out.c0, FIT.out.c1, FIT.out.nk, FIT.out.lp, FIT.out.h0, FIT.out.h1, FIT.out.h2⟩
            have HH : Hid (_) := hh
            have HTS : Hid (_) := hts
            clear hh hts
            by_cases htp : 0 < m.tim - 1
            · rw [if_pos htp]
              go_enter Tryz.func60, Tryz.ntmps60
              go_wp2_with fail
              go_ret
              exact ⟨rfl, v, HH.out, RS.num HTS.out⟩
            · rw [if_neg htp]
              by_cases hcp : 0 < m.cnt
              · rw [if_pos hcp]
                go_enter Tryz.func60, Tryz.ntmps60
                go_wp2_with fail
                refine (at_any 6 _ HH.out OK2.out FIT2.out (by omega) (by omega) (by omega) (ev_act (by simp) hst)).mono ?_
                rintro e w1 ⟨rfl, v1, h1, s1⟩
                have H1 : Hid (_) := And.intro h1 s1
                clear h1 s1
                go_wp2_with fail
                go_ret
                exact ⟨rfl, v1, H1.out.1, (RS.num HTS.out).trans H1.out.2⟩
              · rw [if_neg hcp]
                go_enter Tryz.func60, Tryz.ntmps60
                go_wp2_with fail
                refine (at_any 7 _ HH.out OK2.out FIT2.out (by omega) (by omega) (by omega) (ev_act (by simp) hst)).mono ?_
                rintro e w1 ⟨rfl, v1, h1, s1⟩
                have H1 : Hid (_) := And.intro h1 s1
                clear h1 s1
                go_wp2_with fail
                go_ret
                exact ⟨rfl, v1, H1.out.1, (RS.num HTS.out).trans H1.out.2⟩
end Go.Proofs.YtoeihlgidakjbaaGreatDoor
namespace Go.Proofs.YtoeihlgidakjbaaGreatDoor
open Go.RowKit Go.Lib
set_option maxRecDepth 100000 in
set_option maxHeartbeats 2000000 in
theorem isList_any (v : Value) (l : List Int) (w : World) (hi : IntsAt w v l) :
    Calls Tryz.prog 114 #[v] w fun r w' => r = .returned (.bool (isL l)) ∧ ∃ n, w' = w.drewN n := by
  obtain ⟨a, cap, g, off, rfl, ha, hc⟩ := hi
  by_cases h0 : l.length = 0
  · have e : isL l = false := by unfold isL; rw [decide_eq_false]; intro h; have := h.1; omega
    rw [e, h0]
    go_enter Tryz.func114, Tryz.ntmps114
    go_wp2_with fail
    go_ret
    exact ⟨rfl, 0, rfl⟩
  · have hz : ((l.length : Int) == 0) = false := by simp; intro h; exact h0 (by simp [h])
    by_cases h8 : 8 < l.length
    · have e : isL l = false := by unfold isL; rw [decide_eq_false]; intro h; have := h.2.1; omega
      rw [e]
      have h8i : (8 : Int) < (l.length : Int) := by omega
      clear ha hc
      go_enter Tryz.func114, Tryz.ntmps114
      go_wp2_with fail
      go_ret
      exact ⟨rfl, 0, rfl⟩
    · obtain ⟨rfl, hg⟩ := ha (by omega)
      have h8i : ¬ (8 : Int) < (l.length : Int) := by omega
      have HC : Hid (∀ k (h : k < l.length), w.cell? ⟨g, off + k, none⟩ = some (.int .i64 l[k])) := hc
      clear ha hc
      go_enter Tryz.func114, Tryz.ntmps114
      go_wp2_with fail
      go_loopw [3] (fun i wr => ∃ k : Nat, k ≤ l.length ∧ i = .int .i64 (k : Int) ∧ (∃ n, wr = w.drewN n) ∧ Hid ((∀ j, j < k → ∃ x, l[j]? = some x ∧ 0 ≤ x ∧ x ≤ 255) ∧ ∀ i j, i < j → j < k → l[i]? ≠ l[j]?)) (fun i _ => l.length - (intOf i).toNat)
      case atStart => exact ⟨0, by omega, rfl, ⟨0, rfl⟩, fun j hj => by omega, fun i j _ hj => by omega⟩
      case round =>
        obtain ⟨k, hk, rfl, ⟨n, rfl⟩, HW⟩ := hrel
        by_cases hlt : k < l.length
        · have hI : (k : Int) < (l.length : Int) := by omega
          have ck : (w.drewN n).cell? ⟨g, off + k, none⟩ = some (.int .i64 l[k]) := HC.out k hlt
          have HX : Hid (l[k]? = some l[k]) := List.getElem?_eq_getElem hlt
          generalize l[k] = x at *
          by_cases hx0 : x < 0
          · have E : Hid (isL l = false) := by
              show _ = _
              unfold isL; rw [decide_eq_false]; intro h
              have := (h.2.2.1 x (List.mem_of_getElem? HX.out)).1; omega
            go_wp2_with fail
            go_ret
            exact ⟨by rw [E.out]; rfl, n, rfl⟩
          · by_cases hx1 : 255 < x
            · have E : Hid (isL l = false) := by
                show _ = _
                unfold isL; rw [decide_eq_false]; intro h
                have := (h.2.2.1 x (List.mem_of_getElem? HX.out)).2; omega
              go_wp2_with fail
              go_ret
              exact ⟨by rw [E.out]; rfl, n, rfl⟩
            · go_wp2_with fail
              go_loopw [4] (fun i wr => ∃ k2 : Nat, k2 ≤ k ∧ i = .int .i64 (k2 : Int) ∧ (∃ n, wr = w.drewN n) ∧ Hid (∀ j, j < k2 → l[j]? ≠ some x)) (fun i _ => k - (intOf i).toNat)
              case atStart => exact ⟨0, by omega, rfl, ⟨n, rfl⟩, fun j hj => by omega⟩
              case round =>
                obtain ⟨k2, hk2, rfl, ⟨n2, rfl⟩, HW2⟩ := hrel
                by_cases hlt2 : k2 < k
                · have hI2 : (k2 : Int) < (k : Int) := by omega
                  have hI3 : (k2 : Int) < (l.length : Int) := by omega
                  have cj : w.cell? ⟨g, off + k2, none⟩ = some (.int .i64 l[k2]) := HC.out k2 (by omega)
                  have ck2 : w.cell? ⟨g, off + k, none⟩ = some (.int .i64 x) := ck
                  have HY : Hid (l[k2]? = some l[k2]) := List.getElem?_eq_getElem (by omega)
                  generalize l[k2] = y at *
                  clear ck
                  by_cases hxy : y = x
                  · subst hxy
                    have E : Hid (isL l = false) := by
                      show _ = _
                      unfold isL; rw [decide_eq_false]; intro h
                      exact h.2.2.2 k2 k hlt2 hlt (HY.out.trans HX.out.symm)
                    go_wp2_with fail
                    go_quiet (fail)
                    go_wp2_with fail
                    go_ret
                    exact ⟨by rw [E.out]; rfl, n2 + nq, by simp⟩
                  · have hne : (y == x) = false := by simpa using hxy
                    go_wp2_with fail
                    go_quiet (fail)
                    go_wp2_with fail
                    refine ⟨⟨k2 + 1, by omega, by go_num, ⟨n2 + nq, by simp⟩, ?_⟩, by simp [intOf]; omega⟩
                    intro j hj
                    rcases (by omega : j < k2 ∨ j = k2) with h | rfl
                    · exact HW2.out j h
                    · rw [HY.out]; simpa using hxy
                · have hnI : ¬ (k2 : Int) < (k : Int) := by omega
                  go_wp2_with fail
                  refine ⟨⟨k + 1, by omega, by go_num, ⟨n2, rfl⟩, ?_, ?_⟩, by simp [intOf]; omega⟩
                  · intro j hj
                    rcases (by omega : j < k ∨ j = k) with h | rfl
                    · exact HW.out.1 j h
                    · exact ⟨x, HX.out, by omega, by omega⟩
                  · intro i j hij hj
                    rcases (by omega : j < k ∨ j = k) with h | rfl
                    · exact HW.out.2 i j hij h
                    · rw [HX.out]; exact HW2.out i (by omega)
        · have hnI : ¬ (k : Int) < (l.length : Int) := by omega
          have hkl : k = l.length := by omega
          have E : Hid (isL l = true) := by
            show _ = _
            unfold isL; rw [decide_eq_true]
            subst hkl
            refine ⟨by omega, by omega, ?_, HW.out.2⟩
            intro x hx
            obtain ⟨j, hj⟩ := List.getElem?_of_mem hx
            obtain ⟨y, h1, h2, h3⟩ := HW.out.1 j (List.getElem?_eq_some_iff.1 hj).1
            rw [hj] at h1; cases h1; exact ⟨h2, h3⟩
          clear hkl
          go_wp2_with fail
          go_ret
          exact ⟨by rw [E.out]; rfl, n, rfl⟩
end Go.Proofs.YtoeihlgidakjbaaGreatDoor

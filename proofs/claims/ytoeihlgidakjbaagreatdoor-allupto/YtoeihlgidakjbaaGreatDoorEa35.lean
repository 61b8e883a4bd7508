/- The reference's act: what answers a packet. The reference's within and bad. -/
import Derived.Test.YtoeihlgidakjbaaGreatDoorEa14
import Derived.Test.YtoeihlgidakjbaaGreatDoorEa9
import Derived.Test.YtoeihlgidakjbaaGreatDoorEa16
namespace Go.Proofs.YtoeihlgidakjbaaGreatDoor
open Go.RowKit Go.Lib
set_option maxRecDepth 100000 in
set_option maxHeartbeats 2000000 in
theorem act_k {B rb : Nat} {v : RV} {m : RE} (w : World) (h : RI w B rb v m) (ok : m.Ok) :
    Calls Tryz.prog 117 #[.pointer (some ⟨rb, 0, none⟩), .int .u8 107] w fun r w' => r = .returned (.string ⟨(m.act 107).2.toArray⟩) ∧ ∃ v', RI w' B rb v' (m.act 107).1 ∧ RS w w' rb v v' := by
  have H : Hid (RI w B rb v m) := h
  have hpi := ok.pi
  have c18 : w.cell? ⟨rb, 18, none⟩ = some (.int .i64 (m.pi : Int)) := blk_cell h.blk
  clear h ok
  go_enter Tryz.func117, Tryz.ntmps117
  go_wp2_with fail
  refine (ref_line 6 (m.pi : Int) ⟨#[]⟩ _ (by omega) (by omega) (by omega) (by omega) (by show 0 ≤ _; omega)).mono ?_
  rintro e w1 ⟨rfl, hb1⟩
  go_wp2_with fail
  go_ret
  exact ⟨rfl, v, H.out.below hb1, RS.num (Tch.of_below hb1)⟩
set_option maxRecDepth 100000 in
set_option maxHeartbeats 2000000 in
theorem act_o {B rb : Nat} {v : RV} {m : RE} (w : World) (h : RI w B rb v m) (ok : m.Ok) :
    Calls Tryz.prog 117 #[.pointer (some ⟨rb, 0, none⟩), .int .u8 111] w fun r w' => r = .returned (.string ⟨(m.act 111).2.toArray⟩) ∧ ∃ v', RI w' B rb v' (m.act 111).1 ∧ RS w w' rb v v' := by
  have H : Hid (RI w B rb v m) := h
  have hpi := ok.pi
  have hpd := ok.pd
  have hrb : rb < w.heap.size := blk_lt h.blk
  have c18 : w.cell? ⟨rb, 18, none⟩ = some (.int .i64 (m.pi : Int)) := blk_cell h.blk
  have c19 : w.cell? ⟨rb, 19, none⟩ = some (.string ⟨m.pd.toArray⟩) := blk_cell h.blk
  clear h ok
  go_enter Tryz.func117, Tryz.ntmps117
  go_wp2_with fail
  go_region_held3 (fun w' => w'.cell? ⟨rb, 18, none⟩ = some (.int .i64 (m.pi : Int)) ∧ w'.cell? ⟨rb, 19, none⟩ = some (.string ⟨m.pd.toArray⟩)) (first | exact ⟨c18, c19⟩ | assumption | exact ⟨(hbq.cell (p := ⟨rb, 18, none⟩) hrb).trans c18, (hbq.cell (p := ⟨rb, 19, none⟩) hrb).trans c19⟩) ((go_at_call 33; refine (ref_line 10 (m.pi : Int) ⟨m.pd.toArray⟩ _ (by omega) (by omega) (by omega) (by omega) (by rw [bsz]; simp; omega)).mono ?_; rintro e wq ⟨rfl, hbq⟩))
  go_wp2_with fail
  go_ret
  have hbq' : Below w.heap.size w wq := ⟨hbq.os, hbq.tape, hbq.output, hbq.size, hbq.block⟩
  exact ⟨rfl, v, H.out.below hbq', RS.num (Tch.of_below hbq')⟩
set_option maxRecDepth 100000 in
set_option maxHeartbeats 2000000 in
theorem act_a {B rb : Nat} {v : RV} {m : RE} (w : World) (h : RI w B rb v m) (ok : m.Ok) :
    Calls Tryz.prog 117 #[.pointer (some ⟨rb, 0, none⟩), .int .u8 97] w fun r w' => r = .returned (.string ⟨(m.act 97).2.toArray⟩) ∧ ∃ v', RI w' B rb v' (m.act 97).1 ∧ RS w w' rb v v' := by
  have H : Hid (RI w B rb v m) := h
  have hpi := ok.pi
  have hpd := ok.pd
  have c20 : w.cell? ⟨rb, 20, none⟩ = some (.int .i64 (m.naks : Int)) := blk_cell h.blk
  have f20 : w.frozen? ⟨rb, 20, none⟩ = false := blk_free h.blk
  have c16 : w.cell? ⟨rb, 16, none⟩ = some (.string ⟨m.agr.toArray⟩) := blk_cell h.blk
  have f16 : w.frozen? ⟨rb, 16, none⟩ = false := blk_free h.blk
  have c19 : w.cell? ⟨rb, 19, none⟩ = some (.string ⟨m.pd.toArray⟩) := blk_cell h.blk
  clear h ok
  go_enter Tryz.func117, Tryz.ntmps117
  go_upto_region 30 with fail
  have hts : Tch (fun b => b = rb) w ((w.setCell ⟨rb, 20, none⟩ (.int .i64 0)).setCell ⟨rb, 16, none⟩ (.string ⟨m.pd.toArray⟩)) := (tset _ rb 20 _).trans (tset _ rb 16 _)
  have hh := H.out.num (m' := { m with naks := 0, agr := m.pd }) (blk_set (k := 16) (x := .string ⟨m.pd.toArray⟩) (blk_set (k := 20) (x := .int .i64 0) H.out.blk)) hts rfl rfl rfl
  have HH : Hid (_) := And.intro hh hts
  clear hh hts c20 f20 c16 f16 c19
  generalize (w.setCell ⟨rb, 20, none⟩ (.int .i64 0)).setCell ⟨rb, 16, none⟩ (.string ⟨m.pd.toArray⟩) = W1 at *
  have hrb : rb < W1.heap.size := blk_lt HH.out.1.blk
  have c18 : W1.cell? ⟨rb, 18, none⟩ = some (.int .i64 (m.pi : Int)) := blk_cell HH.out.1.blk
  have c19 : W1.cell? ⟨rb, 19, none⟩ = some (.string ⟨m.pd.toArray⟩) := blk_cell HH.out.1.blk
  go_region_held3 (fun w' => w'.cell? ⟨rb, 18, none⟩ = some (.int .i64 (m.pi : Int)) ∧ w'.cell? ⟨rb, 19, none⟩ = some (.string ⟨m.pd.toArray⟩)) (first | exact ⟨c18, c19⟩ | assumption | exact ⟨(hbq.cell (p := ⟨rb, 18, none⟩) hrb).trans c18, (hbq.cell (p := ⟨rb, 19, none⟩) hrb).trans c19⟩) ((go_at_call 33; refine (ref_line 2 (m.pi : Int) ⟨m.pd.toArray⟩ _ (by omega) (by omega) (by omega) (by omega) (by rw [bsz]; simp; omega)).mono ?_; rintro e wq ⟨rfl, hbq⟩))
  go_wp2_with fail
  go_ret
  have hbq' : Below W1.heap.size W1 wq := ⟨hbq.os, hbq.tape, hbq.output, hbq.size, hbq.block⟩
  exact ⟨rfl, v, HH.out.1.below hbq', RS.num (HH.out.2.trans (Tch.of_below hbq'))⟩
set_option maxRecDepth 100000 in
set_option maxHeartbeats 2000000 in
theorem act_j {B rb : Nat} {v : RV} {m : RE} (w : World) (h : RI w B rb v m) (ok : m.Ok) :
    Calls Tryz.prog 117 #[.pointer (some ⟨rb, 0, none⟩), .int .u8 106] w fun r w' => r = .returned (.string ⟨(m.act 106).2.toArray⟩) ∧ ∃ v', RI w' B rb v' (m.act 106).1 ∧ RS w w' rb v v' := by
  have H : Hid (RI w B rb v m) := h
  have hpi := ok.pi
  have hpc := ok.pc
  have hpd := ok.pd
  have hod := ok.odd
  have c13 : w.cell? ⟨rb, 13, none⟩ = some (.int .i64 (m.odd : Int)) := blk_cell h.blk
  have f13 : w.frozen? ⟨rb, 13, none⟩ = false := blk_free h.blk
  clear h ok
  go_enter Tryz.func117, Tryz.ntmps117
  go_upto_region 37 with fail
  have e13 : (((m.odd : Int) + 1) % 256) = (((m.odd + 1) % 256 : Nat) : Int) := by omega
  have hts : Tch (fun b => b = rb) w (w.setCell ⟨rb, 13, none⟩ (.int .i64 (((m.odd : Int) + 1) % 256))) := tset _ rb 13 _
  have hbk := blk_set (k := 13) (x := .int .i64 (((m.odd : Int) + 1) % 256)) H.out.blk
  have hh := H.out.num (m' := { m with odd := (m.odd + 1) % 256 }) (by rw [hbk, e13]; rfl) hts rfl rfl rfl
  have HH : Hid (_) := And.intro hh hts
  clear hh hts c13 f13 hbk e13
  generalize w.setCell ⟨rb, 13, none⟩ (.int .i64 (((m.odd : Int) + 1) % 256)) = W1 at *
  have hrb : rb < W1.heap.size := blk_lt HH.out.1.blk
  have c17 : W1.cell? ⟨rb, 17, none⟩ = some (.int .i64 (m.pc : Int)) := blk_cell HH.out.1.blk
  have c18 : W1.cell? ⟨rb, 18, none⟩ = some (.int .i64 (m.pi : Int)) := blk_cell HH.out.1.blk
  have c19 : W1.cell? ⟨rb, 19, none⟩ = some (.string ⟨m.pd.toArray⟩) := blk_cell HH.out.1.blk
  have hcat := fun wx => run_string_add_sum (P := Tryz.prog) wx ((⟨#[UInt8.ofNat m.pc]⟩ : ByteArray) ++ ⟨#[UInt8.ofNat m.pi]⟩) ⟨m.pd.toArray⟩ (by rw [ByteArray.size_append, bsz, bsz, bsz]; simp; omega)
  go_cut [5] (fun x wx => ∃ S : ByteArray, x = .string S ∧ S.data.toList = UInt8.ofNat m.pc :: UInt8.ofNat m.pi :: m.pd ∧ Below W1.heap.size W1 wx)
  case first =>
    go_region_held3 (fun w' => w'.cell? ⟨rb, 17, none⟩ = some (.int .i64 (m.pc : Int)) ∧ w'.cell? ⟨rb, 18, none⟩ = some (.int .i64 (m.pi : Int)) ∧ w'.cell? ⟨rb, 19, none⟩ = some (.string ⟨m.pd.toArray⟩) ∧ Below W1.heap.size W1 w') (first | exact ⟨c17, c18, c19, (Below.refl _ _).drew⟩ | exact ⟨(HBq.cell (p := ⟨rb, 17, none⟩) hrb).trans c17, (HBq.cell (p := ⟨rb, 18, none⟩) hrb).trans c18, (HBq.cell (p := ⟨rb, 19, none⟩) hrb).trans c19, HBq⟩ | assumption) ((go_at_call 48; refine (one_nat _ _ (by omega) (by omega)).mono ?_; rintro e wq ⟨rfl, hbq⟩; have HBq : Below W1.heap.size W1 wq := (by first | exact ((Below.refl W1.heap.size W1).drew).trans (hbq.mono (Nat.le_refl _)) | exact HBq.trans (hbq.mono HBq.size))))
    all_goals
      go_wp2_with fail
      go_meet
      exact ⟨_, rfl, by simp, HBq⟩
  case rest =>
    obtain ⟨S, rfl, hS, hbS⟩ := hcut
    have hSz : S.size = m.pd.length + 2 := by have := congrArg List.length hS; simpa using this
    have hhS := HH.out.1.below hbS
    have d13 : wc.cell? ⟨rb, 13, none⟩ = some (.int .i64 (((m.odd + 1) % 256 : Nat) : Int)) := blk_cell hhS.blk
    have HS : Hid (S.data.toList = UInt8.ofNat m.pc :: UInt8.ofNat m.pi :: m.pd) := hS
    have HHS : Hid (_) := And.intro hhS (HH.out.2.trans (Tch.of_below hbS))
    have hod2 : (m.odd + 1) % 256 < 256 := Nat.mod_lt _ (by decide)
    generalize hO : (m.odd + 1) % 256 = OD at *
    clear hS hhS hbS c17 c18 c19 hcat
    by_cases h40 : 40 < S.size
    · have h40i : (40 : Int) < (S.size : Int) := by omega
      have hTz : (S.extract 0 40).size ≤ 1000 := by rw [ByteArray.size_extract]; omega
      go_wp2_with fail
      refine (ref_line 7 (OD : Int) (S.extract 0 40) _ (by omega) (by omega) (by omega) (by omega) hTz).mono ?_
      rintro e w2 ⟨rfl, hb2⟩
      go_wp2_with fail
      go_ret
      refine ⟨?_, v, ?_, RS.num (HHS.out.2.trans (Tch.of_below hb2))⟩
      · show Ending.returned (.string ⟨(lineL 7 OD (List.take 40 S.data.toList)).toArray⟩) = .returned (.string ⟨(lineL 7 ((m.odd + 1) % 256) ((UInt8.ofNat m.pc :: UInt8.ofNat m.pi :: m.pd).take 40)).toArray⟩)
        rw [HS.out, hO]
      · show RI w2 B rb v { m with odd := (m.odd + 1) % 256 }
        rw [hO]; exact HHS.out.1.below hb2
    · have h40i : ¬ (40 : Int) < (S.size : Int) := by omega
      have hT : S.data.toList = (UInt8.ofNat m.pc :: UInt8.ofNat m.pi :: m.pd).take 40 := by
        rw [← HS.out, List.take_of_length_le]; simp; omega
      have HTT : Hid (_) := hT
      clear hT
      go_wp2_with fail
      refine (ref_line 7 (OD : Int) S _ (by omega) (by omega) (by omega) (by omega) (by omega)).mono ?_
      rintro e w2 ⟨rfl, hb2⟩
      go_wp2_with fail
      go_ret
      refine ⟨?_, v, ?_, RS.num (HHS.out.2.trans (Tch.of_below hb2))⟩
      · show Ending.returned (.string ⟨(lineL 7 OD S.data.toList).toArray⟩) = .returned (.string ⟨(lineL 7 ((m.odd + 1) % 256) ((UInt8.ofNat m.pc :: UInt8.ofNat m.pi :: m.pd).take 40)).toArray⟩)
        rw [HTT.out, hO]
      · show RI w2 B rb v { m with odd := (m.odd + 1) % 256 }
        rw [hO]; exact HHS.out.1.below hb2
end Go.Proofs.YtoeihlgidakjbaaGreatDoor
namespace Go.Proofs.YtoeihlgidakjbaaGreatDoor
open Go.RowKit Go.Lib
set_option maxHeartbeats 1000000 in
theorem within_any (v : Value) (l : List Int) (n : Int) (w : World) (hi : IntsAt w v l) (hl : l.length ≤ 17000000000000) :
    Calls Tryz.prog 154 #[v, .int .i64 n] w fun r w' => r = .returned (.bool (decide (n ∈ l))) ∧ w' = w := by
  obtain ⟨a, cap, g, off, rfl, ha, hc⟩ := hi
  have HA : Hid (0 < l.length → a = some ⟨g, off, none⟩ ∧ g < w.heap.size) := ha
  have HC : Hid (∀ k (h : k < l.length), w.cell? ⟨g, off + k, none⟩ = some (.int .i64 l[k])) := hc
  clear ha hc
  go_enter Tryz.func154, Tryz.ntmps154
  go_wp2_with fail
  go_loopw [5] (fun i wr => ∃ k : Nat, k ≤ l.length ∧ i = .int .i64 (k : Int) ∧ wr = w ∧ Hid (∀ j, j < k → l[j]? ≠ some n)) (fun i _ => l.length - (intOf i).toNat)
  case atStart => exact ⟨0, by omega, rfl, rfl, fun j hj => by omega⟩
  case round =>
    obtain ⟨k, hk, rfl, rfl, HW⟩ := hrel
    by_cases hlt : k < l.length
    · obtain ⟨rfl, _⟩ := HA.out (by omega)
      have hI : (k : Int) < (l.length : Int) := by omega
      have ck := HC.out k hlt
      have HX : Hid (l[k]? = some l[k]) := List.getElem?_eq_getElem hlt
      generalize l[k] = x at *
      by_cases hx : x = n
      · subst hx
        have E : Hid (decide (x ∈ l) = true) := by show _ = _; rw [decide_eq_true (List.mem_of_getElem? HX.out)]
        go_wp2_with fail
        go_ret
        exact ⟨by rw [E.out]; rfl, rfl⟩
      · have hne : (x == n) = false := by simpa using hx
        go_wp2_with fail
        refine ⟨⟨k + 1, by omega, by go_num, trivial, ?_⟩, by simp [intOf]; omega⟩
        intro j hj
        rcases (by omega : j < k ∨ j = k) with h | rfl
        · exact HW.out j h
        · rw [HX.out]; simpa using hx
    · have E : Hid (decide (n ∈ l) = false) := by
        show _ = _
        rw [decide_eq_false]
        intro hm
        obtain ⟨j, hj⟩ := List.getElem?_of_mem hm
        exact HW.out j (by have := (List.getElem?_eq_some_iff.1 hj).1; omega) hj
      go_wp2_with fail
      go_ret
      exact ⟨by rw [E.out]; rfl, rfl⟩
theorem within_nat {B : Nat} (v : Value) (l : List Nat) (n : Nat) (w : World) (h : w.ownsRow B 3 1 v l.length (l.map iv)) (hl : l.length ≤ 17000000000000) :
    Calls Tryz.prog 154 #[v, .int .i64 (n : Int)] w fun r w' => r = .returned (.bool (decide (n ∈ l))) ∧ w' = w := by
  have := within_any v _ (n : Int) w (ints_own h) (by rw [List.length_map]; exact hl)
  have e : decide ((n : Int) ∈ l.map fun (n : Nat) => (n : Int)) = decide (n ∈ l) := decide_eq_decide.2 (mem_ints l n)
  rw [e] at this
  exact this
theorem RI.acc {w : World} {B rb : Nat} {v : RV} {m : RE} (h : RI w B rb v m) (i : Nat) (h1 : 1 ≤ i) (h3 : i ≤ 3) : ∃ va, w.cell? ⟨rb, 3 + (i - 1), none⟩ = some va ∧ w.ownsRow B 3 1 va (m.acc i).length ((m.acc i).map iv) := by
  rcases (by omega : i = 1 ∨ i = 2 ∨ i = 3) with rfl | rfl | rfl
  · exact ⟨v.va0, blk_cell h.blk, h.oc (v.va0, m.a0) (by simp [RE.cfg])⟩
  · exact ⟨v.va1, blk_cell h.blk, h.oc (v.va1, m.a1) (by simp [RE.cfg])⟩
  · exact ⟨v.va2, blk_cell h.blk, h.oc (v.va2, m.a2) (by simp [RE.cfg])⟩
set_option maxRecDepth 100000 in
set_option maxHeartbeats 4000000 in
theorem bad_any {B rb : Nat} {v : RV} {m : RE} (w : World) (h : RI w B rb v m) (vi : Value) (l : List (Nat × Nat)) (hi : ItemsIn w vi l) (hlr : ∀ x ∈ l, 1 ≤ x.1 ∧ x.1 ≤ 4 ∧ x.2 < 65536) (hll : l.length ≤ 1000) (hml : m.mg.length ≤ 17000000000000) (haa : ∀ i, (m.acc i).length ≤ 8) :
    Calls Tryz.prog 153 #[.pointer (some ⟨rb, 0, none⟩), vi] w fun r w' => ∃ vo, r = .returned (.tuple #[vo, .bool (m.ownF l)]) ∧ w'.ownsRow w.heap.size 151 2 vo (m.bad l).length (itemC (m.bad l)) ∧ Below w.heap.size w w' := by
  obtain ⟨i0, hinf, hz0, hz1, hz2⟩ := info_parts Tryz.infoT
  obtain ⟨a, cap, g, rfl, ha, hc⟩ := hi
  have H : Hid (RI w B rb v m) := h
  have HA : Hid (0 < l.length → a = some ⟨g, 0, none⟩ ∧ g < w.heap.size) := ha
  have HC : Hid (∀ k (h : k < l.length), w.cell? ⟨g, k * 2, none⟩ = some (.int .i64 ((l[k]).1 : Int)) ∧ w.cell? ⟨g, k * 2 + 1, none⟩ = some (.int .i64 ((l[k]).2 : Int))) := hc
  have HR : Hid (∀ x ∈ l, 1 ≤ x.1 ∧ x.1 ≤ 4 ∧ x.2 < 65536) := hlr
  have hrb : rb < w.heap.size := blk_lt h.blk
  clear h ha hc hlr
  go_enter Tryz.func153, Tryz.ntmps153
  go_wp2_with fail
  go_loopw [6, 7, 8] (fun vo ow i wr => ∃ (k : Nat) (ao : Option Addr) (co : Nat) (q : Nat), k ≤ l.length ∧ q ≤ k ∧ vo = .slice ao q co ∧ ow = .bool (m.ownF (l.take k)) ∧ i = .int .i64 k ∧ Hid (q = (m.bad (l.take k)).length ∧ wr.ownsRow w.heap.size 151 2 (.slice ao q co) q (itemC (m.bad (l.take k))) ∧ Below w.heap.size w wr)) (fun _ _ i _ => l.length - (intOf i).toNat)
  case atStart => exact ⟨0, none, 0, 0, by omega, by omega, rfl, rfl, rfl, rfl, World.ownsRow_nil _ _ _ _, Below.refl _ _⟩
  case round =>
    obtain ⟨k, ao, co, q, hk, hqk, rfl, rfl, rfl, HW⟩ := hrel
    by_cases hlt : k < l.length
    · obtain ⟨rfl, hg⟩ := HA.out (by omega)
      have hI : (k : Int) < (l.length : Int) := by omega
      obtain ⟨hx1, hx4, hy⟩ := HR.out _ (List.getElem_mem hlt)
      have c0 := (HW.out.2.2.cell (p := ⟨g, k * 2, none⟩) hg).trans (HC.out k hlt).1
      have c1 := (HW.out.2.2.cell (p := ⟨g, k * 2 + 1, none⟩) hg).trans (HC.out k hlt).2
      have HT : Hid (l.take (k + 1) = l.take k ++ [((l[k]).1, (l[k]).2)]) := by
        show _ = _
        rw [List.take_add_one, List.getElem?_eq_getElem hlt]; rfl
      generalize hX : (l[k]).1 = X at *
      generalize hY : (l[k]).2 = Y at *
      clear hX hY
      have hri := H.out.below HW.out.2.2
      have HB1 : Hid (m.bad (l.take (k + 1)) = m.bad (l.take k) ++ (if m.isBad (X, Y) then [(X, Y)] else []) ∧ m.ownF (l.take (k + 1)) = if X = 4 then decide (Y ∈ m.mg) else m.ownF (l.take k)) := by
        refine ⟨?_, ?_⟩
        · rw [HT.out]; exact m.bad_snoc _ _
        · rw [HT.out]; exact m.ownF_snoc _ _
      have bA : Below wr.heap.size wr (wr.alloc (.cells #[.int .i64 (X : Int), .int .i64 (Y : Int)] 151)) := (Below.refl _ _).alloc (Nat.le_refl _) _
      have hriA := hri.below bA
      have hzr : rb < (wr.alloc (.cells #[.int .i64 (X : Int), .int .i64 (Y : Int)] 151)).heap.size := blk_lt hriA.blk
      have k0 : (wr.alloc (.cells #[.int .i64 (X : Int), .int .i64 (Y : Int)] 151)).cell? ⟨wr.heap.size, 0, none⟩ = some (.int .i64 (X : Int)) := by simp
      have k1 : (wr.alloc (.cells #[.int .i64 (X : Int), .int .i64 (Y : Int)] 151)).cell? ⟨wr.heap.size, 1, none⟩ = some (.int .i64 (Y : Int)) := by simp
      have HRA : Hid (RI (wr.alloc (.cells #[.int .i64 (X : Int), .int .i64 (Y : Int)] 151)) B rb v m ∧ (wr.alloc (.cells #[.int .i64 (X : Int), .int .i64 (Y : Int)] 151)).ownsRow w.heap.size 151 2 (.slice ao q co) q (itemC (m.bad (l.take k))) ∧ Below w.heap.size w (wr.alloc (.cells #[.int .i64 (X : Int), .int .i64 (Y : Int)] 151)) ∧ q = (m.bad (l.take k)).length) := ⟨hriA, HW.out.2.1.alloc _, HW.out.2.2.trans (bA.mono HW.out.2.2.size), HW.out.1⟩
      by_cases h4 : X = 4
      · have h4i : ((X : Int) == 4) = true := by simp; omega
        obtain ⟨a2, cap2, g2, hv2, _, _, _⟩ := own_shape hriA.om
        have c28 : (wr.alloc (.cells #[.int .i64 (X : Int), .int .i64 (Y : Int)] 151)).cell? ⟨rb, 28, none⟩ = some v.vm := blk_cell hriA.blk
        have H4 : Hid (X = 4) := h4
        clear hri hriA bA hv2 HW h4
        go_upto_region 8 with fail
        generalize wr.alloc (.cells #[.int .i64 (X : Int), .int .i64 (Y : Int)] 151) = WA at *
        have OM : Hid (WA.ownsRow B 3 1 v.vm m.mg.length (m.mg.map iv)) := HRA.out.1.om
        go_cut [7] (fun x wx => x = .bool (decide (Y ∈ m.mg)) ∧ ∃ n, wx = WA.drewN n)
        case first =>
          go_region_held3 (fun w' => w'.cell? ⟨rb, 28, none⟩ = some v.vm ∧ w'.cell? ⟨wr.heap.size, 1, none⟩ = some (.int .i64 (Y : Int))) (first | exact ⟨c28, k1⟩ | assumption) ((go_at_call 154; refine (within_nat v.vm m.mg Y _ OM.out.drew hml).mono ?_; rintro e wq ⟨rfl, rfl⟩))
          go_wp2_with fail
          go_meet
          exact ⟨rfl, 1, rfl⟩
        case rest =>
          obtain ⟨rfl, nd, rfl⟩ := hcut
          have bD : Below WA.heap.size WA (WA.drewN nd) := below_drewN (Below.refl _ _) nd
          have HRB : Hid ((WA.drewN nd).ownsRow w.heap.size 151 2 (.slice ao q co) q (itemC (m.bad (l.take k))) ∧ Below w.heap.size w (WA.drewN nd) ∧ q = (m.bad (l.take k)).length) := ⟨owns_below HRA.out.2.1 bD, HRA.out.2.2.1.trans (bD.mono HRA.out.2.2.1.size), HRA.out.2.2.2⟩
          have y0 : (WA.drewN nd).cell? ⟨wr.heap.size, 0, none⟩ = some (.int .i64 (X : Int)) := k0
          have y1 : (WA.drewN nd).cell? ⟨wr.heap.size, 1, none⟩ = some (.int .i64 (Y : Int)) := k1
          clear bD k0 k1 c28 OM HRA
          have hBd := HRB.out.2.1.size
          generalize WA.drewN nd = wc at *
          by_cases hm : Y ∈ m.mg
          · have OWE : (if X = 4 then decide (Y ∈ m.mg) else m.ownF (l.take k)) = decide (Y ∈ m.mg) := by rw [if_pos H4.out]
            have BDE : (if m.isBad (X, Y) then [(X, Y)] else []) = [(X, Y)] := by
              have : m.isBad (X, Y) = true := by unfold RE.isBad; rw [if_pos H4.out]; exact decide_eq_true hm
              rw [this]; rfl
            have hdm : decide (Y ∈ m.mg) = true := decide_eq_true hm
            rw [hdm]
            have OWH : Hid (_) := OWE.trans hdm
            have BDH : Hid (_) := BDE
            clear OWE BDE hm hdm
            go_wp2_with (at_builtin; go_must (refine wpList_append_lies _ rfl (.tmp 32) (.tmp 34) 145 rfl w.heap.size 151 i0 (.agg #[.int .i64 0, .int .i64 0]) 2 16 Tryz.underlying145 hinf hz0 hz1 hz2 rfl (by decide) _ q (itemC (m.bad (l.take k))) rfl (HRB.out.1.alloc _) ⟨wc.heap.size, 0, none⟩ 1 1 [.int .i64 (X : Int), .int .i64 (Y : Int)] rfl rfl (news2 _ _ _ _) (by intro u hu; simp at hu; rcases hu with rfl | rfl <;> rfl) (by omega) (by unfold maxLen; omega) (by omega) (by simp; omega) _ rfl ?_; intro gv capv w1 hown1 hgrow1 hat1 hlt1))
            refine ⟨⟨k + 1, _, _, q + 1, by omega, by omega, rfl, ?_, by go_num, ?_, ?_, below_own HRB.out.2.1 HRB.out.2.1.size HRB.out.1 _ hgrow1⟩, by simp [intOf]; omega⟩
            · rw [HB1.out.2, OWH.out]
            · rw [HB1.out.1, BDH.out]; simp [HRB.out.2.2]
            · rw [HB1.out.1, BDH.out]
              have e : itemC (m.bad (l.take k) ++ [(X, Y)]) = itemC (m.bad (l.take k)) ++ [.int .i64 (X : Int), .int .i64 (Y : Int)] := by simp [itemC]
              rw [e]; exact hown1
          · have OWE : (if X = 4 then decide (Y ∈ m.mg) else m.ownF (l.take k)) = decide (Y ∈ m.mg) := by rw [if_pos H4.out]
            have BDE : (if m.isBad (X, Y) then [(X, Y)] else []) = [] := by
              have : m.isBad (X, Y) = false := by unfold RE.isBad; rw [if_pos H4.out]; exact decide_eq_false hm
              rw [this]; rfl
            have hdm : decide (Y ∈ m.mg) = false := decide_eq_false hm
            rw [hdm]
            have OWH : Hid (_) := OWE.trans hdm
            have BDH : Hid (_) := BDE
            clear OWE BDE hm hdm
            go_wp2_with fail
            refine ⟨⟨k + 1, ao, co, q, by omega, by omega, rfl, ?_, by go_num, ?_, ?_, HRB.out.2.1⟩, by simp [intOf]; omega⟩
            · rw [HB1.out.2, OWH.out]
            · rw [HB1.out.1, BDH.out, List.append_nil]; exact HRB.out.2.2
            · rw [HB1.out.1, BDH.out, List.append_nil]; exact HRB.out.1
      · obtain ⟨j, rfl⟩ : ∃ j, X = j + 1 := ⟨X - 1, by omega⟩
        have h4i : (((j + 1 : Nat) : Int) == 4) = false := by simp; omega
        have h4j : (((j : Int) + 1) == 4) = false := by simp; omega
        obtain ⟨va, c3, ova⟩ := hriA.acc (j + 1) hx1 (by omega)
        rw [Nat.add_sub_cancel] at c3
        have hal := haa (j + 1)
        have hX1 : IntKind.i64.wrap (((j + 1 : Nat) : Int) - 1) = (j : Int) := by rw [wrap_in (by omega) (by omega)]; omega
        have hX2 : IntKind.i64.wrap ((j : Int) + 1 - 1) = (j : Int) := by rw [wrap_in (by omega) (by omega)]; omega
        have hX3 : IntKind.i64.wrap (j : Int) = (j : Int) := wrap_in (by omega) (by omega)
        have hX4 : (j : Int) < 3 := by omega
        have H4 : Hid (¬ j + 1 = 4) := h4
        have ej : ((j + 1 : Nat) : Int) = (j : Int) + 1 := by omega
        rw [ej] at c0 k0 k1 HRA c3 ova
        have EJ : Hid (((j + 1 : Nat) : Int) = (j : Int) + 1) := ej
        clear ej hX1 h4i
        clear hri hriA bA HW h4
        go_upto_region 11 with fail
        generalize wr.alloc (.cells #[.int .i64 ((j : Int) + 1), .int .i64 (Y : Int)] 151) = WA at *
        have OM : Hid (WA.ownsRow B 3 1 va (m.acc (j + 1)).length ((m.acc (j + 1)).map iv)) := ova
        clear ova
        go_cut [10] (fun x wx => x = .bool (decide (Y ∈ m.acc (j + 1))) ∧ ∃ n, wx = WA.drewN n)
        case first =>
          go_region_held3 (fun w' => w'.cell? ⟨rb, 3 + j, none⟩ = some va ∧ w'.cell? ⟨wr.heap.size, 0, none⟩ = some (.int .i64 ((j : Int) + 1)) ∧ w'.cell? ⟨wr.heap.size, 1, none⟩ = some (.int .i64 (Y : Int))) (first | exact ⟨c3, k0, k1⟩ | assumption) ((go_at_call 154; refine (within_nat va (m.acc (j + 1)) Y _ OM.out.drew (by omega)).mono ?_; rintro e wq ⟨rfl, rfl⟩))
          go_wp2_with fail
          go_meet
          exact ⟨rfl, 1, rfl⟩
        case rest =>
          obtain ⟨rfl, nd, rfl⟩ := hcut
          have bD : Below WA.heap.size WA (WA.drewN nd) := below_drewN (Below.refl _ _) nd
          have HRB : Hid ((WA.drewN nd).ownsRow w.heap.size 151 2 (.slice ao q co) q (itemC (m.bad (l.take k))) ∧ Below w.heap.size w (WA.drewN nd) ∧ q = (m.bad (l.take k)).length) := ⟨owns_below HRA.out.2.1 bD, HRA.out.2.2.1.trans (bD.mono HRA.out.2.2.1.size), HRA.out.2.2.2⟩
          have y0 : (WA.drewN nd).cell? ⟨wr.heap.size, 0, none⟩ = some (.int .i64 ((j : Int) + 1)) := k0
          have y1 : (WA.drewN nd).cell? ⟨wr.heap.size, 1, none⟩ = some (.int .i64 (Y : Int)) := k1
          clear bD k0 k1 c3 OM HRA hX2 hX3 hX4
          have hBd := HRB.out.2.1.size
          generalize WA.drewN nd = wc at *
          by_cases hm : Y ∈ m.acc (j + 1)
          · have OWE : (if j + 1 = 4 then decide (Y ∈ m.mg) else m.ownF (l.take k)) = m.ownF (l.take k) := by rw [if_neg H4.out]
            have BDE : (if m.isBad (j + 1, Y) then [(j + 1, Y)] else []) = [] := by
              have : m.isBad (j + 1, Y) = false := by unfold RE.isBad; rw [if_neg H4.out]; simp only; rw [decide_eq_true hm]; rfl
              rw [this]; rfl
            have hdm : decide (Y ∈ m.acc (j + 1)) = true := decide_eq_true hm
            rw [hdm]
            have OWH : Hid (_) := OWE
            have BDH : Hid (_) := BDE
            clear OWE BDE hm hdm
            go_wp2_with fail
            refine ⟨⟨k + 1, ao, co, q, by omega, by omega, rfl, ?_, by go_num, ?_, ?_, HRB.out.2.1⟩, by simp [intOf]; omega⟩
            · rw [HB1.out.2, OWH.out]
            · rw [HB1.out.1, BDH.out, List.append_nil]; exact HRB.out.2.2
            · rw [HB1.out.1, BDH.out, List.append_nil]; exact HRB.out.1
          · have OWE : (if j + 1 = 4 then decide (Y ∈ m.mg) else m.ownF (l.take k)) = m.ownF (l.take k) := by rw [if_neg H4.out]
            have BDE : (if m.isBad (j + 1, Y) then [(j + 1, Y)] else []) = [(j + 1, Y)] := by
              have : m.isBad (j + 1, Y) = true := by unfold RE.isBad; rw [if_neg H4.out]; simp only; rw [decide_eq_false hm]; rfl
              rw [this]; rfl
            have hdm : decide (Y ∈ m.acc (j + 1)) = false := decide_eq_false hm
            rw [hdm]
            have OWH : Hid (_) := OWE
            have BDH : Hid (_) := BDE
            clear OWE BDE hm hdm
            go_wp2_with (at_builtin; go_must (refine wpList_append_lies _ rfl (.tmp 50) (.tmp 52) 145 rfl w.heap.size 151 i0 (.agg #[.int .i64 0, .int .i64 0]) 2 16 Tryz.underlying145 hinf hz0 hz1 hz2 rfl (by decide) _ q (itemC (m.bad (l.take k))) rfl (HRB.out.1.alloc _) ⟨wc.heap.size, 0, none⟩ 1 1 [.int .i64 ((j : Int) + 1), .int .i64 (Y : Int)] rfl rfl (news2 _ _ _ _) (by intro u hu; simp at hu; rcases hu with rfl | rfl <;> rfl) (by omega) (by unfold maxLen; omega) (by omega) (by simp; omega) _ rfl ?_; intro gv capv w1 hown1 hgrow1 hat1 hlt1))
            refine ⟨⟨k + 1, _, _, q + 1, by omega, by omega, rfl, ?_, by go_num, ?_, ?_, below_own HRB.out.2.1 HRB.out.2.1.size HRB.out.1 _ hgrow1⟩, by simp [intOf]; omega⟩
            · rw [HB1.out.2, OWH.out]
            · rw [HB1.out.1, BDH.out]; simp [HRB.out.2.2]
            · rw [HB1.out.1, BDH.out]
              have e : itemC (m.bad (l.take k) ++ [(j + 1, Y)]) = itemC (m.bad (l.take k)) ++ [.int .i64 ((j : Int) + 1), .int .i64 (Y : Int)] := by simp [itemC, EJ.out]
              rw [e]; exact hown1
    · have ht : l.take k = l := List.take_of_length_le (by omega)
      have HF : Hid (m.ownF (l.take k) = m.ownF l ∧ (w.heap.size = w.heap.size)) := ⟨by rw [ht], rfl⟩
      have HO : Hid (wr.ownsRow w.heap.size 151 2 (.slice ao q co) (m.bad l).length (itemC (m.bad l)) ∧ Below w.heap.size w wr) := by
        have h1 := HW.out
        rw [ht] at h1
        refine ⟨?_, h1.2.2⟩
        rw [← h1.1]; exact h1.2.1
      have hnI : ¬ (k : Int) < (l.length : Int) := by omega
      generalize m.ownF (l.take k) = OW at *
      clear HW ht
      go_wp2_with fail
      go_ret2
      exact ⟨_, by rw [← HF.out.1]; rfl, HO.out⟩
end Go.Proofs.YtoeihlgidakjbaaGreatDoor

/- The reference's request. The reference's act: what is told, counter and timer, Requests and Ends. -/
import Derived.Test.YtoeihlgidakjbaaGreatDoorEa11
namespace Go.Proofs.YtoeihlgidakjbaaGreatDoor
open Go.RowKit Go.Lib
theorem Tryz.infoT : (Tryz.prog.info? 151).map (fun i => (i.zero, i.size, i.bytes)) = some (some (.agg #[.int .i64 0, .int .i64 0]), 2, 16) := by kernel_rfl
theorem RE.asks_get (m : RE) (k : Nat) (h : k < 3) : ∃ n, (m.asks.take (k + 1)) = m.asks.take k ++ [(k + 1, n)] ∧ (∀ v, (m.cell v)[22 + k]? = some (iv n)) ∧ (m.Ok → n < 256) := by
  rcases (by omega : k = 0 ∨ k = 1 ∨ k = 2) with rfl | rfl | rfl
  · exact ⟨m.k0, rfl, fun v => rfl, fun h => h.k0⟩
  · exact ⟨m.k1, rfl, fun v => rfl, fun h => h.k1⟩
  · exact ⟨m.k2, rfl, fun v => rfl, fun h => h.k2⟩
theorem ref_line (code id : Int) (s : ByteArray) (w : World) (h1 : 0 ≤ code) (h2 : code < 256) (h3 : 0 ≤ id) (h4 : id < 256) (hs : s.size ≤ 1000) :
    Calls Tryz.prog 33 #[.agg #[.int .i64 code, .int .i64 id, .string s]] w fun e w' => e = .returned (.string ⟨(lineL code.toNat id.toNat s.data.toList).toArray⟩) ∧ Below w.heap.size w w' := by
  have e1 : ((UInt8.ofNat code.toNat).toNat : Int) = code := by rw [byte_of _ (by omega)]; omega
  have e2 : ((UInt8.ofNat id.toNat).toNat : Int) = id := by rw [byte_of _ (by omega)]; omega
  have := line_any (UInt8.ofNat code.toNat) (UInt8.ofNat id.toNat) s w (by omega)
  rw [e1, e2] at this
  exact this
set_option maxRecDepth 100000 in
set_option maxHeartbeats 2000000 in
theorem request_any {B rb : Nat} {v : RV} {m : RE} (w : World) (h : RI w B rb v m) (ok : m.Ok) (hml : m.mg.length ≤ 17000000000000) :
    Calls Tryz.prog 151 #[.pointer (some ⟨rb, 0, none⟩)] w fun r w' => r = .returned (.string ⟨m.request.2.toArray⟩) ∧ RI w' B rb v m.request.1 ∧ Tch (fun b => b = rb) w w' := by
  obtain ⟨i0, hi, hz0, hz1, hz2⟩ := info_parts Tryz.infoT
  have H : Hid (RI w B rb v m) := h
  have OK : Hid (m.Ok) := ok
  have hrb := blk_lt h.blk
  have hid := ok.id
  clear h ok
  go_enter Tryz.func151, Tryz.ntmps151
  go_wp2_with fail
  go_loopw [3, 4] (fun v i wr => ∃ (k : Nat) (a : Option Addr) (cap : Nat), k ≤ 3 ∧ v = .slice a k cap ∧ i = .int .i64 k ∧ Hid (wr.ownsRow w.heap.size 151 2 v k (itemC (m.asks.take k)) ∧ Below w.heap.size w wr)) (fun _ i _ => 3 - (intOf i).toNat)
  case atStart => exact ⟨0, none, 0, by omega, rfl, rfl, World.ownsRow_nil _ _ _ _, Below.refl _ _⟩
  case round =>
    obtain ⟨k, a, cap, hk, rfl, rfl, HW⟩ := hrel
    by_cases hlt : k < 3
    · have hI : (k : Int) < 3 := by omega
      obtain ⟨n, hn1, hn2, hn3⟩ := m.asks_get k hlt
      have hn3 := hn3 OK.out
      have c0 : wr.cell? ⟨rb, 22 + k, none⟩ = some (.int .i64 (n : Int)) := (HW.out.2.cell (p := ⟨rb, 22 + k, none⟩) hrb).trans ((blk_cell H.out.blk).trans (hn2 v))
      have hsz := HW.out.2.size
      have HN : Hid (m.asks.take (k + 1) = m.asks.take k ++ [(k + 1, n)]) := hn1
      clear hn1 hn2
      have HO : Hid (wr.ownsRow w.heap.size 151 2 (.slice a k cap) k (itemC (m.asks.take k))) := HW.out.1
      have hB := HW.out.2.size
      go_wp2_with (at_builtin; go_must (refine wpList_append_lies _ rfl (.tmp 9) (.tmp 19) 145 rfl w.heap.size 151 i0 (.agg #[.int .i64 0, .int .i64 0]) 2 16 Tryz.underlying145 hi hz0 hz1 hz2 rfl (by decide) _ k (itemC (m.asks.take k)) rfl (HO.out.alloc _) ⟨wr.heap.size, 0, none⟩ 1 1 [.int .i64 ((k : Int) + 1), .int .i64 (n : Int)] rfl rfl (news2 _ _ _ _) (by intro u hu; simp at hu; rcases hu with rfl | rfl <;> rfl) (by omega) (by unfold maxLen; omega) (by omega) (by simp; omega) _ rfl ?_; intro gv capv w1 hown1 hgrow1 hat1 hlt1))
      refine ⟨⟨k + 1, _, _, by omega, rfl, by go_num, ?_, ?_⟩, by simp [intOf]; omega⟩
      · rw [HN.out]
        have e : itemC (m.asks.take k ++ [(k + 1, n)]) = itemC (m.asks.take k) ++ [.int .i64 ((k : Int) + 1), .int .i64 (n : Int)] := by simp [itemC]
        rw [e]; exact hown1
      · exact below_own HW.out.2 HW.out.2.size HO.out _ hgrow1
    · have hk3 : k = 3 := by omega
      subst hk3
      obtain ⟨q, hq, hq1, hqm, hml2⟩ := OK.out.mag
      obtain ⟨a2, cap2, g2, hv2, ha2, _, hc2⟩ := own_shape H.out.om
      obtain rfl := ha2 (by omega)
      have cq := hc2 q hq
      rw [List.getElem?_map, List.getElem?_eq_getElem hq, hqm] at cq
      rw [← hq1] at hv2
      have hg2 : g2 < w.heap.size := (H.out.om.lt g2 (by rw [hv2]; rfl)).2
      have c28 : wr.cell? ⟨rb, 28, none⟩ = some (.slice (some ⟨g2, 0, none⟩) (q + 1) cap2) := (HW.out.2.cell (p := ⟨rb, 28, none⟩) hrb).trans ((blk_cell H.out.blk).trans (by rw [← hv2]; rfl))
      have cq' : wr.cell? ⟨g2, q, none⟩ = some (.int .i64 (m.mag : Int)) := (HW.out.2.cell (p := ⟨g2, q, none⟩) hg2).trans cq
      have HO : Hid (wr.ownsRow w.heap.size 151 2 (.slice a 3 cap) 3 (itemC (m.asks.take 3))) := HW.out.1
      have hB := HW.out.2.size
      have HBW : Hid (Below w.heap.size w wr) := HW.out.2
      have hw1 : IntKind.i64.wrap (((q + 1 : Nat) : Int) - 1) = (q : Int) := by rw [wrap_in (by omega) (by omega)]; omega
      have hw2 : IntKind.i64.wrap ((q : Int) + 1 - 1) = (q : Int) := by rw [wrap_in (by omega) (by omega)]; omega
      have hw3 : IntKind.i64.wrap (q : Int) = (q : Int) := wrap_in (by omega) (by omega)
      have hw4 : (q : Int) < (q : Int) + 1 := by omega
      have hrw : rb < wr.heap.size := Nat.lt_of_lt_of_le hrb hB
      have hgw : g2 < wr.heap.size := Nat.lt_of_lt_of_le hg2 hB
      have hnr : ∀ b, b < w.heap.size → ¬ (Value.slice a 3 cap).ownBlock = some b := fun b hb x => by have := (HO.out.lt b x).1; omega
      have HNR : Hid (_) := hnr
      clear hv2 cq hc2 ha2 HW hqm hq hq1 hml hnr
      go_upto_region 6 with fail
      go_cut [3] (fun x wx => ∃ a cap, x = .slice a 4 cap ∧ wx.ownsRow w.heap.size 151 2 (.slice a 4 cap) 4 (itemC m.asks) ∧ Below w.heap.size w wx)
      case first =>
        go_region_held_law (fun w' => w'.cell? ⟨rb, 28, none⟩ = some (.slice (some ⟨g2, 0, none⟩) (q + 1) cap2) ∧ w'.cell? ⟨g2, q, none⟩ = some (.int .i64 (m.mag : Int))) (first | exact ⟨c28, cq'⟩ | assumption | exact ⟨(World.cell?_alloc_lt wr _ ⟨rb, 28, none⟩ hrw).trans c28, (World.cell?_alloc_lt wr _ ⟨g2, q, none⟩ hgw).trans cq'⟩) ((refine step_append_lies _ (by rfl) (.tmp 21) (.tmp 35) 145 (by rfl) w.heap.size 151 i0 (.agg #[.int .i64 0, .int .i64 0]) 2 16 Tryz.underlying145 hi hz0 hz1 hz2 (by rfl) (by decide) _ 3 (itemC (m.asks.take 3)) (by rfl) (HO.out.alloc _).drew ⟨wr.heap.size, 0, none⟩ 1 1 [.int .i64 4, .int .i64 (m.mag : Int)] (by rfl) (by rfl) (news2 _ _ _ _) (by intro u hu; simp at hu; rcases hu with rfl | rfl <;> rfl) (by omega) (by unfold maxLen; omega) (by omega) (by simp; omega) (wr.heap.size + 1) (by simp) ?_; intro gv capv w1 hown1 hgrow1 hat1 hlt1; have ht1 := tch_grownD (W0 := wr) hgrow1; have hS : w1.cell? ⟨rb, 28, none⟩ = some (.slice (some ⟨g2, 0, none⟩) (q + 1) cap2) ∧ w1.cell? ⟨g2, q, none⟩ = some (.int .i64 (m.mag : Int)) := ⟨(World.cell?_of_block (w := wr) (a := ⟨rb, 28, none⟩) (ht1.block rb hrw (HNR.out rb hrb))).trans c28, (World.cell?_of_block (w := wr) (a := ⟨g2, q, none⟩) (ht1.block g2 hgw (HNR.out g2 hg2))).trans cq'⟩))
        simp only [List.getElem_toArray, List.getElem_cons_succ, List.getElem_cons_zero, List.set_cons_succ, List.set_cons_zero, List.setIfInBounds_toArray]
        go_wp2_with fail
        go_meet
        have e4 : itemC m.asks = itemC (m.asks.take 3) ++ [.int .i64 4, .int .i64 (m.mag : Int)] := by simp [itemC, RE.asks]
        refine ⟨_, _, rfl, ?_, ?_⟩
        · rw [e4]; exact hown1
        · exact HBW.out.trans (ht1.below hB (fun k hk => (HO.out.lt k hk).1))
      case rest =>
        obtain ⟨a3, cap3, rfl, hown3, hb3⟩ := hcut
        clear c28 cq' HO hB HBW hw1 hw2 hw3 hw4 hrw hgw HNR
        have h3 := H.out.below hb3
        have c12 : wc.cell? ⟨rb, 12, none⟩ = some (.int .i64 (m.id : Int)) := blk_cell h3.blk
        have f12 : wc.frozen? ⟨rb, 12, none⟩ = false := blk_free h3.blk
        have H3 : Hid (RI wc B rb v m) := h3
        clear h3
        go_wp2_with fail
        have hok : ∀ x ∈ m.asks, x.1 < 256 ∧ x.2 < 65536 := asks_ok OK.out
        have ht7 : Tch (fun b => b = rb) wc (wc.setCell ⟨rb, 12, none⟩ (.int .i64 (((m.id : Int) + 1) % 256))) := Tch.set _ wc ⟨rb, 12, none⟩ _ rfl
        have hne3 : ∀ b, (Value.slice a3 4 cap3).ownBlock = some b → ¬ b = rb := fun b hb e => by have := (hown3.lt b hb).1; omega
        have hi7 := itemsIn_own (l := m.asks) (owns_tch hown3 ht7 hne3)
        have b7 := blk_set (k := 12) (x := .int .i64 (((m.id : Int) + 1) % 256)) H3.out.blk
        have HT7 : Hid (Tch (fun b => b = rb) w _) := (Tch.of_below hb3).trans ht7
        have hrb7 : rb < (wc.setCell ⟨rb, 12, none⟩ (.int .i64 (((m.id : Int) + 1) % 256))).heap.size := blk_lt b7
        clear c12 f12 ht7 hown3 hne3 H3 hb3
        generalize wc.setCell ⟨rb, 12, none⟩ (.int .i64 (((m.id : Int) + 1) % 256)) = W7 at *
        refine (data_any _ m.asks W7 hi7 hok (by simp [RE.asks])).mono ?_
        rintro e w8 ⟨rfl, hb8⟩
        have b8 := (hb8.block rb hrb7).trans b7
        have c14 : w8.cell? ⟨rb, 14, none⟩ = some (.string ⟨m.sent.toArray⟩) := blk_cell b8
        have f14 : w8.frozen? ⟨rb, 14, none⟩ = false := blk_free b8
        have c12 : w8.cell? ⟨rb, 12, none⟩ = some (.int .i64 (((m.id : Int) + 1) % 256)) := blk_cell b8
        have c15 : w8.cell? ⟨rb, 15, none⟩ = some (.int .i64 m.sid) := blk_cell b8
        have f15 : w8.frozen? ⟨rb, 15, none⟩ = false := blk_free b8
        have B8 : Hid (_) := b8
        have HT8 : Hid (_) := HT7.out.trans (Tch.of_below hb8)
        clear b8 hb8 b7 hi7 HT7
        go_wp2_with fail
        have b9 := blk_set (k := 15) (x := .int .i64 (((m.id : Int) + 1) % 256)) (blk_set (k := 14) (x := .string ⟨(dataL m.asks).toArray⟩) B8.out)
        have HT9 : Hid (Tch (fun b => b = rb) w _) := (HT8.out.trans (Tch.set _ w8 ⟨rb, 14, none⟩ (.string ⟨(dataL m.asks).toArray⟩) rfl)).trans (Tch.set _ _ ⟨rb, 15, none⟩ (.int .i64 (((m.id : Int) + 1) % 256)) rfl)
        clear c12 c14 c15 f14 f15 HT8 B8
        generalize (w8.setCell ⟨rb, 14, none⟩ (.string ⟨(dataL m.asks).toArray⟩)).setCell ⟨rb, 15, none⟩ (.int .i64 (((m.id : Int) + 1) % 256)) = W9 at *
        have d12 : W9.cell? ⟨rb, 12, none⟩ = some (.int .i64 (((m.id : Int) + 1) % 256)) := blk_cell b9
        have d14 : W9.cell? ⟨rb, 14, none⟩ = some (.string ⟨(dataL m.asks).toArray⟩) := blk_cell b9
        have hr9 : rb < W9.heap.size := blk_lt b9
        have B9 : Hid (_) := b9
        clear b9
        go_region_held3 (fun w' => w'.cell? ⟨rb, 12, none⟩ = some (.int .i64 (((m.id : Int) + 1) % 256)) ∧ w'.cell? ⟨rb, 14, none⟩ = some (.string ⟨(dataL m.asks).toArray⟩)) (first | exact ⟨d12, d14⟩ | assumption | exact ⟨(hbq.cell (p := ⟨rb, 12, none⟩) hr9).trans d12, (hbq.cell (p := ⟨rb, 14, none⟩) hr9).trans d14⟩) ((go_at_call 33; refine (ref_line 1 (((m.id : Int) + 1) % 256) ⟨(dataL m.asks).toArray⟩ _ (by omega) (by omega) (by omega) (by omega) (by rw [bsz]; simp [dataL_len, RE.asks])).mono ?_; rintro e wq ⟨rfl, hbq⟩))
        go_wp2_with fail
        go_ret
        have e12 : (((m.id : Int) + 1) % 256) = (((m.id + 1) % 256 : Nat) : Int) := by omega
        have hbq' : Below W9.heap.size W9 wq := ⟨hbq.os, hbq.tape, hbq.output, hbq.size, hbq.block⟩
        have b10 := (hbq'.block rb hr9).trans B9.out
        rw [e12] at b10
        refine ⟨?_, H.out.num b10 (HT9.out.trans (Tch.of_below hbq')) rfl rfl rfl, HT9.out.trans (Tch.of_below hbq')⟩
        rw [e12]; rfl
end Go.Proofs.YtoeihlgidakjbaaGreatDoor
namespace Go.Proofs.YtoeihlgidakjbaaGreatDoor
open Go.RowKit Go.Lib
structure RS (w w' : World) (rb : Nat) (v v' : RV) : Prop where
  t : Tch (v.in_ rb) w w'
  c : v'.vw0 = v.vw0 ∧ v'.vw1 = v.vw1 ∧ v'.vw2 = v.vw2 ∧ v'.va0 = v.va0 ∧ v'.va1 = v.va1 ∧ v'.va2 = v.va2
  i : ∀ b, v'.in_ rb b → v.in_ rb b ∨ w.heap.size ≤ b
theorem RS.refl (w : World) (rb : Nat) (v : RV) : RS w w rb v v := ⟨Tch.refl _ _, ⟨rfl, rfl, rfl, rfl, rfl, rfl⟩, fun _ h => .inl h⟩
theorem RS.trans {w w1 w2 : World} {rb : Nat} {v v1 v2 : RV} (h : RS w w1 rb v v1) (k : RS w1 w2 rb v1 v2) : RS w w2 rb v v2 := by
  refine ⟨Tch.restrict ((h.t.mono (fun _ x => .inl x)).trans (k.t.mono (fun b x => h.i b x))), ?_, fun b hb => ?_⟩
  · obtain ⟨c0, c1, c2, c3, c4, c5⟩ := h.c
    obtain ⟨d0, d1, d2, d3, d4, d5⟩ := k.c
    exact ⟨d0.trans c0, d1.trans c1, d2.trans c2, d3.trans c3, d4.trans c4, d5.trans c5⟩
  · rcases k.i b hb with x | x
    · exact h.i b x
    · exact .inr (Nat.le_trans h.t.size x)
theorem RS.num {w w' : World} {rb : Nat} {v : RV} (h : Tch (fun b => b = rb) w w') : RS w w' rb v v := ⟨h.mono (fun _ x => .inl x), ⟨rfl, rfl, rfl, rfl, rfl, rfl⟩, fun _ h => .inl h⟩
theorem RS.all {w w' : World} {rb : Nat} {v v' : RV} (h : RS w w' rb v v') : ∀ b, v'.all rb b → v.all rb b ∨ w.heap.size ≤ b := by
  obtain ⟨c0, c1, c2, c3, c4, c5⟩ := h.c
  rintro b (hb | hb | hb | hb | hb | hb | hb)
  · exact (h.i b hb).elim (fun x => .inl (.inl x)) .inr
  · rw [c0] at hb; exact .inl (.inr (.inl hb))
  · rw [c1] at hb; exact .inl (.inr (.inr (.inl hb)))
  · rw [c2] at hb; exact .inl (.inr (.inr (.inr (.inl hb))))
  · rw [c3] at hb; exact .inl (.inr (.inr (.inr (.inr (.inl hb)))))
  · rw [c4] at hb; exact .inl (.inr (.inr (.inr (.inr (.inr (.inl hb))))))
  · rw [c5] at hb; exact .inl (.inr (.inr (.inr (.inr (.inr (.inr hb))))))
theorem RI.tell {w w1 : World} {B rb : Nat} {v : RV} {m : RE} {x g cap : Nat} {o : Obj} (h : RI w B rb v m) (hown : w1.ownsRow B 3 1 (.slice (some ⟨g, 0, none⟩) (m.told.length + 1) cap) (m.told.length + 1) (m.told.map iv ++ [.int .i64 (x : Int)]))
    (hg : (w.alloc o).grownBy w1 v.vt.ownBlock) (hat : v.vt.ownBlock = some g ∨ g = w.heap.size + 1) :
    RI (w1.setCell ⟨rb, 8, none⟩ (.slice (some ⟨g, 0, none⟩) (m.told.length + 1) cap)) B rb { v with vt := .slice (some ⟨g, 0, none⟩) (m.told.length + 1) cap } { m with told := m.told ++ [x] } ∧
    RS w (w1.setCell ⟨rb, 8, none⟩ (.slice (some ⟨g, 0, none⟩) (m.told.length + 1) cap)) rb v { v with vt := .slice (some ⟨g, 0, none⟩) (m.told.length + 1) cap } := by
  have ht := tch_grown hg
  have hlt := blk_lt h.blk
  have hb1 : w1.heap[rb]? = some (.cells (m.cell v) 129 (0, 0)) := (ht.block rb hlt (fun e => h.t1 e)).trans h.blk
  have hgr : g ≠ rb := by
    rcases hat with e | e
    · intro e2; exact h.t1 (e2 ▸ e)
    · omega
  have hts : Tch (fun b => b = rb) w1 (w1.setCell ⟨rb, 8, none⟩ (.slice (some ⟨g, 0, none⟩) (m.told.length + 1) cap)) := Tch.set _ w1 ⟨rb, 8, none⟩ _ rfl
  have gnew : ∀ b, b < w.heap.size → v.vt.ownBlock ≠ some b → g ≠ b := by
    intro b hb hn e
    rcases hat with e2 | e2
    · exact hn (e ▸ e2)
    · omega
  have hc : ∀ y ∈ m.cfg v, ∀ b, y.1.ownBlock = some b → b < w.heap.size := fun y hy b hb => ((h.oc y hy).lt b hb).2
  constructor
  · refine ⟨?_, h.ge, ?_, ?_, ?_, ?_, h.m1, ?_, ?_⟩
    · exact blk_set (k := 8) hb1
    · have := owns_tch hown hts (fun b hb e => by simp only [Value.ownBlock, Option.some.injEq] at hb; exact hgr (hb.trans e))
      simpa [iv] using this
    · exact owns_tch (owns_tch h.om ht (fun b hb e => h.tm b e hb)) hts (fun b hb e => h.m1 (e ▸ hb))
    · intro y hy
      exact owns_tch (owns_tch (h.oc y hy) ht (fun b hb e => (h.c1 y hy b hb).2.1 e)) hts (fun b hb e => (h.c1 y hy b hb).1 e)
    · intro e; simp only [Value.ownBlock, Option.some.injEq] at e; exact hgr e
    · intro b hb e
      simp only [Value.ownBlock, Option.some.injEq] at hb
      have hbl := (h.om.lt b e).2
      exact gnew b hbl (fun x => h.tm b x e) hb
    · intro y hy b hb
      have hy' : y ∈ m.cfg v := hy
      obtain ⟨c1, c2, c3⟩ := h.c1 y hy' b hb
      refine ⟨c1, ?_, c3⟩
      intro e
      simp only [Value.ownBlock, Option.some.injEq] at e
      exact gnew b (hc y hy' b hb) c2 e
  · refine ⟨(ht.mono (fun b x => .inr (.inl x))).trans (hts.mono (fun b x => .inl x)), ⟨rfl, rfl, rfl, rfl, rfl, rfl⟩, ?_⟩
    rintro b (x | x | x)
    · exact .inl (.inl x)
    · simp only [Value.ownBlock, Option.some.injEq] at x
      rcases hat with e | e
      · exact .inl (.inr (.inl (x ▸ e)))
      · exact .inr (by omega)
    · exact .inl (.inr (.inr x))
set_option maxRecDepth 100000 in
set_option maxHeartbeats 2000000 in
theorem act_d {B rb : Nat} {v : RV} {m : RE} (w : World) (h : RI w B rb v m) (fit : m.Fit 100) :
    Calls Tryz.prog 117 #[.pointer (some ⟨rb, 0, none⟩), .int .u8 100] w fun r w' => r = .returned (.string ⟨(m.act 100).2.toArray⟩) ∧ ∃ v', RI w' B rb v' (m.act 100).1 ∧ RS w w' rb v v' := by
  obtain ⟨j0, hj, hy0, hy1, hy2⟩ := info_parts Tryz.infoI
  obtain ⟨a, cap, g, hv, ha, _, _⟩ := own_shape h.ot
  have H : Hid (RI w B rb v m) := h
  have hlt := blk_lt h.blk
  have c8 : w.cell? ⟨rb, 8, none⟩ = some (.slice a m.told.length cap) := (blk_cell h.blk).trans (by rw [← hv]; rfl)
  have hot := h.ot
  have ht1 := h.t1
  rw [hv] at hot ht1
  have OT : Hid (w.ownsRow B 3 1 (.slice a m.told.length cap) m.told.length (m.told.map iv)) := hot
  have HT1 : Hid ((Value.slice a m.told.length cap).ownBlock ≠ some rb) := ht1
  have HV : Hid (v.vt = .slice a m.told.length cap) := hv
  have hB : B ≤ w.heap.size := Nat.le_trans h.ge (Nat.le_of_lt hlt)
  have hfl := fit.told
  have hb0 : w.heap[rb]? = some (.cells (m.cell v) 129 (0, 0)) := h.blk
  have HB0 : Hid (_) := hb0
  clear h hot ht1 hv ha fit hb0
  go_enter Tryz.func117, Tryz.ntmps117
  go_wp2_with (at_builtin; go_must (refine wpList_append_lies _ rfl (.tmp 27) (.tmp 28) 28 rfl B 3 j0 (.int .i64 0) 1 8 Tryz.underlying28 hj hy0 hy1 hy2 rfl (by decide) _ m.told.length (m.told.map iv) rfl (OT.out.alloc _) ⟨w.heap.size, 0, none⟩ 1 1 [.int .i64 2] rfl rfl (cell_one_i _ _ _) (by intro u hu; simp at hu; subst hu; rfl) (by omega) (by unfold maxLen; omega) (by omega) (by simp; omega) _ rfl ?_; intro gv capv w1 hown1 hgrow1 hat1 hlt1; have bb : w1.heap[rb]? = some (.cells (m.cell v) 129 (0, 0)) := ((tch_grown hgrow1).block rb hlt (fun e => HT1.out e)).trans HB0.out; have e8 : w1.cell? ⟨rb, 8, none⟩ = some (.slice a m.told.length cap) := (blk_cell bb).trans (by rw [← HV.out]; rfl); have f8 : w1.frozen? ⟨rb, 8, none⟩ = false := blk_free bb))
  go_ret
  have hgr : (w.alloc (.cells #[.int .i64 2] 3)).grownBy w1 v.vt.ownBlock := by rw [HV.out]; exact hgrow1
  have hat : v.vt.ownBlock = some gv ∨ gv = w.heap.size + 1 := by rw [HV.out]; exact hat1.elim .inl (fun e => .inr (e.trans (by simp)))
  have hh := H.out.tell (x := 2) hown1 hgr hat
  exact ⟨rfl, _, hh.1, hh.2⟩
set_option maxRecDepth 100000 in
set_option maxHeartbeats 2000000 in
theorem act_b {B rb : Nat} {v : RV} {m : RE} (w : World) (h : RI w B rb v m) (fit : m.Fit 100) :
    Calls Tryz.prog 117 #[.pointer (some ⟨rb, 0, none⟩), .int .u8 98] w fun r w' => r = .returned (.string ⟨(m.act 98).2.toArray⟩) ∧ ∃ v', RI w' B rb v' (m.act 98).1 ∧ RS w w' rb v v' := by
  obtain ⟨j0, hj, hy0, hy1, hy2⟩ := info_parts Tryz.infoI
  obtain ⟨a, cap, g, hv, ha, _, _⟩ := own_shape h.ot
  have H : Hid (RI w B rb v m) := h
  have hlt := blk_lt h.blk
  have c8 : w.cell? ⟨rb, 8, none⟩ = some (.slice a m.told.length cap) := (blk_cell h.blk).trans (by rw [← hv]; rfl)
  have hot := h.ot
  have ht1 := h.t1
  rw [hv] at hot ht1
  have OT : Hid (w.ownsRow B 3 1 (.slice a m.told.length cap) m.told.length (m.told.map iv)) := hot
  have HT1 : Hid ((Value.slice a m.told.length cap).ownBlock ≠ some rb) := ht1
  have HV : Hid (v.vt = .slice a m.told.length cap) := hv
  have hB : B ≤ w.heap.size := Nat.le_trans h.ge (Nat.le_of_lt hlt)
  have hfl := fit.told
  have hb0 : w.heap[rb]? = some (.cells (m.cell v) 129 (0, 0)) := h.blk
  have HB0 : Hid (_) := hb0
  clear h hot ht1 hv ha fit hb0
  go_enter Tryz.func117, Tryz.ntmps117
  go_wp2_with (at_builtin; go_must (refine wpList_append_lies _ rfl (.tmp 38) (.tmp 39) 28 rfl B 3 j0 (.int .i64 0) 1 8 Tryz.underlying28 hj hy0 hy1 hy2 rfl (by decide) _ m.told.length (m.told.map iv) rfl (OT.out.alloc _) ⟨w.heap.size, 0, none⟩ 1 1 [.int .i64 3] rfl rfl (cell_one_i _ _ _) (by intro u hu; simp at hu; subst hu; rfl) (by omega) (by unfold maxLen; omega) (by omega) (by simp; omega) _ rfl ?_; intro gv capv w1 hown1 hgrow1 hat1 hlt1; have bb : w1.heap[rb]? = some (.cells (m.cell v) 129 (0, 0)) := ((tch_grown hgrow1).block rb hlt (fun e => HT1.out e)).trans HB0.out; have e8 : w1.cell? ⟨rb, 8, none⟩ = some (.slice a m.told.length cap) := (blk_cell bb).trans (by rw [← HV.out]; rfl); have f8 : w1.frozen? ⟨rb, 8, none⟩ = false := blk_free bb))
  go_ret
  have hgr : (w.alloc (.cells #[.int .i64 3] 3)).grownBy w1 v.vt.ownBlock := by rw [HV.out]; exact hgrow1
  have hat : v.vt.ownBlock = some gv ∨ gv = w.heap.size + 1 := by rw [HV.out]; exact hat1.elim .inl (fun e => .inr (e.trans (by simp)))
  have hh := H.out.tell (x := 3) hown1 hgr hat
  exact ⟨rfl, _, hh.1, hh.2⟩
set_option maxRecDepth 100000 in
set_option maxHeartbeats 2000000 in
theorem act_f {B rb : Nat} {v : RV} {m : RE} (w : World) (h : RI w B rb v m) (fit : m.Fit 100) :
    Calls Tryz.prog 117 #[.pointer (some ⟨rb, 0, none⟩), .int .u8 102] w fun r w' => r = .returned (.string ⟨(m.act 102).2.toArray⟩) ∧ ∃ v', RI w' B rb v' (m.act 102).1 ∧ RS w w' rb v v' := by
  obtain ⟨j0, hj, hy0, hy1, hy2⟩ := info_parts Tryz.infoI
  obtain ⟨a, cap, g, hv, ha, _, _⟩ := own_shape h.ot
  have H : Hid (RI w B rb v m) := h
  have hlt := blk_lt h.blk
  have c8 : w.cell? ⟨rb, 8, none⟩ = some (.slice a m.told.length cap) := (blk_cell h.blk).trans (by rw [← hv]; rfl)
  have hot := h.ot
  have ht1 := h.t1
  rw [hv] at hot ht1
  have OT : Hid (w.ownsRow B 3 1 (.slice a m.told.length cap) m.told.length (m.told.map iv)) := hot
  have HT1 : Hid ((Value.slice a m.told.length cap).ownBlock ≠ some rb) := ht1
  have HV : Hid (v.vt = .slice a m.told.length cap) := hv
  have hB : B ≤ w.heap.size := Nat.le_trans h.ge (Nat.le_of_lt hlt)
  have hfl := fit.told
  have hb0 : w.heap[rb]? = some (.cells (m.cell v) 129 (0, 0)) := h.blk
  have HB0 : Hid (_) := hb0
  clear h hot ht1 hv ha fit hb0
  go_enter Tryz.func117, Tryz.ntmps117
  go_wp2_with (at_builtin; go_must (refine wpList_append_lies _ rfl (.tmp 49) (.tmp 50) 28 rfl B 3 j0 (.int .i64 0) 1 8 Tryz.underlying28 hj hy0 hy1 hy2 rfl (by decide) _ m.told.length (m.told.map iv) rfl (OT.out.alloc _) ⟨w.heap.size, 0, none⟩ 1 1 [.int .i64 4] rfl rfl (cell_one_i _ _ _) (by intro u hu; simp at hu; subst hu; rfl) (by omega) (by unfold maxLen; omega) (by omega) (by simp; omega) _ rfl ?_; intro gv capv w1 hown1 hgrow1 hat1 hlt1; have bb : w1.heap[rb]? = some (.cells (m.cell v) 129 (0, 0)) := ((tch_grown hgrow1).block rb hlt (fun e => HT1.out e)).trans HB0.out; have e8 : w1.cell? ⟨rb, 8, none⟩ = some (.slice a m.told.length cap) := (blk_cell bb).trans (by rw [← HV.out]; rfl); have f8 : w1.frozen? ⟨rb, 8, none⟩ = false := blk_free bb))
  go_ret
  have hgr : (w.alloc (.cells #[.int .i64 4] 3)).grownBy w1 v.vt.ownBlock := by rw [HV.out]; exact hgrow1
  have hat : v.vt.ownBlock = some gv ∨ gv = w.heap.size + 1 := by rw [HV.out]; exact hat1.elim .inl (fun e => .inr (e.trans (by simp)))
  have hh := H.out.tell (x := 4) hown1 hgr hat
  exact ⟨rfl, _, hh.1, hh.2⟩
set_option maxRecDepth 100000 in
set_option maxHeartbeats 2000000 in
theorem act_u {B rb : Nat} {v : RV} {m : RE} (w : World) (h : RI w B rb v m) (fit : m.Fit 100) :
    Calls Tryz.prog 117 #[.pointer (some ⟨rb, 0, none⟩), .int .u8 117] w fun r w' => r = .returned (.string ⟨(m.act 117).2.toArray⟩) ∧ ∃ v', RI w' B rb v' (m.act 117).1 ∧ RS w w' rb v v' := by
  obtain ⟨j0, hj, hy0, hy1, hy2⟩ := info_parts Tryz.infoI
  obtain ⟨a, cap, g, hv, ha, _, _⟩ := own_shape h.ot
  have H : Hid (RI w B rb v m) := h
  have hlt := blk_lt h.blk
  have c8 : w.cell? ⟨rb, 8, none⟩ = some (.slice a m.told.length cap) := (blk_cell h.blk).trans (by rw [← hv]; rfl)
  have hot := h.ot
  have ht1 := h.t1
  rw [hv] at hot ht1
  have OT : Hid (w.ownsRow B 3 1 (.slice a m.told.length cap) m.told.length (m.told.map iv)) := hot
  have HT1 : Hid ((Value.slice a m.told.length cap).ownBlock ≠ some rb) := ht1
  have HV : Hid (v.vt = .slice a m.told.length cap) := hv
  have hB : B ≤ w.heap.size := Nat.le_trans h.ge (Nat.le_of_lt hlt)
  have hfl := fit.told
  have hb0 : w.heap[rb]? = some (.cells (m.cell v) 129 (0, 0)) := h.blk
  have HB0 : Hid (_) := hb0
  clear h hot ht1 hv ha fit hb0
  go_enter Tryz.func117, Tryz.ntmps117
  go_wp2_with (at_builtin; go_must (refine wpList_append_lies _ rfl (.tmp 13) (.tmp 14) 28 rfl B 3 j0 (.int .i64 0) 1 8 Tryz.underlying28 hj hy0 hy1 hy2 rfl (by decide) _ m.told.length (m.told.map iv) rfl (OT.out.alloc _) ⟨w.heap.size, 0, none⟩ 1 1 [.int .i64 1] rfl rfl (cell_one_i _ _ _) (by intro u hu; simp at hu; subst hu; rfl) (by omega) (by unfold maxLen; omega) (by omega) (by simp; omega) _ rfl ?_; intro gv capv w1 hown1 hgrow1 hat1 hlt1; have bb : w1.heap[rb]? = some (.cells (m.cell v) 129 (0, 0)) := ((tch_grown hgrow1).block rb hlt (fun e => HT1.out e)).trans HB0.out; have e8 : w1.cell? ⟨rb, 8, none⟩ = some (.slice a m.told.length cap) := (blk_cell bb).trans (by rw [← HV.out]; rfl); have f8 : w1.frozen? ⟨rb, 8, none⟩ = false := blk_free bb; have e20 : w1.cell? ⟨rb, 20, none⟩ = some (.int .i64 (m.naks : Int)) := blk_cell bb; have f20 : w1.frozen? ⟨rb, 20, none⟩ = false := blk_free bb))
  go_ret
  have hgr : (w.alloc (.cells #[.int .i64 1] 3)).grownBy w1 v.vt.ownBlock := by rw [HV.out]; exact hgrow1
  have hat : v.vt.ownBlock = some gv ∨ gv = w.heap.size + 1 := by rw [HV.out]; exact hat1.elim .inl (fun e => .inr (e.trans (by simp)))
  have hh := H.out.tell (x := 1) hown1 hgr hat
  have hts : Tch (fun b => b = rb) (w1.setCell ⟨rb, 8, none⟩ (.slice (some ⟨gv, 0, none⟩) (m.told.length + 1) capv)) ((w1.setCell ⟨rb, 8, none⟩ (.slice (some ⟨gv, 0, none⟩) (m.told.length + 1) capv)).setCell ⟨rb, 20, none⟩ (.int .i64 0)) := tset _ rb 20 _
  exact ⟨rfl, _, hh.1.num (m' := (m.act 117).1) (blk_set (k := 20) (x := .int .i64 0) hh.1.blk) hts rfl rfl rfl, hh.2.trans (RS.num hts)⟩
set_option maxRecDepth 100000 in
set_option maxHeartbeats 2000000 in
theorem act_i {B rb : Nat} {v : RV} {m : RE} (w : World) (h : RI w B rb v m) :
    Calls Tryz.prog 117 #[.pointer (some ⟨rb, 0, none⟩), .int .u8 105] w fun r w' => r = .returned (.string ⟨(m.act 105).2.toArray⟩) ∧ ∃ v', RI w' B rb v' (m.act 105).1 ∧ RS w w' rb v v' := by
  have H : Hid (RI w B rb v m) := h
  have c10 : w.cell? ⟨rb, 10, none⟩ = some (.int .i64 m.cnt) := blk_cell h.blk
  have f10 : w.frozen? ⟨rb, 10, none⟩ = false := blk_free h.blk
  have c11 : w.cell? ⟨rb, 11, none⟩ = some (.int .i64 m.tim) := blk_cell h.blk
  have f11 : w.frozen? ⟨rb, 11, none⟩ = false := blk_free h.blk
  clear h
  go_enter Tryz.func117, Tryz.ntmps117
  go_wp2_with fail
  go_ret
  have hts : Tch (fun b => b = rb) w (w.setCell ⟨rb, 10, none⟩ (.int .i64 5)) := tset _ rb 10 _
  exact ⟨rfl, _, H.out.num (m' := (m.act 105).1) (blk_set (k := 10) (x := .int .i64 5) H.out.blk) hts rfl rfl rfl, RS.num hts⟩
set_option maxRecDepth 100000 in
set_option maxHeartbeats 2000000 in
theorem act_t {B rb : Nat} {v : RV} {m : RE} (w : World) (h : RI w B rb v m) :
    Calls Tryz.prog 117 #[.pointer (some ⟨rb, 0, none⟩), .int .u8 116] w fun r w' => r = .returned (.string ⟨(m.act 116).2.toArray⟩) ∧ ∃ v', RI w' B rb v' (m.act 116).1 ∧ RS w w' rb v v' := by
  have H : Hid (RI w B rb v m) := h
  have c10 : w.cell? ⟨rb, 10, none⟩ = some (.int .i64 m.cnt) := blk_cell h.blk
  have f10 : w.frozen? ⟨rb, 10, none⟩ = false := blk_free h.blk
  have c11 : w.cell? ⟨rb, 11, none⟩ = some (.int .i64 m.tim) := blk_cell h.blk
  have f11 : w.frozen? ⟨rb, 11, none⟩ = false := blk_free h.blk
  clear h
  go_enter Tryz.func117, Tryz.ntmps117
  go_wp2_with fail
  go_ret
  have hts : Tch (fun b => b = rb) w (w.setCell ⟨rb, 10, none⟩ (.int .i64 2)) := tset _ rb 10 _
  exact ⟨rfl, _, H.out.num (m' := (m.act 116).1) (blk_set (k := 10) (x := .int .i64 2) H.out.blk) hts rfl rfl rfl, RS.num hts⟩
set_option maxRecDepth 100000 in
set_option maxHeartbeats 2000000 in
theorem act_z {B rb : Nat} {v : RV} {m : RE} (w : World) (h : RI w B rb v m) :
    Calls Tryz.prog 117 #[.pointer (some ⟨rb, 0, none⟩), .int .u8 122] w fun r w' => r = .returned (.string ⟨(m.act 122).2.toArray⟩) ∧ ∃ v', RI w' B rb v' (m.act 122).1 ∧ RS w w' rb v v' := by
  have H : Hid (RI w B rb v m) := h
  have c10 : w.cell? ⟨rb, 10, none⟩ = some (.int .i64 m.cnt) := blk_cell h.blk
  have f10 : w.frozen? ⟨rb, 10, none⟩ = false := blk_free h.blk
  have c11 : w.cell? ⟨rb, 11, none⟩ = some (.int .i64 m.tim) := blk_cell h.blk
  have f11 : w.frozen? ⟨rb, 11, none⟩ = false := blk_free h.blk
  clear h
  go_enter Tryz.func117, Tryz.ntmps117
  go_wp2_with fail
  go_ret
  have hts : Tch (fun b => b = rb) w ((w.setCell ⟨rb, 10, none⟩ (.int .i64 0)).setCell ⟨rb, 11, none⟩ (.int .i64 3)) := (tset _ rb 10 _).trans (tset _ rb 11 _)
  exact ⟨rfl, _, H.out.num (m' := (m.act 122).1) (blk_set (k := 11) (x := .int .i64 3) (blk_set (k := 10) (x := .int .i64 0) H.out.blk)) hts rfl rfl rfl, RS.num hts⟩
set_option maxRecDepth 100000 in
set_option maxHeartbeats 2000000 in
theorem act_r {B rb : Nat} {v : RV} {m : RE} (w : World) (h : RI w B rb v m) (ok : m.Ok) (fit : m.Fit 100) :
    Calls Tryz.prog 117 #[.pointer (some ⟨rb, 0, none⟩), .int .u8 114] w fun r w' => r = .returned (.string ⟨(m.act 114).2.toArray⟩) ∧ ∃ v', RI w' B rb v' (m.act 114).1 ∧ RS w w' rb v v' := by
  have H : Hid (RI w B rb v m) := h
  have OK : Hid (m.Ok) := ok
  have c10 : w.cell? ⟨rb, 10, none⟩ = some (.int .i64 m.cnt) := blk_cell h.blk
  have f10 : w.frozen? ⟨rb, 10, none⟩ = false := blk_free h.blk
  have c11 : w.cell? ⟨rb, 11, none⟩ = some (.int .i64 m.tim) := blk_cell h.blk
  have f11 : w.frozen? ⟨rb, 11, none⟩ = false := blk_free h.blk
  have hc0 := fit.c0
  have hc1 := fit.c1
  have hml : m.mg.length ≤ 17000000000000 := by have := fit.mg; omega
  clear h ok fit
  go_enter Tryz.func117, Tryz.ntmps117
  go_wp2_with fail
  have hts : Tch (fun b => b = rb) w ((w.setCell ⟨rb, 10, none⟩ (.int .i64 (m.cnt - 1))).setCell ⟨rb, 11, none⟩ (.int .i64 3)) := (tset _ rb 10 _).trans (tset _ rb 11 _)
  have hh := H.out.num (m' := { m with cnt := m.cnt - 1, tim := 3 }) (blk_set (k := 11) (x := .int .i64 3) (blk_set (k := 10) (x := .int .i64 (m.cnt - 1)) H.out.blk)) hts rfl rfl rfl
  refine (request_any _ hh ⟨OK.out.st, OK.out.id, OK.out.odd, OK.out.k0, OK.out.k1, OK.out.k2, OK.out.pc, OK.out.pi, OK.out.pd, OK.out.mg, OK.out.ms, OK.out.aa, OK.out.ww⟩ hml).mono ?_
  rintro e w1 ⟨rfl, h1, t1⟩
  go_wp2_with fail
  go_ret
  exact ⟨rfl, _, h1, RS.num (hts.trans t1)⟩
set_option maxRecDepth 100000 in
set_option maxHeartbeats 2000000 in
theorem act_e {B rb : Nat} {v : RV} {m : RE} (w : World) (h : RI w B rb v m) (ok : m.Ok) (fit : m.Fit 100) :
    Calls Tryz.prog 117 #[.pointer (some ⟨rb, 0, none⟩), .int .u8 101] w fun r w' => r = .returned (.string ⟨(m.act 101).2.toArray⟩) ∧ ∃ v', RI w' B rb v' (m.act 101).1 ∧ RS w w' rb v v' := by
  have H : Hid (RI w B rb v m) := h
  have hid := ok.id
  have c10 : w.cell? ⟨rb, 10, none⟩ = some (.int .i64 m.cnt) := blk_cell h.blk
  have f10 : w.frozen? ⟨rb, 10, none⟩ = false := blk_free h.blk
  have c11 : w.cell? ⟨rb, 11, none⟩ = some (.int .i64 m.tim) := blk_cell h.blk
  have f11 : w.frozen? ⟨rb, 11, none⟩ = false := blk_free h.blk
  have c12 : w.cell? ⟨rb, 12, none⟩ = some (.int .i64 (m.id : Int)) := blk_cell h.blk
  have f12 : w.frozen? ⟨rb, 12, none⟩ = false := blk_free h.blk
  have hc0 := fit.c0
  have hc1 := fit.c1
  clear h ok fit
  go_enter Tryz.func117, Tryz.ntmps117
  go_wp2_with fail
  have hts : Tch (fun b => b = rb) w (((w.setCell ⟨rb, 10, none⟩ (.int .i64 (m.cnt - 1))).setCell ⟨rb, 11, none⟩ (.int .i64 3)).setCell ⟨rb, 12, none⟩ (.int .i64 (((m.id : Int) + 1) % 256))) := ((tset _ rb 10 _).trans (tset _ rb 11 _)).trans (tset _ rb 12 _)
  have hbk := blk_set (k := 12) (x := .int .i64 (((m.id : Int) + 1) % 256)) (blk_set (k := 11) (x := .int .i64 3) (blk_set (k := 10) (x := .int .i64 (m.cnt - 1)) H.out.blk))
  have HBK : Hid (_) := hbk
  have HTS : Hid (_) := hts
  clear hbk hts c10 f10 c11 f11 c12 f12
  generalize ((w.setCell ⟨rb, 10, none⟩ (.int .i64 (m.cnt - 1))).setCell ⟨rb, 11, none⟩ (.int .i64 3)).setCell ⟨rb, 12, none⟩ (.int .i64 (((m.id : Int) + 1) % 256)) = W1 at *
  refine (ref_line 5 (((m.id : Int) + 1) % 256) ⟨#[]⟩ _ (by omega) (by omega) (by omega) (by omega) (by show 0 ≤ _; omega)).mono ?_
  rintro e w1 ⟨rfl, hb1⟩
  go_wp2_with fail
  go_ret
  have e12 : (((m.id : Int) + 1) % 256) = (((m.id + 1) % 256 : Nat) : Int) := by omega
  have hh := H.out.num (m' := (m.act 101).1) (by rw [HBK.out, e12]; rfl) HTS.out rfl rfl rfl
  refine ⟨?_, _, hh.below hb1, RS.num (HTS.out.trans (Tch.of_below hb1))⟩
  rw [e12]; rfl
end Go.Proofs.YtoeihlgidakjbaaGreatDoor

/- The program's items: itemOf, Read, ReadAll, Options. The program's end: its cells and rows, its magics; what it asks for. -/
import Derived.Test.YtoeihlgidakjbaaGreatDoorPc3
import Derived.Test.YtoeihlgidakjbaaGreatDoorPc2
import Derived.Test.YtoeihlgidakjbaaGreatDoorPc6
namespace Go.Proofs.YtoeihlgidakjbaaGreatDoor
open Go.RowKit Go.Lib
structure Gt (w : World) : Prop where
  e1 : ∃ a, w.cell? ⟨7, 0, none⟩ = some (.iface 216 (.pointer (some a)))
  e2 : ∃ a, w.cell? ⟨8, 0, none⟩ = some (.iface 216 (.pointer (some a)))
  e3 : ∃ a, w.cell? ⟨9, 0, none⟩ = some (.iface 216 (.pointer (some a)))
  e4 : ∃ a, w.cell? ⟨10, 0, none⟩ = some (.iface 216 (.pointer (some a)))
theorem cell_lt {w : World} {b k : Nat} {v : Value} (h : w.cell? ⟨b, k, none⟩ = some v) : b < w.heap.size := by
  rcases Nat.lt_or_ge b w.heap.size with h' | h'
  · exact h'
  · simp [World.cell?, Array.getElem?_eq_none h'] at h
theorem Gt.below {w w' : World} (g : Gt w) (hb : Below w.heap.size w w') : Gt w' := by
  have k : ∀ b : Nat, (∃ a, w.cell? ⟨b, 0, none⟩ = some (.iface 216 (.pointer (some a)))) → ∃ a, w'.cell? ⟨b, 0, none⟩ = some (.iface 216 (.pointer (some a))) := by
    rintro b ⟨x, hx⟩
    exact ⟨x, (hb.cell (p := ⟨b, 0, none⟩) (cell_lt hx)).trans hx⟩
  exact ⟨k _ g.e1, k _ g.e2, k _ g.e3, k _ g.e4⟩
theorem i64_or_nat (x y : Nat) (hx : x < 256) (hy : y < 256) : bits BinOp.or IntKind.i64 (x : Int) ((y : Int) * 256) = ((x + 256 * y : Nat) : Int) := by
  have e : ((y : Int) * 256) = ((2 ^ 8 * y : Nat) : Int) := by omega
  rw [e]
  have h : x ||| 2 ^ 8 * y = x + 256 * y := by rw [Nat.or_comm, ← Nat.two_pow_add_eq_or_of_lt (by omega)]; omega
  rw [← h]
  have hb : x ||| 2 ^ 8 * y < 65536 := by rw [h]; omega
  have hz : (BitVec.ofInt 64 (x : Int) ||| BitVec.ofInt 64 ((2 ^ 8 * y : Nat) : Int)).toNat = x ||| 2 ^ 8 * y := by
    rw [BitVec.ofInt_natCast, BitVec.ofInt_natCast, BitVec.toNat_or, BitVec.toNat_ofNat, BitVec.toNat_ofNat, Nat.mod_eq_of_lt (by omega), Nat.mod_eq_of_lt (by omega)]
  have he : bits BinOp.or IntKind.i64 (x : Int) ((2 ^ 8 * y : Nat) : Int) = IntKind.i64.wrap (((BitVec.ofInt 64 (x : Int) ||| BitVec.ofInt 64 ((2 ^ 8 * y : Nat) : Int)).toNat : Nat) : Int) := rfl
  rw [he, hz]
  exact wrap_in (by omega) (by omega)
set_option maxRecDepth 100000 in
set_option maxHeartbeats 1000000 in
theorem itemOf_any (b : ByteArray) (hb : b.size = 3) (w : World) :
    Calls Tryz.prog 165 #[.string b] w fun r w' => r = .returned (.agg #[.int .i64 ((b[0]).toNat : Int), .int .i64 (((b[1]).toNat + 256 * (b[2]).toNat : Nat) : Int)]) ∧ Below w.heap.size w w' := by
  have hx0 : ∀ wx, (Instr.index 9 (.string b) (.int .i64 0)).run Tryz.prog wx = .ok (.int .u8 ((b[0]).toNat : Int)) wx := fun wx => by
    rw [run_index_string wx 9 b .i64 0 Tryz.underlying9, dif_pos (by omega)]; rfl
  have hx1 : ∀ wx, (Instr.index 9 (.string b) (.int .i64 1)).run Tryz.prog wx = .ok (.int .u8 ((b[1]).toNat : Int)) wx := fun wx => by
    rw [run_index_string wx 9 b .i64 1 Tryz.underlying9, dif_pos (by omega)]; rfl
  have hx2 : ∀ wx, (Instr.index 9 (.string b) (.int .i64 2)).run Tryz.prog wx = .ok (.int .u8 ((b[2]).toNat : Int)) wx := fun wx => by
    rw [run_index_string wx 9 b .i64 2 Tryz.underlying9, dif_pos (by omega)]; rfl
  have h0 := UInt8.toNat_lt b[0]
  have h1 := UInt8.toNat_lt b[1]
  have h2 := UInt8.toNat_lt b[2]
  generalize (b[0]).toNat = x at *
  generalize (b[1]).toNat = y at *
  generalize (b[2]).toNat = z at *
  go_enter Tryz.func165, Tryz.ntmps165
  go_wp2_with fail
  go_region
  rw [i64_or_nat y z h1 h2]
  go_wp2_with fail
  refine bodyPost_ret (v := .agg #[.int .i64 (x : Int), .int .i64 ((y + 256 * z : Nat) : Int)]) (by simp [results, Tryz.results165, go_sem]) rfl ⟨rfl, ?_⟩
  exact ((Below.refl _ _).alloc (Nat.le_refl _) _).drew
theorem newsN2 (w : World) (a b : Value) (T N : Nat) (hN : w.heap.size = N) : ∀ (j : Nat) (u : Value), [a, b][j]? = some u → (w.alloc (.cells #[a, b] T)).cell? (Addr.add ⟨N, 0, none⟩ j) = some u := by
  subst hN
  exact news2 w a b T
theorem below_own2 {w w1 w2 : World} {B e s n : Nat} {v : Value} {xs : List Value} (hb : Below B w w1) (hz : B ≤ w1.heap.size) (ho : w1.ownsRow B e s v n xs) (o o' : Obj) (hg : ((w1.alloc o).alloc o').grownBy w2 v.ownBlock) : Below B w w2 :=
  (hb.trans (((Below.refl w1.heap.size w1).alloc (Nat.le_refl _) o).mono hz)).trans ((tch_grown hg).below (by simp; omega) (fun k hk => (ho.lt k hk).1))
theorem Tryz.infoTI : (Tryz.prog.info? 189).map (fun i => (i.zero, i.size, i.bytes)) = some (some (.agg #[.int .i64 0, .int .i64 0]), 2, 16) := by kernel_rfl
def ReadR (w w' : World) (ok : Option (List (Nat × Nat))) (r : Ending) : Prop := Below w.heap.size w w' ∧
  ((ok = none ∧ ∃ g, r = .returned (.tuple #[.slice none 0 0, .iface 191 (.pointer (some g))])) ∨
   (∃ l v, ok = some l ∧ l ≠ [] ∧ r = .returned (.tuple #[v, .nilIface]) ∧ w'.ownsRow w.heap.size 189 2 v l.length (itemC l)))
def items1 (s : List UInt8) : Option (List (Nat × Nat)) := if s = [] then none else itemsL s
set_option maxRecDepth 100000 in
set_option maxHeartbeats 4000000 in
theorem tread_any (S : ByteArray) (w : World) (hg : Gt w) (hn : S.size ≤ 100000) :
    Calls Tryz.prog 135 #[.string S] w fun r w' => ReadR w w' (items1 S.data.toList) r := by
  obtain ⟨i0, hi, hz0, hz1, hz2⟩ := info_parts Tryz.infoTI
  obtain ⟨x2, g2⟩ := hg.e2
  by_cases h0 : S.size = 0
  · have hS : S = ⟨#[]⟩ := by
      have : S.data.toList = [] := List.eq_nil_of_length_eq_zero (by simpa using h0)
      exact str_eq this
    subst hS
    go_enter Tryz.func135, Tryz.ntmps135
    go_wp2_with fail
    go_region
    go_wp2_with fail
    go_ret2
    exact ⟨((Below.refl _ _).drew.alloc (by simp) _), .inl ⟨rfl, _, rfl⟩⟩
  · have HG : Hid (Gt w) := hg
    have H0 : Hid (items1 S.data.toList = itemsL S.data.toList) := by
      show _ = _
      unfold items1
      rw [if_neg (fun e => h0 (by have := congrArg List.length e; simpa using this))]
    have hne : S.toList.isEmpty = false := by
      rw [ByteArray.toList_eq]
      cases hc : S.data.toList with
      | nil => exact absurd (by simpa using congrArg List.length hc) h0
      | cons _ _ => rfl
    clear hg g2 h0
    go_enter Tryz.func135, Tryz.ntmps135
    go_wp2_with fail
    go_loopw [4, 5, 6] (fun v q i wr => ∃ (k j : Nat) (acc : List (Nat × Nat)) (a : Option Addr) (cap : Nat), j ≤ S.size + 3 ∧ i = .int .i64 j ∧ v = .slice a k cap ∧ q = .int .i64 (lastW acc : Nat) ∧ Hid (j = 3 * k ∧ acc.length = k ∧ (S.size ≤ j → j = S.size) ∧ wr.ownsRow w.heap.size 189 2 (.slice a k cap) k (itemC acc) ∧ itemsL S.data.toList = (itemsAux (S.data.toList.drop (3 * k)) (lastW acc)).map (acc ++ ·) ∧ Below w.heap.size w wr)) (fun _ _ i _ => S.size - (intOf i).toNat)
    case atStart =>
      refine ⟨0, 0, [], none, 0, Nat.zero_le _, rfl, rfl, rfl, rfl, rfl, fun h => by omega, World.ownsRow_nil _ _ _ _, ?_, Below.refl _ _⟩
      simp [itemsL, lastW]
    case round =>
      obtain ⟨k, j, acc, a, cap, hj, rfl, rfl, rfl, HW⟩ := hrel
      by_cases hlt : j < S.size
      · have hI0 : (j : Int) < (S.size : Int) := by omega
        have hw0 : IntKind.i64.wrap ((S.size : Int) - (j : Int)) = (S.size : Int) - (j : Int) := wrap_in (by omega) (by omega)
        have hG := HG.out.below HW.out.2.2.2.2.2
        obtain ⟨x3, g3⟩ := hG.e3
        obtain ⟨x4, g4⟩ := hG.e4
        have HGr : Hid (Gt wr) := hG
        by_cases hsh : S.size - j < 3
        · have hshi : (S.size : Int) - (j : Int) < 3 := by omega
          have HN : Hid (items1 S.data.toList = none) := by
            show _ = _
            rw [H0.out, HW.out.2.2.2.2.1]
            have hl : (S.data.toList.drop (3 * k)).length = S.size - j := by rw [← HW.out.1]; simp
            have : itemsAux (S.data.toList.drop (3 * k)) (lastW acc) = none := itemsAux_odd _ _ (by omega)
            rw [this]; rfl
          clear g4
          go_wp2_with fail
          go_region
          go_wp2_with fail
          go_ret2
          exact ⟨HW.out.2.2.2.2.2.trans (((Below.refl _ _).drew.alloc (by simp) _).mono HW.out.2.2.2.2.2.size), .inl ⟨HN.out, _, rfl⟩⟩
        · have hshi : ¬ (S.size : Int) - (j : Int) < 3 := by omega
          have hj2 : j + 2 < S.size := by omega
          have HD : Hid (S.data.toList.drop (3 * k) = S[j] :: S[j + 1] :: S[j + 2] :: S.data.toList.drop (3 * (k + 1))) := by
            show _ = _
            rw [show 3 * (k + 1) = 3 * k + 3 by omega, ← HW.out.1]
            rw [drop_cons' _ j (by simpa using hlt), drop_cons' _ (j + 1) (by simp; omega), drop_cons' _ (j + 2) (by simpa using hj2)]
            rfl
          have HX0 : Hid (∀ x y z : Nat, x = (S[j]).toNat → y = (S[j + 1]).toNat → z = (S[j + 2]).toNat → ((x ≤ lastW acc ∨ 4 < x) → itemsL S.data.toList = none) ∧ (¬ (x ≤ lastW acc ∨ 4 < x) → itemsL S.data.toList = (itemsAux (S.data.toList.drop (3 * (k + 1))) (lastW (acc ++ [(x, y + 256 * z)]))).map ((acc ++ [(x, y + 256 * z)]) ++ ·))) := by
            rintro x y z rfl rfl rfl
            refine ⟨fun h => ?_, fun h => ?_⟩
            · rw [HW.out.2.2.2.2.1, HD.out, itemsAux_bad _ _ _ _ _ (by omega)]; rfl
            · rw [HW.out.2.2.2.2.1, HD.out, itemsAux_next _ _ _ _ _ (by omega), lastW_snoc, Option.map_map]
              congr 1
              funext l
              simp
          have hb3 : (S.extract j (j + 3)).size = 3 := by rw [ByteArray.size_extract]; omega
          have HIT : Hid (_) := itemOf_any (S.extract j (j + 3)) hb3 wr
          have u0 : ((S.extract j (j + 3))[0]) = S[j] := by rw [ByteArray.getElem_extract]; rfl
          have u1 : ((S.extract j (j + 3))[1]) = S[j + 1] := by rw [ByteArray.getElem_extract]
          have u2 : ((S.extract j (j + 3))[2]) = S[j + 2] := by rw [ByteArray.getElem_extract]
          have HIT2 : Hid (Calls Tryz.prog 165 #[.string (S.extract j (j + 3))] wr fun r w' => r = .returned (.agg #[.int .i64 ((S[j]).toNat : Int), .int .i64 (((S[j + 1]).toNat + 256 * (S[j + 2]).toNat : Nat) : Int)]) ∧ Below wr.heap.size wr w') := by
            have := HIT.out
            rw [u0, u1, u2] at this; exact this
          have hxl := UInt8.toNat_lt S[j]
          have hyl := UInt8.toNat_lt S[j + 1]
          have hzl := UInt8.toNat_lt S[j + 2]
          have HX := HX0.out _ _ _ rfl rfl rfl
          clear HX0 HD HIT u0 u1 u2
          generalize hxe : (S[j]).toNat = x at *
          generalize (S[j + 1]).toNat = y at *
          generalize (S[j + 2]).toNat = z at *
          have HBAD : Hid ((x ≤ lastW acc ∨ 4 < x) → itemsL S.data.toList = none) := HX.1
          have HGOOD : Hid (_) := HX.2
          have hw1 : IntKind.i64.wrap ((j : Int) + 3) = (j : Int) + 3 := wrap_in (by omega) (by omega)
          have hj3 : (j : Int) + 3 ≤ (S.size : Int) := by omega
          clear HX hxe g3 g4
          go_wp2_with fail
          refine Calls.mono HIT2.out ?_
          rintro e w1 ⟨rfl, hb1⟩
          have HB1 : Hid (Below w.heap.size w w1) := HW.out.2.2.2.2.2.trans (hb1.mono HW.out.2.2.2.2.2.size)
          have hz := HB1.out.size
          have OW1 : Hid (w1.ownsRow w.heap.size 189 2 (.slice a k cap) k (itemC acc)) := owns_below HW.out.2.2.2.1 hb1
          have hkb : k ≤ 100000 := by have := HW.out.1; omega
          obtain ⟨x4, g4⟩ := (HGr.out.below hb1).e4
          have hg4 : 10 < w1.heap.size := cell_lt g4
          have HK : Hid (j = 3 * k ∧ acc.length = k) := ⟨HW.out.1, HW.out.2.1⟩
          clear hb1 HIT2 HGr HW
          by_cases b3 : x ≤ lastW acc
          · have b3i : decide ((x : Int) ≤ (lastW acc : Int)) = true := decide_eq_true (by omega)
            generalize hlw : lastW acc = lw at *
            go_wp2_with fail
            go_region
            go_wp2_with fail
            go_ret2
            exact ⟨HB1.out.trans ((((Below.refl _ _).alloc (Nat.le_refl _) _).drew.alloc (by simp) _).mono hz), .inl ⟨H0.out.trans (HBAD.out (.inl b3)), _, rfl⟩⟩
          have b3i : decide ((x : Int) ≤ (lastW acc : Int)) = false := decide_eq_false (by omega)
          by_cases b2 : 4 < x
          · have b2i : (4 : Int) < (x : Int) := by omega
            generalize hlw : lastW acc = lw at *
            go_wp2_with fail
            go_region
            go_wp2_with fail
            go_ret2
            exact ⟨HB1.out.trans ((((Below.refl _ _).alloc (Nat.le_refl _) _).drew.alloc (by simp) _).mono hz), .inl ⟨H0.out.trans (HBAD.out (.inr b2)), _, rfl⟩⟩
          have b2i : ¬ (4 : Int) < (x : Int) := by omega
          have HL : Hid (itemsL S.data.toList = (itemsAux (S.data.toList.drop (3 * (k + 1))) (lastW (acc ++ [(x, y + 256 * z)]))).map ((acc ++ [(x, y + 256 * z)]) ++ ·)) := HGOOD.out (by omega)
          have HLW : Hid (lastW (acc ++ [(x, y + 256 * z)]) = x) := lastW_snoc _ _
          clear HGOOD HBAD
          generalize hlw : lastW acc = lw at *
          go_wp2_with (at_builtin; go_must (refine wpList_append_lies _ rfl (.tmp 52) (.tmp 54) 163 rfl w.heap.size 189 i0 (.agg #[.int .i64 0, .int .i64 0]) 2 16 Tryz.underlying163 hi hz0 hz1 hz2 rfl (by decide) _ k (itemC acc) rfl ((OW1.out.alloc _).alloc _) ⟨w1.heap.size + 1, 0, none⟩ 1 1 [.int .i64 (x : Int), .int .i64 ((y + 256 * z : Nat) : Int)] rfl rfl (newsN2 _ _ _ _ _ (by simp)) (by intro u hu; simp at hu; rcases hu with rfl | rfl <;> rfl) (by omega) (by unfold maxLen; omega) (by omega) (by simp; omega) _ rfl ?_; intro gv capv w2 hown1 hgrow1 hat1 hlt1))
          refine ⟨⟨k + 1, j + 3, acc ++ [(x, y + 256 * z)], _, _, by omega, by go_num, rfl, by rw [HLW.out], by have := HK.out.1; omega, by have := HK.out.2; simp [this], by omega, ?_, HL.out, ?_⟩, by simp [intOf]; omega⟩
          · have e : itemC (acc ++ [(x, y + 256 * z)]) = itemC acc ++ [.int .i64 (x : Int), .int .i64 ((y + 256 * z : Nat) : Int)] := by simp [itemC]
            rw [e]; exact hown1
          · exact below_own2 HB1.out hz OW1.out _ _ hgrow1
      · have hk : j = S.size := HW.out.2.2.1 (by omega)
        have HF : Hid (itemsL S.data.toList = some acc) := by
          have := HW.out.2.2.2.2.1
          rw [← HW.out.1, hk, List.drop_eq_nil_of_le (by simp)] at this
          rw [itemsAux] at this
          show _ = _
          simpa using this
        have hI0 : ¬ (j : Int) < (S.size : Int) := by omega
        clear hk
        generalize hlw : lastW acc = lw at *
        go_wp2_with fail
        go_ret2
        refine ⟨HW.out.2.2.2.2.2, .inr ⟨acc, _, H0.out.trans HF.out, ?_, rfl, ?_⟩⟩
        · rintro rfl
          have q1 : 0 = k := HW.out.2.1
          have q2 := HW.out.1
          have hS0 : S.data.toList.length = 0 := by
            have : S.size = 0 := by omega
            simpa using this
          have : S.data.toList = [] := List.eq_nil_of_length_eq_zero hS0
          rw [ByteArray.toList_eq, this] at hne
          cases hne
        · rw [HW.out.2.1]; exact HW.out.2.2.2.1
def items4 (s : List UInt8) : Option (List (Nat × Nat)) := match itemsL s with
  | some l => if l.length = 4 then some l else none
  | none => none
theorem itemsAux_le4 : ∀ (s : List UInt8) (p : Nat) (l : List (Nat × Nat)), itemsAux s p = some l → l.length + p ≤ 4 ∨ l = []
  | [], _, l, h => by cases h; exact .inr rfl
  | [_], _, _, h => by cases h
  | [_, _], _, _, h => by cases h
  | a :: b :: c :: r, p, l, h => by
    rw [itemsAux] at h
    split at h
    · cases h
    · rename_i hc
      cases hr : itemsAux r a.toNat with
      | none => rw [hr] at h; cases h
      | some l' =>
        rw [hr] at h
        cases h
        rcases itemsAux_le4 r a.toNat l' hr with q | q
        · left; simp only [List.length_cons]; omega
        · subst q; left; simp only [List.length_cons, List.length_nil]; omega
theorem items_le4 {s : List UInt8} {l : List (Nat × Nat)} (h : itemsL s = some l) : l.length ≤ 4 := by
  rcases itemsAux_le4 s 0 l h with q | q
  · omega
  · subst q; simp
set_option maxRecDepth 100000 in
set_option maxHeartbeats 1000000 in
theorem treadAll_any (S : ByteArray) (w : World) (hg : Gt w) (hn : S.size ≤ 100000) :
    Calls Tryz.prog 127 #[.string S] w fun r w' => ReadR w w' (items4 S.data.toList) r := by
  have HR : Hid (_) := tread_any S w hg hn
  have HG : Hid (Gt w) := hg
  clear hg
  go_enter Tryz.func127, Tryz.ntmps127
  go_wp2_with fail
  refine Calls.mono HR.out ?_
  rintro e w1 ⟨hb, ⟨h1, g, rfl⟩ | ⟨l, v, h1, h2, rfl, ho⟩⟩
  · have Q : Hid (Below w.heap.size w w1 ∧ items4 S.data.toList = none) := by
      refine ⟨hb, ?_⟩
      unfold items4 items1 at *
      split at h1
      · rename_i e; rw [e]; rfl
      · rw [h1]
    clear h1 HR hb
    go_wp2_with fail
    go_ret2
    exact ⟨Q.out.1, .inl ⟨Q.out.2, g, rfl⟩⟩
  · have hi : itemsL S.data.toList = some l := by
      unfold items1 at h1
      split at h1
      · cases h1
      · exact h1
    obtain ⟨a, cap, g, rfl, ha', hc'⟩ := own_shape2 ho
    clear ha' hc'
    have hl4 := items_le4 hi
    have OW : Hid (w1.ownsRow w.heap.size 189 2 (.slice a l.length cap) l.length (itemC l)) := ho
    have HB : Hid (Below w.heap.size w w1) := hb
    obtain ⟨x1, g1⟩ := (HG.out.below hb).e1
    by_cases h4 : l.length = 4
    · have Q : Hid (items4 S.data.toList = some l) := by show _ = _; unfold items4; rw [hi]; exact if_pos h4
      have hli : ¬ (l.length : Int) < 4 := by omega
      clear ho hb h1 hi HR g1 HG h4 hl4
      go_wp2_with fail
      go_ret2
      exact ⟨HB.out, .inr ⟨l, .slice a l.length cap, Q.out, h2, rfl, OW.out⟩⟩
    · have Q : Hid (items4 S.data.toList = none) := by show _ = _; unfold items4; rw [hi]; exact if_neg h4
      have hli : (l.length : Int) < 4 := by omega
      have hS : (S.size : Int) ≤ 100000 := by omega
      clear ho hb h1 hi HR HG
      go_wp2_with fail
      go_region
      go_wp2_with fail
      go_ret2
      exact ⟨HB.out.trans (((Below.refl _ _).drew.alloc (by simp) _).mono HB.out.size), .inl ⟨Q.out, _, rfl⟩⟩
theorem itemsAux_rise : ∀ (s : List UInt8) (p : Nat) (l : List (Nat × Nat)), itemsAux s p = some l → (∀ x ∈ l, p < x.1 ∧ x.1 ≤ 4) ∧ l.Pairwise (fun x y => x.1 < y.1)
  | [], _, l, h => by cases h; simp
  | [_], _, _, h => by cases h
  | [_, _], _, _, h => by cases h
  | a :: b :: c :: r, p, l, h => by
    rw [itemsAux] at h
    split at h
    · cases h
    · rename_i hc
      cases hr : itemsAux r a.toNat with
      | none => rw [hr] at h; cases h
      | some l' =>
        rw [hr] at h
        cases h
        obtain ⟨q1, q2⟩ := itemsAux_rise r a.toNat l' hr
        refine ⟨?_, ?_⟩
        · intro x hx
          rcases List.mem_cons.1 hx with rfl | hx
          · exact ⟨by show p < a.toNat; omega, by show a.toNat ≤ 4; omega⟩
          · have := q1 x hx; omega
        · exact List.pairwise_cons.2 ⟨fun y hy => (q1 y hy).1, q2⟩
theorem four_items {s : List UInt8} {l : List (Nat × Nat)} (h : itemsL s = some l) (h4 : l.length = 4) : ∃ a b c d, l = [(1, a), (2, b), (3, c), (4, d)] := by
  obtain ⟨q1, q2⟩ := itemsAux_rise s 0 l h
  match l, h4 with
  | [(i, a), (j, b), (k, c), (n, d)], _ =>
    simp at q1 q2
    obtain ⟨r1, r2, r3, r4⟩ := q1
    obtain ⟨⟨s1, s2, s3⟩, ⟨s4, s5⟩, s6⟩ := q2
    have : i = 1 ∧ j = 2 ∧ k = 3 ∧ n = 4 := by omega
    obtain ⟨rfl, rfl, rfl, rfl⟩ := this
    exact ⟨a, b, c, d, rfl⟩
end Go.Proofs.YtoeihlgidakjbaaGreatDoor
namespace Go.Proofs.YtoeihlgidakjbaaGreatDoor
open Go.RowKit Go.Lib
structure PV where
  vw0 : Value
  vw1 : Value
  vw2 : Value
  va0 : Value
  va1 : Value
  va2 : Value
  vt : Value
  vg : Value
  vs : Value
  mb : Nat
def PV.rvals (v : PV) : List Value := [v.vw0, v.vw1, v.vw2, v.va0, v.va1, v.va2, v.vt, v.vg, v.vs]
def PV.tok (v : PV) : Value := .slice (some ⟨v.mb, 0, none⟩) 0 0
def PV.vals (v : PV) : List Value := v.rvals ++ [v.tok]
def RE.pcl (m : RE) (v : PV) (q : Nat × Nat × Nat) : Array Value := #[v.vw0, v.vw1, v.vw2, v.va0, v.va1, v.va2, iv (m.h0 % m.a0.length), iv (m.h1 % m.a1.length), iv (m.h2 % m.a2.length), iv m.k0, iv m.k1, iv m.k2, iv m.mag, .map (some v.mb), iv m.st, .int .i64 m.cnt, .int .i64 m.tim, .int .u8 (m.id : Int), .int .u8 (m.odd : Int), .int .i64 (if m.sid < 0 then 0 else 1), .int .i64 (if m.sid < 0 then 0 else m.sid), .string ⟨m.sent.toArray⟩, iv q.1, iv q.2.1, iv q.2.2, iv (termsI m.agr 0), iv (termsI m.agr 1), iv (termsI m.agr 2), iv m.naks, iv m.loops, v.vt, v.vg, v.vs]
def RE.prow (m : RE) (v : PV) (S : List UInt8) : List Row := [⟨3, v.vw0, m.w0.map iv⟩, ⟨3, v.vw1, m.w1.map iv⟩, ⟨3, v.vw2, m.w2.map iv⟩, ⟨3, v.va0, m.a0.map iv⟩, ⟨3, v.va1, m.a1.map iv⟩, ⟨3, v.va2, m.a2.map iv⟩, ⟨3, v.vt, m.told.map iv⟩, ⟨5, v.vg, m.got.map bv⟩, ⟨5, v.vs, S.map bv⟩]
def RE.props (m : RE) : Nat × Nat × Nat := (termsI m.sent 0, termsI m.sent 1, termsI m.sent 2)
structure PX (w : World) (B Bs pb : Nat) (v : PV) (q : Nat × Nat × Nat) (m : RE) (S : List UInt8) : Prop where
  em : EM w B pb 83 (m.pcl v q) (m.prow v S)
  mp : MapIs w v.mb m.mg
  mg : B ≤ v.mb
  mn : ¬ inE pb v.rvals v.mb
  t0 : m.told = [] → v.vt = .slice none 0 0
  s1 : ∀ b, v.vs.ownBlock = some b → Bs ≤ b
abbrev PI (w : World) (B Bs pb : Nat) (v : PV) (m : RE) (S : List UInt8) : Prop := PX w B Bs pb v m.props m S
theorem PX.ot {w : World} {B Bs pb : Nat} {v : PV} {q : Nat × Nat × Nat} {m : RE} {S : List UInt8} (h : PX w B Bs pb v q m S) : w.ownsRow B 3 1 v.vt m.told.length (m.told.map iv) := by
  have := h.em.own ⟨3, v.vt, m.told.map iv⟩ (by simp [RE.prow])
  simpa using this
theorem PX.og {w : World} {B Bs pb : Nat} {v : PV} {q : Nat × Nat × Nat} {m : RE} {S : List UInt8} (h : PX w B Bs pb v q m S) : w.ownsRow B 5 1 v.vg m.got.length (m.got.map bv) := by
  have := h.em.own ⟨5, v.vg, m.got.map bv⟩ (by simp [RE.prow])
  simpa using this
theorem PX.os {w : World} {B Bs pb : Nat} {v : PV} {q : Nat × Nat × Nat} {m : RE} {S : List UInt8} (h : PX w B Bs pb v q m S) : w.ownsRow B 5 1 v.vs S.length (S.map bv) := by
  have := h.em.own ⟨5, v.vs, S.map bv⟩ (by simp [RE.prow])
  simpa using this
theorem PX.below {w w' : World} {B Bs pb : Nat} {v : PV} {q : Nat × Nat × Nat} {m : RE} {S : List UInt8} (h : PX w B Bs pb v q m S) (hb : Below w.heap.size w w') : PX w' B Bs pb v q m S := ⟨h.em.below hb, h.mp.blk (hb.block _ h.mp.lt), h.mg, h.mn, h.t0, h.s1⟩
theorem PX.of_tch {w w' : World} {B Bs pb : Nat} {v : PV} {q : Nat × Nat × Nat} {m : RE} {S : List UInt8} {T : Nat → Prop} (h : PX w B Bs pb v q m S) (ht : Tch T w w') (hs : ∀ b, inE pb v.vals b → ¬ T b) : PX w' B Bs pb v q m S := by
  have hr : ∀ b, inE pb v.rvals b → ¬ T b := fun b hb => hs b (by
    rcases hb with e | ⟨x, hx, hb⟩
    · exact .inl e
    · exact .inr ⟨x, List.mem_append_left _ hx, hb⟩)
  have hm : ¬ T v.mb := hs _ (.inr ⟨v.tok, List.mem_append_right _ (List.mem_singleton.2 rfl), rfl⟩)
  exact ⟨h.em.of_tch ht hr, h.mp.blk (ht.block _ h.mp.lt hm), h.mg, h.mn, h.t0, h.s1⟩
theorem inE_tok {pb : Nat} {vs : List Value} {t : Value} {b : Nat} : inE pb (vs ++ [t]) b ↔ inE pb vs b ∨ t.ownBlock = some b := by
  simp only [inE, List.mem_append, List.mem_singleton]
  constructor
  · rintro (h | ⟨x, h | h, hx⟩)
    · exact .inl (.inl h)
    · exact .inl (.inr ⟨x, h, hx⟩)
    · exact .inr (h ▸ hx)
  · rintro ((h | ⟨x, h, hx⟩) | h)
    · exact .inl h
    · exact .inr ⟨x, .inl h, hx⟩
    · exact .inr ⟨t, .inr rfl, h⟩
theorem inV {pb b : Nat} {v : PV} : inE pb v.vals b ↔ inE pb v.rvals b ∨ b = v.mb := by
  unfold PV.vals
  rw [inE_tok]
  simp [PV.tok, Value.ownBlock, eq_comm]
theorem ES.tok {w w' : World} {pb : Nat} {vs vs' : List Value} (h : ES w w' pb vs vs') (t : Value) : ES w w' pb (vs ++ [t]) (vs' ++ [t]) :=
  ⟨h.t.mono (fun b x => inE_tok.2 (.inl x)), fun b x => by
    rcases inE_tok.1 x with y | y
    · rcases h.i b y with z | z
      · exact .inl (inE_tok.2 (.inl z))
      · exact .inr z
    · exact .inl (inE_tok.2 (.inr y))⟩
theorem PX.lt {w : World} {B Bs pb : Nat} {v : PV} {q : Nat × Nat × Nat} {m : RE} {S : List UInt8} (h : PX w B Bs pb v q m S) : ∀ b, inE pb v.vals b → B ≤ b ∧ b < w.heap.size := by
  intro b hb
  rcases inV.1 hb with x | rfl
  · exact h.em.lt b x
  · exact ⟨h.mg, h.mp.lt⟩
theorem PX.of_es {w w' : World} {B Bs pb : Nat} {v v' : PV} {q q' : Nat × Nat × Nat} {m m' : RE} {S S' : List UInt8} (h : PX w B Bs pb v q m S) (em : EM w' B pb 83 (m'.pcl v' q') (m'.prow v' S')) (es : ES w w' pb v.rvals v'.rvals)
    (e1 : v'.mb = v.mb) (e2 : m'.mg = m.mg) (t0 : m'.told = [] → v'.vt = .slice none 0 0) (s1 : ∀ b, v'.vs.ownBlock = some b → Bs ≤ b) : PX w' B Bs pb v' q' m' S' ∧ ES w w' pb v.vals v'.vals := by
  refine ⟨⟨em, ?_, by rw [e1]; exact h.mg, ?_, t0, s1⟩, ?_⟩
  · rw [e1, e2]; exact h.mp.blk (es.t.block _ h.mp.lt h.mn)
  · rw [e1]
    intro x
    rcases es.i _ x with y | y
    · exact h.mn y
    · have := h.mp.lt; omega
  · have := es.tok v.tok
    unfold PV.vals
    have e : v'.tok = v.tok := by unfold PV.tok; rw [e1]
    rw [e]; exact this
theorem PX.num {w w' : World} {B Bs pb : Nat} {v : PV} {q q' : Nat × Nat × Nat} {m m' : RE} {S : List UInt8} (h : PX w B Bs pb v q m S) (hb : w'.heap[pb]? = some (.cells (m'.pcl v q') 83 (0, 0))) (ht : Tch (fun b => b = pb) w w') (e1 : m'.told = m.told) (e2 : m'.prow v S = m.prow v S) (e3 : m'.mg = m.mg) : PX w' B Bs pb v q' m' S ∧ ES w w' pb v.vals v.vals := by
  obtain ⟨h1, h2⟩ := h.em.num hb ht
  exact h.of_es (by rw [e2]; exact h1) h2 rfl e3 (by rw [e1]; exact h.t0) h.s1
theorem RE.asks_nth (m : RE) (k : Nat) (h : k < 3) : ∃ n : Nat, m.asks.take (k + 1) = m.asks.take k ++ [(k + 1, n)] ∧ #[iv m.k0, iv m.k1, iv m.k2][k]? = some (iv n) := by
  rcases (by omega : k = 0 ∨ k = 1 ∨ k = 2) with rfl | rfl | rfl
  · exact ⟨m.k0, rfl, rfl⟩
  · exact ⟨m.k1, rfl, rfl⟩
  · exact ⟨m.k2, rfl, rfl⟩
theorem asks_small {m : RE} (ok : m.Ok) : ∀ x ∈ m.asks, x.1 < 256 ∧ x.2 < 65536 := by
  obtain ⟨q, hq, hq1, hqm, hml2⟩ := ok.mag
  intro x hx
  have h0 := ok.k0
  have h1 := ok.k1
  have h2 := ok.k2
  simp only [RE.asks, List.mem_cons, List.not_mem_nil, or_false] at hx
  rcases hx with rfl | rfl | rfl | rfl <;> constructor <;> simp only <;> omega
set_option maxRecDepth 100000 in
set_option maxHeartbeats 2000000 in
theorem asking_any {m : RE} (pb : Nat) (w : World) (c6 : w.cell? ⟨pb, 9, none⟩ = some (iv m.k0)) (c7 : w.cell? ⟨pb, 10, none⟩ = some (iv m.k1)) (c8 : w.cell? ⟨pb, 11, none⟩ = some (iv m.k2)) (c9 : w.cell? ⟨pb, 12, none⟩ = some (iv m.mag)) (hlt : pb < w.heap.size) (ok : m.Ok) :
    Calls Tryz.prog 123 #[.pointer (some ⟨pb, 0, none⟩)] w fun r w' => r = .returned (.string ⟨(dataL m.asks).toArray⟩) ∧ Below w.heap.size w w' := by
  obtain ⟨i0, hi, hz0, hz1, hz2⟩ := info_parts Tryz.infoTI
  have OK : Hid (m.Ok) := ok
  have C9 : Hid (w.cell? ⟨pb, 12, none⟩ = some (iv m.mag)) := c9
  unfold iv at c6 c7 c8 c9
  clear ok
  go_enter Tryz.func123, Tryz.ntmps123
  go_wp2_with (at_make; go_must (refine wpList_make_own _ rfl _ _ 163 rfl w.heap.size 189 i0 (.agg #[.int .i64 0, .int .i64 0]) 2 Tryz.underlying163 hi hz0 hz1 .i64 .i64 _ 4 rfl rfl (by omega) (by rw [hz2]; omega) (by unfold maxLen; omega) (Nat.le_refl _) ?_; intro w0 hown0 hgrow0; have hb0 : Below w.heap.size w w0 := (Below.refl _ _).grown hgrow0 (Nat.le_refl _) (fun k hk => by cases hk); have d6 := (hb0.cell (p := ⟨pb, 9, none⟩) hlt).trans c6; have d7 := (hb0.cell (p := ⟨pb, 10, none⟩) hlt).trans c7; have d8 := (hb0.cell (p := ⟨pb, 11, none⟩) hlt).trans c8; clear hgrow0))
  have HB0 : Hid (_) := hb0
  have HO0 : Hid (_) := hown0
  clear hb0 hown0 c6 c7 c8 d6 d7 d8
  go_loopw [3, 11] (fun v i wr => ∃ (k : Nat) (a : Option Addr) (cap : Nat), k ≤ 3 ∧ v = .slice a k cap ∧ i = .int .i64 k ∧ Hid (wr.ownsRow w.heap.size 189 2 v k (itemC (m.asks.take k)) ∧ Below w.heap.size w wr)) (fun _ i _ => 3 - (intOf i).toNat)
  case atStart => exact ⟨0, _, _, by omega, rfl, rfl, HO0.out, HB0.out⟩
  case round =>
    obtain ⟨k, a, cap, hk, rfl, rfl, HW⟩ := hrel
    clear HO0 HB0
    by_cases hl3 : k < 3
    · have hI : (k : Int) < 3 := by omega
      obtain ⟨n, hn1, hn2⟩ := m.asks_nth k hl3
      have HN : Hid (m.asks.take (k + 1) = m.asks.take k ++ [(k + 1, n)]) := hn1
      have hix : ∀ wx, (Instr.index 74 (.agg #[.int .i64 (m.k0 : Int), .int .i64 (m.k1 : Int), .int .i64 (m.k2 : Int)]) (.int .i64 (k : Int))).run Tryz.prog wx = .ok (.int .i64 (n : Int)) wx := by
        intro wx
        unfold iv at hn2
        rcases (by omega : k = 0 ∨ k = 1 ∨ k = 2) with rfl | rfl | rfl <;> (simp at hn2; rw [← hn2]; simp [Instr.index, run_underlying Tryz.underlying74, asIntOf, go_sem])
      clear hn1 hn2
      have HO : Hid (wr.ownsRow w.heap.size 189 2 (.slice a k cap) k (itemC (m.asks.take k))) := HW.out.1
      have hB := HW.out.2.size
      go_wp2_with (at_builtin; go_must (refine wpList_append_lies _ rfl (.tmp 15) (.tmp 20) 163 rfl w.heap.size 189 i0 (.agg #[.int .i64 0, .int .i64 0]) 2 16 Tryz.underlying163 hi hz0 hz1 hz2 rfl (by decide) _ k (itemC (m.asks.take k)) rfl (HO.out.alloc _) ⟨wr.heap.size, 0, none⟩ 1 1 [.int .i64 ((k : Int) + 1), .int .i64 (n : Int)] rfl rfl (news2 _ _ _ _) (by intro u hu; simp at hu; rcases hu with rfl | rfl <;> rfl) (by omega) (by unfold maxLen; omega) (by omega) (by simp; omega) _ rfl ?_; intro gv capv w1 hown1 hgrow1 hat1 hlt1))
      refine ⟨⟨k + 1, _, _, by omega, rfl, by go_num, ?_, ?_⟩, by simp [intOf]; omega⟩
      · rw [HN.out]
        have e : itemC (m.asks.take k ++ [(k + 1, n)]) = itemC (m.asks.take k) ++ [.int .i64 ((k : Int) + 1), .int .i64 (n : Int)] := by simp [itemC]
        rw [e]; exact hown1
      · exact below_own HW.out.2 HW.out.2.size HO.out _ hgrow1
    · have hk3 : k = 3 := by omega
      subst hk3
      have HO : Hid (wr.ownsRow w.heap.size 189 2 (.slice a 3 cap) 3 (itemC (m.asks.take 3))) := HW.out.1
      have HBW : Hid (Below w.heap.size w wr) := HW.out.2
      have hB := HW.out.2.size
      have d9 : wr.cell? ⟨pb, 12, none⟩ = some (.int .i64 (m.mag : Int)) := (HBW.out.cell (p := ⟨pb, 12, none⟩) hlt).trans c9
      clear HW
      go_wp2_with (at_builtin; go_must (refine wpList_append_lies _ rfl (.tmp 23) (.tmp 29) 163 rfl w.heap.size 189 i0 (.agg #[.int .i64 0, .int .i64 0]) 2 16 Tryz.underlying163 hi hz0 hz1 hz2 rfl (by decide) _ 3 (itemC (m.asks.take 3)) rfl (HO.out.alloc _) ⟨wr.heap.size, 0, none⟩ 1 1 [.int .i64 4, .int .i64 (m.mag : Int)] rfl rfl (news2 _ _ _ _) (by intro u hu; simp at hu; rcases hu with rfl | rfl <;> rfl) (by omega) (by unfold maxLen; omega) (by omega) (by simp; omega) _ rfl ?_; intro gv capv w1 hown1 hgrow1 hat1 hlt1))
      have HB1 : Hid (Below w.heap.size w w1) := below_own HBW.out HBW.out.size HO.out _ hgrow1
      have hown2 : w1.ownsRow w.heap.size 189 2 (.slice (some ⟨gv, 0, none⟩) 4 capv) m.asks.length (itemC m.asks) := by
        have e : itemC m.asks = itemC (m.asks.take 3) ++ [.int .i64 4, .int .i64 (m.mag : Int)] := rfl
        rw [e]; exact hown1
      have HI : Hid (_) := itemsIn_own hown2
      clear hown1 hown2 hgrow1 hat1
      refine (twrite_any _ m.asks w1 HI.out (asks_small OK.out) (by show 4 ≤ 1000; omega) (by show 0 < 4; omega)).mono ?_
      rintro e w2 ⟨rfl, hb2⟩
      have HB2 : Hid (Below w.heap.size w w2) := HB1.out.trans (hb2.mono HB1.out.size)
      clear hb2
      go_wp2_with fail
      go_ret
      exact ⟨rfl, HB2.out⟩
end Go.Proofs.YtoeihlgidakjbaaGreatDoor

/- spoilt's walk. Pieces: three ends in memory, bytes that lie beside them. Bytes that are appended to. -/
import Derived.Test.YtoeihlgidakjbaaGreatDoorPc31
import Derived.Test.YtoeihlgidakjbaaGreatDoorPc28
import Derived.Test.YtoeihlgidakjbaaGreatDoorPc3
import Derived.Test.YtoeihlgidakjbaaGreatDoorPc32
import Derived.Test.YtoeihlgidakjbaaGreatDoorPc6
namespace Go.Proofs.YtoeihlgidakjbaaGreatDoor
open Go.RowKit Go.Lib
theorem unfR_shape {l : List UInt8} {v : Value} {n : Int} (h : UnfR l v n) : (∃ (c d : Int) (t : ByteArray), v = .agg #[.int .i64 c, .int .i64 d, .string t]) ∧ ((unframeL l = none ∧ (n == 0) = false) ∨ n = 0) := by
  constructor
  · rcases h with ⟨_, rfl, _⟩ | ⟨c, d, t, x, y, _, ⟨_, rfl, _⟩ | ⟨_, _, rfl, _⟩ | ⟨_, _, rfl, _⟩⟩
    · exact ⟨_, _, _, rfl⟩
    · exact ⟨_, _, _, rfl⟩
    · exact ⟨_, _, _, rfl⟩
    · exact ⟨_, _, _, rfl⟩
  · rcases unfR_L h with ⟨h1, h2⟩ | ⟨_, _, _, _, _, h3, _⟩
    · exact .inl ⟨h1, by simpa using h2⟩
    · exact .inr h3
theorem conv_flag (W : World) : (convert 52 9 (.slice (some ⟨W.heap.size, 0, none⟩) 1 1)).run Tryz.prog (W.alloc (.cells #[.int .u8 126] 5)) = .ok (.string ⟨[126].toArray⟩) (W.alloc (.cells #[.int .u8 126] 5)) :=
  conv_bytes (W.alloc (.cells #[.int .u8 126] 5)) W.heap.size 0 1 [126] (by
    intro k hk
    have hk2 : k < 1 := hk
    obtain rfl : k = 0 := by omega
    rw [World.cell?_alloc_at _ _ _ _ (by simp)]
    simp)
theorem conv_str (W : World) (R : ByteArray) : (convert 9 52 (.string R)).run Tryz.prog W = .ok (.slice (some ⟨W.heap.size, 0, none⟩) R.size (grownCap W R.size 0 5)) (bytesWorld W 5 R) :=
  Go.Lib.run_convert_string_bytes W 9 52 5 R Tryz.underlying9 Tryz.underlying52 Tryz.underlying5
theorem rd_world (W : World) (R : ByteArray) : Rd (bytesWorld W 5 R) W.heap.size 0 R.data.toList := by
  intro k hk
  rw [Nat.zero_add]
  have := bytesWorld_cell W 5 R k (by simpa using hk)
  rw [this, List.getD, List.getElem?_eq_getElem hk]
  rfl
theorem extract1 (S : ByteArray) (k : Nat) (h : k < S.size) : (S.extract k (k + 1)).data.toList = [S[k]] := by
  have h' : k < S.data.toList.length := by simpa using h
  have e : (S.extract k (k + 1)).data.toList = (S.data.toList.drop k).take 1 := by
    rw [ByteArray.data_extract, Array.toList_extract]
    simp [List.extract]
  rw [e, List.drop_eq_getElem_cons h']
  rfl
theorem unf_str {aS aC aF aL aO aH : Addr} (R : ByteArray) (W : World) (cap : Nat) (hgl : Gl W aS aC aF aL aO aH) (hn : R.size ≤ 140737488351232) :
    Calls Tryz.prog 47 #[.slice (some ⟨W.heap.size, 0, none⟩) R.size cap] (bytesWorld W 5 R) fun e w' => Below W.heap.size W w' ∧ ∃ v n, e = .returned (.tuple #[v, .int .i64 n]) ∧ UnfR R.data.toList v n := by
  have hb := below_bytesWorld W R
  have h := unframe_any W.heap.size 0 cap R.data.toList (bytesWorld W 5 R) (hgl.below hb) (rd_world W R) (by rw [bytesWorld_size]; omega) (by simpa using hn)
  have e : R.data.toList.length = R.size := by simp
  rw [e] at h
  exact h.mono fun e w' h => ⟨hb.trans (h.1.mono hb.size), h.2⟩
set_option maxRecDepth 100000 in
set_option maxHeartbeats 8000000 in
theorem spoilt_any {aS aC aF aL aO aH : Addr} (S : ByteArray) (w0 w : World) (gl : Gl w0 aS aC aF aL aO aH) (hb0 : Below w0.heap.size w0 w) (hn : S.size ≤ 1048576) :
    Calls Tryz.prog 30 #[.string S] w fun e w' => ∃ O : ByteArray, e = .returned (.string O) ∧ (Noise O.data.toList ∧ O.size ≤ 2 * S.size + 8 ∧ Below w.heap.size w w') := by
  have HG : Hid (Gl w0 aS aC aF aL aO aH ∧ Below w0.heap.size w0 w) := ⟨gl, hb0⟩
  have hcv := conv_flag w
  have HA : Hid (Below w.heap.size w (w.alloc (.cells #[.int .u8 126] 5))) := (Below.refl _ _).alloc (Nat.le_refl _) _
  clear gl hb0
  go_enter Tryz.func30, Tryz.ntmps30
  go_wp2_with fail
  clear hcv
  go_loopw [3, 4, 5] (fun out row i wr => ∃ (k : Nat) (O R : ByteArray), k ≤ S.size + 1 ∧ i = .int .i64 (k : Int) ∧ out = .string O ∧ row = .string R ∧ Hid (Noise O.data.toList ∧ (∀ c ∈ R.data.toList, ¬ c.toNat = 126) ∧ O.size + R.size ≤ 2 * k + 1 ∧ Below w.heap.size w wr)) (fun _ _ i _ => S.size + 1 - (intOf i).toNat)
  case atStart =>
    exact ⟨0, ⟨[126].toArray⟩, ⟨#[]⟩, Nat.zero_le _, rfl, rfl, rfl, Noise.flag, fun _ q => (nomatch q), Nat.le_refl _, HA.out⟩
  case round =>
    obtain ⟨k, O, R, hk, rfl, rfl, rfl, HW⟩ := hrel
    have hsz := HW.out.2.2.1
    have HSZ : Hid (O.size + R.size ≤ 2 * k + 1) := hsz
    have HU : Hid (Calls Tryz.prog 47 #[.slice (some ⟨wr.heap.size, 0, none⟩) R.size (grownCap wr R.size 0 5)] (bytesWorld wr 5 R) fun e w' => Below wr.heap.size wr w' ∧ ∃ v n, e = .returned (.tuple #[v, .int .i64 n]) ∧ UnfR R.data.toList v n) := unf_str R wr _ (HG.out.1.below (HG.out.2.trans (HW.out.2.2.2.mono HG.out.2.size))) (by omega)
    by_cases hlt : k < S.size
    · have hI : (k : Int) < (S.size : Int) := by omega
      have hJ : (k : Int) ≤ (S.size : Int) := by omega
      by_cases hf : S[k].toNat = 126
      · have hf' : (((S[k]).toNat : Int) == 126) = true := by simp [hf]
        have hcs := conv_str wr R
        clear hf
        go_wp2_with fail
        refine Calls.mono HU.out ?_
        rintro e w1 ⟨hb1, vx, nx, rfl, hU⟩
        obtain ⟨⟨c1, d1, t1, rfl⟩, hor⟩ := unfR_shape hU
        clear hU HU hcs
        rcases hor with ⟨hu, hn0⟩ | rfl
        · have hcf := conv_flag (w1.alloc (.cells #[.int .i64 c1, .int .i64 d1, .string t1] 27))
          have ez : (w1.alloc (.cells #[.int .i64 c1, .int .i64 d1, .string t1] 27)).heap.size = w1.heap.size + 1 := by simp
          rw [ez] at hcf
          have hcat1 := fun wx => run_string_add_sum (P := Tryz.prog) wx O R (by omega)
          have hcat2 := fun wx => run_string_add_sum (P := Tryz.prog) wx (O ++ R) ⟨#[126]⟩ (by rw [ByteArray.size_append]; show O.size + R.size + 1 ≤ _; omega)
          have HN : Hid (Noise ((O ++ R) ++ (⟨#[126]⟩ : ByteArray)).data.toList ∧ ((O ++ R) ++ (⟨#[126]⟩ : ByteArray)).size + 0 ≤ 2 * (k + 1) + 1 ∧ Below w.heap.size w ((w1.alloc (.cells #[.int .i64 c1, .int .i64 d1, .string t1] 27)).alloc (.cells #[.int .u8 126] 5))) := by
            refine ⟨?_, ?_, (HW.out.2.2.2.trans (hb1.mono HW.out.2.2.2.size)).trans ((((Below.refl _ _).alloc (Nat.le_refl _) _).alloc (by simp) _).mono (Nat.le_trans HW.out.2.2.2.size hb1.size))⟩
            · rw [app_toList, app_toList, List.append_assoc]
              exact HW.out.1.app (noise_row HW.out.2.1 hu)
            · rw [ByteArray.size_append, ByteArray.size_append]
              show O.size + R.size + 1 + 0 ≤ _
              have := HSZ.out; omega
          clear hb1 hu ez HW hsz
          go_wp2_with fail
          exact ⟨⟨k + 1, (O ++ R) ++ ⟨#[126]⟩, ⟨#[]⟩, by omega, by go_num, rfl, rfl, HN.out.1, fun _ q => (nomatch q), HN.out.2.1, HN.out.2.2⟩, by simp [intOf]; omega⟩
        · have HN : Hid (Below w.heap.size w (w1.alloc (.cells #[.int .i64 c1, .int .i64 d1, .string t1] 27))) := (HW.out.2.2.2.trans (hb1.mono HW.out.2.2.2.size)).alloc (Nat.le_trans HW.out.2.2.2.size hb1.size) _
          clear hb1 hsz
          go_wp2_with fail
          exact ⟨⟨k + 1, O, ⟨#[]⟩, by omega, by go_num, rfl, rfl, HW.out.1, fun _ q => (nomatch q), by have := HSZ.out; show O.size + 0 ≤ _; omega, HN.out⟩, by simp [intOf]; omega⟩
      · have hf' : (((S[k]).toNat : Int) == 126) = false := by simp; omega
        have hcat := fun wx => run_string_add_sum (P := Tryz.prog) wx R (S.extract k (k + 1)) (by rw [ByteArray.size_extract]; omega)
        have HN : Hid (Noise O.data.toList ∧ (∀ c ∈ (R ++ S.extract k (k + 1)).data.toList, ¬ c.toNat = 126) ∧ O.size + (R ++ S.extract k (k + 1)).size ≤ 2 * (k + 1) + 1 ∧ Below w.heap.size w wr) := by
          refine ⟨HW.out.1, ?_, ?_, HW.out.2.2.2⟩
          · rw [app_toList, extract1 S k hlt]
            exact mem_app HW.out.2.1 (fun c hc => by obtain rfl := List.mem_singleton.1 hc; exact hf)
          · rw [ByteArray.size_append, ByteArray.size_extract]; omega
        clear hsz hf HW
        go_wp2_with fail
        exact ⟨⟨k + 1, O, R ++ S.extract k (k + 1), by omega, by go_num, rfl, rfl, HN.out⟩, by simp [intOf]; omega⟩
    · by_cases hle : k ≤ S.size
      · have hI : ¬ (k : Int) < (S.size : Int) := by omega
        have hJ : (k : Int) ≤ (S.size : Int) := by omega
        have hcs := conv_str wr R
        go_wp2_with fail
        refine Calls.mono HU.out ?_
        rintro e w1 ⟨hb1, vx, nx, rfl, hU⟩
        obtain ⟨⟨c1, d1, t1, rfl⟩, hor⟩ := unfR_shape hU
        clear hU HU hcs
        rcases hor with ⟨hu, hn0⟩ | rfl
        · have hcf := conv_flag (w1.alloc (.cells #[.int .i64 c1, .int .i64 d1, .string t1] 27))
          have ez : (w1.alloc (.cells #[.int .i64 c1, .int .i64 d1, .string t1] 27)).heap.size = w1.heap.size + 1 := by simp
          rw [ez] at hcf
          have hcat1 := fun wx => run_string_add_sum (P := Tryz.prog) wx O R (by omega)
          have hcat2 := fun wx => run_string_add_sum (P := Tryz.prog) wx (O ++ R) ⟨#[126]⟩ (by rw [ByteArray.size_append]; show O.size + R.size + 1 ≤ _; omega)
          have HN : Hid (Noise ((O ++ R) ++ (⟨#[126]⟩ : ByteArray)).data.toList ∧ ((O ++ R) ++ (⟨#[126]⟩ : ByteArray)).size + 0 ≤ 2 * (k + 1) + 1 ∧ Below w.heap.size w ((w1.alloc (.cells #[.int .i64 c1, .int .i64 d1, .string t1] 27)).alloc (.cells #[.int .u8 126] 5))) := by
            refine ⟨?_, ?_, (HW.out.2.2.2.trans (hb1.mono HW.out.2.2.2.size)).trans ((((Below.refl _ _).alloc (Nat.le_refl _) _).alloc (by simp) _).mono (Nat.le_trans HW.out.2.2.2.size hb1.size))⟩
            · rw [app_toList, app_toList, List.append_assoc]
              exact HW.out.1.app (noise_row HW.out.2.1 hu)
            · rw [ByteArray.size_append, ByteArray.size_append]
              show O.size + R.size + 1 + 0 ≤ _
              have := HSZ.out; omega
          clear hb1 hu ez HW hsz
          go_wp2_with fail
          exact ⟨⟨k + 1, (O ++ R) ++ ⟨#[126]⟩, ⟨#[]⟩, by omega, by go_num, rfl, rfl, HN.out.1, fun _ q => (nomatch q), HN.out.2.1, HN.out.2.2⟩, by simp [intOf]; omega⟩
        · have HN : Hid (Below w.heap.size w (w1.alloc (.cells #[.int .i64 c1, .int .i64 d1, .string t1] 27))) := (HW.out.2.2.2.trans (hb1.mono HW.out.2.2.2.size)).alloc (Nat.le_trans HW.out.2.2.2.size hb1.size) _
          clear hb1 hsz
          go_wp2_with fail
          exact ⟨⟨k + 1, O, ⟨#[]⟩, by omega, by go_num, rfl, rfl, HW.out.1, fun _ q => (nomatch q), by have := HSZ.out; show O.size + 0 ≤ _; omega, HN.out⟩, by simp [intOf]; omega⟩
      · have hI : ¬ (k : Int) ≤ (S.size : Int) := by omega
        have hJ : (S.size : Int) < (k : Int) := by omega
        go_wp2_with fail
        go_ret
        exact ⟨O, rfl, HW.out.1, by omega, HW.out.2.2.2⟩
end Go.Proofs.YtoeihlgidakjbaaGreatDoor
namespace Go.Proofs.YtoeihlgidakjbaaGreatDoor
open Go.RowKit Go.Lib
structure T3 (w : World) (B : Nat) (lx ly lz : PLay) (X Y Z : RE) : Prop where
  px : PE w B lx X
  py : PE w B ly Y
  pz : PE w B lz Z
  xy : ∀ b, lx.has b → ¬ ly.has b
  xz : ∀ b, lx.has b → ¬ lz.has b
  yz : ∀ b, ly.has b → ¬ lz.has b
def in3 (lx ly lz : PLay) (b : Nat) : Prop := lx.has b ∨ ly.has b ∨ lz.has b
theorem T3.lt {w : World} {B : Nat} {lx ly lz : PLay} {X Y Z : RE} (h : T3 w B lx ly lz X Y Z) : ∀ b, in3 lx ly lz b → B ≤ b ∧ b < w.heap.size := fun b q => q.elim (h.px.lt b) fun q => q.elim (h.py.lt b) (h.pz.lt b)
theorem T3.below {w w' : World} {B : Nat} {lx ly lz : PLay} {X Y Z : RE} (h : T3 w B lx ly lz X Y Z) (hb : Below w.heap.size w w') : T3 w' B lx ly lz X Y Z :=
  have t : Tch (fun _ => False) w w' := Tch.of_below hb
  ⟨h.px.tch t (fun _ _ x => x), h.py.tch t (fun _ _ x => x), h.pz.tch t (fun _ _ x => x), h.xy, h.xz, h.yz⟩
theorem T3.stepX {w w' : World} {B : Nat} {lx ly lz lx' : PLay} {X Y Z X' : RE} (h : T3 w B lx ly lz X Y Z) (hp : PE w' B lx' X') (ht : Tch lx.has w w') (hi : ∀ b, lx'.has b → lx.has b ∨ w.heap.size ≤ b) : T3 w' B lx' ly lz X' Y Z :=
  ⟨hp, h.py.tch ht (fun b q r => h.xy b r q), h.pz.tch ht (fun b q r => h.xz b r q), fun b q r => (hi b q).elim (fun z => h.xy b z r) (fun z => by have := (h.py.lt b r).2; omega), fun b q r => (hi b q).elim (fun z => h.xz b z r) (fun z => by have := (h.pz.lt b r).2; omega), h.yz⟩
theorem T3.stepY {w w' : World} {B : Nat} {lx ly lz ly' : PLay} {X Y Z Y' : RE} (h : T3 w B lx ly lz X Y Z) (hp : PE w' B ly' Y') (ht : Tch ly.has w w') (hi : ∀ b, ly'.has b → ly.has b ∨ w.heap.size ≤ b) : T3 w' B lx ly' lz X Y' Z :=
  ⟨h.px.tch ht (fun b q r => h.xy b q r), hp, h.pz.tch ht (fun b q r => h.yz b r q), fun b q r => (hi b r).elim (fun z => h.xy b q z) (fun z => by have := (h.px.lt b q).2; omega), h.xz, fun b q r => (hi b q).elim (fun z => h.yz b z r) (fun z => by have := (h.pz.lt b r).2; omega)⟩
theorem T3.stepZ {w w' : World} {B : Nat} {lx ly lz lz' : PLay} {X Y Z Z' : RE} (h : T3 w B lx ly lz X Y Z) (hp : PE w' B lz' Z') (ht : Tch lz.has w w') (hi : ∀ b, lz'.has b → lz.has b ∨ w.heap.size ≤ b) : T3 w' B lx ly lz' X Y Z' :=
  ⟨h.px.tch ht (fun b q r => h.xz b q r), h.py.tch ht (fun b q r => h.yz b q r), hp, h.xy, fun b q r => (hi b r).elim (fun z => h.xz b q z) (fun z => by have := (h.px.lt b q).2; omega), fun b q r => (hi b r).elim (fun z => h.yz b q z) (fun z => by have := (h.py.lt b q).2; omega)⟩
theorem BytesAt.keep {w w' : World} {S T S' : Nat → Prop} {v : Value} {l : List UInt8} (h : BytesAt w S v l) (ht : Tch T w w') (hT : ∀ b, T b → S b) (hS : ∀ b, S' b → S b ∨ w.heap.size ≤ b) : BytesAt w' S' v l := by
  obtain ⟨a, cap, g, off, e, h1, h2⟩ := h
  refine ⟨a, cap, g, off, e, fun q => ?_, fun q k hk => ?_⟩
  · obtain ⟨r1, r2, r3⟩ := h1 q
    exact ⟨r1, Nat.lt_of_lt_of_le r2 ht.size, fun z => (hS g z).elim r3 (fun x => by omega)⟩
  · obtain ⟨_, r2, r3⟩ := h1 q
    have hb := ht.block g r2 (fun z => r3 (hT g z))
    rw [← h2 q k hk]
    unfold World.cell?
    simp only [hb]
theorem BytesAt.sub {w : World} {S S' : Nat → Prop} {v : Value} {l : List UInt8} (h : BytesAt w S v l) (hS : ∀ b, S' b → S b) : BytesAt w S' v l := by
  obtain ⟨a, cap, g, off, e, h1, h2⟩ := h
  exact ⟨a, cap, g, off, e, fun q => ⟨(h1 q).1, (h1 q).2.1, fun z => (h1 q).2.2 (hS g z)⟩, h2⟩
theorem conv_at {w : World} {S : Nat → Prop} {v : Value} {l : List UInt8} (h : BytesAt w S v l) : (convert 52 9 v).run Tryz.prog w = .ok (.string ⟨l.toArray⟩) w := by
  obtain ⟨a, cap, g, off, rfl, h1, h2⟩ := h
  by_cases h0 : 0 < l.length
  · rw [(h1 h0).1]
    exact conv_bytes w g off cap l (h2 h0)
  · have hl : l = [] := List.eq_nil_of_length_eq_zero (by omega)
    subst hl
    rw [run_convert_bytes_string w 52 9 5 _ _ _ Tryz.underlying52 Tryz.underlying5 Tryz.underlying9]
    cases a <;> rfl
theorem bytesAt_str (W : World) (R : ByteArray) (S : Nat → Prop) (hS : ∀ b, S b → b < W.heap.size) : BytesAt (bytesWorld W 5 R) S (.slice (some ⟨W.heap.size, 0, none⟩) R.size (grownCap W R.size 0 5)) R.data.toList := by
  refine ⟨_, _, W.heap.size, 0, by rw [show R.data.toList.length = R.size by simp], fun _ => ⟨rfl, by rw [bytesWorld_size]; omega, fun e => by have := hS _ e; omega⟩, fun _ => rd_world W R⟩
theorem pbytes_raw (w0 W : World) (B : Nat) (l : PLay) (m : RE) (R : ByteArray) (pb : Nat) (e : l.pb = pb) {n : Nat} (gz : Gz w0) (hb0 : Below w0.heap.size w0 W) (hB0 : w0.heap.size ≤ B) (h : PE W B l m) (hb : m.Both n) (hg : m.got.length ≤ 89) (hn : n ≤ 900000000000) (hl : R.size ≤ 5000000000) :
    Calls Tryz.prog 29 #[.pointer (some ⟨pb, 0, none⟩), .slice (some ⟨W.heap.size, 0, none⟩) R.size (grownCap W R.size 0 5)] (bytesWorld W 5 R) fun r w' => ∃ (v : Value) (l' : PLay), r = .returned v ∧ w'.ownsRow W.heap.size 5 1 v (m.bytes R.data.toList).2.length ((m.bytes R.data.toList).2.map bv) ∧ PE w' B l' (m.bytes R.data.toList).1 ∧ l'.pb = pb ∧ Tch l.has W w' ∧ (∀ b, l'.has b → l.has b ∨ W.heap.size ≤ b) ∧ ∀ b, v.ownBlock = some b → ¬ l'.has b := by
  subst e
  obtain ⟨aS, aC, aF, aL, aO, aH, gr, gt⟩ := gz
  have bw := below_bytesWorld W R
  refine (prgB.bytes w0 (bytesWorld W 5 R) B l m _ R.data.toList gr gt (hb0.trans (bw.mono hb0.size)) hB0 (h.tch (Tch.of_below (S := fun _ => False) bw) (fun _ _ x => x)) ⟨hb.2, hg⟩ ((hb.1.lim hb.2).mono (by omega)) (by simpa using hl) (bytesAt_str W R _ (fun b hb => (h.lt b hb).2))).mono ?_
  rintro r w' ⟨vb, l', rfl, ho, hp', hpb, ht, hi, hown⟩
  exact ⟨vb, l', rfl, owns_mono ho bw.size, hp', hpb, (Tch.of_below bw).trans ht, fun b hx => (hi b hx).imp id (fun q => Nat.le_trans bw.size q), hown⟩
theorem Ln.Ok.sweepA (ps : List Pq) : ∀ {l : Ln} {n : Nat}, l.Ok n → l.toA = ps → l.sweepA.Ok (n + 200 * ps.length) := by
  induction ps with
  | nil =>
    intro l n h hq
    have : l.sweepA = l := by
      obtain ⟨a, b, toB, toA⟩ := l
      have : toA = [] := hq
      subst this
      show (⟨a, b, toB ++ [], []⟩ : Ln) = _
      rw [List.append_nil]
    rw [this]; exact h
  | cons p r ih =>
    intro l n h hq
    have e1 : (l.deliver true false).1 = ⟨l.a.hear p, l.b, l.toB ++ l.a.hearP p, r⟩ := by unfold Ln.deliver; rw [if_pos rfl, hq]; rfl
    have h1 := h.deliver true false
    rw [e1] at h1
    have : l.sweepA = (⟨l.a.hear p, l.b, l.toB ++ l.a.hearP p, r⟩ : Ln).sweepA := by
      unfold Ln.sweepA
      rw [hq]
      simp [RE.hears]
    rw [this]
    refine (ih h1 rfl).mono ?_
    rw [List.length_cons]; omega
structure Pr (k : Nat) (L : Ln) : Prop where
  ok : L.Ok (800 + 1200 * k)
  bt : Bt L (12 - k)
theorem Bt.len {l : Ln} {i : Nat} (h : Bt l i) : l.toA.length ≤ 2 ∧ l.toB.length ≤ 2 ∧ l.sweepA.toB.length ≤ 2 := by
  obtain ⟨f, g, d, e, h0, _⟩ := h.cv
  obtain ⟨f1, g1, d1, e1, h1, _⟩ := Cv.sweepA _ h0 rfl
  have two : ∀ (f g : Fz) (x y : RE) (d e : Nat), (f.req x d ++ g.ans y e).length ≤ 2 := fun f g x y d e => by cases f <;> cases g <;> simp [Fz.req, Fz.ans]
  exact ⟨by rw [h0.qA.length_eq]; exact two _ _ _ _ _ _, by rw [h0.qB.length_eq]; exact two _ _ _ _ _ _, by rw [h1.qB.length_eq]; exact two _ _ _ _ _ _⟩
theorem Pr.round {k : Nat} {L : Ln} (h : Pr k L) : Pr (k + 1) L.round ∧ L.round.toB = [] := by
  obtain ⟨b1, b2⟩ := h.bt.round
  obtain ⟨n1, _, n3⟩ := h.bt.len
  have o1 := h.ok.sweepA _ rfl
  have o2 := (Ln.Ok.sweepA _ o1.swap rfl).swap
  refine ⟨⟨?_, by rw [show 12 - (k + 1) = 12 - k - 1 by omega]; exact b1⟩, b2⟩
  refine Ln.Ok.mono (l := L.sweepA.sweepB) o2 ?_
  show 800 + 1200 * k + 200 * L.toA.length + 200 * L.sweepA.toB.length ≤ _
  omega
end Go.Proofs.YtoeihlgidakjbaaGreatDoor
namespace Go.Proofs.YtoeihlgidakjbaaGreatDoor
open Go.RowKit Go.Lib
def BRow (w : World) (B : Nat) (v : Value) (ps : List UInt8) : Prop :=
  (ps = [] ∧ v = .slice none 0 0) ∨ ∃ g off cap, v = .slice (some ⟨g, off, none⟩) ps.length cap ∧ B ≤ g ∧ g < w.heap.size ∧ ps.length ≤ cap ∧ cap ≤ maxLen ∧ w.there g off cap ∧ w.rangeAt g off (ps.map bv)
theorem BRow.lt {w : World} {B : Nat} {v : Value} {ps : List UInt8} (h : BRow w B v ps) : ∀ b, v.ownBlock = some b → B ≤ b ∧ b < w.heap.size := by
  intro b hb
  rcases h with ⟨_, rfl⟩ | ⟨g, off, cap, rfl, h1, h2, _⟩
  · cases hb
  · obtain rfl : g = b := Option.some.inj hb
    exact ⟨h1, h2⟩
theorem BRow.of_tch {w w' : World} {B : Nat} {v : Value} {ps : List UInt8} {S : Nat → Prop} (h : BRow w B v ps) (ht : Tch S w w') (hs : ∀ b, v.ownBlock = some b → ¬ S b) : BRow w' B v ps := by
  rcases h with h | ⟨g, off, cap, rfl, h1, h2, h3, h4, h5, h6⟩
  · exact .inl h
  · have hb := ht.block g h2 (hs g rfl)
    refine .inr ⟨g, off, cap, rfl, h1, Nat.lt_of_lt_of_le h2 ht.size, h3, h4, fun j hj => ?_, fun j u hu => ?_⟩
    · rw [(cell_blk hb _).1, (cell_blk hb _).2]; exact h5 j hj
    · rw [(cell_blk hb _).1]; exact h6 j u hu
theorem BRow.nil (w : World) (B : Nat) : BRow w B (.slice none 0 0) [] := .inl ⟨rfl, rfl⟩
theorem BRow.mono {w : World} {B B' : Nat} {v : Value} {ps : List UInt8} (h : BRow w B v ps) (hB : B' ≤ B) : BRow w B' v ps := by
  rcases h with h | ⟨g, off, cap, rfl, h1, h2⟩
  · exact .inl h
  · exact .inr ⟨g, off, cap, rfl, Nat.le_trans hB h1, h2⟩
theorem BRow.shape {w : World} {B : Nat} {v : Value} {ps : List UInt8} (h : BRow w B v ps) : ∃ a cap, v = .slice a ps.length cap ∧ ps.length ≤ cap := by
  rcases h with ⟨rfl, rfl⟩ | ⟨g, off, cap, rfl, h1, h2, h3, _⟩
  · exact ⟨none, 0, rfl, Nat.le_refl _⟩
  · exact ⟨_, _, rfl, h3⟩
theorem Tryz.kinfoU : (Tryz.prog.info? 5).map (fun i => (i.zero, i.size, i.bytes)) = some (some (.int .u8 0), 1, 1) := by kernel_rfl
theorem run_append_b (w : World) (B : Nat) (v : Value) (ps qs : List UInt8) (h : BRow w B v ps) (x : Value) (ty : TypeId) (hx : Src Tryz.prog 1 52 x qs.length (qs.map bv) w) (hB : B ≤ w.heap.size) (hl : ps.length + qs.length ≤ 100000000) :
    ∃ v' w', (Builtin.append_ #[52, 52] ty #[v, x]).run Tryz.prog w = .ok v' w' ∧ BRow w' B v' (ps ++ qs) ∧ Tch (fun b => v.ownBlock = some b) w w' ∧ ∀ b, v'.ownBlock = some b → v.ownBlock = some b ∨ w.heap.size ≤ b := by
  obtain ⟨i, hi, hz, hsz, hby⟩ := info_parts Tryz.kinfoU
  have hx' : Src Tryz.prog i.size 52 x qs.length (qs.map bv) w := by rw [hsz]; exact hx
  -- a new row
  have grown : ∀ (base : Option Addr) (cap : Nat), cap < ps.length + qs.length → (Builtin.firstCells i.size ps.length (.slice base ps.length cap)).run Tryz.prog w.drew = .ok (ps.map bv).toArray w.drew →
      ∃ v' w', (Builtin.append_ #[52, 52] ty #[.slice base ps.length cap, x]).run Tryz.prog w = .ok v' w' ∧ BRow w' B v' (ps ++ qs) ∧ Tch (fun b => (Value.slice base ps.length cap).ownBlock = some b) w w' ∧ ∀ b, v'.ownBlock = some b → (Value.slice base ps.length cap).ownBlock = some b ∨ w.heap.size ≤ b := by
    intro base cap hc hold
    have hr := run_append_grow_src (P := Tryz.prog) w 52 52 ty 5 i (.int .u8 0) Tryz.underlying52 hi hz base ps.length cap (ps.map bv) hold x qs.length (qs.map bv) hx' hc (by omega) (growslice_fits hc (by rw [hby]; omega))
    have hge := grownCap_ge w (ps.length + qs.length) cap 5
    have hcm : grownCap w (ps.length + qs.length) cap 5 ≤ maxLen := grownCap_le_maxLen w (ps.length + qs.length) cap 5 (by unfold maxLen; omega)
    generalize grownCap w (ps.length + qs.length) cap 5 = gc at *
    refine ⟨_, _, hr, .inr ⟨w.heap.size, 0, gc, by rw [List.length_append], hB, by simp, by rw [List.length_append]; exact hge, hcm, ?_, ?_⟩, ?_, ?_⟩
    · intro j hj
      have hb : (w.drew.alloc (.cells ((ps.map bv ++ qs.map bv).toArray ++ Builtin.zeroCells (Value.int .u8 0).cells (gc - (ps.length + qs.length))) 5)).heap[w.heap.size]? = some (.cells ((ps.map bv ++ qs.map bv).toArray ++ Builtin.zeroCells (Value.int .u8 0).cells (gc - (ps.length + qs.length))) 5 (0, 0)) := heap_alloc_new w.drew _
      have hs : ((ps.map bv ++ qs.map bv).toArray ++ Builtin.zeroCells (Value.int .u8 0).cells (gc - (ps.length + qs.length))).size = gc := by
        rw [Array.size_append, size_zeroCells, List.size_toArray, List.length_append, List.length_map, List.length_map]
        show ps.length + qs.length + (gc - (ps.length + qs.length)) * 1 = gc
        omega
      rw [blk_cell hb, blk_free hb]
      refine ⟨?_, rfl⟩
      rw [Array.getElem?_eq_getElem (by rw [hs]; omega)]; rfl
    · intro j u hu
      have hb : (w.drew.alloc (.cells ((ps.map bv ++ qs.map bv).toArray ++ Builtin.zeroCells (Value.int .u8 0).cells (gc - (ps.length + qs.length))) 5)).heap[w.heap.size]? = some (.cells ((ps.map bv ++ qs.map bv).toArray ++ Builtin.zeroCells (Value.int .u8 0).cells (gc - (ps.length + qs.length))) 5 (0, 0)) := heap_alloc_new w.drew _
      rw [blk_cell hb]
      rw [List.map_append] at hu
      have hj := (List.getElem?_eq_some_iff.1 hu).1
      rw [Nat.zero_add, Array.getElem?_append_left (by simpa using hj)]
      simpa using hu
    · exact ⟨rfl, rfl, rfl, by simp, fun k hk _ => Below.heap_alloc w.drew _ k hk⟩
    · intro b hb
      right
      have : w.heap.size = b := Option.some.inj hb
      omega
  rcases h with ⟨rfl, rfl⟩ | ⟨g, off, cap, rfl, h1, h2, h3, h4, h5, h6⟩
  · by_cases hq : qs = []
    · subst hq
      exact ⟨_, _, run_append_nothing (P := Tryz.prog) w 52 52 ty 5 i Tryz.underlying52 hi none 0 0 (Nat.le_refl _) x hx', .inl ⟨rfl, rfl⟩, Tch.refl _ _, fun b hb => .inl hb⟩
    · have hql : 0 < qs.length := List.length_pos_iff.2 hq
      exact grown none 0 (by simp; omega) (run_firstCells_none w.drew i.size 0 0 0)
  · by_cases hroom : ps.length + qs.length ≤ cap
    · have hr := run_append_room_src (P := Tryz.prog) w 52 52 ty 5 i Tryz.underlying52 hi g off ps.length cap x qs.length (qs.map bv) hx' hroom
        (fun j hj => by rw [hsz, Nat.mul_one, Nat.add_assoc]; exact (h5 (ps.length + j) (by simp at hj; omega)).1)
        (fun j hj => by rw [hsz, Nat.mul_one, Nat.add_assoc]; exact (h5 (ps.length + j) (by simp at hj; omega)).2)
      rw [hsz, Nat.mul_one] at hr
      have ht : Tch (fun b => some g = some b) w (w.setCells g (off + ps.length) (qs.map bv)) := tch_setCells (fun b => some g = some b) g rfl _ _ _
      refine ⟨_, _, hr, .inr ⟨g, off, cap, by rw [List.length_append], h1, Nat.lt_of_lt_of_le h2 ht.size, by rw [List.length_append]; exact hroom, h4, World.there_setCells h5 _ _ _, ?_⟩, ht, fun b hb => .inl hb⟩
      intro j u hu
      rw [List.map_append] at hu
      by_cases hj : j < ps.length
      · rw [List.getElem?_append_left (by simpa using hj)] at hu
        exact World.rangeAt_setCells_apart h6 g (off + ps.length) (qs.map bv) (.inr (.inl (by simp))) j u hu
      · rw [List.getElem?_append_right (by simpa using hj), List.length_map] at hu
        have := World.rangeAt_setCells_same w g (off + ps.length) (qs.map bv) (fun k hk => by rw [Nat.add_assoc]; exact h5 (ps.length + k) (by simp at hk; omega)) (j - ps.length) u hu
        rw [show off + j = off + ps.length + (j - ps.length) by omega]; exact this
    · refine grown (some ⟨g, off, none⟩) cap (by omega) ?_
      refine run_firstCells_some w.drew i.size ps.length ⟨g, off, none⟩ ps.length cap (ps.map bv) (by rw [hsz]; simp) ?_
      intro j u hu
      rw [Addr.add_mid]
      show w.cell? ⟨g, off + j, none⟩ = some u
      exact h6 j u hu
theorem wp_append_b {o : Oper} {a : Act} {K : Act → World → Prop} {Q : Exit → Act → World → Prop} (w : World) (s x : Operand)
    (ho : o.op = .call { callee := .builtin .append, args := #[s, x], argTypes := #[52, 52] })
    (B : Nat) (v y : Value) (ps qs : List UInt8) (hs : a.eval s = v) (hy : a.eval x = y) (hq : BRow w B v ps) (hx : Src Tryz.prog 1 52 y qs.length (qs.map bv) w) (hB : B ≤ w.heap.size) (hl : ps.length + qs.length ≤ 100000000)
    (h : ∀ v' w', BRow w' B v' (ps ++ qs) → Tch (fun b => v.ownBlock = some b) w w' → (∀ b, v'.ownBlock = some b → v.ownBlock = some b ∨ w.heap.size ≤ b) → K (a.put o.dst v') w') : o.wp Tryz.prog a w K Q := by
  obtain ⟨v', w', hr, h2, h3, h4⟩ := run_append_b w B v ps qs hq y o.type hx hB hl
  unfold Oper.wp execOp
  simp only [ho, resolve, invoke, builtin, Sem.run_bind, Sem.run_pure, Result.andThen_ok, List.map_toArray, List.map_cons, List.map_nil, hs, hy, hr]
  exact h v' w' h2 h3 h4
theorem wpList_append_b {ops : Array Oper} {rest : List Oper} {o : Oper} {a : Act} {Q : Exit → Act → World → Prop} (w : World) (hgd : o.guard = none) (s x : Operand)
    (ho : o.op = .call { callee := .builtin .append, args := #[s, x], argTypes := #[52, 52] })
    (B : Nat) (v y : Value) (ps qs : List UInt8) (hs : a.eval s = v) (hy : a.eval x = y) (hq : BRow w B v ps) (hx : Src Tryz.prog 1 52 y qs.length (qs.map bv) w) (hB : B ≤ w.heap.size) (hl : ps.length + qs.length ≤ 100000000)
    (h : ∀ v' w', BRow w' B v' (ps ++ qs) → Tch (fun b => v.ownBlock = some b) w w' → (∀ b, v'.ownBlock = some b → v.ownBlock = some b ∨ w.heap.size ≤ b) → wpList Tryz.prog ops Q rest (a.put o.dst v') w') : wpList Tryz.prog ops Q (o :: rest) a w :=
  wpList_plain hgd fun _ hK => wp_append_b w s x ho B v y ps qs hs hy hq hx hB hl fun v' w' h2 h3 h4 => hK _ _ (h v' w' h2 h3 h4)
theorem BRow.bytesAt {w : World} {B : Nat} {v : Value} {l : List UInt8} (h : BRow w B v l) (S : Nat → Prop) (hS : ∀ b, v.ownBlock = some b → ¬ S b) : BytesAt w S v l := by
  rcases h with ⟨rfl, rfl⟩ | ⟨g, off, cap, rfl, h1, h2, h3, h4, h5, h6⟩
  · exact ⟨none, 0, 0, 0, rfl, fun q => absurd q (Nat.lt_irrefl _), fun q => absurd q (Nat.lt_irrefl _)⟩
  · refine ⟨_, cap, g, off, rfl, fun _ => ⟨rfl, h2, hS g rfl⟩, fun _ k hk => ?_⟩
    exact h6 k _ (by rw [List.getElem?_map, List.getElem?_eq_getElem hk]; rfl)
theorem src_of_bytes {w : World} {S : Nat → Prop} {v : Value} {l : List UInt8} (h : BytesAt w S v l) : Src Tryz.prog 1 52 v l.length (l.map bv) w := by
  obtain ⟨a, cap, g, off, rfl, h1, h2⟩ := h
  cases a with
  | none =>
    have h0 : l.length = 0 := by
      rcases Nat.eq_zero_or_pos l.length with q | q
      · exact q
      · have := (h1 q).1; cases this
    have hl : l = [] := List.eq_nil_of_length_eq_zero h0
    subst hl
    exact Src.ofNil w Tryz.underlying52 cap
  | some ad =>
    refine Src.ofSlice w Tryz.underlying52 ad l.length cap (l.map bv) (by simp) (fun j u hu => ?_) (fun u hu => by obtain ⟨p, _, rfl⟩ := List.mem_map.1 hu; rfl)
    rw [List.getElem?_map] at hu
    obtain ⟨c, hc, rfl⟩ := Option.map_eq_some_iff.1 hu
    obtain ⟨hj, hc'⟩ := List.getElem?_eq_some_iff.1 hc
    have hp : 0 < l.length := by omega
    have e : ad = ⟨g, off, none⟩ := Option.some.inj (h1 hp).1
    rw [e, Addr.add_mid]
    show w.cell? ⟨g, off + j, none⟩ = _
    rw [h2 hp j hj, hc']; rfl
end Go.Proofs.YtoeihlgidakjbaaGreatDoor

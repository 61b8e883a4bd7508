/- The program's do: a list of actions, one behind the other. The program's actions with a packet: closures; what makes them. -/
import Derived.Test.YtoeihlgidakjbaaGreatDoorPc8
import Derived.Test.YtoeihlgidakjbaaGreatDoorPc7
namespace Go.Proofs.YtoeihlgidakjbaaGreatDoor
open Go.RowKit Go.Lib
abbrev Pk := Nat × Nat × List UInt8
def RE.pk (m : RE) : Pk := (m.pc, m.pi, m.pd)
def Enters (f : Nat) : Prop := ∀ (args : Array Value) (wx : World), (callFunc f args).run Tryz.prog wx = .ok (.enter f args) wx
structure ActIs (c : PA) (f : Nat) : Prop where
  en : Enters f
  d : ActOf c f
theorem a_tellDown : ActIs (.l 100) 92 := ⟨fun _ _ => by kernel_rfl, act_tellDown⟩
theorem a_tellBegin : ActIs (.l 98) 91 := ⟨fun _ _ => by kernel_rfl, act_tellBegin⟩
theorem a_tellFinish : ActIs (.l 102) 93 := ⟨fun _ _ => by kernel_rfl, act_tellFinish⟩
theorem a_tellGiveUp : ActIs (.tell 5) 163 := ⟨fun _ _ => by kernel_rfl, act_tellGiveUp⟩
theorem a_tellLoop : ActIs (.tell 6) 162 := ⟨fun _ _ => by kernel_rfl, act_tellLoop⟩
theorem a_tellUp : ActIs (.l 117) 160 := ⟨fun _ _ => by kernel_rfl, act_tellUp⟩
theorem a_countRequests : ActIs (.l 105) 89 := ⟨fun _ _ => by kernel_rfl, act_countRequests⟩
theorem a_countEnds : ActIs (.l 116) 94 := ⟨fun _ _ => by kernel_rfl, act_countEnds⟩
theorem a_countNone : ActIs (.l 122) 140 := ⟨fun _ _ => by kernel_rfl, act_countNone⟩
theorem a_sendEnd : ActIs (.l 101) 95 := ⟨fun _ _ => by kernel_rfl, act_sendEnd⟩
theorem a_sendRequest : ActIs (.l 114) 90 := ⟨fun _ _ => by kernel_rfl, act_sendRequest⟩
def Does (w : World) (F : Nat → Prop) (pb : Nat) (pk : Pk) (a : PA) (u : Value) : Prop :=
  ∃ (f : Nat) (first cap : Array Value), u = .func (.func f) first cap ∧ Enters f ∧ (∀ b, F b → b < w.heap.size) ∧ a.ok ∧ ∀ (wr : World) (S0 : Nat → Prop), Tch S0 w wr → (∀ b, F b → ¬ S0 b) → ∀ (B Bs : Nat) (v : PV) (m : RE) (S : List UInt8), PI wr B Bs pb v m S → (∀ b, F b → ¬ inE pb v.vals b) → m.pk = pk → m.Ok → m.Fit 100 → S.length ≤ 100000000000000 → Bs ≤ wr.heap.size →
    Calls Tryz.prog f (first ++ cap) wr fun r w' => ActR wr w' B Bs pb v (m.pa a).1 (S ++ (m.pa a).2) r
theorem Does.tch {w w' : World} {F S : Nat → Prop} {pb : Nat} {pk : Pk} {a : PA} {u : Value} (h : Does w F pb pk a u) (ht : Tch S w w') (hs : ∀ b, F b → ¬ S b) : Does w' F pb pk a u := by
  obtain ⟨f, first, cap, e, en, hl, ha, hc⟩ := h
  refine ⟨f, first, cap, e, en, fun b hb => Nat.lt_of_lt_of_le (hl b hb) ht.size, ha, fun wr S0 t0 h0 => hc wr (fun b => S b ∨ S0 b) ((ht.mono (fun _ x => .inl x)).trans (t0.mono (fun _ x => .inr x))) (fun b hb => ?_)⟩
  rintro (x | x)
  · exact hs b hb x
  · exact h0 b hb x
theorem Does.below {w w' : World} {F : Nat → Prop} {pb : Nat} {pk : Pk} {a : PA} {u : Value} (h : Does w F pb pk a u) (hb : Below w.heap.size w w') : Does w' F pb pk a u := h.tch (S := fun _ => False) (Tch.of_below hb) (fun _ _ x => x)
abbrev methV (pb f : Nat) : Value := .func (.func f) #[.pointer (some ⟨pb, 0, none⟩)] #[]
theorem Does.meth {a : PA} {f : Nat} (h : ActIs a f) (ha : a.ok) (w : World) (pb : Nat) (pk : Pk) : Does w (fun _ => False) pb pk a (methV pb f) :=
  ⟨f, _, _, rfl, h.en, fun _ x => x.elim, ha, fun wr _ _ _ B Bs v m S hp _ _ ok fit hS hB => h.d B Bs pb v m S wr hp ok fit hS hB⟩
def ActsIn (w : World) (H pb : Nat) (pk : Pk) (va : Value) (LS : List PA) : Prop :=
  ∃ (a : Option Addr) (cap g : Nat) (us : List Value), va = .slice a LS.length cap ∧ (0 < LS.length → a = some ⟨g, 0, none⟩ ∧ H ≤ g ∧ g < w.heap.size) ∧ us.length = LS.length ∧ (∀ (j : Nat) (u : Value), us[j]? = some u → w.cell? ⟨g, j, none⟩ = some u) ∧
    ∀ (j : Nat) (c : PA) (u : Value), LS[j]? = some c → us[j]? = some u → ∃ F : Nat → Prop, Does w F pb pk c u ∧ ∀ b, F b → H ≤ b
theorem RE.pa_ok {m : RE} (h : m.Ok) (c : PA) : (m.pa c).1.Ok := by
  cases c with
  | l c => exact RE.letter_ok h c
  | tell x => exact ⟨h.st, h.id, h.odd, h.k0, h.k1, h.k2, h.pc, h.pi, h.pd, h.mg, h.ms, h.aa, h.ww⟩
  | heed L => exact RE.takeAll_ok L h
  | nak L =>
    obtain ⟨x, y, z, e, _⟩ := RE.nakItems_eq L m
    obtain ⟨st, id, odd, k0, k1, k2, pc, pi, pd, mg, ms, aa, ww⟩ := h
    show RE.Ok ({ (m.nakItems L).1 with naks := (m.nakItems L).1.naks + 1 })
    rw [e]
    exact ⟨st, id, odd, k0, k1, k2, pc, pi, pd, mg, ms, aa, ww⟩
theorem RE.pa_fit {m : RE} {k : Nat} (h : m.Fit (k + 100)) (ok : m.Ok) (c : PA) (hc : c.ok) : (m.pa c).1.Fit k := by
  cases c with
  | l c => exact RE.letter_fit h ok c
  | tell x =>
    obtain ⟨told, mg, c0, c1, nk, lp, h0, h1, h2⟩ := h
    show RE.Fit { m with told := m.told ++ [x] } k
    constructor <;> simp only [List.length_append, List.length_cons, List.length_nil] <;> omega
  | heed L =>
    have hl : L.length ≤ 40 := hc.1
    exact RE.takeAll_fit L (h.less (by omega))
  | nak L =>
    have hl : L.length ≤ 40 := hc.1
    obtain ⟨told, mg, c0, c1, nk, lp, h0, h1, h2⟩ := h
    have q0 := RE.hint_le L m 1 (1000000000000000 - (k + 100)) (by omega) (by omega) (by omega)
    have q1 := RE.hint_le L m 2 (1000000000000000 - (k + 100)) (by omega) (by omega) (by omega)
    have q2 := RE.hint_le L m 3 (1000000000000000 - (k + 100)) (by omega) (by omega) (by omega)
    obtain ⟨x, y, z, e, _⟩ := RE.nakItems_eq L m
    show RE.Fit ({ (m.nakItems L).1 with naks := (m.nakItems L).1.naks + 1 }) k
    rw [e] at q0 q1 q2 ⊢
    simp [RE.hint] at q0 q1 q2
    constructor <;> simp only <;> omega
theorem RE.pa_pk (m : RE) (c : PA) : (m.pa c).1.pk = m.pk := by
  have na : ∀ (m : RE) (L : List (Nat × Nat)), (m.nakItems L).1.pk = m.pk := by
    intro m L
    obtain ⟨x, y, z, e, _⟩ := RE.nakItems_eq L m
    rw [e]; rfl
  have t1 : ∀ (m : RE) (x : Nat × Nat), (m.take1 x).pk = m.pk := by
    intro m x
    unfold RE.take1 RE.ask
    split
    · rfl
    · split
      · split
        · rfl
        · split <;> rfl
      · rfl
  have ta : ∀ (L : List (Nat × Nat)) (m : RE), (m.takeAll L).pk = m.pk := by
    intro L
    induction L with
    | nil => intro m; rfl
    | cons x L ih => intro m; exact (ih (m.take1 x)).trans (t1 m x)
  cases c with
  | l c =>
    show (m.letter c).1.pk = _
    unfold RE.letter
    split
    · rfl
    · refine RE.act_ind m c (fun r => r.1.pk = m.pk) ?_ ?_ ?_ ?_ ?_ ?_ ?_ ?_ ?_ ?_ ?_ ?_ ?_ ?_ ?_
      all_goals first
        | rfl
        | exact na m _
  | tell x => rfl
  | heed L => exact ta L m
  | nak L => exact na m L
theorem RE.pa_len {m : RE} (ok : m.Ok) (c : PA) (hc : c.ok) : (m.pa c).2.length ≤ 1000 := by
  cases c with
  | l c =>
    show (m.letter c).2.length ≤ _
    unfold RE.letter
    split
    · simp
    · exact RE.act_len ok c
  | tell x => simp [RE.pa]
  | heed L => simp [RE.pa]
  | nak L =>
    have hl : L.length ≤ 40 := hc.1
    refine Nat.le_trans (lineL_len _ _ _) ?_
    rw [dataL_len, RE.nakItems_len]; omega
theorem prun_take (m : RE) (LS : List PA) (k : Nat) (c : PA) (h : LS[k]? = some c) : m.prun (LS.take (k + 1)) = (((m.prun (LS.take k)).1.pa c).1, (m.prun (LS.take k)).2 ++ ((m.prun (LS.take k)).1.pa c).2) := by
  rw [List.take_add_one, h]
  exact m.prun_snoc _ c
set_option maxRecDepth 100000 in
set_option maxHeartbeats 4000000 in
theorem do_any {B Bs pb H : Nat} {v : PV} {m : RE} {S : List UInt8} (LS : List PA) (va : Value) (w : World) (h : PI w B Bs pb v m S) (ok : m.Ok) (fit : m.Fit 800) (hl : LS.length ≤ 6) (hS : S.length ≤ 90000000000000) (hBs : Bs ≤ w.heap.size)
    (hA : ActsIn w H pb m.pk va LS) (hin : ∀ b, inE pb v.vals b → b < H) :
    Calls Tryz.prog 42 #[.pointer (some ⟨pb, 0, none⟩), va] w fun r w' => ActR w w' B Bs pb v (m.prun LS).1 (S ++ (m.prun LS).2) r := by
  obtain ⟨a, cap, g, us, rfl, ha, hul, hus, hact⟩ := hA
  have HP : Hid (PI w B Bs pb v m S) := h
  have OK : Hid (m.Ok) := ok
  have FIT : Hid (m.Fit 800) := fit
  have HA : Hid (0 < LS.length → a = some ⟨g, 0, none⟩ ∧ H ≤ g ∧ g < w.heap.size) := ha
  have HU : Hid (us.length = LS.length ∧ (∀ (j : Nat) (u : Value), us[j]? = some u → w.cell? ⟨g, j, none⟩ = some u) ∧ ∀ (j : Nat) (c : PA) (u : Value), LS[j]? = some c → us[j]? = some u → ∃ F : Nat → Prop, Does w F pb m.pk c u ∧ ∀ b, F b → H ≤ b) := ⟨hul, hus, hact⟩
  have HIN : Hid (∀ b, inE pb v.vals b → b < H) := hin
  clear h ok fit ha hul hus hact hin
  go_enter Tryz.func42, Tryz.ntmps42
  go_wp2_with fail
  go_loopw [8] (fun i wr => ∃ (k : Nat) (v' : PV), k ≤ LS.length ∧ i = .int .i64 k ∧ Hid (PI wr B Bs pb v' (m.prun (LS.take k)).1 (S ++ (m.prun (LS.take k)).2) ∧ ES w wr pb v.vals v'.vals ∧ (m.prun (LS.take k)).1.Ok ∧ (m.prun (LS.take k)).1.Fit (800 - 100 * k) ∧ (m.prun (LS.take k)).2.length ≤ 1000 * k ∧ (m.prun (LS.take k)).1.pk = m.pk)) (fun i _ => LS.length - (intOf i).toNat)
  case atStart => exact ⟨0, v, Nat.zero_le _, rfl, by simpa [RE.prun] using HP.out, ES.refl _ _ _, OK.out, FIT.out, by simp [RE.prun], rfl⟩
  case round =>
    obtain ⟨k, v', hk, rfl, HW⟩ := hrel
    by_cases hlt : k < LS.length
    · obtain ⟨rfl, hg1, hg2⟩ := HA.out (by omega)
      have hI : (k : Int) < (LS.length : Int) := by omega
      obtain ⟨c, hc⟩ : ∃ c, LS[k]? = some c := ⟨_, List.getElem?_eq_getElem hlt⟩
      obtain ⟨u, hu⟩ : ∃ u, us[k]? = some u := ⟨_, List.getElem?_eq_getElem (by have := HU.out.1; omega)⟩
      have cu : wr.cell? ⟨g, k, none⟩ = some u := (World.cell?_of_block (w := w) (a := ⟨g, k, none⟩) (HW.out.2.1.t.block g hg2 (fun x => by have := HIN.out g x; omega))).trans (HU.out.2.1 k u hu)
      obtain ⟨F, ⟨f, first, cp, rfl, hen, hF1, hcok, hcall⟩, hF2⟩ := HU.out.2.2 k c u hc hu
      have HN : Hid (_) := prun_take m LS k c hc
      have hfit := HW.out.2.2.2.1
      have hlen := HW.out.2.2.2.2.1
      have hbs : Bs ≤ wr.heap.size := Nat.le_trans hBs HW.out.2.1.t.size
      have NX : Hid (∀ (wz : World) (v2 : PV), PI wz B Bs pb v2 ((m.prun (LS.take k)).1.pa c).1 ((S ++ (m.prun (LS.take k)).2) ++ ((m.prun (LS.take k)).1.pa c).2) → ES wr wz pb v'.vals v2.vals →
          PI wz B Bs pb v2 (m.prun (LS.take (k + 1))).1 (S ++ (m.prun (LS.take (k + 1))).2) ∧ ES w wz pb v.vals v2.vals ∧ (m.prun (LS.take (k + 1))).1.Ok ∧ (m.prun (LS.take (k + 1))).1.Fit (800 - 100 * (k + 1)) ∧ (m.prun (LS.take (k + 1))).2.length ≤ 1000 * (k + 1) ∧ (m.prun (LS.take (k + 1))).1.pk = m.pk) := by
        intro wz v2 p1 p2
        rw [HN.out]
        refine ⟨by rw [List.append_assoc] at p1; exact p1, HW.out.2.1.trans p2, RE.pa_ok HW.out.2.2.1 c, RE.pa_fit (by rw [show 800 - 100 * (k + 1) + 100 = 800 - 100 * k by omega]; exact hfit) HW.out.2.2.1 c hcok, ?_, (RE.pa_pk _ c).trans HW.out.2.2.2.2.2⟩
        have := RE.pa_len HW.out.2.2.1 c hcok
        rw [List.length_append]; omega
      have HC : Hid (_) := hcall wr _ HW.out.2.1.t (fun b hb x => by have := HIN.out b x; have := hF2 b hb; omega) B Bs v' _ _ HW.out.1 (fun b hb x => by
        rcases HW.out.2.1.i b x with y | y
        · have := HIN.out b y; have := hF2 b hb; omega
        · have := hF1 b hb; omega) HW.out.2.2.2.2.2 HW.out.2.2.1 (hfit.less (by omega)) (by rw [List.length_append]; omega) hbs
      have hent := hen (first ++ cp) wr
      clear hfit hlen HU HN HW hcall
      go_wp2_with fail
      refine Calls.mono HC.out ?_
      rintro e wz ⟨rfl, v2, p1, p2⟩
      have HZ : Hid (_) := NX.out wz v2 p1 p2
      clear p1 p2 HC NX
      go_wp2_with fail
      exact ⟨⟨k + 1, v2, by omega, by go_num, HZ.out⟩, by simp [intOf]; omega⟩
    · have ht : LS.take k = LS := List.take_of_length_le (by omega)
      have HF : Hid (PI wr B Bs pb v' (m.prun LS).1 (S ++ (m.prun LS).2) ∧ ES w wr pb v.vals v'.vals) := by
        have := HW.out
        rw [ht] at this; exact ⟨this.1, this.2.1⟩
      clear HW
      go_wp2_with fail
      go_end0
      exact ⟨rfl, v', HF.out⟩
end Go.Proofs.YtoeihlgidakjbaaGreatDoor
namespace Go.Proofs.YtoeihlgidakjbaaGreatDoor
open Go.RowKit Go.Lib
def MkR (w w' : World) (pb : Nat) (pk : Pk) (G : Nat → Prop) (a : PA) (r : Ending) : Prop :=
  ∃ (f : Nat) (first cap : Array Value) (F : Nat → Prop), r = .returned (.func (.func f) first cap) ∧ Does w' F pb pk a (.func (.func f) first cap) ∧ (∀ b, F b → w.heap.size ≤ b ∨ G b) ∧ Below w.heap.size w w'
abbrev boxW (w : World) (A : Array Value) (T : Nat) (A' : Array Value) (T' : Nat) : World := (w.alloc (.cells A T)).alloc (.cells A' T')
theorem box_below (w : World) (A : Array Value) (T : Nat) (A' : Array Value) (T' : Nat) : Below w.heap.size w (boxW w A T A' T') := ((Below.refl _ _).alloc (Nat.le_refl _) _).alloc (by simp) _
theorem box_size (w : World) (A : Array Value) (T : Nat) (A' : Array Value) (T' : Nat) : (boxW w A T A' T').heap.size = w.heap.size + 2 := by simp [boxW]
theorem box_two {w wr : World} {A A' : Array Value} {T T' : Nat} {S0 : Nat → Prop} (ht : Tch S0 (boxW w A T A' T') wr) (h0 : ¬ S0 w.heap.size) (h1 : ¬ S0 (w.heap.size + 1)) : wr.heap[w.heap.size]? = some (.cells A T (0, 0)) ∧ wr.heap[w.heap.size + 1]? = some (.cells A' T' (0, 0)) := by
  refine ⟨(ht.block _ (by rw [box_size]; omega) h0).trans ?_, (ht.block _ (by rw [box_size]; omega) h1).trans ?_⟩
  · exact (((Below.refl _ (w.alloc (.cells A T))).alloc (Nat.le_refl _) (.cells A' T')).block _ (by simp)).trans (heap_alloc_new w _)
  · have := heap_alloc_new (w.alloc (.cells A T)) (.cells A' T')
    have z : (w.alloc (.cells A T)).heap.size = w.heap.size + 1 := by simp
    rw [z] at this
    exact this
theorem mk_of {w : World} {pb : Nat} {pk : Pk} {G : Nat → Prop} {a : PA} {f : Nat} {cap : Array Value} {A A' : Array Value} {T T' : Nat} (ha : a.ok) (en : Enters f) (hG : ∀ b, G b → b < w.heap.size)
    (h : ∀ (wr : World) (S0 : Nat → Prop), Tch S0 (boxW w A T A' T') wr → (∀ b, G b → ¬ S0 b) → wr.heap[w.heap.size]? = some (.cells A T (0, 0)) → wr.heap[w.heap.size + 1]? = some (.cells A' T' (0, 0)) → ∀ (B Bs : Nat) (v : PV) (m : RE) (S : List UInt8), PI wr B Bs pb v m S → w.heap.size ≠ pb → w.heap.size + 1 ≠ pb → (∀ b, G b → ¬ inE pb v.vals b) → m.pk = pk → m.Ok → m.Fit 100 → S.length ≤ 100000000000000 → Bs ≤ wr.heap.size →
      Calls Tryz.prog f cap wr fun r w' => ActR wr w' B Bs pb v (m.pa a).1 (S ++ (m.pa a).2) r) :
    MkR w (boxW w A T A' T') pb pk G a (.returned (.func (.func f) #[] cap)) := by
  refine ⟨f, #[], cap, fun b => b = w.heap.size ∨ b = w.heap.size + 1 ∨ G b, rfl, ⟨f, #[], cap, rfl, en, ?_, ha, ?_⟩, ?_, box_below _ _ _ _ _⟩
  · rintro b (rfl | rfl | hb)
    · rw [box_size]; omega
    · rw [box_size]; omega
    · have := hG b hb; rw [box_size]; omega
  · intro wr S0 ht hs B Bs v m S hp hd hk ok fit hS hB
    obtain ⟨p1, p2⟩ := box_two ht (hs _ (.inl rfl)) (hs _ (.inr (.inl rfl)))
    have e : #[] ++ cap = cap := by simp
    rw [e]
    exact h wr S0 ht (fun b hb => hs b (.inr (.inr hb))) p1 p2 B Bs v m S hp (fun e => hd _ (.inl rfl) (.inl e)) (fun e => hd _ (.inr (.inl rfl)) (.inl e)) (fun b hb => hd b (.inr (.inr hb))) hk ok fit hS hB
  · rintro b (rfl | rfl | hb)
    · exact .inl (Nat.le_refl _)
    · exact .inl (by omega)
    · exact .inr hb
set_option maxRecDepth 100000 in
set_option maxHeartbeats 1000000 in
theorem act_enter {B Bs pb : Nat} {v : PV} {m : RE} {S : List UInt8} (s b1 b2 : Nat) (w : World) (h : PI w B Bs pb v m S) (c1 : w.cell? ⟨b1, 0, none⟩ = some (.int .i64 (s : Int))) (c2 : w.cell? ⟨b2, 0, none⟩ = some (.pointer (some ⟨pb, 0, none⟩))) :
    Calls Tryz.prog 121 #[.pointer (some ⟨b1, 0, none⟩), .pointer (some ⟨b2, 0, none⟩)] w fun r w' => ActR w w' B Bs pb v { m with st := s } S r := by
  have H : Hid (_) := h
  have c14 : w.cell? ⟨pb, 14, none⟩ = some (.int .i64 (m.st : Int)) := blk_cell h.em.blk
  have f14 : w.frozen? ⟨pb, 14, none⟩ = false := blk_free h.em.blk
  clear h
  go_enter Tryz.func121, Tryz.ntmps121
  go_wp2_with fail
  go_end0
  exact ⟨rfl, v, H.out.num (q' := m.props) (m' := { m with st := s }) (blk_set (k := 14) (x := .int .i64 (s : Int)) H.out.em.blk) (tset w pb 14 _) rfl rfl rfl⟩
theorem letter_enter (m : RE) (s : Nat) (hs : s < 10) : m.letter (48 + s) = ({ m with st := s }, []) := by
  unfold RE.letter
  rw [if_pos (by omega)]
  have : 48 + s - 48 = s := by omega
  rw [this]
set_option maxRecDepth 100000 in
theorem enter_any (pb s : Nat) (hs : s < 10) (pk : Pk) (G : Nat → Prop) (w : World) (hG : ∀ b, G b → b < w.heap.size) :
    Calls Tryz.prog 88 #[.pointer (some ⟨pb, 0, none⟩), .int .i64 (s : Int)] w fun r w' => MkR w w' pb pk G (.l (48 + s)) r := by
  have hmf : ∀ (fn : Fn) (first cap : Array Value) (w : World), (Instr.makeFunc fn first cap).run Tryz.prog w = .ok (.func fn first cap) w := fun _ _ _ _ => rfl
  have HG : Hid (_) := hG
  clear hG
  go_enter Tryz.func88, Tryz.ntmps88
  go_wp2
  go_ret
  refine mk_of trivial (fun _ _ => by kernel_rfl) HG.out ?_
  intro wr S0 ht _ p1 p2 B Bs v m S hp _ _ _ _ _ _ _ _
  have e := letter_enter m s hs
  show Calls _ _ _ _ (fun r w' => ActR wr w' B Bs pb v (m.letter (48 + s)).1 (S ++ (m.letter (48 + s)).2) r)
  rw [e, List.append_nil]
  exact act_enter s _ _ wr hp ((blk_cell p2).trans rfl) ((blk_cell p1).trans rfl)
abbrev pkA (pk : Pk) : Array Value := #[.int .i64 (pk.1 : Int), .int .i64 (pk.2.1 : Int), .string ⟨pk.2.2.toArray⟩]
set_option maxRecDepth 100000 in
set_option maxHeartbeats 1000000 in
theorem act_endack {B Bs pb : Nat} {v : PV} {m : RE} {S : List UInt8} (b1 b2 : Nat) (w : World) (h : PI w B Bs pb v m S) (ok : m.Ok) (hS : S.length ≤ 100000000000000) (hBs : Bs ≤ w.heap.size) (p1 : w.heap[b1]? = some (.cells #[.pointer (some ⟨pb, 0, none⟩)] 46 (0, 0))) (p2 : w.heap[b2]? = some (.cells (pkA m.pk) 27 (0, 0))) :
    Calls Tryz.prog 166 #[.pointer (some ⟨b1, 0, none⟩), .pointer (some ⟨b2, 0, none⟩)] w fun r w' => ActR w w' B Bs pb v m (S ++ lineL 6 m.pi []) r := by
  have HS : Hid (_) := psendN 6 m.pi [] w h (by omega) ok.pi (by simp) hS hBs
  have c1 : w.cell? ⟨b1, 0, none⟩ = some (.pointer (some ⟨pb, 0, none⟩)) := blk_cell p1
  have c2 : w.cell? ⟨b2, 1, none⟩ = some (.int .i64 (m.pi : Int)) := blk_cell p2
  clear h ok p1 p2
  go_enter Tryz.func166, Tryz.ntmps166
  go_wp2_with fail
  refine Calls.mono HS.out ?_
  rintro e wz ⟨rfl, v', hv⟩
  have HV : Hid (_) := hv
  clear hv HS
  go_wp2_with fail
  go_end0
  exact ⟨rfl, v', HV.out⟩
set_option maxRecDepth 100000 in
theorem mk_endack (pb : Nat) (pk : Pk) (G : Nat → Prop) (w : World) (hG : ∀ b, G b → b < w.heap.size) :
    Calls Tryz.prog 139 #[.pointer (some ⟨pb, 0, none⟩), .agg (pkA pk)] w fun r w' => MkR w w' pb pk G (.l 107) r := by
  have hmf : ∀ (fn : Fn) (first cap : Array Value) (w : World), (Instr.makeFunc fn first cap).run Tryz.prog w = .ok (.func fn first cap) w := fun _ _ _ _ => rfl
  have HG : Hid (_) := hG
  clear hG
  go_enter Tryz.func139, Tryz.ntmps139
  go_wp2
  go_ret
  refine mk_of trivial (fun _ _ => by kernel_rfl) HG.out ?_
  intro wr S0 ht _ p1 p2 B Bs v m S hp d1 d2 _ hk ok _ hS hB
  exact act_endack (m := m) _ _ wr hp ok hS hB p1 (by rw [hk]; exact p2)
set_option maxRecDepth 100000 in
set_option maxHeartbeats 1000000 in
theorem act_reply {B Bs pb : Nat} {v : PV} {m : RE} {S : List UInt8} (b1 b2 : Nat) (w : World) (h : PI w B Bs pb v m S) (ok : m.Ok) (hS : S.length ≤ 100000000000000) (hBs : Bs ≤ w.heap.size) (p1 : w.heap[b1]? = some (.cells #[.pointer (some ⟨pb, 0, none⟩)] 46 (0, 0))) (p2 : w.heap[b2]? = some (.cells (pkA m.pk) 27 (0, 0))) :
    Calls Tryz.prog 167 #[.pointer (some ⟨b1, 0, none⟩), .pointer (some ⟨b2, 0, none⟩)] w fun r w' => ActR w w' B Bs pb v m (S ++ lineL 10 m.pi m.pd) r := by
  have HS : Hid (_) := psendN 10 m.pi m.pd w h (by omega) ok.pi (by have := ok.pd; omega) hS hBs
  have c1 : w.cell? ⟨b1, 0, none⟩ = some (.pointer (some ⟨pb, 0, none⟩)) := blk_cell p1
  have c2 : w.cell? ⟨b2, 1, none⟩ = some (.int .i64 (m.pi : Int)) := blk_cell p2
  have c3 : w.cell? ⟨b2, 2, none⟩ = some (.string ⟨m.pd.toArray⟩) := blk_cell p2
  clear h ok p1 p2
  go_enter Tryz.func167, Tryz.ntmps167
  go_wp2_with fail
  refine Calls.mono HS.out ?_
  rintro e wz ⟨rfl, v', hv⟩
  have HV : Hid (_) := hv
  clear hv HS
  go_wp2_with fail
  go_end0
  exact ⟨rfl, v', HV.out⟩
set_option maxRecDepth 100000 in
theorem mk_reply (pb : Nat) (pk : Pk) (G : Nat → Prop) (w : World) (hG : ∀ b, G b → b < w.heap.size) :
    Calls Tryz.prog 143 #[.pointer (some ⟨pb, 0, none⟩), .agg (pkA pk)] w fun r w' => MkR w w' pb pk G (.l 111) r := by
  have hmf : ∀ (fn : Fn) (first cap : Array Value) (w : World), (Instr.makeFunc fn first cap).run Tryz.prog w = .ok (.func fn first cap) w := fun _ _ _ _ => rfl
  have HG : Hid (_) := hG
  clear hG
  go_enter Tryz.func143, Tryz.ntmps143
  go_wp2
  go_ret
  refine mk_of trivial (fun _ _ => by kernel_rfl) HG.out ?_
  intro wr S0 ht _ p1 p2 B Bs v m S hp d1 d2 _ hk ok _ hS hB
  exact act_reply (m := m) _ _ wr hp ok hS hB p1 (by rw [hk]; exact p2)
theorem take_extract (s : List UInt8) (n : Nat) : (⟨s.toArray⟩ : ByteArray).extract 0 n = ⟨(s.take n).toArray⟩ := by
  apply str_eq
  rw [ByteArray.data_extract]
  simp
set_option maxRecDepth 100000 in
set_option maxHeartbeats 1000000 in
theorem quote_any (pk : Pk) (w : World) (h1 : pk.1 < 256) (h2 : pk.2.1 < 256) (h3 : pk.2.2.length ≤ 40) :
    Calls Tryz.prog 169 #[.agg (pkA pk)] w fun r w' => r = .returned (.string ⟨((UInt8.ofNat pk.1 :: UInt8.ofNat pk.2.1 :: pk.2.2).take 40).toArray⟩) ∧ Below w.heap.size w w' := by
  obtain ⟨c, d, s⟩ := pk
  replace h1 : c < 256 := h1
  replace h2 : d < 256 := h2
  replace h3 : s.length ≤ 40 := h3
  have q1 : ((UInt8.ofNat c).toNat : Int) = (c : Int) := by rw [UInt8.toNat_ofNat']; omega
  have q2 : ((UInt8.ofNat d).toNat : Int) = (d : Int) := by rw [UInt8.toNat_ofNat']; omega
  have u1 : IntKind.u8.wrap (c : Int) = (c : Int) := by rw [u8_wrap]; omega
  have u2 : IntKind.u8.wrap (d : Int) = (d : Int) := by rw [u8_wrap]; omega
  have hcv := conv_bytes ((w.alloc (.cells (pkA (c, d, s)) 27)).alloc (.cells #[.int .u8 (c : Int), .int .u8 (d : Int)] 5)) (w.heap.size + 1) 0 2 [UInt8.ofNat c, UInt8.ofNat d] (by
    intro k hk
    have hk2 : k < 2 := hk
    rw [World.cell?_alloc_at _ _ _ _ (by simp)]
    rcases (by omega : k = 0 ∨ k = 1) with rfl | rfl
    · simp [h1, Nat.mod_eq_of_lt]
    · simp [h2, Nat.mod_eq_of_lt])
  have hcv2 : (convert 52 9 (.slice (some ⟨w.heap.size + 1, 0, none⟩) 2 2)).run Tryz.prog ((w.alloc (.cells (pkA (c, d, s)) 27)).alloc (.cells #[.int .u8 (c : Int), .int .u8 (d : Int)] 5)) = .ok (.string ⟨[UInt8.ofNat c, UInt8.ofNat d].toArray⟩) ((w.alloc (.cells (pkA (c, d, s)) 27)).alloc (.cells #[.int .u8 (c : Int), .int .u8 (d : Int)] 5)) := hcv
  clear hcv
  have hcat := fun wx => run_string_add_sum (P := Tryz.prog) wx ⟨[UInt8.ofNat c, UInt8.ofNat d].toArray⟩ ⟨s.toArray⟩ (by show [UInt8.ofNat c, UInt8.ofNat d].toArray.size + s.toArray.size ≤ _; simp; omega)
  have hs2 : (⟨[UInt8.ofNat c, UInt8.ofNat d].toArray⟩ : ByteArray) ++ ⟨s.toArray⟩ = ⟨(UInt8.ofNat c :: UInt8.ofNat d :: s).toArray⟩ := by
    apply str_eq
    rw [app_toList]; rfl
  rw [hs2] at hcat
  have hsz : (⟨(UInt8.ofNat c :: UInt8.ofNat d :: s).toArray⟩ : ByteArray).size = s.length + 2 := by show (UInt8.ofNat c :: UInt8.ofNat d :: s).toArray.size = _; simp
  by_cases hc : s.length + 2 ≤ 40
  · have hci : (s.length : Int) + 2 ≤ 40 := by omega
    have hcj : ¬ (40 : Int) < (s.length : Int) + 2 := by omega
    go_enter Tryz.func169, Tryz.ntmps169
    go_wp2_with fail
    go_ret
    refine ⟨?_, ((Below.refl _ _).alloc (Nat.le_refl _) _).alloc (by simp) _⟩
    show Ending.returned (.string (ByteArray.extract _ 0 _)) = _
    rw [take_extract]
    rw [List.take_of_length_le (by simp)]
    simp
    rw [List.take_of_length_le (by omega)]
  · have hci : ¬ (s.length : Int) + 2 ≤ 40 := by omega
    have hcj : (40 : Int) < (s.length : Int) + 2 := by omega
    go_enter Tryz.func169, Tryz.ntmps169
    go_wp2_with fail
    go_ret
    refine ⟨?_, ((Below.refl _ _).alloc (Nat.le_refl _) _).alloc (by simp) _⟩
    show Ending.returned (.string (ByteArray.extract _ 0 _)) = _
    rw [take_extract]
    rfl
set_option maxRecDepth 100000 in
set_option maxHeartbeats 1000000 in
theorem act_unknown {B Bs pb : Nat} {v : PV} {m : RE} {S : List UInt8} (b1 b2 : Nat) (w : World) (h : PI w B Bs pb v m S) (ok : m.Ok) (hS : S.length ≤ 100000000000000) (hBs : Bs ≤ w.heap.size) (n1 : b1 ≠ pb) (n2 : b2 ≠ pb) (p1 : w.heap[b1]? = some (.cells #[.pointer (some ⟨pb, 0, none⟩)] 46 (0, 0))) (p2 : w.heap[b2]? = some (.cells (pkA m.pk) 27 (0, 0))) :
    Calls Tryz.prog 168 #[.pointer (some ⟨b1, 0, none⟩), .pointer (some ⟨b2, 0, none⟩)] w fun r w' => ActR w w' B Bs pb v (m.letter 106).1 (S ++ (m.letter 106).2) r := by
  have c1 : w.cell? ⟨b1, 0, none⟩ = some (.pointer (some ⟨pb, 0, none⟩)) := blk_cell p1
  have c18 : w.cell? ⟨pb, 18, none⟩ = some (.int .u8 (m.odd : Int)) := blk_cell h.em.blk
  have f18 : w.frozen? ⟨pb, 18, none⟩ = false := blk_free h.em.blk
  obtain ⟨o, ho⟩ : ∃ o : Nat, o = (m.odd + 1) % 256 := ⟨_, rfl⟩
  have e1 : ((m.odd : Int) + 1) % 256 = (o : Int) := by omega
  have hol : o < 256 := by omega
  have t1 := tset w pb 18 (.int .u8 (o : Int))
  have hp := h.num (q' := m.props) (m' := { m with odd := o }) (blk_set (k := 18) (x := .int .u8 (o : Int)) h.em.blk) t1 rfl rfl rfl
  have HP : Hid (_) := hp
  have hsz : (w.setCell ⟨pb, 18, none⟩ (.int .u8 (o : Int))).heap.size = w.heap.size := by simp [World.setCell]
  have r1 : (w.setCell ⟨pb, 18, none⟩ (.int .u8 (o : Int))).heap[b1]? = _ := (t1.block b1 (blk_lt p1) n1).trans p1
  have r2 : (w.setCell ⟨pb, 18, none⟩ (.int .u8 (o : Int))).heap[b2]? = _ := (t1.block b2 (blk_lt p2) n2).trans p2
  have hpc := ok.pc
  have hpi := ok.pi
  have hpd := ok.pd
  have HO : Hid ((m.letter 106).1 = { m with odd := o } ∧ (m.letter 106).2 = lineL 7 o ((UInt8.ofNat m.pc :: UInt8.ofNat m.pi :: m.pd).take 40)) := by rw [ho]; exact ⟨rfl, rfl⟩
  have d1 : (w.setCell ⟨pb, 18, none⟩ (.int .u8 (o : Int))).cell? ⟨b1, 0, none⟩ = some (.pointer (some ⟨pb, 0, none⟩)) := blk_cell r1
  have d2 : (w.setCell ⟨pb, 18, none⟩ (.int .u8 (o : Int))).cell? ⟨b2, 0, none⟩ = some (.int .i64 (m.pc : Int)) := blk_cell r2
  have d3 : (w.setCell ⟨pb, 18, none⟩ (.int .u8 (o : Int))).cell? ⟨b2, 1, none⟩ = some (.int .i64 (m.pi : Int)) := blk_cell r2
  have d4 : (w.setCell ⟨pb, 18, none⟩ (.int .u8 (o : Int))).cell? ⟨b2, 2, none⟩ = some (.string ⟨m.pd.toArray⟩) := blk_cell r2
  have d18 : (w.setCell ⟨pb, 18, none⟩ (.int .u8 (o : Int))).cell? ⟨pb, 18, none⟩ = some (.int .u8 (o : Int)) := blk_cell hp.1.em.blk
  clear h ok p1 p2 t1 hp ho r1 r2
  go_enter Tryz.func168, Tryz.ntmps168
  go_upto_region 1 with fail
  generalize w.setCell ⟨pb, 18, none⟩ (.int .u8 (o : Int)) = W0 at *
  clear c1 c18 f18 e1
  have D1 : W0.drew.cell? ⟨b1, 0, none⟩ = some (.pointer (some ⟨pb, 0, none⟩)) := d1
  have D2 : W0.drew.cell? ⟨b2, 0, none⟩ = some (.int .i64 (m.pc : Int)) := d2
  have D3 : W0.drew.cell? ⟨b2, 1, none⟩ = some (.int .i64 (m.pi : Int)) := d3
  have D4 : W0.drew.cell? ⟨b2, 2, none⟩ = some (.string ⟨m.pd.toArray⟩) := d4
  have D18 : W0.drew.cell? ⟨pb, 18, none⟩ = some (.int .u8 (o : Int)) := d18
  have hb1 := cell_lt d1
  have hb2 := cell_lt d2
  have hpb := cell_lt d18
  have wo : IntKind.i64.wrap (o : Int) = (o : Int) := wrap_in (by omega) (by omega)
  go_region_law (first | (go_simp; go_at_call 169; refine (quote_any (m.pc, m.pi, m.pd) _ hpc hpi hpd).mono ?_; rintro e wq ⟨rfl, hbq⟩; have hbq' : Below W0.heap.size W0 wq := ⟨hbq.os, hbq.tape, hbq.output, hbq.size, hbq.block⟩; have q1 := (hbq'.cell (p := ⟨b1, 0, none⟩) hb1).trans d1; have q18 := (hbq'.cell (p := ⟨pb, 18, none⟩) hpb).trans d18) | (go_simp; go_at_call 155; refine Calls.mono (psendN 7 o ((UInt8.ofNat m.pc :: UInt8.ofNat m.pi :: m.pd).take 40) wq (HP.out.1.below hbq') (by omega) hol (by rw [List.length_take]; omega) hS (by have := hbq'.size; omega)) ?_; rintro e wz ⟨rfl, v', hv1, hv2⟩))
  all_goals
    go_wp2_with fail
    go_end0
    refine ⟨rfl, v', ?_, (HP.out.2.trans (ES.below hbq')).trans hv2⟩
    rw [HO.out.1, HO.out.2]
    exact hv1
set_option maxRecDepth 100000 in
theorem mk_unknown (pb : Nat) (pk : Pk) (G : Nat → Prop) (w : World) (hG : ∀ b, G b → b < w.heap.size) :
    Calls Tryz.prog 144 #[.pointer (some ⟨pb, 0, none⟩), .agg (pkA pk)] w fun r w' => MkR w w' pb pk G (.l 106) r := by
  have hmf : ∀ (fn : Fn) (first cap : Array Value) (w : World), (Instr.makeFunc fn first cap).run Tryz.prog w = .ok (.func fn first cap) w := fun _ _ _ _ => rfl
  have HG : Hid (_) := hG
  clear hG
  go_enter Tryz.func144, Tryz.ntmps144
  go_wp2
  go_ret
  refine mk_of trivial (fun _ _ => by kernel_rfl) HG.out ?_
  intro wr S0 ht _ p1 p2 B Bs v m S hp d1 d2 _ hk ok _ hS hB
  exact act_unknown (m := m) _ _ wr hp ok hS hB d1 d2 p1 (by rw [hk]; exact p2)
end Go.Proofs.YtoeihlgidakjbaaGreatDoor

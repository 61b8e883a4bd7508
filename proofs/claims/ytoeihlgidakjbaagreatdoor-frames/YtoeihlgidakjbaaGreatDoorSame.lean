/- The laws' same: the bytes that came out are these, and they are kept. -/
import Derived.Test.YtoeihlgidakjbaaGreatDoorKeep4
namespace Go.Proofs.YtoeihlgidakjbaaGreatDoor
open Go.RowKit Go.Lib

theorem conv_own {w : World} {B : Nat} {v : Value} {n : Nat} {l : List UInt8} (h : w.ownsRow B 5 1 v n (l.map bv)) : (convert 52 9 v).run Tryz.prog w = .ok (.string ⟨l.toArray⟩) w := by
  by_cases h0 : 0 < l.length
  · obtain ⟨rfl, g, cap, rfl, _, _, _, _, hr⟩ := owns_rd h h0
    exact conv_bytes w g 0 cap l hr
  · have hl : l = [] := List.eq_nil_of_length_eq_zero (by omega)
    subst hl
    have hn : n = 0 := by have := h.1; simp at this; omega
    subst hn
    rcases h.2 with ⟨rfl, _⟩ | ⟨g, cap, cur, rfl, _⟩
    · rw [run_convert_bytes_string w 52 9 5 _ _ _ Tryz.underlying52 Tryz.underlying5 Tryz.underlying9]
      rfl
    · exact conv_bytes w g 0 cap [] (fun k hk => absurd hk (Nat.not_lt_zero _))
theorem WI.below {w w' : World} {B wb : Nat} {vp vh : Value} {es : List HE} (h : WI w B wb vp vh es) (hb : Below w.heap.size w w') : WI w' B wb vp vh es :=
  h.of_tch (S := fun _ => False) (Tch.of_below hb) id (fun _ _ x => x) (fun _ _ _ _ x => x)
theorem WI.vlt {w : World} {B wb : Nat} {vp vh : Value} {es : List HE} (h : WI w B wb vp vh es) : ∀ b, vh.ownBlock = some b → B ≤ b ∧ b < w.heap.size := fun b hb => h.own.lt b hb
theorem str_of {s : ByteArray} {l : List UInt8} (h : s.data.toList = l) : s = ⟨l.toArray⟩ := str_eq h
/-- Keep what was just put into a new hold: bytes alone. -/
theorem keep_new {B wb : Nat} {vp vh v : Value} {n : Nat} {xs : List Value} {es : List HE} (w : World) (hw : WI w B wb vp vh es) (ob : w.ownsRow B 5 1 v n xs) (hn : n + 3 ≤ 140737488352000) (hes : es.length + 4 ≤ 17000000000000) (sep : ∀ b, v.ownBlock = some b → b ≠ wb ∧ vh.ownBlock ≠ some b ∧ ∀ e ∈ es, ¬ e.in_ b) :
    Calls Tryz.prog 57 #[.pointer (some ⟨wb, 0, none⟩), .pointer (some ⟨w.heap.size, 0, none⟩)] (w.alloc (.cells #[v, .slice none 0 0, .int .i64 0] 106)) fun r w' => r = .returned (.tuple #[]) ∧ ∃ vh' es', es'.length = es.length + 4 ∧ WI w' B wb vp vh' es' ∧ Tch (fun b => b = wb ∨ vh.ownBlock = some b ∨ v.ownBlock = some b) w w' := by
  have hba : Below w.heap.size w (w.alloc (.cells #[v, .slice none 0 0, .int .i64 0] 106)) := (Below.refl _ _).alloc (Nat.le_refl _) _
  have hB : B ≤ w.heap.size := Nat.le_trans hw.ge (Nat.le_of_lt hw.lt)
  refine (keep_any (hb := w.heap.size) (vb := v) (vn := .slice none 0 0) (nb := n) (nn := 0) (xs := xs) (ys := []) _ (hw.below hba) (by simp) (by simp) (by simp) (by simp) (ob.alloc _) (World.ownsRow_nil _ _ _ _) (by simp) hB ?_ (by simp [Value.ownBlock]) ?_ hn (by omega) hes ?_).mono ?_
  · intro x; have := (ob.lt _ x).2; omega
  · by_cases h : v.ownBlock = none
    · exact .inl h
    · exact .inr (by simpa [Value.ownBlock] using h)
  · rintro b (h | h | h)
    · simp only at h
      subst h
      refine ⟨by have := hw.lt; omega, fun x => by have := (hw.vlt _ x).2; omega, fun e he x => by have := (hw.sep e he _ x).2.1; omega⟩
    · exact sep b h
    · simp [Value.ownBlock] at h
  · rintro r w' ⟨rfl, vh', es', h1, h2, h3⟩
    refine ⟨rfl, vh', es', h1, h2, Tch.restrict ((Tch.of_below hba).trans (h3.mono ?_))⟩
    rintro b (h | h | h | h | h)
    · exact .inl (.inl h)
    · exact .inl (.inr (.inl h))
    · exact .inr (by simp only at h; omega)
    · exact .inl (.inr (.inr h))
    · simp [Value.ownBlock] at h
set_option maxHeartbeats 1000000 in
theorem same_any {B wb : Nat} {vp vh v : Value} {n : Nat} {l : List UInt8} {es : List HE} (w : World) (hw : WI w B wb vp vh es) (ob : w.ownsRow B 5 1 v n (l.map bv)) (hn : n + 3 ≤ 140737488352000) (hes : es.length + 4 ≤ 17000000000000) (sep : ∀ b, v.ownBlock = some b → b ≠ wb ∧ vh.ownBlock ≠ some b ∧ ∀ e ∈ es, ¬ e.in_ b) :
    Calls Tryz.prog 53 #[.pointer (some ⟨wb, 0, none⟩), v, .string ⟨l.toArray⟩] w fun r w' => r = .returned (.bool true) ∧ ∃ vh' es', es'.length = es.length + 4 ∧ WI w' B wb vp vh' es' ∧ Tch (fun b => b = wb ∨ vh.ownBlock = some b ∨ v.ownBlock = some b) w w' := by
  have hcv := conv_own ob
  have HK : Hid (_) := keep_new w hw ob hn hes sep
  obtain ⟨a, cap, g, hv, _, _, _⟩ := own_shape ob
  subst hv
  clear ob hw sep
  go_enter Tryz.func53, Tryz.ntmps53
  go_wp2_with fail
  refine Calls.mono HK.out ?_
  rintro r w' ⟨rfl, h⟩
  clear hcv HK
  have H : Hid (_) := h
  clear h
  go_wp2_with fail
  go_ret
  exact ⟨rfl, H.out⟩
end Go.Proofs.YtoeihlgidakjbaaGreatDoor

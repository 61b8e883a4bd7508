/- What the program's end does with a packet: atPacket. What take leans on: Read of what was gathered; a row that is cut. The program's take: one byte from the line. -/
import Derived.Test.YtoeihlgidakjbaaGreatDoorPc22
import Derived.Test.YtoeihlgidakjbaaGreatDoorPc23
import Derived.Test.YtoeihlgidakjbaaGreatDoorPc2
namespace Go.Proofs.YtoeihlgidakjbaaGreatDoor
open Go.RowKit Go.Lib
theorem atR_far {w w1 w2 : World} {B Bs pb : Nat} {v : PV} {m : RE} {S : List UInt8} {E : RE × List UInt8} {LS : List PA} {r : Ending} (hb : Below w.heap.size w w1) (h : AtR w1 w2 w.heap.size pb m.pk LS r) (hp : PI w1 B Bs pb v m S) (he : E = m.prun LS) (ok : m.Ok) (fit : m.Fit 800) (hl : LS.length ≤ 6) : PatH w w2 w.heap.size B Bs pb v S E r := by
  obtain ⟨va, e, ha, hb2⟩ := h
  exact ⟨va, _, m, e, ha.2, hp.below hb2, ES.below (hb.trans (hb2.mono hb.size)), he, ok, fit, hl⟩
theorem ActsIn.less {w : World} {H H' pb : Nat} {pk : Pk} {va : Value} {LS : List PA} (h : ActsIn w H pb pk va LS) (hH : H' ≤ H) : ActsIn w H' pb pk va LS := by
  obtain ⟨a, cap, g, us, e, h1, h2, h3, h4⟩ := h
  exact ⟨a, cap, g, us, e, fun x => ⟨(h1 x).1, Nat.le_trans hH (h1 x).2.1, (h1 x).2.2⟩, h2, h3, fun j c u hc hu => by
    obtain ⟨F, d, hf⟩ := h4 j c u hc hu
    exact ⟨F, d, fun b hb => Nat.le_trans hH (hf b hb)⟩⟩
theorem PatH.far {w w1 w2 : World} {B Bs pb : Nat} {v : PV} {S : List UInt8} {E : RE × List UInt8} {r : Ending} (hb : Below w.heap.size w w1) (h : PatH w1 w2 w1.heap.size B Bs pb v S E r) : PatH w w2 w.heap.size B Bs pb v S E r := by
  obtain ⟨va, LS, m', h1, h2, h3, h4, h5⟩ := h
  exact ⟨va, LS, m', h1, h2.less hb.size, h3, (ES.below hb).trans h4, h5⟩
set_option maxRecDepth 100000 in
set_option maxHeartbeats 4000000 in
theorem patPacket {B Bs pb : Nat} {v : PV} {m : RE} {S : List UInt8} (w : World) (h : PI w B Bs pb v m S) (ok : m.Ok) (fit : m.Fit 900) (hg : Gt w) :
    Calls Tryz.prog 74 #[.pointer (some ⟨pb, 0, none⟩), .agg (pkA m.pk)] w fun r w' => PatH w w' w.heap.size B Bs pb v S m.receive r := by
  have BA : Hid (Below w.heap.size w (w.alloc (.cells (pkA m.pk) 27))) := (Below.refl _ _).alloc (Nat.le_refl _) _
  have RA : Hid ((w.alloc (.cells (pkA m.pk) 27)).heap[w.heap.size]? = some (.cells (pkA m.pk) 27 (0, 0))) := heap_alloc_new w _
  have HP : Hid (PI w B Bs pb v m S) := h
  have OK : Hid (m.Ok) := ok
  have FIT : Hid (m.Fit 900) := fit
  have hst := ok.st
  have HA : Hid (PI (w.alloc (.cells (pkA m.pk) 27)) B Bs pb v m S) := h.below BA.out
  have GT : Hid (Gt (w.alloc (.cells (pkA m.pk) 27))) := hg.below BA.out
  obtain ⟨n, hn⟩ : ∃ n : Int, n = (m.pc : Int) := ⟨_, rfl⟩
  have HN : Hid (n = (m.pc : Int)) := hn
  have x0 : (w.alloc (.cells (pkA m.pk) 27)).cell? ⟨w.heap.size, 0, none⟩ = some (.int .i64 n) := by rw [hn]; exact blk_cell RA.out
  have x1 : (w.alloc (.cells (pkA m.pk) 27)).cell? ⟨w.heap.size, 1, none⟩ = some (.int .i64 (m.pi : Int)) := blk_cell RA.out
  have x2 : (w.alloc (.cells (pkA m.pk) 27)).cell? ⟨w.heap.size, 2, none⟩ = some (.string ⟨m.pd.toArray⟩) := blk_cell RA.out
  have PK : Hid (pkA m.pk = #[.int .i64 n, .int .i64 (m.pi : Int), .string ⟨m.pd.toArray⟩]) := by show _ = _; rw [hn]; rfl
  clear h ok fit hg hn
  go_enter Tryz.func74, Tryz.ntmps74
  go_upto_region 1 with fail
  generalize w.alloc (.cells (pkA m.pk) 27) = WA at *
  by_cases c1 : n = 1
  · have HR : Hid (m.receive = m.rq) := by show _ = _; unfold RE.receive RE.rq; rw [if_pos (by have := HN.out; omega)]; rfl
    have HC : Hid (Calls Tryz.prog 102 #[.pointer (some ⟨pb, 0, none⟩), .agg #[.int .i64 n, .int .i64 (m.pi : Int), .string ⟨m.pd.toArray⟩]] WA fun r w' => PatH w w' w.heap.size B Bs pb v S m.receive r) := by
      have := (patRequest WA HA.out OK.out FIT.out GT.out).mono (fun r w2 q => PatH.far BA.out q)
      rw [PK.out] at this
      rw [HR.out]; exact this
    have e1 : (n == 1) = true := by simp [c1]
    clear HR c1
    go_wp2_with fail
    refine Calls.mono HC.out ?_
    rintro e w2 ⟨va, LS, m', rfl, q⟩
    have Q : Hid (PatH w w2 w.heap.size B Bs pb v S m.receive (.returned va)) := ⟨va, LS, m', rfl, q⟩
    clear q HC
    go_wp2_with fail
    go_ret
    exact Q.out
  have e1 : (n == 1) = false := by simp [c1]
  have N1 : Hid (m.pc ≠ 1) := fun x => c1 (by rw [HN.out, x]; rfl)
  clear c1
  by_cases c2 : n = 2
  · have HR : Hid (m.receive = if (m.pi : Int) = m.sid ∧ m.pd = m.sent then m.at_ 10 else (m, [])) := by show _ = _; unfold RE.receive; rw [show m.pc = 2 by have := HN.out; omega]; rfl
    have HC : Hid (Calls Tryz.prog 103 #[.pointer (some ⟨pb, 0, none⟩), .agg #[.int .i64 n, .int .i64 (m.pi : Int), .string ⟨m.pd.toArray⟩]] WA fun r w' => PatH w w' w.heap.size B Bs pb v S m.receive r) := by
      have := (patAck WA HA.out OK.out FIT.out).mono (fun r w2 q => PatH.far BA.out q)
      rw [PK.out] at this
      rw [HR.out]; exact this
    have e2 : (n == 2) = true := by simp [c2]
    clear HR c2
    go_wp2_with fail
    refine Calls.mono HC.out ?_
    rintro e w2 ⟨va, LS, m', rfl, q⟩
    have Q : Hid (PatH w w2 w.heap.size B Bs pb v S m.receive (.returned va)) := ⟨va, LS, m', rfl, q⟩
    clear q HC
    go_wp2_with fail
    go_ret
    exact Q.out
  have e2 : (n == 2) = false := by simp [c2]
  have N2 : Hid (m.pc ≠ 2) := fun x => c2 (by rw [HN.out, x]; rfl)
  clear c2
  by_cases c3 : n = 3
  · have HR : Hid (m.receive = m.nk) := by show _ = _; unfold RE.receive RE.nk; rw [if_neg N1.out, if_neg N2.out, if_pos (by have := HN.out; omega)]; rfl
    have HC : Hid (Calls Tryz.prog 104 #[.pointer (some ⟨pb, 0, none⟩), .agg #[.int .i64 n, .int .i64 (m.pi : Int), .string ⟨m.pd.toArray⟩]] WA fun r w' => PatH w w' w.heap.size B Bs pb v S m.receive r) := by
      have := (patNak WA HA.out OK.out FIT.out GT.out).mono (fun r w2 q => PatH.far BA.out q)
      rw [PK.out] at this
      rw [HR.out]; exact this
    have e3 : (n == 3) = true := by simp [c3]
    clear HR c3
    go_wp2_with fail
    refine Calls.mono HC.out ?_
    rintro e w2 ⟨va, LS, m', rfl, q⟩
    have Q : Hid (PatH w w2 w.heap.size B Bs pb v S m.receive (.returned va)) := ⟨va, LS, m', rfl, q⟩
    clear q HC
    go_wp2_with fail
    go_ret
    exact Q.out
  have e3 : (n == 3) = false := by simp [c3]
  have N3 : Hid (m.pc ≠ 3) := fun x => c3 (by rw [HN.out, x]; rfl)
  clear c3
  by_cases c5 : n = 5
  · have HR : Hid (m.receive = m.at_ 12) := by show _ = _; unfold RE.receive; rw [show m.pc = 5 by have := HN.out; omega]; rfl
    have HC : Hid (Calls Tryz.prog 105 #[.pointer (some ⟨pb, 0, none⟩), .agg #[.int .i64 n, .int .i64 (m.pi : Int), .string ⟨m.pd.toArray⟩]] WA fun r w' => PatH w w' w.heap.size B Bs pb v S m.receive r) := by
      have := (patEnd pb m.st w.heap.size m.pk WA hst (blk_lt HA.out.em.blk) BA.out.size (blk_cell HA.out.em.blk)).mono (fun r w2 q => atR_far (E := m.receive) BA.out q HA.out (HR.out.trans (row_ev (R := row_atEnd) rfl _)) OK.out (FIT.out.less (by omega)) (row_six (by decide) _))
      rw [PK.out] at this
      exact this
    have e5 : (n == 5) = true := by simp [c5]
    clear HR c5
    go_wp2_with fail
    refine Calls.mono HC.out ?_
    rintro e w2 ⟨va, LS, m', rfl, q⟩
    have Q : Hid (PatH w w2 w.heap.size B Bs pb v S m.receive (.returned va)) := ⟨va, LS, m', rfl, q⟩
    clear q HC
    go_wp2_with fail
    go_ret
    exact Q.out
  have e5 : (n == 5) = false := by simp [c5]
  have N5 : Hid (m.pc ≠ 5) := fun x => c5 (by rw [HN.out, x]; rfl)
  clear c5
  by_cases c6 : n = 6
  · have HR : Hid (m.receive = m.at_ 13) := by show _ = _; unfold RE.receive; rw [show m.pc = 6 by have := HN.out; omega]; rfl
    have HC : Hid (Calls Tryz.prog 106 #[.pointer (some ⟨pb, 0, none⟩)] WA fun r w' => PatH w w' w.heap.size B Bs pb v S m.receive r) := by
      have := (patEndAck pb m.st w.heap.size m.pk WA hst (blk_lt HA.out.em.blk) BA.out.size (blk_cell HA.out.em.blk)).mono (fun r w2 q => atR_far (E := m.receive) BA.out q HA.out (HR.out.trans (row_ev (R := row_atEndAck) rfl _)) OK.out (FIT.out.less (by omega)) (row_six (by decide) _))
      exact this
    have e6 : (n == 6) = true := by simp [c6]
    clear HR c6
    go_wp2_with fail
    refine Calls.mono HC.out ?_
    rintro e w2 ⟨va, LS, m', rfl, q⟩
    have Q : Hid (PatH w w2 w.heap.size B Bs pb v S m.receive (.returned va)) := ⟨va, LS, m', rfl, q⟩
    clear q HC
    go_wp2_with fail
    go_ret
    exact Q.out
  have e6 : (n == 6) = false := by simp [c6]
  have N6 : Hid (m.pc ≠ 6) := fun x => c6 (by rw [HN.out, x]; rfl)
  clear c6
  by_cases c7 : n = 7
  · have HR : Hid (m.receive = match m.pd with | [] => (m, []) | c :: _ => if c.toNat = 1 ∨ c.toNat = 2 ∨ c.toNat = 3 ∨ c.toNat = 5 ∨ c.toNat = 6 then m.at_ 16 else m.at_ 15) := by show _ = _; unfold RE.receive; rw [show m.pc = 7 by have := HN.out; omega]; rfl
    have HC : Hid (Calls Tryz.prog 107 #[.pointer (some ⟨pb, 0, none⟩), .agg #[.int .i64 n, .int .i64 (m.pi : Int), .string ⟨m.pd.toArray⟩]] WA fun r w' => PatH w w' w.heap.size B Bs pb v S m.receive r) := by
      have := (patUnknown WA HA.out OK.out FIT.out).mono (fun r w2 q => PatH.far BA.out q)
      rw [PK.out] at this
      rw [HR.out]; exact this
    have e7 : (n == 7) = true := by simp [c7]
    clear HR c7
    go_wp2_with fail
    refine Calls.mono HC.out ?_
    rintro e w2 ⟨va, LS, m', rfl, q⟩
    have Q : Hid (PatH w w2 w.heap.size B Bs pb v S m.receive (.returned va)) := ⟨va, LS, m', rfl, q⟩
    clear q HC
    go_wp2_with fail
    go_ret
    exact Q.out
  have e7 : (n == 7) = false := by simp [c7]
  have N7 : Hid (m.pc ≠ 7) := fun x => c7 (by rw [HN.out, x]; rfl)
  clear c7
  by_cases c9 : n = 9
  · have HR : Hid (m.receive = m.at_ 17) := by show _ = _; unfold RE.receive; rw [show m.pc = 9 by have := HN.out; omega]; rfl
    have HC : Hid (Calls Tryz.prog 108 #[.pointer (some ⟨pb, 0, none⟩), .agg #[.int .i64 n, .int .i64 (m.pi : Int), .string ⟨m.pd.toArray⟩]] WA fun r w' => PatH w w' w.heap.size B Bs pb v S m.receive r) := by
      have := (patEcho pb m.st w.heap.size m.pk WA hst (blk_lt HA.out.em.blk) BA.out.size (blk_cell HA.out.em.blk)).mono (fun r w2 q => atR_far (E := m.receive) BA.out q HA.out (HR.out.trans (row_ev (R := row_atEcho) rfl _)) OK.out (FIT.out.less (by omega)) (row_six (by decide) _))
      rw [PK.out] at this
      exact this
    have e9 : (n == 9) = true := by simp [c9]
    clear HR c9
    go_wp2_with fail
    refine Calls.mono HC.out ?_
    rintro e w2 ⟨va, LS, m', rfl, q⟩
    have Q : Hid (PatH w w2 w.heap.size B Bs pb v S m.receive (.returned va)) := ⟨va, LS, m', rfl, q⟩
    clear q HC
    go_wp2_with fail
    go_ret
    exact Q.out
  have e9 : (n == 9) = false := by simp [c9]
  have N9 : Hid (m.pc ≠ 9) := fun x => c9 (by rw [HN.out, x]; rfl)
  clear c9
  by_cases c10 : n = 10
  · have Q : Hid (PatH w WA w.heap.size B Bs pb v S m.receive (.returned (.slice none 0 0))) := PatH.nil HP.out BA.out (by unfold RE.receive; rw [show m.pc = 10 by have := HN.out; omega]; rfl) OK.out (FIT.out.less (by omega))
    have e10 : (n == 10) = true := by simp [c10]
    clear c10
    go_wp2_with fail
    go_ret
    exact Q.out
  have e10 : (n == 10) = false := by simp [c10]
  have N10 : Hid (m.pc ≠ 10) := fun x => c10 (by rw [HN.out, x]; rfl)
  clear c10
  have HR : Hid (m.receive = m.at_ 14) := by show _ = _; unfold RE.receive; rw [if_neg N1.out, if_neg N2.out, if_neg N3.out, if_neg N5.out, if_neg N6.out, if_neg N7.out, if_neg N9.out, if_neg N10.out]
  have HC : Hid (Calls Tryz.prog 109 #[.pointer (some ⟨pb, 0, none⟩), .agg #[.int .i64 n, .int .i64 (m.pi : Int), .string ⟨m.pd.toArray⟩]] WA fun r w' => PatH w w' w.heap.size B Bs pb v S m.receive r) := by
    have := (patUnknownCode pb m.st w.heap.size m.pk WA hst (blk_lt HA.out.em.blk) BA.out.size (blk_cell HA.out.em.blk)).mono (fun r w2 q => atR_far (E := m.receive) BA.out q HA.out (HR.out.trans (row_ev (R := row_atUnknownCode) rfl _)) OK.out (FIT.out.less (by omega)) (row_six (by decide) _))
    rw [PK.out] at this
    exact this
  clear HR
  go_wp2_with fail
  refine Calls.mono HC.out ?_
  rintro e w2 ⟨va, LS, m', rfl, q⟩
  have Q : Hid (PatH w w2 w.heap.size B Bs pb v S m.receive (.returned va)) := ⟨va, LS, m', rfl, q⟩
  clear q HC
  go_wp2_with fail
  go_ret
  exact Q.out
end Go.Proofs.YtoeihlgidakjbaaGreatDoor
namespace Go.Proofs.YtoeihlgidakjbaaGreatDoor
open Go.RowKit Go.Lib
theorem EM.swap {w : World} {B pb T : Nat} {cs : Array Value} {rows : List Row} (h : EM w B pb T cs rows) (k i : Nat) (r : Row) (hr : rows[k]? = some r) (v' : Value) (xs' : List Value) (hown : w.ownsRow B r.e 1 v' xs'.length xs') (hv : ∀ b, v'.ownBlock = some b → r.v.ownBlock = some b) :
    EM (w.setCell ⟨pb, i, none⟩ v') B pb T (cs.setIfInBounds i v') (rows.set k ⟨r.e, v', xs'⟩) ∧
      ES w (w.setCell ⟨pb, i, none⟩ v') pb (rows.map Row.v) ((rows.set k ⟨r.e, v', xs'⟩).map Row.v) := by
  have hrm : r ∈ rows := List.mem_of_getElem? hr
  have hkl : k < rows.length := (List.getElem?_eq_some_iff.1 hr).1
  have t2 : Tch (fun b => b = pb) w (w.setCell ⟨pb, i, none⟩ v') := Tch.set _ w ⟨pb, i, none⟩ _ rfl
  have get : ∀ (j : Nat) (s : Row), (rows.set k ⟨r.e, v', xs'⟩)[j]? = some s → (j = k ∧ s = ⟨r.e, v', xs'⟩) ∨ (j ≠ k ∧ rows[j]? = some s) := by
    intro j s hs
    by_cases e : k = j
    · subst e
      rw [List.getElem?_set_self hkl] at hs
      exact .inl ⟨rfl, (Option.some.inj hs).symm⟩
    · rw [List.getElem?_set_ne e] at hs
      exact .inr ⟨fun x => e x.symm, hs⟩
  have mem : ∀ s ∈ rows.set k ⟨r.e, v', xs'⟩, s = ⟨r.e, v', xs'⟩ ∨ ∃ j, j ≠ k ∧ rows[j]? = some s := by
    intro s hs
    obtain ⟨j, hj⟩ := List.getElem?_of_mem hs
    rcases get j s hj with ⟨_, e⟩ | ⟨e1, e2⟩
    · exact .inl e
    · exact .inr ⟨j, e1, e2⟩
  refine ⟨⟨blk_set h.blk, h.ge, ?_, ?_, ?_⟩, ⟨t2.mono (fun _ x => .inl x), ?_⟩⟩
  · intro s hs
    rcases mem s hs with rfl | ⟨j, hj, hsj⟩
    · exact owns_tch hown t2 (fun _ hb e => h.ne r hrm (e ▸ hv _ hb))
    · have hsm := List.mem_of_getElem? hsj
      exact owns_tch (h.own s hsm) t2 (fun _ hb' e => h.ne s hsm (e ▸ hb'))
  · intro s hs
    rcases mem s hs with rfl | ⟨j, hj, hsj⟩
    · exact fun x => h.ne r hrm (hv _ x)
    · exact h.ne s (List.mem_of_getElem? hsj)
  · intro a c p q hac hp hq b hpb hqb
    rcases get a p hp with ⟨ea, ep⟩ | ⟨na, hp'⟩ <;> rcases get c q hq with ⟨ec, eq⟩ | ⟨nc, hq'⟩
    · omega
    · subst ep; exact h.pw k c r q (fun e => nc e.symm) hr hq' b (hv _ hpb) hqb
    · subst eq; exact h.pw a k p r na hp' hr b hpb (hv _ hqb)
    · exact h.pw a c p q hac hp' hq' b hpb hqb
  · rintro b (x | ⟨x, hx, hxb⟩)
    · exact .inl (.inl x)
    · obtain ⟨s, hs, rfl⟩ := List.mem_map.1 hx
      rcases mem s hs with rfl | ⟨j, hj, hsj⟩
      · exact .inl (.inr ⟨r.v, List.mem_map.2 ⟨r, hrm, rfl⟩, hv _ hxb⟩)
      · exact .inl (.inr ⟨s.v, List.mem_map.2 ⟨s, List.mem_of_getElem? hsj, rfl⟩, hxb⟩)
theorem un_two : ∀ (l acc : List UInt8) (e : Bool) (s : List UInt8), un l acc e = some s → l.length + 2 * acc.length + (if e then 1 else 0) ≤ 2 * s.length := by
  intro l
  induction l with
  | nil =>
    intro acc e s h
    cases e
    · simp [un] at h; subst h; simp
    · simp [un] at h
  | cons c r ih =>
    intro acc e s h
    unfold un at h
    split at h
    · cases h
    · split at h
      · rename_i h2
        have := ih acc true s h
        rw [h2.2]; simp at this ⊢; omega
      · have := ih _ false s h
        simp at this ⊢
        split <;> omega
theorem unframeL_none {l : List UInt8} (h : unesc l = none) : unframeL l = none := by unfold unframeL; rw [h]
theorem unframeL_far {l : List UInt8} (h : l = [] ∨ 88 < l.length) : unframeL l = none := by
  refine unframeL_none ?_
  cases hz : unesc l with
  | none => rfl
  | some z =>
    exfalso
    unfold unesc at hz
    cases hu : un l [] false with
    | none => rw [hu] at hz; cases hz
    | some s =>
      rw [hu] at hz
      have h2 := un_two l [] false s hu
      simp at hz h2
      rcases h with rfl | h
      · simp [un] at hu; subst hu; simp at hz
      · omega
theorem unframeL_eq {l : List UInt8} {c d x y : UInt8} {t : List UInt8} (h : unesc l = some ((c :: d :: t) ++ [x, y])) : unframeL l = if le16 x y = sumL (c :: d :: t) ∧ c.toNat ≠ 0 then some (c, d, t) else none := by
  have hlen : ((c :: d :: t) ++ [x, y]).length - 2 = (c :: d :: t).length := by simp
  have e1 : ((c :: d :: t) ++ [x, y]).take (((c :: d :: t) ++ [x, y]).length - 2) = c :: d :: t := by rw [hlen]; exact List.take_left
  have e2 : ((c :: d :: t) ++ [x, y]).drop (((c :: d :: t) ++ [x, y]).length - 2) = [x, y] := by rw [hlen]; exact List.drop_left
  unfold unframeL; rw [h]; simp only [e1, e2]
set_option maxHeartbeats 1000000 in
theorem unescape_nil {aS aC aF aL aO aH : Addr} (w : World) (hgl : Gr w aS aC aF aL aO aH) :
    Calls Tryz.prog 100 #[.slice none 0 0] w fun e w' => Below w.heap.size w w' ∧ ∃ a, e = .returned (.tuple #[.slice none 0 0, .iface 138 (.pointer (some a))]) := by
  obtain ⟨i0, hi, hz0, hz1, hz2⟩ := info_parts Tryz.infoB
  go_enter Tryz.func100, Tryz.ntmps100
  go_wp2_with (first | (at_make; go_must (refine wpList_make_own _ rfl _ _ 52 rfl w.heap.size 5 i0 (.int .u8 0) 1 Tryz.underlying52 hi hz0 hz1 .i64 .i64 _ 44 rfl rfl (by omega) (by rw [hz2]; omega) (by unfold maxLen; omega) (Nat.le_refl _) ?_; intro w0 hown0 hgrow0)))
  have hb0 : Below w.heap.size w w0 := (Below.refl _ _).grown hgrow0 (Nat.le_refl _) (fun k hk => by cases hk)
  clear hgrow0
  go_loopw [4, 5, 11] (fun v ev i wr => i = .int .i64 0 ∧ ev = .bool false ∧ v = .slice (some ⟨w.heap.size, 0, none⟩) 0 44 ∧ wr = w0) (fun _ _ _ _ => 0)
  case atStart => exact ⟨rfl, rfl, rfl, rfl⟩
  case round =>
    obtain ⟨rfl, rfl, rfl, rfl⟩ := hrel
    have hg := hgl.below hb0
    have g4 := hg.h
    go_wp2
    go_region
    go_wp2
    go_ret2
    exact ⟨(hb0.alloc hb0.size _).drew, _, rfl⟩
set_option maxHeartbeats 1000000 in
theorem read_nil {aS aC aF aL aO aH : Addr} (w : World) (hgl : Gr w aS aC aF aL aO aH) :
    Calls Tryz.prog 73 #[.slice none 0 0] w fun e w' => Below w.heap.size w w' ∧ ∃ a, e = .returned (.tuple #[zeroP, .iface 138 (.pointer (some a))]) := by
  have hb0 : ∀ o, Below w.heap.size w (w.alloc o) := fun o => (Below.refl _ _).alloc (Nat.le_refl _) o
  go_enter Tryz.func73, Tryz.ntmps73
  go_wp2_with fail
  refine (unescape_nil _ (hgl.below (hb0 _))).mono ?_
  rintro e w1 ⟨hb1, a, rfl⟩
  have hb2 : Below (w.heap.size + 1) (w.alloc (.cells #[.int .i64 0, .int .i64 0, .string ⟨#[]⟩] 27)) w1 := by simpa using hb1
  have hbb := (hb0 _).trans (hb2.mono (Nat.le_succ _))
  have hz := hb2.size
  simp at hz
  obtain ⟨f0, f1, f2⟩ := below_cell3 hb2
  have z0 := below_frz hb2 0
  have z1 := below_frz hb2 1
  have z2 := below_frz hb2 2
  clear hb1 hb2
  go_wp2_with fail
  refine bodyPost_ret (v := .tuple #[zeroP, .iface 138 (.pointer (some a))]) (by simp [results, Tryz.results73, go_sem, f0, f1, f2, zeroP]) rfl ⟨?_, _, rfl⟩
  exact ((hbb.setCell (by simp) _).setCell (by simp) _).setCell (by simp) _
theorem read_row {aS aC aF aL aO aH : Addr} {B : Nat} (v : Value) (l : List UInt8) (w : World) (hgl : Gr w aS aC aF aL aO aH) (ho : w.ownsRow B 5 1 v l.length (l.map bv)) (hn : l.length ≤ 140737488351232) :
    Calls Tryz.prog 73 #[v] w fun e w' => Below w.heap.size w w' ∧
      ((unframeL l = none ∧ ∃ T a, e = .returned (.tuple #[zeroP, .iface T (.pointer (some a))]) ∧ (T = 138 ∨ T = 160)) ∨
       (∃ c d t, unframeL l = some (c, d, t) ∧ e = .returned (.tuple #[pktV c d t, .nilIface]))) := by
  have h0 := ho
  rcases ho.2 with ⟨rfl, hz⟩ | ⟨g, cap, cur, rfl, _, hg, _, _, _, _⟩
  · have hl : l = [] := List.eq_nil_of_length_eq_zero hz
    refine (read_nil w hgl).mono ?_
    rintro e w' ⟨hb, a, rfl⟩
    exact ⟨hb, .inl ⟨unframeL_far (.inl hl), _, a, rfl, .inl rfl⟩⟩
  · have hrd : Rd w g 0 l := by
      intro j hj
      have hadd : (⟨g, 0, none⟩ : Addr).add j = ⟨g, 0 + j, none⟩ := by unfold Addr.add; split <;> simp_all
      rw [← hadd]
      exact h0.cells (g := g) rfl j _ (by rw [List.getElem?_map, List.getElem?_eq_getElem hj]; rfl)
    refine (read_any g 0 cap l w hgl hrd (Array.getElem?_eq_some_iff.1 hg).1 hn).mono ?_
    rintro e w' ⟨hb, ⟨hu, a, rfl⟩ | ⟨c, d, t, x, y, hu, ⟨h1, g2, rfl, h3, h4⟩ | ⟨h1, h1', g2, rfl, h3, h4⟩ | ⟨h1, h1', rfl⟩⟩⟩
    · exact ⟨hb, .inl ⟨unframeL_none hu, _, a, rfl, .inl rfl⟩⟩
    · exact ⟨hb, .inl ⟨by rw [unframeL_eq hu, if_neg (fun e => h1 e.1)], _, _, rfl, .inr rfl⟩⟩
    · exact ⟨hb, .inl ⟨by rw [unframeL_eq hu, if_neg (fun e => e.2 h1')], _, _, rfl, .inr rfl⟩⟩
    · exact ⟨hb, .inr ⟨c, d, t, by rw [unframeL_eq hu, if_pos ⟨h1, h1'⟩], rfl⟩⟩
end Go.Proofs.YtoeihlgidakjbaaGreatDoor
namespace Go.Proofs.YtoeihlgidakjbaaGreatDoor
open Go.RowKit Go.Lib
set_option maxRecDepth 100000 in
set_option maxHeartbeats 2000000 in
theorem gather_any {B Bs pb : Nat} {v : PV} {m : RE} {S : List UInt8} (b : UInt8) (w : World) (h : PI w B Bs pb v m S) (hg : m.got.length ≤ 1000) :
    Calls Tryz.prog 72 #[.pointer (some ⟨pb, 0, none⟩), .int .u8 (b.toNat : Int)] w fun r w' => ActR w w' B Bs pb v (if m.got.length ≤ 88 then { m with got := m.got ++ [b] } else m) S r := by
  obtain ⟨j0, hj, hy0, hy1, hy2⟩ := info_parts Tryz.infoB
  obtain ⟨a, cap, g, hv, ha, _, _⟩ := own_shape h.og
  have H : Hid (PI w B Bs pb v m S) := h
  have hlt := blk_lt h.em.blk
  have c31 : w.cell? ⟨pb, 31, none⟩ = some (.slice a m.got.length cap) := (blk_cell h.em.blk).trans (by rw [← hv]; rfl)
  have hog := h.og
  have hg1 : v.vg.ownBlock ≠ some pb := h.em.ne ⟨5, v.vg, m.got.map bv⟩ (by simp [RE.prow])
  rw [hv] at hog hg1
  have OG : Hid (w.ownsRow B 5 1 (.slice a m.got.length cap) m.got.length (m.got.map bv)) := hog
  have HG1 : Hid ((Value.slice a m.got.length cap).ownBlock ≠ some pb) := hg1
  have HV : Hid (v.vg = .slice a m.got.length cap) := hv
  have hB : B ≤ w.heap.size := Nat.le_trans h.em.ge (Nat.le_of_lt hlt)
  have hb0 : w.heap[pb]? = some (.cells (m.pcl v m.props) 83 (0, 0)) := h.em.blk
  have HB0 : Hid (_) := hb0
  clear h hog hg1 hv ha hb0
  by_cases h88 : m.got.length ≤ 88
  · rw [if_pos h88]
    have h88i : (m.got.length : Int) ≤ 88 := by omega
    have HL : Hid (m.got.length ≤ 88) := h88
    clear h88
    go_enter Tryz.func72, Tryz.ntmps72
    go_wp2_with (at_builtin; go_must (refine wpList_append_lies _ rfl (.tmp 14) (.tmp 16) 52 rfl B 5 j0 (.int .u8 0) 1 1 Tryz.underlying52 hj hy0 hy1 hy2 rfl (by decide) _ m.got.length (m.got.map bv) rfl (OG.out.alloc _) ⟨w.heap.size, 0, none⟩ 1 1 [.int .u8 (b.toNat : Int)] rfl rfl (cell_one_new _ _ _) (by intro u hu; simp at hu; subst hu; rfl) (by omega) (by unfold maxLen; omega) (by omega) (by simp; omega) _ rfl ?_; intro gv capv w1 hown1 hgrow1 hat1 hlt1; have bb : w1.heap[pb]? = some (.cells (m.pcl v m.props) 83 (0, 0)) := ((tch_grown hgrow1).block pb hlt (fun e => HG1.out e)).trans HB0.out; have e14 : w1.cell? ⟨pb, 31, none⟩ = some (.slice a m.got.length cap) := (blk_cell bb).trans (by rw [← HV.out]; rfl); have f14 : w1.frozen? ⟨pb, 31, none⟩ = false := blk_free bb))
    go_end0
    have hgr : (w.alloc (.cells #[.int .u8 (b.toNat : Int)] 5)).grownBy w1 v.vg.ownBlock := by rw [HV.out]; exact hgrow1
    have hat : v.vg.ownBlock = some gv ∨ w.heap.size ≤ gv := by rw [HV.out]; exact hat1.elim .inl (fun e => .inr (by have : gv = w.heap.size + 1 := e.trans (by simp); omega))
    have hh := H.out.em.grow (n := m.got.length + 1) 7 31 ⟨5, v.vg, m.got.map bv⟩ rfl ((Below.refl _ w).alloc (Nat.le_refl _) _) ((m.got ++ [b]).map bv) (by simp) (by rw [List.map_append]; exact hown1) hgr hat
    exact ⟨rfl, { v with vg := .slice (some ⟨gv, 0, none⟩) (m.got.length + 1) capv }, H.out.of_es (q' := m.props) (m' := { m with got := m.got ++ [b] }) (S' := S) hh.1 hh.2 rfl rfl H.out.t0 H.out.s1⟩
  · rw [if_neg h88]
    have h88i : ¬ (m.got.length : Int) ≤ 88 := by omega
    clear h88
    go_enter Tryz.func72, Tryz.ntmps72
    go_wp2_with fail
    go_end0
    exact ⟨rfl, v, H.out, ES.refl _ _ _⟩
theorem PX.cut {w : World} {B Bs pb n cap : Nat} {a : Option Addr} {v : PV} {q : Nat × Nat × Nat} {m : RE} {S : List UInt8} (h : PX w B Bs pb v q m S) (hv : v.vg = .slice a n cap) : PX (w.setCell ⟨pb, 31, none⟩ (.slice a 0 cap)) B Bs pb { v with vg := .slice a 0 cap } q { m with got := [] } S ∧ ES w (w.setCell ⟨pb, 31, none⟩ (.slice a 0 cap)) pb v.vals ({ v with vg := .slice a 0 cap } : PV).vals := by
  have hog := h.og
  rw [hv] at hog
  have ho : w.ownsRow B 5 1 (.slice a 0 cap) 0 [] := by
    rcases hog.2 with ⟨e, _⟩ | ⟨g, cap', cur, e, h1, h2, h3, h4, h5, h6⟩
    · cases e; exact World.ownsRow_nil _ _ _ _
    · cases e
      exact ⟨rfl, .inr ⟨g, cap, cur, rfl, h1, h2, Nat.zero_le _, h4, h5, by simp⟩⟩
  have hb : ∀ b, (Value.slice a 0 cap).ownBlock = some b → v.vg.ownBlock = some b := by
    intro b hb
    rw [hv]
    cases a with
    | none => simp [Value.ownBlock] at hb
    | some x => simpa [Value.ownBlock] using hb
  have hh := h.em.swap 7 31 ⟨5, v.vg, m.got.map bv⟩ rfl (.slice a 0 cap) [] ho hb
  exact h.of_es (q' := q) (m' := { m with got := [] }) (S' := S) (v' := { v with vg := .slice a 0 cap }) hh.1 hh.2 rfl rfl h.t0 h.s1
theorem byte1_flag {m : RE} {b : UInt8} (hb : b.toNat = 126) : m.byte1 b = match unframeL m.got with | none => ({ m with got := [] }, []) | some p => (({ m with got := [] } : RE).come p).receive := by
  unfold RE.byte1
  rw [if_neg (by omega)]
  by_cases h : m.got = [] ∨ 88 < m.got.length
  · rw [if_pos h, unframeL_far h]
  · rw [if_neg h]; rfl
set_option maxRecDepth 100000 in
set_option maxHeartbeats 4000000 in
theorem take_any {aS aC aF aL aO aH : Addr} {B Bs pb : Nat} {v : PV} {m : RE} {S : List UInt8} (b : UInt8) (w0 w : World) (g : Gr w0 aS aC aF aL aO aH) (gt : Gt w0) (hb0 : Below w0.heap.size w0 w) (h : PI w B Bs pb v m S) (hf : m.Fine 900) (hS : S.length ≤ 90000000000000) (hBs : Bs ≤ w.heap.size) (hgot : m.got.length ≤ 89) (hB : w0.heap.size ≤ B) :
    Calls Tryz.prog 46 #[.pointer (some ⟨pb, 0, none⟩), .int .u8 (b.toNat : Int)] w fun r w' => ActR w w' B Bs pb v (m.byte1 b).1 (S ++ (m.byte1 b).2) r := by
  by_cases h6 : b.toNat = 126
  · have hne : ((b.toNat : Int) != 126) = false := by simp; omega
    have hne2 : ((b.toNat : Int) == 126) = true := by simp; omega
    have E0 : Hid (m.byte1 b = match unframeL m.got with | none => ({ m with got := [] }, []) | some p => (({ m with got := [] } : RE).come p).receive) := byte1_flag h6
    obtain ⟨a, cap, hv, ha, hcap⟩ : ∃ (a : Option Addr) (cap : Nat), v.vg = .slice a m.got.length cap ∧ (a = none ∨ ∃ g, a = some ⟨g, 0, none⟩) ∧ m.got.length ≤ cap := by
      rcases h.og.2 with ⟨e, hz⟩ | ⟨g, cap, cur, e, _, _, h3, _⟩
      · exact ⟨none, 0, by rw [hz]; exact e, .inl rfl, by omega⟩
      · exact ⟨_, cap, e, .inr ⟨g, rfl⟩, h3⟩
    have HP : Hid (PI w B Bs pb v m S) := h
    have HV : Hid (v.vg = .slice a m.got.length cap) := hv
    have hlt := blk_lt h.em.blk
    have c31 : w.cell? ⟨pb, 31, none⟩ = some (.slice a m.got.length cap) := (blk_cell h.em.blk).trans (by rw [← hv]; rfl)
    have HR : Hid (_) := read_row v.vg m.got w (g.below hb0) h.og (by omega)
    rw [hv] at HR
    have HF : Hid (m.Fine 900) := hf
    have HG : Hid (Gt w0 ∧ Below w0.heap.size w0 w ∧ w0.heap.size ≤ B) := ⟨gt, hb0, hB⟩
    have hsl : ∀ wx, (Instr.slice 52 (.slice a m.got.length cap) none (some (.int .i64 0)) none).run Tryz.prog wx = .ok (.slice a 0 cap) wx := by
      intro wx
      rw [run_slice_h wx 52 a m.got.length cap Tryz.underlying52 .i64 0 (by omega) (by omega)]
      rcases ha with rfl | ⟨g, rfl⟩ <;> simp [go_sem, sliced, Result.andThen]
    clear h h6 hf g gt hb0 hv ha hB
    go_enter Tryz.func46, Tryz.ntmps46
    go_wp2_with fail
    refine Calls.mono HR.out ?_
    rintro e w1 ⟨hb1, ⟨hu, T, ax, rfl, hT⟩ | ⟨c, d, t, hu, rfl⟩⟩
    · have EQ : Hid (m.byte1 b = ({ m with got := [] }, [])) := by show _ = _; rw [E0.out, hu]
      have B1 : Hid (Below w.heap.size w (w1.alloc (.cells #[.int .i64 0, .int .i64 0, .string ⟨#[]⟩] 27))) := hb1.trans (((Below.refl _ _).alloc (Nat.le_refl _) _).mono hb1.size)
      have P1 : Hid (PI (w1.alloc (.cells #[.int .i64 0, .int .i64 0, .string ⟨#[]⟩] 27)) B Bs pb v m S) := HP.out.below B1.out
      have k31 : (w1.alloc (.cells #[.int .i64 0, .int .i64 0, .string ⟨#[]⟩] 27)).cell? ⟨pb, 31, none⟩ = some (.slice a m.got.length cap) := (blk_cell P1.out.em.blk).trans (by rw [← HV.out]; rfl)
      have f31 : (w1.alloc (.cells #[.int .i64 0, .int .i64 0, .string ⟨#[]⟩] 27)).frozen? ⟨pb, 31, none⟩ = false := blk_free P1.out.em.blk
      unfold zeroP
      clear hb1 hu HR E0
      go_wp2_with fail
      go_end0
      have hc := P1.out.cut HV.out
      rw [EQ.out, List.append_nil]
      exact ⟨rfl, _, hc.1, (ES.below B1.out).trans hc.2⟩
    · have EQ : Hid (m.byte1 b = (({ m with got := [] } : RE).come (c, d, t)).receive) := by show _ = _; rw [E0.out, hu]
      have ht40 : t.length ≤ 40 := unframeL_len hu
      have B1 : Hid (Below w.heap.size w (w1.alloc (.cells #[.int .i64 (c.toNat : Int), .int .i64 (d.toNat : Int), .string ⟨t.toArray⟩] 27))) := hb1.trans (((Below.refl _ _).alloc (Nat.le_refl _) _).mono hb1.size)
      have P1 : Hid (PI (w1.alloc (.cells #[.int .i64 (c.toNat : Int), .int .i64 (d.toNat : Int), .string ⟨t.toArray⟩] 27)) B Bs pb v m S) := HP.out.below B1.out
      have k31 : (w1.alloc (.cells #[.int .i64 (c.toNat : Int), .int .i64 (d.toNat : Int), .string ⟨t.toArray⟩] 27)).cell? ⟨pb, 31, none⟩ = some (.slice a m.got.length cap) := (blk_cell P1.out.em.blk).trans (by rw [← HV.out]; rfl)
      have f31 : (w1.alloc (.cells #[.int .i64 (c.toNat : Int), .int .i64 (d.toNat : Int), .string ⟨t.toArray⟩] 27)).frozen? ⟨pb, 31, none⟩ = false := blk_free P1.out.em.blk
      have hc := P1.out.cut HV.out
      have hne1 : w1.heap.size ≠ pb := by have := hb1.size; omega
      have R1 := (Below.heap_setCell (w1.alloc (.cells #[.int .i64 (c.toNat : Int), .int .i64 (d.toNat : Int), .string ⟨t.toArray⟩] 27)) ⟨pb, 31, none⟩ (.slice a 0 cap) w1.heap.size hne1).trans (heap_alloc_new w1 _)
      have PC : Hid (PI ((w1.alloc (.cells #[.int .i64 (c.toNat : Int), .int .i64 (d.toNat : Int), .string ⟨t.toArray⟩] 27)).setCell ⟨pb, 31, none⟩ (.slice a 0 cap)) B Bs pb { v with vg := .slice a 0 cap } (({ m with got := [] } : RE).come (c, d, t)) S) := ⟨hc.1.em, hc.1.mp, hc.1.mg, hc.1.mn, hc.1.t0, hc.1.s1⟩
      have EC : Hid (ES w ((w1.alloc (.cells #[.int .i64 (c.toNat : Int), .int .i64 (d.toNat : Int), .string ⟨t.toArray⟩] 27)).setCell ⟨pb, 31, none⟩ (.slice a 0 cap)) pb v.vals ({ v with vg := .slice a 0 cap } : PV).vals) := (ES.below B1.out).trans hc.2
      have FC : (({ m with got := [] } : RE).come (c, d, t)).Fine 900 := RE.come_fine (RE.got_fine HF.out _) _ ht40
      have x0 : ((w1.alloc (.cells #[.int .i64 (c.toNat : Int), .int .i64 (d.toNat : Int), .string ⟨t.toArray⟩] 27)).setCell ⟨pb, 31, none⟩ (.slice a 0 cap)).cell? ⟨w1.heap.size, 0, none⟩ = some (.int .i64 (c.toNat : Int)) := blk_cell R1
      have x1 : ((w1.alloc (.cells #[.int .i64 (c.toNat : Int), .int .i64 (d.toNat : Int), .string ⟨t.toArray⟩] 27)).setCell ⟨pb, 31, none⟩ (.slice a 0 cap)).cell? ⟨w1.heap.size, 1, none⟩ = some (.int .i64 (d.toNat : Int)) := blk_cell R1
      have x2 : ((w1.alloc (.cells #[.int .i64 (c.toNat : Int), .int .i64 (d.toNat : Int), .string ⟨t.toArray⟩] 27)).setCell ⟨pb, 31, none⟩ (.slice a 0 cap)).cell? ⟨w1.heap.size, 2, none⟩ = some (.string ⟨t.toArray⟩) := blk_cell R1
      have hgW : Gt ((w1.alloc (.cells #[.int .i64 (c.toNat : Int), .int .i64 (d.toNat : Int), .string ⟨t.toArray⟩] 27)).setCell ⟨pb, 31, none⟩ (.slice a 0 cap)) := HG.out.1.below (HG.out.2.1.trans (EC.out.t.below HG.out.2.1.size (fun k hk => Nat.le_trans HG.out.2.2 (HP.out.lt k hk).1)))
      have HPK : Hid (_) := patPacket _ PC.out FC.1 FC.2 hgW
      have hin : ∀ x, inE pb ({ v with vg := .slice a 0 cap } : PV).vals x → x < ((w1.alloc (.cells #[.int .i64 (c.toNat : Int), .int .i64 (d.toNat : Int), .string ⟨t.toArray⟩] 27)).setCell ⟨pb, 31, none⟩ (.slice a 0 cap)).heap.size := fun x hx => (PC.out.lt x hx).2
      have HIN : Hid (_) := hin
      have hszW := EC.out.t.size
      unfold pktV
      clear hb1 hu HR E0 hc R1 FC hgW hin ht40 P1
      go_upto_region 5 with fail
      generalize ((w1.alloc (.cells #[.int .i64 (c.toNat : Int), .int .i64 (d.toNat : Int), .string ⟨t.toArray⟩] 27)).setCell ⟨pb, 31, none⟩ (.slice a 0 cap)) = WC at *
      go_wp2_with fail
      refine Calls.mono HPK.out ?_
      rintro e w2 ⟨va, LS, m', rfl, q2, q3, q4, q5, q6, q7, q8⟩
      have HD : Hid (_) := do_any LS va w2 q3 q6 q7 q8 hS (Nat.le_trans hBs (Nat.le_trans hszW q4.t.size)) q2 HIN.out
      have Q : Hid (m.byte1 b = m'.prun LS ∧ ES w w2 pb v.vals ({ v with vg := .slice a 0 cap } : PV).vals) := ⟨EQ.out.trans q5, EC.out.trans q4⟩
      clear q2 q3 q4 q5 q6 q7 q8 HPK EQ
      go_wp2_with fail
      refine Calls.mono HD.out ?_
      rintro e w3 ⟨rfl, v3, p1, p2⟩
      have R : Hid (PI w3 B Bs pb v3 (m.byte1 b).1 (S ++ (m.byte1 b).2) ∧ ES w w3 pb v.vals v3.vals) := by
        rw [Q.out.1]; exact ⟨p1, Q.out.2.trans p2⟩
      clear p1 p2 HD
      go_wp2_with fail
      go_end0
      exact ⟨rfl, v3, R.out.1, R.out.2⟩
  · have hne : ((b.toNat : Int) != 126) = true := by simp; omega
    have hne2 : ((b.toNat : Int) == 126) = false := by simp; omega
    have E : Hid (m.byte1 b = (if m.got.length ≤ 88 then { m with got := m.got ++ [b] } else m, [])) := by
      show _ = _
      unfold RE.byte1; rw [if_pos h6]
    have HC : Hid (_) := gather_any b w h (by omega)
    rw [E.out, List.append_nil]
    generalize (if m.got.length ≤ 88 then { m with got := m.got ++ [b] } else m) = mm at *
    clear h h6 hf E g gt hb0
    go_enter Tryz.func46, Tryz.ntmps46
    go_wp2_with fail
    refine Calls.mono HC.out ?_
    rintro e w1 ⟨rfl, v1, h1, h2⟩
    have Q : Hid (PI w1 B Bs pb v1 mm S ∧ ES w w1 pb v.vals v1.vals) := ⟨h1, h2⟩
    clear h1 h2 HC
    go_wp2_with fail
    (try simp only [Exit.inBlock, Exit.then]); refine bodyPost_ret (results_none rfl _ _ _) rfl ?_
    exact ⟨rfl, v1, Q.out.1, Q.out.2⟩
end Go.Proofs.YtoeihlgidakjbaaGreatDoor

/- Requests and their answers, where nothing is lost: what each end becomes: plain mathematics. Where nothing is lost both ends come to be opened: plain mathematics. Both ways at once, and settle: plain mathematics. What is asked for stays what it is, behind a first opening: plain mathematics. Whenever both ends are opened they know the same terms, as long as no number comes round: plain mathematics. .. both ways, whatever happens: plain mathematics. -/
import Derived.Test.YtoeihlgidakjbaaGreatDoorPc4
namespace Go.Proofs.YtoeihlgidakjbaaGreatDoor
open Go.RowKit Go.Lib
namespace RE
def reqP (x : RE) (d : Nat) : Pq := ⟨1, d, dataL x.asks⟩
theorem asks_bad_eq (y x : RE) (hm : x.mag ∉ y.mg) : y.bad x.asks = (if x.k0 ∈ y.a0 then [] else [(1, x.k0)]) ++ ((if x.k1 ∈ y.a1 then [] else [(2, x.k1)]) ++ (if x.k2 ∈ y.a2 then [] else [(3, x.k2)])) := by
  have b1 : y.isBad (1, x.k0) = !decide (x.k0 ∈ y.a0) := rfl
  have b2 : y.isBad (2, x.k1) = !decide (x.k1 ∈ y.a1) := rfl
  have b3 : y.isBad (3, x.k2) = !decide (x.k2 ∈ y.a2) := rfl
  have b4 : y.isBad (4, x.mag) = decide (x.mag ∈ y.mg) := rfl
  unfold bad asks
  by_cases h0 : x.k0 ∈ y.a0 <;> by_cases h1 : x.k1 ∈ y.a1 <;> by_cases h2 : x.k2 ∈ y.a2 <;> simp [List.filter, b1, b2, b3, b4, h0, h1, h2, hm]
theorem ownF_asks (y x : RE) (hm : x.mag ∉ y.mg) : y.ownF x.asks = false := by
  unfold ownF asks
  simp [hm]
theorem hear_req (y x : RE) (d : Nat) (xo : x.Ok) : (y.hear (x.reqP d)) = ((y.got1 (x.reqP d)).asked x.asks).1 ∧ y.hearP (x.reqP d) = (y.got1 (x.reqP d)).askedP x.asks := by
  have hi : itemsL (y.got1 (x.reqP d)).pd = some x.asks := xo.items
  constructor
  · show (y.got1 (x.reqP d)).receive.1 = _
    unfold receive
    rw [if_pos (by rfl), hi]
    rfl
  · show (y.got1 (x.reqP d)).receiveP = _
    unfold receiveP
    rw [if_pos (by rfl), hi]
    rfl
theorem hear_good {y x : RE} {d : Nat} (xo : x.Ok) (h0 : x.k0 ∈ y.a0) (h1 : x.k1 ∈ y.a1) (h2 : x.k2 ∈ y.a2) (hm : x.mag ∉ y.mg) (hs : y.st = 6 ∨ y.st = 7) :
    (∃ t, (t = y.told ∨ t = y.told ++ [1]) ∧ y.hear (x.reqP d) = { y.got1 (x.reqP d) with naks := 0, agr := dataL x.asks, told := t, st := y.st + 2 }) ∧ y.hearP (x.reqP d) = [⟨2, d, dataL x.asks⟩] := by
  obtain ⟨e1, e2⟩ := hear_req y x d xo
  have hb : (y.got1 (x.reqP d)).bad x.asks = [] := by
    rw [show (y.got1 (x.reqP d)).bad x.asks = y.bad x.asks from rfl, asks_bad_eq y x hm, if_pos h0, if_pos h1, if_pos h2]; rfl
  rw [asked_0 hb] at e1
  have e3 : (y.got1 (x.reqP d)).askedP x.asks = (y.got1 (x.reqP d)).atP 8 := by unfold askedP; rw [if_pos hb]
  rw [e3] at e2
  rcases hs with hs | hs
  · obtain ⟨r1, r2⟩ := at_row (m := y.got1 (x.reqP d)) (ev := 8) (row := [97, 56]) hs rfl
    rw [r1] at e1
    rw [r2] at e2
    refine ⟨⟨y.told, .inl rfl, ?_⟩, e2⟩
    rw [e1, hs]; rfl
  · obtain ⟨r1, r2⟩ := at_row (m := y.got1 (x.reqP d)) (ev := 8) (row := [97, 117, 57]) hs rfl
    rw [r1] at e1
    rw [r2] at e2
    refine ⟨⟨y.told ++ [1], .inr rfl, ?_⟩, e2⟩
    rw [e1, hs]; rfl
def nextN (y : RE) (i : Nat) : Nat := (y.acc i).getD (y.hint i % (y.acc i).length) 0
def nakOf (y x : RE) : List (Nat × Nat) := (if x.k0 ∈ y.a0 then [] else [(1, y.nextN 1)]) ++ ((if x.k1 ∈ y.a1 then [] else [(2, y.nextN 2)]) ++ (if x.k2 ∈ y.a2 then [] else [(3, y.nextN 3)]))
theorem nakItems_of (y x : RE) (hm : x.mag ∉ y.mg) : (y.nakItems (y.bad x.asks)).2 = y.nakOf x ∧ (y.nakItems (y.bad x.asks)).1 = { y with h0 := if x.k0 ∈ y.a0 then y.h0 else y.h0 + 1, h1 := if x.k1 ∈ y.a1 then y.h1 else y.h1 + 1, h2 := if x.k2 ∈ y.a2 then y.h2 else y.h2 + 1 } := by
  rw [asks_bad_eq y x hm]
  unfold nakOf
  by_cases h0 : x.k0 ∈ y.a0 <;> by_cases h1 : x.k1 ∈ y.a1 <;> by_cases h2 : x.k2 ∈ y.a2 <;> simp only [h0, h1, h2, if_true, if_false] <;> exact ⟨rfl, rfl⟩
theorem nakOf_asc {y : RE} (x : RE) (yo : y.Ok) : Asc 0 (y.nakOf x) ∧ (y.nakOf x).length ≤ 3 := by
  have hl : ∀ i, y.nextN i < 65536 := fun i => by
    have := getD_lt (y.acc i) (y.hint i % (y.acc i).length) 256 (yo.aa i).2.2 (by decide)
    unfold nextN; omega
  have l1 := hl 1
  have l2 := hl 2
  have l3 := hl 3
  unfold nakOf
  by_cases h0 : x.k0 ∈ y.a0 <;> by_cases h1 : x.k1 ∈ y.a1 <;> by_cases h2 : x.k2 ∈ y.a2 <;> simp [h0, h1, h2, Asc, l1, l2, l3]
theorem nakOf_nil {y x : RE} (h : y.nakOf x = []) : x.k0 ∈ y.a0 ∧ x.k1 ∈ y.a1 ∧ x.k2 ∈ y.a2 := by
  unfold nakOf at h
  by_cases h0 : x.k0 ∈ y.a0 <;> by_cases h1 : x.k1 ∈ y.a1 <;> by_cases h2 : x.k2 ∈ y.a2 <;> simp [h0, h1, h2] at h ⊢
theorem hear_bad {y x : RE} {d : Nat} (xo : x.Ok) (hb : y.nakOf x ≠ []) (hm : x.mag ∉ y.mg) (hs : y.st = 6 ∨ y.st = 7) (hn : y.naks < 20) :
    y.hear (x.reqP d) = { y.got1 (x.reqP d) with h0 := if x.k0 ∈ y.a0 then y.h0 else y.h0 + 1, h1 := if x.k1 ∈ y.a1 then y.h1 else y.h1 + 1, h2 := if x.k2 ∈ y.a2 then y.h2 else y.h2 + 1, naks := y.naks + 1 } ∧ y.hearP (x.reqP d) = [⟨3, d, dataL (y.nakOf x)⟩] := by
  obtain ⟨e1, e2⟩ := hear_req y x d xo
  have hm' : x.mag ∉ (y.got1 (x.reqP d)).mg := hm
  have hbb : (y.got1 (x.reqP d)).bad x.asks ≠ [] := fun e => by
    have h1 := (nakItems_of y x hm).1
    rw [show y.bad x.asks = (y.got1 (x.reqP d)).bad x.asks from rfl, e] at h1
    exact hb h1.symm
  have ho := ownF_asks (y.got1 (x.reqP d)) x hm'
  have hn' : ¬ 20 ≤ (y.got1 (x.reqP d)).naks := by show ¬ 20 ≤ y.naks; omega
  rw [asked_n9 hbb ho hn'] at e1
  have e3 : (y.got1 (x.reqP d)).askedP x.asks = (y.got1 (x.reqP d)).atP 9 := by
    unfold RE.askedP; rw [if_neg hbb]; simp [ho, hn']
  rw [e3] at e2
  have hrow : (y.got1 (x.reqP d)).at_ 9 = ((y.got1 (x.reqP d)).nak.1, (y.got1 (x.reqP d)).nak.2 ++ []) ∧ (y.got1 (x.reqP d)).atP 9 = [⟨3, d, dataL ((y.got1 (x.reqP d)).nakItems ((y.got1 (x.reqP d)).bad ((itemsL (y.got1 (x.reqP d)).pd).getD []))).2⟩] := by
    rcases hs with hs | hs
    · obtain ⟨r1, r2⟩ := at_row (m := y.got1 (x.reqP d)) (ev := 9) (row := [110]) hs rfl
      exact ⟨r1, r2⟩
    · obtain ⟨r1, r2⟩ := at_row (m := y.got1 (x.reqP d)) (ev := 9) (row := [110]) hs rfl
      exact ⟨r1, r2⟩
  have hit : (itemsL (y.got1 (x.reqP d)).pd).getD [] = x.asks := by
    show (itemsL (dataL x.asks)).getD [] = x.asks
    rw [xo.items]; rfl
  obtain ⟨n1, n2⟩ := nakItems_of (y.got1 (x.reqP d)) x hm'
  constructor
  · rw [e1, hrow.1]
    show ({ ((y.got1 (x.reqP d)).nakItems ((y.got1 (x.reqP d)).bad ((itemsL (y.got1 (x.reqP d)).pd).getD []))).1 with naks := _ } : RE) = _
    rw [hit, n2]; rfl
  · rw [e2, hrow.2, hit, n1]; rfl
theorem hear_ack {x : RE} {d : Nat} {s : List UInt8} (hd : x.sid = (d : Int)) (hsn : x.sent = s) (hs : x.st = 6 ∨ x.st = 8) :
    (∃ t nk, (t = x.told ∨ t = x.told ++ [1]) ∧ nk ≤ x.naks ∧ x.hear ⟨2, d, s⟩ = { x.got1 ⟨2, d, s⟩ with cnt := 5, told := t, naks := nk, st := x.st + 1 }) ∧ x.hearP ⟨2, d, s⟩ = [] := by
  have hc : ((x.got1 ⟨2, d, s⟩).pi : Int) = (x.got1 ⟨2, d, s⟩).sid ∧ (x.got1 ⟨2, d, s⟩).pd = (x.got1 ⟨2, d, s⟩).sent := ⟨hd.symm, hsn.symm⟩
  have e1 : x.hear ⟨2, d, s⟩ = ((x.got1 ⟨2, d, s⟩).at_ 10).1 := by
    show (x.got1 ⟨2, d, s⟩).receive.1 = _
    unfold receive
    rw [if_neg (by show ¬ 2 = 1; omega), if_pos (by rfl), if_pos hc]
  have e2 : x.hearP ⟨2, d, s⟩ = (x.got1 ⟨2, d, s⟩).atP 10 := by
    show (x.got1 ⟨2, d, s⟩).receiveP = _
    unfold receiveP
    rw [if_neg (by show ¬ 2 = 1; omega), if_pos (by rfl), if_pos hc]
  rcases hs with hs | hs
  · obtain ⟨r1, r2⟩ := at_row (m := x.got1 ⟨2, d, s⟩) (ev := 10) (row := [105, 55]) hs rfl
    rw [r1] at e1
    rw [r2] at e2
    refine ⟨⟨x.told, x.naks, .inl rfl, Nat.le_refl _, ?_⟩, e2⟩
    rw [e1, hs]; rfl
  · obtain ⟨r1, r2⟩ := at_row (m := x.got1 ⟨2, d, s⟩) (ev := 10) (row := [105, 117, 57]) hs rfl
    rw [r1] at e1
    rw [r2] at e2
    refine ⟨⟨x.told ++ [1], 0, .inr rfl, Nat.zero_le _, ?_⟩, e2⟩
    rw [e1, hs]; rfl
def tk (x : RE) (z : List (Nat × Nat)) (i k : Nat) : Nat := match z.find? (fun p => p.1 == i) with
  | none => k
  | some p => if p.2 ∈ x.want i then p.2 else k
theorem takeAll_of (z : List (Nat × Nat)) (x : RE) {p : Nat} (hz : Asc p z) (h4 : ∀ q ∈ z, q.1 ≤ 3) : x.takeAll z = { x with k0 := x.tk z 1 x.k0, k1 := x.tk z 2 x.k1, k2 := x.tk z 3 x.k2 } := by
  induction z generalizing x p with
  | nil => rfl
  | cons q z ih =>
    obtain ⟨a1, a2, a3, a4⟩ := hz
    have hq := h4 q (by simp)
    have hrest : ∀ r ∈ z, q.1 < r.1 := by
      have : ∀ (l : List (Nat × Nat)) (c : Nat), Asc c l → ∀ r ∈ l, c < r.1 := by
        intro l
        induction l with
        | nil => intro c _ r hr; cases hr
        | cons s l ih2 =>
          intro c hc r hr
          rcases List.mem_cons.1 hr with rfl | hr
          · exact hc.1
          · have := ih2 s.1 hc.2.2.2 r hr; have := hc.1; omega
      exact this z q.1 a4
    have hnone : ∀ i, i ≤ q.1 → z.find? (fun p => p.1 == i) = none := fun i hi => by
      rw [List.find?_eq_none]
      intro r hr e
      have := hrest r hr
      have : r.1 = i := by simpa using e
      omega
    show (x.take1 q).takeAll z = _
    have hw : ∀ i, (x.take1 q).want i = x.want i := fun i => by
      unfold take1 ask
      repeat' split
      all_goals rfl
    rw [ih (x.take1 q) a4 (fun r hr => h4 r (by simp [hr]))]
    have ht : ∀ i k, (x.take1 q).tk z i k = x.tk z i k := fun i k => by unfold tk; rw [hw]
    have hc : ∀ i k, i ≠ q.1 → x.tk (q :: z) i k = x.tk z i k := fun i k hi => by
      unfold tk
      rw [List.find?_cons_of_neg (by simpa using fun e => hi e.symm)]
    have hs : ∀ k, x.tk (q :: z) q.1 k = if q.2 ∈ x.want q.1 then q.2 else k := fun k => by
      unfold tk
      rw [List.find?_cons_of_pos (by simp)]
    have hn : ∀ k, x.tk z q.1 k = k := fun k => by unfold tk; rw [hnone q.1 (Nat.le_refl _)]
    rcases (by omega : q.1 = 1 ∨ q.1 = 2 ∨ q.1 = 3) with e | e | e
    · rw [e] at hs hn hc
      have e1 : x.take1 q = { x with k0 := if q.2 ∈ x.want 1 then q.2 else x.k0 } := by
        unfold take1 ask
        rw [e]
        by_cases h : q.2 ∈ x.want 1
        · simp [h]
        · simp [h]
      simp only [ht, hs, hc 2 _ (by omega), hc 3 _ (by omega)]
      rw [e1]
      simp only [hn]
    · rw [e] at hs hn hc
      have e1 : x.take1 q = { x with k1 := if q.2 ∈ x.want 2 then q.2 else x.k1 } := by
        unfold take1 ask
        rw [e]
        by_cases h : q.2 ∈ x.want 2
        · simp [h]
        · simp [h]
      simp only [ht, hs, hc 1 _ (by omega), hc 3 _ (by omega)]
      rw [e1]
      simp only [hn]
    · rw [e] at hs hn hc
      have e1 : x.take1 q = { x with k2 := if q.2 ∈ x.want 3 then q.2 else x.k2 } := by
        unfold take1 ask
        rw [e]
        by_cases h : q.2 ∈ x.want 3
        · simp [h]
        · simp [h]
      simp only [ht, hs, hc 1 _ (by omega), hc 2 _ (by omega)]
      rw [e1]
      simp only [hn]
theorem hear_nak {x : RE} {d : Nat} {z : List (Nat × Nat)} (hd : x.sid = (d : Int)) (hz : Asc 0 z) (hne : z ≠ []) (h4 : ∀ q ∈ z, q.1 ≤ 3) (hs : x.st = 6 ∨ x.st = 8) :
    ∃ N : RE, N = { x.got1 ⟨3, d, dataL z⟩ with k0 := x.tk z 1 x.k0, k1 := x.tk z 2 x.k1, k2 := x.tk z 3 x.k2 } ∧
      x.hear ⟨3, d, dataL z⟩ = { N with cnt := 5 - 1, tim := 3, id := (x.id + 1) % 256, sent := dataL N.asks, sid := (((x.id + 1) % 256 : Nat) : Int) } ∧ x.hearP ⟨3, d, dataL z⟩ = [⟨1, (x.id + 1) % 256, dataL N.asks⟩] := by
  refine ⟨_, rfl, ?_⟩
  have hit : itemsL (x.got1 ⟨3, d, dataL z⟩).pd = some z := itemsL_data hz
  have hns : ¬ (z = [] ∨ ((x.got1 ⟨3, d, dataL z⟩).pi : Int) ≠ (x.got1 ⟨3, d, dataL z⟩).sid) := by
    rintro (a | a)
    · exact hne a
    · exact a hd.symm
  have e1 : x.hear ⟨3, d, dataL z⟩ = (((x.got1 ⟨3, d, dataL z⟩).takeAll z).at_ 11).1 := by
    show (x.got1 ⟨3, d, dataL z⟩).receive.1 = _
    unfold receive
    rw [if_neg (by show ¬ 3 = 1; omega), if_neg (by show ¬ 3 = 2; omega), if_pos (by rfl), hit]
    dsimp only
    rw [if_neg hns]
  have e2 : x.hearP ⟨3, d, dataL z⟩ = ((x.got1 ⟨3, d, dataL z⟩).takeAll z).atP 11 := by
    show (x.got1 ⟨3, d, dataL z⟩).receiveP = _
    unfold receiveP
    rw [if_neg (by show ¬ 3 = 1; omega), if_neg (by show ¬ 3 = 2; omega), if_pos (by rfl), hit]
    dsimp only
    rw [if_neg hns]
  have ht := takeAll_of z (x.got1 ⟨3, d, dataL z⟩) hz h4
  rw [ht] at e1 e2
  generalize hN : ({ x.got1 ⟨3, d, dataL z⟩ with k0 := (x.got1 ⟨3, d, dataL z⟩).tk z 1 (x.got1 ⟨3, d, dataL z⟩).k0, k1 := (x.got1 ⟨3, d, dataL z⟩).tk z 2 (x.got1 ⟨3, d, dataL z⟩).k1, k2 := (x.got1 ⟨3, d, dataL z⟩).tk z 3 (x.got1 ⟨3, d, dataL z⟩).k2 } : RE) = N at e1 e2
  have hN' : N = { x.got1 ⟨3, d, dataL z⟩ with k0 := x.tk z 1 x.k0, k1 := x.tk z 2 x.k1, k2 := x.tk z 3 x.k2 } := hN.symm
  have hst : N.st = x.st := by rw [hN']; rfl
  have hid : N.id = x.id := by rw [hN']; rfl
  rw [← hN']
  have hr : N.at_ 11 = N.run [105, 114] ∧ N.atP 11 = N.runP [105, 114] := by
    rcases hs with hs | hs
    · exact at_row (hst.trans hs) rfl
    · exact at_row (hst.trans hs) rfl
  rw [hr.1] at e1
  rw [hr.2] at e2
  rw [← hid]
  exact ⟨e1, e2⟩
end RE
end Go.Proofs.YtoeihlgidakjbaaGreatDoor
namespace Go.Proofs.YtoeihlgidakjbaaGreatDoor
open Go.RowKit Go.Lib
def Sn (k : Nat) (acc want : List Nat) (h n : Nat) : Prop := k ∈ acc ∨ ∃ j, j < n ∧ acc.getD ((h + j) % acc.length) 0 ∈ want
theorem Sn.zero {k : Nat} {acc want : List Nat} {h : Nat} (s : Sn k acc want h 0) : k ∈ acc := by
  rcases s with s | ⟨j, hj, _⟩
  · exact s
  · omega
theorem getD_mem' {l : List Nat} {i : Nat} (h : i < l.length) : l.getD i 0 ∈ l := by
  rw [List.getD, List.getElem?_eq_getElem h]; exact List.getElem_mem h
inductive Fz where
  | R (n : Nat)
  | N (n : Nat) (z : List (Nat × Nat))
  | A
  | D
namespace Fz
def mu : Fz → Nat
  | R n => 2 * n + 2
  | N n _ => 2 * n + 3
  | A => 1
  | D => 0
def acked : Fz → Bool
  | A => true
  | D => true
  | _ => false
def done : Fz → Bool
  | D => true
  | _ => false
def req (x : RE) (d : Nat) : Fz → List Pq
  | R _ => [x.reqP d]
  | _ => []
def ans (x : RE) (d : Nat) : Fz → List Pq
  | N _ z => [⟨3, d, dataL z⟩]
  | A => [⟨2, d, x.sent⟩]
  | _ => []
def nk (y : RE) : Fz → Prop
  | R n => y.naks + n ≤ 19
  | N n _ => y.naks + n ≤ 19
  | _ => True
def on (x y : RE) : Fz → Prop
  | R n => Sn x.k0 y.a0 x.w0 y.h0 n ∧ Sn x.k1 y.a1 x.w1 y.h1 n ∧ Sn x.k2 y.a2 x.w2 y.h2 n
  | N n z => (Sn (x.tk z 1 x.k0) y.a0 x.w0 y.h0 n ∧ Sn (x.tk z 2 x.k1) y.a1 x.w1 y.h1 n ∧ Sn (x.tk z 3 x.k2) y.a2 x.w2 y.h2 n) ∧ Asc 0 z ∧ z ≠ [] ∧ ∀ q ∈ z, q.1 ≤ 3
  | A => (x.k0 ∈ y.a0 ∧ x.k1 ∈ y.a1 ∧ x.k2 ∈ y.a2) ∧ y.agr = x.sent
  | D => (x.k0 ∈ y.a0 ∧ x.k1 ∈ y.a1 ∧ x.k2 ∈ y.a2) ∧ y.agr = x.sent
end Fz
structure Dir (x y : RE) (f : Fz) (d : Nat) : Prop where
  xo : x.Ok
  yo : y.Ok
  hm : x.mag ∉ y.mg
  sid : x.sid = (d : Int)
  sent : x.sent = dataL x.asks
  w0 : x.k0 ∈ x.w0
  w1 : x.k1 ∈ x.w1
  w2 : x.k2 ∈ x.w2
  on : f.on x y
structure AskEq (x x' : RE) : Prop where
  k0 : x'.k0 = x.k0
  k1 : x'.k1 = x.k1
  k2 : x'.k2 = x.k2
  w0 : x'.w0 = x.w0
  w1 : x'.w1 = x.w1
  w2 : x'.w2 = x.w2
  mg : x'.mg = x.mg
  sid : x'.sid = x.sid
  sent : x'.sent = x.sent
structure AnsEq (y y' : RE) : Prop where
  a0 : y'.a0 = y.a0
  a1 : y'.a1 = y.a1
  a2 : y'.a2 = y.a2
  h0 : y'.h0 = y.h0
  h1 : y'.h1 = y.h1
  h2 : y'.h2 = y.h2
  mg : y'.mg = y.mg
  agr : y'.agr = y.agr
theorem AskEq.asks {x x' : RE} (h : AskEq x x') : x'.asks = x.asks := by unfold RE.asks RE.mag; rw [h.k0, h.k1, h.k2, h.mg]
theorem AskEq.tk {x x' : RE} (h : AskEq x x') (z : List (Nat × Nat)) (i k : Nat) : x'.tk z i k = x.tk z i k := by unfold RE.tk RE.want; rw [h.w0, h.w1, h.w2]
theorem Dir.asker {x x' y : RE} {f : Fz} {d : Nat} (h : Dir x y f d) (e : AskEq x x') (ok : x'.Ok) : Dir x' y f d := by
  refine ⟨ok, h.yo, ?_, e.sid.trans h.sid, ?_, by rw [e.k0, e.w0]; exact h.w0, by rw [e.k1, e.w1]; exact h.w1, by rw [e.k2, e.w2]; exact h.w2, ?_⟩
  · have : x'.mag = x.mag := by unfold RE.mag; rw [e.mg]
    rw [this]; exact h.hm
  · rw [e.sent, e.asks]; exact h.sent
  · have := h.on
    cases f with
    | R n => unfold Fz.on at this ⊢; dsimp only at this ⊢; rw [e.k0, e.k1, e.k2, e.w0, e.w1, e.w2]; exact this
    | N n z => unfold Fz.on at this ⊢; dsimp only at this ⊢; rw [e.tk, e.tk, e.tk, e.k0, e.k1, e.k2, e.w0, e.w1, e.w2]; exact this
    | A => unfold Fz.on at this ⊢; dsimp only at this ⊢; rw [e.k0, e.k1, e.k2, e.sent]; exact this
    | D => unfold Fz.on at this ⊢; dsimp only at this ⊢; rw [e.k0, e.k1, e.k2, e.sent]; exact this
theorem Dir.answerer {x y y' : RE} {f : Fz} {d : Nat} (h : Dir x y f d) (e : AnsEq y y') (ok : y'.Ok) : Dir x y' f d := by
  refine ⟨h.xo, ok, by rw [e.mg]; exact h.hm, h.sid, h.sent, h.w0, h.w1, h.w2, ?_⟩
  have := h.on
  cases f with
  | R n => unfold Fz.on at this ⊢; dsimp only at this ⊢; rw [e.a0, e.a1, e.a2, e.h0, e.h1, e.h2]; exact this
  | N n z => unfold Fz.on at this ⊢; dsimp only at this ⊢; rw [e.a0, e.a1, e.a2, e.h0, e.h1, e.h2]; exact this
  | A => unfold Fz.on at this ⊢; dsimp only at this ⊢; rw [e.a0, e.a1, e.a2, e.agr]; exact this
  | D => unfold Fz.on at this ⊢; dsimp only at this ⊢; rw [e.a0, e.a1, e.a2, e.agr]; exact this
theorem req_eq {x x' : RE} (h : AskEq x x') (f : Fz) (d : Nat) : f.req x' d = f.req x d := by
  cases f with
  | R n => show [x'.reqP d] = [x.reqP d]; unfold RE.reqP; rw [h.asks]
  | N n z => rfl
  | A => rfl
  | D => rfl
theorem ans_eq {x x' : RE} (h : AskEq x x') (f : Fz) (d : Nat) : f.ans x' d = f.ans x d := by
  cases f with
  | R n => rfl
  | N n z => rfl
  | A => show [(⟨2, d, x'.sent⟩ : Pq)] = [⟨2, d, x.sent⟩]; rw [h.sent]
  | D => rfl
theorem sn_nak {k : Nat} {acc want : List Nat} {h n : Nat} (hl : 0 < acc.length) (hk : k ∉ acc) (s : Sn k acc want h (n + 1)) : Sn (if acc.getD (h % acc.length) 0 ∈ want then acc.getD (h % acc.length) 0 else k) acc want (h + 1) n := by
  have hv : acc.getD (h % acc.length) 0 ∈ acc := getD_mem' (Nat.mod_lt _ hl)
  by_cases hw : acc.getD (h % acc.length) 0 ∈ want
  · rw [if_pos hw]; exact .inl hv
  · rw [if_neg hw]
    rcases s with s | ⟨j, hj, hjw⟩
    · exact absurd s hk
    · cases j with
      | zero => exact absurd hjw hw
      | succ j => exact .inr ⟨j, by omega, by rw [show h + 1 + j = h + (j + 1) by omega]; exact hjw⟩
theorem RE.hear_ok {m : RE} (h : m.Ok) {p : Pq} (hp : p.Good) : (m.hear p).Ok := by
  have hg : (m.got1 p).Ok := RE.got1_ok h hp
  have hn : ∀ n, ({ m.got1 p with loops := n } : RE).Ok := fun n => by
    obtain ⟨st, id, odd, k0, k1, k2, pc, pi, pd, mg, ms, aa, ww⟩ := hg
    exact ⟨st, id, odd, k0, k1, k2, pc, pi, pd, mg, ms, aa, ww⟩
  have ht : ∀ n t, ({ m.got1 p with loops := n, told := (m.got1 p).told ++ [t] } : RE).Ok := fun n t => by
    obtain ⟨st, id, odd, k0, k1, k2, pc, pi, pd, mg, ms, aa, ww⟩ := hg
    exact ⟨st, id, odd, k0, k1, k2, pc, pi, pd, mg, ms, aa, ww⟩
  exact RE.receive_ind (m.got1 p) (fun n _ => n.Ok) hg (fun _ _ _ _ _ => RE.run_ok hg _) (fun _ n _ _ _ _ _ _ => RE.run_ok (hn n) _) (fun _ n t _ _ _ _ _ _ _ _ => RE.run_ok (ht n t) _) (fun _ _ _ => RE.run_ok hg _) (fun l _ _ _ _ => RE.run_ok (RE.takeAll_ok l hg) _) (fun _ _ => RE.run_ok hg _)
theorem Dir.answer {x y : RE} {n d : Nat} (h : Dir x y (.R n) d) (hd : d < 256) (hs : y.st = 6 ∨ y.st = 7) (hn : Fz.nk y (.R n)) :
    ∃ f', Dir x (y.hear (x.reqP d)) f' d ∧ AskEq y (y.hear (x.reqP d)) ∧ (y.hear (x.reqP d)).Ok ∧ y.hearP (x.reqP d) = f'.ans x d ∧ f'.mu < (Fz.R n).mu ∧ f'.nk (y.hear (x.reqP d)) ∧ f'.req x d = [] ∧ f'.done = false ∧ (y.hear (x.reqP d)).st = (if f'.acked then y.st + 2 else y.st) := by
  have hpg : (x.reqP d).Good := ⟨by show 1 ≤ 1; omega, by show 1 < 256; omega, hd, by show (dataL x.asks).length ≤ 40; rw [dataL_len]; simp [RE.asks]⟩
  obtain ⟨s0, s1, s2⟩ := h.on
  have hok : (y.hear (x.reqP d)).Ok := (RE.hear_ok h.yo hpg)
  by_cases hb : y.nakOf x = []
  · obtain ⟨g0, g1, g2⟩ := RE.nakOf_nil hb
    obtain ⟨⟨t, _, e1⟩, e2⟩ := RE.hear_good (d := d) h.xo g0 g1 g2 h.hm hs
    refine ⟨.A, ⟨h.xo, hok, by rw [e1]; exact h.hm, h.sid, h.sent, h.w0, h.w1, h.w2, ?_⟩, ?_, hok, ?_, ?_, trivial, rfl, rfl, ?_⟩
    · rw [e1]; exact ⟨⟨g0, g1, g2⟩, h.sent.symm⟩
    · rw [e1]; exact ⟨rfl, rfl, rfl, rfl, rfl, rfl, rfl, rfl, rfl⟩
    · rw [e2]; show _ = [(⟨2, d, x.sent⟩ : Pq)]; rw [h.sent]
    · show 1 < 2 * n + 2; omega
    · rw [e1]; rfl
  · have hn1 : 1 ≤ n := by
      rcases Nat.eq_zero_or_pos n with q | q
      · subst q
        exfalso
        apply hb
        unfold RE.nakOf
        rw [if_pos s0.zero, if_pos s1.zero, if_pos s2.zero]; rfl
      · exact q
    obtain ⟨m, rfl⟩ : ∃ m, n = m + 1 := ⟨n - 1, by omega⟩
    have hnk : y.naks + (m + 1) ≤ 19 := hn
    obtain ⟨e1, e2⟩ := RE.hear_bad (d := d) h.xo hb h.hm hs (by omega)
    obtain ⟨asc, _⟩ := RE.nakOf_asc x h.yo
    have l0 : 0 < y.a0.length := List.length_pos_iff.2 (h.yo.aa 1).1
    have l1 : 0 < y.a1.length := List.length_pos_iff.2 (h.yo.aa 2).1
    have l2 : 0 < y.a2.length := List.length_pos_iff.2 (h.yo.aa 3).1
    have hz3 : ∀ q ∈ y.nakOf x, q.1 ≤ 3 := by
      unfold RE.nakOf
      by_cases h0 : x.k0 ∈ y.a0 <;> by_cases h1 : x.k1 ∈ y.a1 <;> by_cases h2 : x.k2 ∈ y.a2 <;> simp [h0, h1, h2]
    have t1 : x.tk (y.nakOf x) 1 x.k0 = if x.k0 ∈ y.a0 then x.k0 else if y.nextN 1 ∈ x.w0 then y.nextN 1 else x.k0 := by
      unfold RE.tk RE.nakOf RE.want
      by_cases h0 : x.k0 ∈ y.a0 <;> by_cases h1 : x.k1 ∈ y.a1 <;> by_cases h2 : x.k2 ∈ y.a2 <;> simp [h0, h1, h2]
    have t2 : x.tk (y.nakOf x) 2 x.k1 = if x.k1 ∈ y.a1 then x.k1 else if y.nextN 2 ∈ x.w1 then y.nextN 2 else x.k1 := by
      unfold RE.tk RE.nakOf RE.want
      by_cases h0 : x.k0 ∈ y.a0 <;> by_cases h1 : x.k1 ∈ y.a1 <;> by_cases h2 : x.k2 ∈ y.a2 <;> simp [h0, h1, h2]
    have t3 : x.tk (y.nakOf x) 3 x.k2 = if x.k2 ∈ y.a2 then x.k2 else if y.nextN 3 ∈ x.w2 then y.nextN 3 else x.k2 := by
      unfold RE.tk RE.nakOf RE.want
      by_cases h0 : x.k0 ∈ y.a0 <;> by_cases h1 : x.k1 ∈ y.a1 <;> by_cases h2 : x.k2 ∈ y.a2 <;> simp [h0, h1, h2]
    refine ⟨.N m (y.nakOf x), ⟨h.xo, hok, by rw [e1]; exact h.hm, h.sid, h.sent, h.w0, h.w1, h.w2, ⟨⟨?_, ?_, ?_⟩, asc, hb, hz3⟩⟩, ?_, hok, e2, ?_, ?_, rfl, rfl, ?_⟩
    · rw [t1, e1]
      by_cases h0 : x.k0 ∈ y.a0
      · rw [if_pos h0]; exact .inl h0
      · show Sn _ y.a0 x.w0 (if x.k0 ∈ y.a0 then y.h0 else y.h0 + 1) m
        rw [if_neg h0, if_neg h0]; exact sn_nak l0 h0 s0
    · rw [t2, e1]
      by_cases h0 : x.k1 ∈ y.a1
      · rw [if_pos h0]; exact .inl h0
      · show Sn _ y.a1 x.w1 (if x.k1 ∈ y.a1 then y.h1 else y.h1 + 1) m
        rw [if_neg h0, if_neg h0]; exact sn_nak l1 h0 s1
    · rw [t3, e1]
      by_cases h0 : x.k2 ∈ y.a2
      · rw [if_pos h0]; exact .inl h0
      · show Sn _ y.a2 x.w2 (if x.k2 ∈ y.a2 then y.h2 else y.h2 + 1) m
        rw [if_neg h0, if_neg h0]; exact sn_nak l2 h0 s2
    · rw [e1]; exact ⟨rfl, rfl, rfl, rfl, rfl, rfl, rfl, rfl, rfl⟩
    · show 2 * m + 3 < 2 * (m + 1) + 2; omega
    · rw [e1]; show y.naks + 1 + m ≤ 19; omega
    · rw [e1]; rfl
end Go.Proofs.YtoeihlgidakjbaaGreatDoor
namespace Go.Proofs.YtoeihlgidakjbaaGreatDoor
open Go.RowKit Go.Lib
theorem Dir.retry {x y : RE} {n d : Nat} {z : List (Nat × Nat)} (h : Dir x y (.N n z) d) (hd : d < 256) (hs : x.st = 6 ∨ x.st = 8) :
    ∃ d', d' < 256 ∧ Dir (x.hear ⟨3, d, dataL z⟩) y (.R n) d' ∧ AnsEq x (x.hear ⟨3, d, dataL z⟩) ∧ (x.hear ⟨3, d, dataL z⟩).Ok ∧ x.hearP ⟨3, d, dataL z⟩ = (Fz.R n).req (x.hear ⟨3, d, dataL z⟩) d' ∧ (x.hear ⟨3, d, dataL z⟩).st = x.st ∧ (x.hear ⟨3, d, dataL z⟩).naks = x.naks := by
  obtain ⟨⟨s0, s1, s2⟩, asc, hne, h3⟩ := h.on
  have hl : z.length ≤ 4 := by
    have : ∀ (l : List (Nat × Nat)) (p : Nat), Asc p l → p ≤ 4 → l.length + p ≤ 4 := by
      intro l
      induction l with
      | nil => intro p _ hp; simpa using hp
      | cons q l ih =>
        intro p hp _
        have := ih q.1 hp.2.2.2 hp.2.1
        have := hp.1
        simp only [List.length_cons]; omega
    have := this z 0 asc (by omega)
    omega
  have hpg : (⟨3, d, dataL z⟩ : Pq).Good := ⟨by show 1 ≤ 3; omega, by show 3 < 256; omega, hd, by show (dataL z).length ≤ 40; rw [dataL_len]; omega⟩
  have hok := RE.hear_ok h.xo hpg
  obtain ⟨N, hN, e1, e2⟩ := RE.hear_nak h.sid asc hne h3 hs
  have wm : ∀ i k, k ∈ x.want i → x.tk z i k ∈ x.want i := fun i k hk => by
    unfold RE.tk
    split
    · exact hk
    · split
      · assumption
      · exact hk
  have hid : (x.id + 1) % 256 < 256 := Nat.mod_lt _ (by decide)
  refine ⟨(x.id + 1) % 256, hid, ⟨hok, h.yo, ?_, ?_, ?_, ?_, ?_, ?_, ⟨?_, ?_, ?_⟩⟩, ?_, hok, ?_, ?_, ?_⟩
  · rw [e1, hN]; exact h.hm
  · rw [e1]
  · rw [e1]; rfl
  · rw [e1, hN]; exact wm 1 _ h.w0
  · rw [e1, hN]; exact wm 2 _ h.w1
  · rw [e1, hN]; exact wm 3 _ h.w2
  · rw [e1, hN]; exact s0
  · rw [e1, hN]; exact s1
  · rw [e1, hN]; exact s2
  · rw [e1, hN]; exact ⟨rfl, rfl, rfl, rfl, rfl, rfl, rfl, rfl⟩
  · rw [e2, e1]; rfl
  · rw [e1, hN]; rfl
  · rw [e1, hN]; rfl
theorem Dir.close {x y : RE} {d : Nat} (h : Dir x y .A d) (hd : d < 256) (hs : x.st = 6 ∨ x.st = 8) :
    Dir (x.hear ⟨2, d, x.sent⟩) y .D d ∧ AnsEq x (x.hear ⟨2, d, x.sent⟩) ∧ (x.hear ⟨2, d, x.sent⟩).Ok ∧ x.hearP ⟨2, d, x.sent⟩ = [] ∧ (x.hear ⟨2, d, x.sent⟩).st = x.st + 1 ∧ (x.hear ⟨2, d, x.sent⟩).naks ≤ x.naks := by
  have hpg : (⟨2, d, x.sent⟩ : Pq).Good := ⟨by show 1 ≤ 2; omega, by show 2 < 256; omega, hd, by show x.sent.length ≤ 40; rw [h.sent, dataL_len]; simp [RE.asks]⟩
  have hok := RE.hear_ok h.xo hpg
  obtain ⟨⟨t, nk, _, hnk, e1⟩, e2⟩ := RE.hear_ack h.sid rfl hs
  refine ⟨⟨hok, h.yo, ?_, ?_, ?_, ?_, ?_, ?_, ?_⟩, ?_, hok, e2, ?_, ?_⟩
  · rw [e1]; exact h.hm
  · rw [e1]; exact h.sid
  · rw [e1]; exact h.sent
  · rw [e1]; exact h.w0
  · rw [e1]; exact h.w1
  · rw [e1]; exact h.w2
  · rw [e1]; exact h.on
  · rw [e1]; exact ⟨rfl, rfl, rfl, rfl, rfl, rfl, rfl, rfl⟩
  · rw [e1]
  · rw [e1]; exact hnk
def stOf (done acked : Bool) : Nat := 6 + (if done then 1 else 0) + (if acked then 2 else 0)
structure Cv (l : Ln) (f g : Fz) (d e : Nat) : Prop where
  ab : Dir l.a l.b f d
  ba : Dir l.b l.a g e
  sa : l.a.st = stOf f.done g.acked
  sb : l.b.st = stOf g.done f.acked
  qB : l.toB.Perm (f.req l.a d ++ g.ans l.b e)
  qA : l.toA.Perm (g.req l.b e ++ f.ans l.a d)
  hd : d < 256
  he : e < 256
  na : f.nk l.b
  nb : g.nk l.a
namespace Ln
def swap (l : Ln) : Ln := ⟨l.b, l.a, l.toA, l.toB⟩
theorem deliver_swap (l : Ln) (lost : Bool) : l.deliver false lost = ((l.swap.deliver true lost).1.swap, (l.swap.deliver true lost).2) := by
  obtain ⟨a, b, toB, toA⟩ := l
  cases toB with
  | nil => rfl
  | cons p r => cases lost <;> rfl
end Ln
theorem Cv.swap {l : Ln} {f g : Fz} {d e : Nat} (h : Cv l f g d e) : Cv l.swap g f e d := ⟨h.ba, h.ab, h.sb, h.sa, h.qA, h.qB, h.he, h.hd, h.nb, h.na⟩
theorem nk_mono {f : Fz} {y y' : RE} (h : f.nk y) (hn : y'.naks ≤ y.naks) : f.nk y' := by
  cases f with
  | R n => have : y.naks + n ≤ 19 := h; show y'.naks + n ≤ 19; omega
  | N n z => have : y.naks + n ≤ 19 := h; show y'.naks + n ≤ 19; omega
  | A => trivial
  | D => trivial
theorem perm_two {α : Type} {p a b : α} {r : List α} (h : (p :: r).Perm [a, b]) : (p = a ∧ r = [b]) ∨ (p = b ∧ r = [a]) := by
  have hp : p ∈ [a, b] := h.subset (by simp)
  rcases List.mem_cons.1 hp with e | e
  · subst e
    exact .inl ⟨rfl, List.perm_singleton.1 (List.Perm.cons_inv h)⟩
  · have e' : p = b := by simpa using e
    subst e'
    have h2 : (p :: r).Perm (p :: [a]) := h.trans (List.Perm.swap _ _ _)
    exact .inr ⟨rfl, List.perm_singleton.1 (List.Perm.cons_inv h2)⟩
theorem Cv.toA {l : Ln} {f g : Fz} {d e : Nat} (h : Cv l f g d e) {p : Pq} {r : List Pq} (hA : l.toA = p :: r) : ∃ f' g' d' e', Cv ⟨l.a.hear p, l.b, l.toB ++ l.a.hearP p, r⟩ f' g' d' e' ∧ f'.mu + g'.mu < f.mu + g.mu := by
  have hq := h.qA
  rw [hA] at hq
  -- which of the two it is
  have hcase : (∃ n, g = .R n ∧ p = l.b.reqP e ∧ r.Perm (f.ans l.a d)) ∨ (∃ n z, f = .N n z ∧ p = ⟨3, d, dataL z⟩ ∧ r.Perm (g.req l.b e)) ∨ (f = .A ∧ p = ⟨2, d, l.a.sent⟩ ∧ r.Perm (g.req l.b e)) := by
    cases g with
    | R n =>
      cases f with
      | R m => exact .inl ⟨n, rfl, by simpa using (List.perm_singleton.1 hq : p :: r = [l.b.reqP e]) |> fun q => (List.cons.inj q).1, by
          have := (List.cons.inj (List.perm_singleton.1 hq : p :: r = [l.b.reqP e])).2
          rw [this]; exact List.Perm.refl _⟩
      | N m z =>
        rcases perm_two (hq : (p :: r).Perm [l.b.reqP e, ⟨3, d, dataL z⟩]) with ⟨e1, e2⟩ | ⟨e1, e2⟩
        · exact .inl ⟨n, rfl, e1, by rw [e2]; exact List.Perm.refl _⟩
        · exact .inr (.inl ⟨m, z, rfl, e1, by rw [e2]; exact List.Perm.refl _⟩)
      | A =>
        rcases perm_two (hq : (p :: r).Perm [l.b.reqP e, ⟨2, d, l.a.sent⟩]) with ⟨e1, e2⟩ | ⟨e1, e2⟩
        · exact .inl ⟨n, rfl, e1, by rw [e2]; exact List.Perm.refl _⟩
        · exact .inr (.inr ⟨rfl, e1, by rw [e2]; exact List.Perm.refl _⟩)
      | D => exact .inl ⟨n, rfl, (List.cons.inj (List.perm_singleton.1 hq : p :: r = [l.b.reqP e])).1, by
          have := (List.cons.inj (List.perm_singleton.1 hq : p :: r = [l.b.reqP e])).2
          rw [this]; exact List.Perm.refl _⟩
    | N k zz =>
      cases f with
      | R m => exact absurd hq.length_eq (by simp [Fz.req, Fz.ans])
      | N m z => exact .inr (.inl ⟨m, z, rfl, (List.cons.inj (List.perm_singleton.1 hq : p :: r = [⟨3, d, dataL z⟩])).1, by
          have := (List.cons.inj (List.perm_singleton.1 hq : p :: r = [⟨3, d, dataL z⟩])).2
          rw [this]; exact List.Perm.refl _⟩)
      | A => exact .inr (.inr ⟨rfl, (List.cons.inj (List.perm_singleton.1 hq : p :: r = [⟨2, d, l.a.sent⟩])).1, by
          have := (List.cons.inj (List.perm_singleton.1 hq : p :: r = [⟨2, d, l.a.sent⟩])).2
          rw [this]; exact List.Perm.refl _⟩)
      | D => exact absurd hq.length_eq (by simp [Fz.req, Fz.ans])
    | A =>
      cases f with
      | R m => exact absurd hq.length_eq (by simp [Fz.req, Fz.ans])
      | N m z => exact .inr (.inl ⟨m, z, rfl, (List.cons.inj (List.perm_singleton.1 hq : p :: r = [⟨3, d, dataL z⟩])).1, by
          have := (List.cons.inj (List.perm_singleton.1 hq : p :: r = [⟨3, d, dataL z⟩])).2
          rw [this]; exact List.Perm.refl _⟩)
      | A => exact .inr (.inr ⟨rfl, (List.cons.inj (List.perm_singleton.1 hq : p :: r = [⟨2, d, l.a.sent⟩])).1, by
          have := (List.cons.inj (List.perm_singleton.1 hq : p :: r = [⟨2, d, l.a.sent⟩])).2
          rw [this]; exact List.Perm.refl _⟩)
      | D => exact absurd hq.length_eq (by simp [Fz.req, Fz.ans])
    | D =>
      cases f with
      | R m => exact absurd hq.length_eq (by simp [Fz.req, Fz.ans])
      | N m z => exact .inr (.inl ⟨m, z, rfl, (List.cons.inj (List.perm_singleton.1 hq : p :: r = [⟨3, d, dataL z⟩])).1, by
          have := (List.cons.inj (List.perm_singleton.1 hq : p :: r = [⟨3, d, dataL z⟩])).2
          rw [this]; exact List.Perm.refl _⟩)
      | A => exact .inr (.inr ⟨rfl, (List.cons.inj (List.perm_singleton.1 hq : p :: r = [⟨2, d, l.a.sent⟩])).1, by
          have := (List.cons.inj (List.perm_singleton.1 hq : p :: r = [⟨2, d, l.a.sent⟩])).2
          rw [this]; exact List.Perm.refl _⟩)
      | D => exact absurd hq.length_eq (by simp [Fz.req, Fz.ans])
  have hsa := h.sa
  have hsb := h.sb
  rcases hcase with ⟨n, rfl, rfl, hr⟩ | ⟨n, z, rfl, rfl, hr⟩ | ⟨rfl, rfl, hr⟩
  · have hs : l.a.st = 6 ∨ l.a.st = 7 := by
      rw [hsa]; unfold stOf; cases f.done <;> simp [Fz.acked]
    obtain ⟨g', hdir, heq, hok, hout, hmu, hnk, hreq, hdone, hst⟩ := h.ba.answer h.he hs h.nb
    refine ⟨f, g', d, e, ⟨h.ab.asker heq hok, hdir, ?_, ?_, ?_, ?_, h.hd, h.he, h.na, hnk⟩, by omega⟩
    · show (l.a.hear (l.b.reqP e)).st = _
      rw [hst, hsa]
      unfold stOf
      cases g'.acked <;> simp [Fz.acked]
    · show l.b.st = _
      rw [hsb, hdone]; rfl
    · show (l.toB ++ l.a.hearP (l.b.reqP e)).Perm _
      rw [hout, req_eq heq]
      have hB := h.qB
      exact (List.Perm.append_right _ hB).trans (by simp [Fz.ans])
    · show r.Perm _
      rw [hreq, ans_eq heq]; exact hr
  · have hs : l.a.st = 6 ∨ l.a.st = 8 := by
      rw [hsa]; unfold stOf; cases g.acked <;> simp [Fz.done]
    obtain ⟨d', hd', hdir, heq, hok, hout, hst, hnk⟩ := h.ab.retry h.hd hs
    refine ⟨.R n, g, d', e, ⟨hdir, h.ba.answerer heq hok, ?_, hsb, ?_, ?_, hd', h.he, h.na, nk_mono h.nb (by show _ ≤ _; rw [hnk]; exact Nat.le_refl _)⟩, by show 2 * n + 2 + _ < 2 * n + 3 + _; omega⟩
    · show (l.a.hear ⟨3, d, dataL z⟩).st = _
      rw [hst, hsa]; rfl
    · show (l.toB ++ l.a.hearP ⟨3, d, dataL z⟩).Perm _
      rw [hout]
      have hB := h.qB
      exact (List.Perm.append_right _ hB).trans (by simp only [Fz.req, List.nil_append]; exact List.perm_append_comm)
    · show r.Perm _
      exact hr.trans (by simp [Fz.ans])
  · have hs : l.a.st = 6 ∨ l.a.st = 8 := by
      rw [hsa]; unfold stOf; cases g.acked <;> simp [Fz.done]
    obtain ⟨hdir, heq, hok, hout, hst, hnk⟩ := h.ab.close h.hd hs
    refine ⟨.D, g, d, e, ⟨hdir, h.ba.answerer heq hok, ?_, hsb, ?_, ?_, h.hd, h.he, trivial, nk_mono h.nb hnk⟩, by show 0 + _ < 1 + _; omega⟩
    · show (l.a.hear ⟨2, d, l.a.sent⟩).st = _
      rw [hst, hsa]; unfold stOf; cases g.acked <;> simp [Fz.done]
    · show (l.toB ++ l.a.hearP ⟨2, d, l.a.sent⟩).Perm _
      rw [hout, List.append_nil]; exact h.qB
    · show r.Perm _
      exact hr.trans (by simp [Fz.ans])
theorem Cv.deliverA {l : Ln} {f g : Fz} {d e : Nat} (h : Cv l f g d e) : ∃ f' g' d' e', Cv (l.deliver true false).1 f' g' d' e' ∧ (if (l.deliver true false).2 = true then f'.mu + g'.mu < f.mu + g.mu else (l.deliver true false).1 = l ∧ l.toA = [] ∧ f'.mu + g'.mu ≤ f.mu + g.mu) := by
  cases hA : l.toA with
  | nil =>
    have e1 : l.deliver true false = (l, false) := by unfold Ln.deliver; rw [if_pos rfl, hA]
    rw [e1]
    exact ⟨f, g, d, e, h, by rw [if_neg (by simp)]; exact ⟨rfl, rfl, Nat.le_refl _⟩⟩
  | cons p r =>
    have e1 : l.deliver true false = (⟨l.a.hear p, l.b, l.toB ++ l.a.hearP p, r⟩, true) := by unfold Ln.deliver; rw [if_pos rfl, hA]; rfl
    rw [e1]
    obtain ⟨f', g', d', e', h1, h2⟩ := h.toA hA
    exact ⟨f', g', d', e', h1, by rw [if_pos rfl]; exact h2⟩
theorem Cv.deliverB {l : Ln} {f g : Fz} {d e : Nat} (h : Cv l f g d e) : ∃ f' g' d' e', Cv (l.deliver false false).1 f' g' d' e' ∧ (if (l.deliver false false).2 = true then f'.mu + g'.mu < f.mu + g.mu else (l.deliver false false).1 = l ∧ l.toB = [] ∧ f'.mu + g'.mu ≤ f.mu + g.mu) := by
  obtain ⟨f', g', d', e', h1, h2⟩ := h.swap.deliverA
  rw [l.deliver_swap false]
  refine ⟨g', f', e', d', h1.swap, ?_⟩
  split at h2
  · rename_i q; rw [if_pos q]; omega
  · rename_i q
    rw [if_neg q]
    refine ⟨?_, h2.2.1, by omega⟩
    show (l.swap.deliver true false).1.swap = l
    rw [h2.1]; rfl
theorem Cv.settle (M : Nat) : ∀ {l : Ln} {f g : Fz} {d e : Nat}, Cv l f g d e → f.mu + g.mu ≤ M → ∀ n, M < n → (l.settle n).2 = true ∧ ∃ d' e', Cv (l.settle n).1 .D .D d' e' := by
  induction M with
  | zero =>
    intro l f g d e h hM n hn
    obtain ⟨k, rfl⟩ : ∃ k, n = k + 1 := ⟨n - 1, by omega⟩
    obtain ⟨f1, g1, d1, e1, h1, c1⟩ := h.deliverA
    split at c1
    · omega
    · rename_i q1
      obtain ⟨f2, g2, d2, e2, h2, c2⟩ := h1.deliverB
      split at c2
      · omega
      · rename_i q2
        have hb : l.both.2 = false := by
          show ((l.deliver true false).2 || ((l.deliver true false).1.deliver false false).2) = false
          simp only [Bool.not_eq_true] at q1 q2
          rw [q1, q2]; rfl
        have hE : l.settle (k + 1) = (l.both.1, true) := by show (if l.both.2 = true then _ else _) = _; rw [hb]; rfl
        rw [hE]
        have hfD : f2 = .D ∧ g2 = .D := by
          constructor
          · cases f2 with
            | D => rfl
            | A => have : (1 : Nat) + g2.mu ≤ _ := c2.2.2; omega
            | R m => have : 2 * m + 2 + g2.mu ≤ _ := c2.2.2; omega
            | N m z => have : 2 * m + 3 + g2.mu ≤ _ := c2.2.2; omega
          · cases g2 with
            | D => rfl
            | A => have : f2.mu + 1 ≤ _ := c2.2.2; omega
            | R m => have : f2.mu + (2 * m + 2) ≤ _ := c2.2.2; omega
            | N m z => have : f2.mu + (2 * m + 3) ≤ _ := c2.2.2; omega
        obtain ⟨rfl, rfl⟩ := hfD
        exact ⟨rfl, d2, e2, h2⟩
  | succ M ih =>
    intro l f g d e h hM n hn
    obtain ⟨k, rfl⟩ : ∃ k, n = k + 1 := ⟨n - 1, by omega⟩
    obtain ⟨f1, g1, d1, e1, h1, c1⟩ := h.deliverA
    obtain ⟨f2, g2, d2, e2, h2, c2⟩ := h1.deliverB
    by_cases hb : l.both.2 = true
    · have hE : l.settle (k + 1) = l.both.1.settle k := by show (if l.both.2 = true then _ else _) = _; rw [if_pos hb]
      rw [hE]
      refine ih h2 ?_ k (by omega)
      have hor : (l.deliver true false).2 = true ∨ ((l.deliver true false).1.deliver false false).2 = true := by
        have : ((l.deliver true false).2 || ((l.deliver true false).1.deliver false false).2) = true := hb
        simpa using this
      split at c1 <;> split at c2
      · omega
      · omega
      · omega
      · rename_i q1 q2; exact absurd hor (by simp [q1, q2])
    · have hE : l.settle (k + 1) = (l.both.1, true) := by show (if l.both.2 = true then _ else _) = _; rw [if_neg hb]
      rw [hE]
      have hnor : ¬ (l.deliver true false).2 = true ∧ ¬ ((l.deliver true false).1.deliver false false).2 = true := by
        have : ¬ ((l.deliver true false).2 || ((l.deliver true false).1.deliver false false).2) = true := hb
        simpa using this
      rw [if_neg hnor.1] at c1
      rw [if_neg hnor.2] at c2
      have hq1 : (l.deliver true false).1.toA = [] := by rw [c1.1]; exact c1.2.1
      have hq2 : (l.deliver true false).1.toB = [] := c2.2.1
      have pA := h1.qA
      have pB := h1.qB
      rw [hq1] at pA
      rw [hq2] at pB
      have nA : g1.req (l.deliver true false).1.b e1 ++ f1.ans (l.deliver true false).1.a d1 = [] := List.nil_perm.1 pA
      have nB : f1.req (l.deliver true false).1.a d1 ++ g1.ans (l.deliver true false).1.b e1 = [] := List.nil_perm.1 pB
      have hfD : f1 = .D := by
        cases f1 with
        | D => rfl
        | A => simp [Fz.ans] at nA
        | R m => simp [Fz.req] at nB
        | N m z => simp [Fz.ans] at nA
      have hgD : g1 = .D := by
        cases g1 with
        | D => rfl
        | A => simp [Fz.ans] at nB
        | R m => simp [Fz.req] at nA
        | N m z => simp [Fz.ans] at nB
      subst hfD hgD
      have : l.both.1 = (l.deliver true false).1 := c2.1
      rw [this]
      exact ⟨rfl, d1, e1, h1⟩
end Go.Proofs.YtoeihlgidakjbaaGreatDoor
namespace Go.Proofs.YtoeihlgidakjbaaGreatDoor
open Go.RowKit Go.Lib
namespace RE
theorem letter_sent (m : RE) (c : Nat) : ((m.letter c).1.sent = m.sent ∨ (m.letter c).1.sent = dataL m.asks) ∧ ((m.letter c).1.agr = m.agr ∨ (c = 97 ∧ (m.letter c).1.agr = m.pd)) := by
  unfold letter
  split
  · exact ⟨.inl rfl, .inl rfl⟩
  · by_cases e97 : c = 97
    · subst e97; exact ⟨.inl rfl, .inr ⟨rfl, rfl⟩⟩
    · have hq : ∀ r : RE × List UInt8, r = m.act c → ((r.1.sent = m.sent ∨ r.1.sent = dataL m.asks) ∧ (r.1.agr = m.agr ∨ (c = 97 ∧ r.1.agr = m.pd))) := by
        intro r hr
        subst hr
        refine ⟨?_, .inl ?_⟩
        · refine act_ind m c (fun r => r.1.sent = m.sent ∨ r.1.sent = dataL m.asks) ?_ ?_ ?_ ?_ ?_ ?_ ?_ ?_ ?_ ?_ ?_ ?_ ?_ ?_ ?_
          all_goals first
            | exact .inl rfl
            | exact .inr rfl
            | skip
          left
          show (m.nak).1.sent = m.sent
          unfold nak
          obtain ⟨x, y, z, e, _⟩ := nakItems_eq (m.bad ((itemsL m.pd).getD [])) m
          simp only [e]
        · by_cases e110 : c = 110
          · subst e110
            show (m.nak).1.agr = m.agr
            unfold nak
            obtain ⟨x, y, z, e, _⟩ := nakItems_eq (m.bad ((itemsL m.pd).getD [])) m
            simp only [e]
          by_cases e117 : c = 117
          · subst e117; rfl
          by_cases e100 : c = 100
          · subst e100; rfl
          by_cases e98 : c = 98
          · subst e98; rfl
          by_cases e102 : c = 102
          · subst e102; rfl
          by_cases e105 : c = 105
          · subst e105; rfl
          by_cases e116 : c = 116
          · subst e116; rfl
          by_cases e122 : c = 122
          · subst e122; rfl
          by_cases e114 : c = 114
          · subst e114; rfl
          by_cases e101 : c = 101
          · subst e101; rfl
          by_cases e107 : c = 107
          · subst e107; rfl
          by_cases e106 : c = 106
          · subst e106; rfl
          by_cases e111 : c = 111
          · subst e111; rfl
          unfold act
          rw [if_neg e117, if_neg e100, if_neg e98, if_neg e102, if_neg e105, if_neg e116, if_neg e122, if_neg e114, if_neg e101, if_neg e97, if_neg e110, if_neg e107, if_neg e106, if_neg e111]
      exact hq _ rfl
theorem run_sent (l : List Nat) (m : RE) : ((m.run l).1.sent = m.sent ∨ (m.run l).1.sent = dataL m.asks) ∧ ((m.run l).1.agr = m.agr ∨ (97 ∈ l ∧ (m.run l).1.agr = m.pd)) := by
  induction l generalizing m with
  | nil => exact ⟨.inl rfl, .inl rfl⟩
  | cons c l ih =>
    have cf := m.letter_cf c
    obtain ⟨s1, s2⟩ := m.letter_sent c
    obtain ⟨t1, t2⟩ := ih (m.letter c).1
    rw [cf.asks] at t1
    rw [cf.pd] at t2
    refine ⟨?_, ?_⟩
    · rcases t1 with t1 | t1
      · rcases s1 with s1 | s1
        · exact .inl (t1.trans s1)
        · exact .inr (t1.trans s1)
      · exact .inr t1
    · rcases t2 with t2 | t2
      · rcases s2 with s2 | s2
        · exact .inl (t2.trans s2)
        · exact .inr ⟨by simp [s2.1], t2.trans s2.2⟩
      · exact .inr ⟨by simp [t2.1], t2.2⟩
theorem at_sent (m : RE) (ev : Nat) : (m.at_ ev).1.sent = m.sent ∨ (m.at_ ev).1.sent = dataL m.asks := (run_sent _ m).1
theorem at_agr (m : RE) (ev : Nat) (hev : ev < 18) (h8 : ev ≠ 8) (hs : m.st < 10) : (m.at_ ev).1.agr = m.agr := by
  rcases (run_sent ((rowT ev).getD m.st []) m).2 with h | h
  · exact h
  · exact absurd h.1 (no_ack ev hev h8 m.st hs)
theorem at_agr8 (m : RE) : (m.at_ 8).1.agr = m.agr ∨ (m.at_ 8).1.agr = m.pd := (run_sent _ m).2.imp (fun h => h) (fun h => h.2)
theorem runP_nak (l : List Nat) (m : RE) : ∀ p ∈ m.runP l, p.c = 3 → 110 ∈ l := by
  induction l generalizing m with
  | nil => intro p h; cases h
  | cons c l ih =>
    intro p h hc
    rcases List.mem_append.1 (show p ∈ m.letterP c ++ (m.letter c).1.runP l from h) with q | q
    · unfold letterP at q
      split at q
      · cases q
      · unfold actP at q
        split at q
        · obtain rfl := List.mem_singleton.1 q; simp at hc
        split at q
        · obtain rfl := List.mem_singleton.1 q; simp at hc
        split at q
        · obtain rfl := List.mem_singleton.1 q; simp at hc
        split at q
        · rename_i e; simp [e]
        split at q
        · obtain rfl := List.mem_singleton.1 q; simp at hc
        split at q
        · obtain rfl := List.mem_singleton.1 q; simp at hc
        split at q
        · obtain rfl := List.mem_singleton.1 q; simp at hc
        · cases q
    · exact List.mem_cons_of_mem _ (ih _ p q hc)
theorem no_nak : ∀ ev, ev < 18 → ev ≠ 9 → ∀ st, st < 10 → 110 ∉ (rowT ev).getD st [] := by decide +kernel
theorem atP_nak {m : RE} (ev : Nat) (hev : ev < 18) (h9 : ev ≠ 9) (hs : m.st < 10) : ∀ p ∈ m.atP ev, p.c ≠ 3 := fun p hp e => no_nak ev hev h9 m.st hs (runP_nak _ m p hp e)
end RE
structure Fx (x y : RE) (out : List Pq) : Prop where
  xo : x.Ok
  yo : y.Ok
  g0 : x.k0 ∈ y.a0
  g1 : x.k1 ∈ y.a1
  g2 : x.k2 ∈ y.a2
  w0 : x.k0 ∈ x.w0
  w1 : x.k1 ∈ x.w1
  w2 : x.k2 ∈ x.w2
  hm : x.mag ∉ y.mg
  sent : x.sent = dataL x.asks
  agr : y.agr = dataL x.asks
  rq : ∀ p ∈ out, p.c = 1 → p.s = dataL x.asks
  nak : ∀ p ∈ out, p.c ≠ 3
structure XS (x x' : RE) (ps : List Pq) : Prop where
  ok : x'.Ok
  k0 : x'.k0 = x.k0
  k1 : x'.k1 = x.k1
  k2 : x'.k2 = x.k2
  w0 : x'.w0 = x.w0
  w1 : x'.w1 = x.w1
  w2 : x'.w2 = x.w2
  a0 : x'.a0 = x.a0
  a1 : x'.a1 = x.a1
  a2 : x'.a2 = x.a2
  mg : x'.mg = x.mg
  sent : x'.sent = x.sent ∨ x'.sent = dataL x.asks
  req : ∀ p ∈ ps, p.c = 1 → p.s = dataL x.asks
  nak : ∀ p ∈ ps, p.c ≠ 3
theorem XS.asks {x x' : RE} {ps : List Pq} (h : XS x x' ps) : x'.asks = x.asks := by unfold RE.asks RE.mag; rw [h.k0, h.k1, h.k2, h.mg]
theorem XS.mag {x x' : RE} {ps : List Pq} (h : XS x x' ps) : x'.mag = x.mag := by unfold RE.mag; rw [h.mg]
theorem XS.at_ {m x : RE} (hc : RE.Cf x m) (hs : m.sent = x.sent) (ok : m.Ok) (ev : Nat) (hev : ev < 18) (h9 : ev ≠ 9) : XS x (m.at_ ev).1 (m.atP ev) := by
  have cf := hc.trans (m.at_cf ev)
  refine ⟨RE.run_ok ok _, cf.k0, cf.k1, cf.k2, cf.w0, cf.w1, cf.w2, cf.a0, cf.a1, cf.a2, cf.mg, ?_, fun p hp e => ?_, RE.atP_nak ev hev h9 ok.st⟩
  · rcases m.at_sent ev with h | h
    · exact .inl (h.trans hs)
    · exact .inr (by rw [h, hc.asks])
  · rw [RE.atP_req ev p hp e, hc.asks]
theorem Fx.event {x y : RE} {out : List Pq} (h : Fx x y out) (k : Int) : Fx (x.event k).1 y (out ++ x.eventP k) := by
  have ht : ∀ t, ({ x with tim := t } : RE).Ok := fun t => by
    obtain ⟨st, id, odd, k0, k1, k2, pc, pi, pd, mg, ms, aa, ww⟩ := h.xo
    exact ⟨st, id, odd, k0, k1, k2, pc, pi, pd, mg, ms, aa, ww⟩
  have hs : XS x (x.event k).1 (x.eventP k) := RE.event_ind x k (fun n ps => XS x n ps) (fun t => ⟨ht t, rfl, rfl, rfl, rfl, rfl, rfl, rfl, rfl, rfl, rfl, .inl rfl, fun _ q => (nomatch q), fun _ q => (nomatch q)⟩) (fun ev h1 h4 _ => XS.at_ (RE.Cf.refl x) rfl h.xo ev (by omega) (by omega)) (fun ev t _ hh _ _ => XS.at_ (x := x) (m := { x with tim := t }) ⟨rfl, rfl, rfl, rfl, rfl, rfl, rfl, rfl, rfl, rfl, rfl, rfl, rfl⟩ rfl (ht t) ev (by omega) (by omega))
  refine ⟨hs.ok, h.yo, by rw [hs.k0]; exact h.g0, by rw [hs.k1]; exact h.g1, by rw [hs.k2]; exact h.g2, by rw [hs.k0, hs.w0]; exact h.w0, by rw [hs.k1, hs.w1]; exact h.w1, by rw [hs.k2, hs.w2]; exact h.w2, by rw [hs.mag]; exact h.hm, ?_, by rw [hs.asks]; exact h.agr, ?_, mem_app h.nak hs.nak⟩
  · rw [hs.asks]; exact hs.sent.elim (fun e => e.trans h.sent) id
  · rw [hs.asks]; exact mem_app h.rq hs.req
structure YS (y y' : RE) (D : List UInt8) : Prop where
  ok : y'.Ok
  a0 : y'.a0 = y.a0
  a1 : y'.a1 = y.a1
  a2 : y'.a2 = y.a2
  mg : y'.mg = y.mg
  agr : y'.agr = y.agr ∨ y'.agr = D
theorem Fx.ys {x y y' : RE} {out : List Pq} (h : Fx x y out) (s : YS y y' (dataL x.asks)) : Fx x y' out :=
  ⟨h.xo, s.ok, by rw [s.a0]; exact h.g0, by rw [s.a1]; exact h.g1, by rw [s.a2]; exact h.g2, h.w0, h.w1, h.w2, by rw [s.mg]; exact h.hm, h.sent, s.agr.elim (fun e => e.trans h.agr) id, h.rq, h.nak⟩
theorem YS.at_ {m y : RE} {D : List UInt8} (hc : RE.Cf y m) (hs : m.agr = y.agr) (ok : m.Ok) (ev : Nat) (hev : ev < 18) (h8 : ev ≠ 8) : YS y (m.at_ ev).1 D := by
  have cf := hc.trans (m.at_cf ev)
  exact ⟨RE.run_ok ok _, cf.a0, cf.a1, cf.a2, cf.mg, .inl ((m.at_agr ev hev h8 ok.st).trans hs)⟩
theorem ys_event {y : RE} (ok : y.Ok) (k : Int) (D : List UInt8) : YS y (y.event k).1 D := by
  have ht : ∀ t, ({ y with tim := t } : RE).Ok := fun t => by
    obtain ⟨st, id, odd, k0, k1, k2, pc, pi, pd, mg, ms, aa, ww⟩ := ok
    exact ⟨st, id, odd, k0, k1, k2, pc, pi, pd, mg, ms, aa, ww⟩
  exact RE.event_ind y k (fun n _ => YS y n D) (fun t => ⟨ht t, rfl, rfl, rfl, rfl, .inl rfl⟩) (fun ev h1 h4 _ => YS.at_ (RE.Cf.refl y) rfl ok ev (by omega) (by omega)) (fun ev t _ hh _ _ => YS.at_ (y := y) (m := { y with tim := t }) ⟨rfl, rfl, rfl, rfl, rfl, rfl, rfl, rfl, rfl, rfl, rfl, rfl, rfl⟩ rfl (ht t) ev (by omega) (by omega))
theorem xs_hear {m : RE} (ok : m.Ok) {p : Pq} (hp : p.Good) (h3 : p.c ≠ 3) (hb : p.c = 1 → ∀ l, itemsL p.s = some l → m.bad l = []) : XS m (m.hear p) (m.hearP p) ∧ YS m (m.hear p) (if p.c = 1 then p.s else m.agr) := by
  have hg := RE.got1_ok ok hp
  have cf : ∀ {n : RE}, n.w0 = m.w0 → n.w1 = m.w1 → n.w2 = m.w2 → n.a0 = m.a0 → n.a1 = m.a1 → n.a2 = m.a2 → n.k0 = m.k0 → n.k1 = m.k1 → n.k2 = m.k2 → n.mg = m.mg → n.sent = m.sent → n.agr = m.agr → n.Ok → ∀ ev, ev < 18 → ev ≠ 9 → ev ≠ 8 → XS m (n.at_ ev).1 (n.atP ev) ∧ YS m (n.at_ ev).1 (if p.c = 1 then p.s else m.agr) := by
    intro n b1 b2 b3 b4 b5 b6 b7 b8 b9 b10 b11 b12 b13 ev hev h9 h8
    have c := n.at_cf ev
    have ha : n.asks = m.asks := by unfold RE.asks RE.mag; rw [b7, b8, b9, b10]
    refine ⟨⟨RE.run_ok b13 _, c.k0.trans b7, c.k1.trans b8, c.k2.trans b9, c.w0.trans b1, c.w1.trans b2, c.w2.trans b3, c.a0.trans b4, c.a1.trans b5, c.a2.trans b6, c.mg.trans b10, ?_, fun q hq e => ?_, RE.atP_nak ev hev h9 b13.st⟩, ⟨RE.run_ok b13 _, c.a0.trans b4, c.a1.trans b5, c.a2.trans b6, c.mg.trans b10, .inl ((n.at_agr ev hev h8 b13.st).trans b12)⟩⟩
    · rcases n.at_sent ev with h | h
      · exact .inl (h.trans b11)
      · exact .inr (by rw [h, ha])
    · rw [RE.atP_req ev q hq e, ha]
  refine RE.receive_ind (m.got1 p) (fun n ps => XS m n ps ∧ YS m n (if p.c = 1 then p.s else m.agr)) ⟨⟨hg, rfl, rfl, rfl, rfl, rfl, rfl, rfl, rfl, rfl, rfl, .inl rfl, fun _ q => (nomatch q), fun _ q => (nomatch q)⟩, ⟨hg, rfl, rfl, rfl, rfl, .inl rfl⟩⟩ (fun l hc hi _ _ => ?_) (fun l n hc hi _ hbad _ _ => absurd (hb hc l hi) hbad) (fun l n t hc hi _ hbad _ _ _ _ => absurd (hb hc l hi) hbad) (fun _ _ _ => @cf (m.got1 p) rfl rfl rfl rfl rfl rfl rfl rfl rfl rfl rfl rfl hg 10 (by omega) (by omega) (by omega)) (fun l hc _ _ _ => absurd hc h3) (fun ev hev => @cf (m.got1 p) rfl rfl rfl rfl rfl rfl rfl rfl rfl rfl rfl rfl hg ev (by omega) (by omega) (by omega))
  have hc' : p.c = 1 := hc
  have c := (m.got1 p).at_cf 8
  refine ⟨⟨RE.run_ok hg _, c.k0, c.k1, c.k2, c.w0, c.w1, c.w2, c.a0, c.a1, c.a2, c.mg, (m.got1 p).at_sent 8, fun q hq e => RE.atP_req (m := m.got1 p) 8 q hq e, RE.atP_nak 8 (by omega) (by omega) hg.st⟩, ⟨RE.run_ok hg _, c.a0, c.a1, c.a2, c.mg, ?_⟩⟩
  rw [if_pos hc']
  exact (m.got1 p).at_agr8
theorem Fx.good {x y : RE} {out : List Pq} (h : Fx x y out) {p : Pq} (hs : p.s = dataL x.asks) : ∀ l, itemsL p.s = some l → y.bad l = [] := by
  intro l hl
  rw [hs, h.xo.items] at hl
  obtain rfl := Option.some.inj hl
  rw [RE.asks_bad_eq y x h.hm, if_pos h.g0, if_pos h.g1, if_pos h.g2]; rfl
structure Fix (l : Ln) : Prop where
  ab : Fx l.a l.b l.toB
  ba : Fx l.b l.a l.toA
theorem Fx.xs {x y x' : RE} {out ps : List Pq} (h : Fx x y out) (hs : XS x x' ps) : Fx x' y (out ++ ps) := by
  refine ⟨hs.ok, h.yo, by rw [hs.k0]; exact h.g0, by rw [hs.k1]; exact h.g1, by rw [hs.k2]; exact h.g2, by rw [hs.k0, hs.w0]; exact h.w0, by rw [hs.k1, hs.w1]; exact h.w1, by rw [hs.k2, hs.w2]; exact h.w2, by rw [hs.mag]; exact h.hm, ?_, by rw [hs.asks]; exact h.agr, ?_, mem_app h.nak hs.nak⟩
  · rw [hs.asks]; exact hs.sent.elim (fun e => e.trans h.sent) id
  · rw [hs.asks]; exact mem_app h.rq hs.req
theorem Fx.sub {x y : RE} {out out' : List Pq} (h : Fx x y out) (hs : ∀ p ∈ out', p ∈ out) : Fx x y out' := ⟨h.xo, h.yo, h.g0, h.g1, h.g2, h.w0, h.w1, h.w2, h.hm, h.sent, h.agr, fun p hp => h.rq p (hs p hp), fun p hp => h.nak p (hs p hp)⟩
theorem Fix.swap {l : Ln} (h : Fix l) : Fix l.swap := ⟨h.ba, h.ab⟩
namespace Ln
theorem tell_swap (l : Ln) (k : Int) : l.tell false k = (l.swap.tell true k).swap := rfl
end Ln
theorem Fix.tellA {l : Ln} (h : Fix l) (k : Int) : Fix (l.tell true k) := ⟨h.ab.event k, h.ba.ys (ys_event h.ab.xo k _)⟩
theorem Fix.tell {l : Ln} (h : Fix l) (first : Bool) (k : Int) : Fix (l.tell first k) := by
  cases first
  · rw [l.tell_swap]; exact (h.swap.tellA k).swap
  · exact h.tellA k
theorem Fix.deliverA {l : Ln} {n : Nat} (h : Fix l) (ok : l.Ok n) (lost : Bool) : Fix (l.deliver true lost).1 := by
  obtain ⟨a, b, toB, toA⟩ := l
  cases toA with
  | nil => exact h
  | cons p r =>
    have hp : p.Good := ok.pA p (by simp)
    cases lost
    · have hb : p.c = 1 → ∀ l, itemsL p.s = some l → a.bad l = [] := fun e => h.ba.good (h.ba.rq p (by simp) e)
      obtain ⟨s1, s2⟩ := xs_hear h.ab.xo hp (h.ba.nak p (by simp)) hb
      refine ⟨h.ab.xs s1, (h.ba.sub (fun q hq => List.mem_cons_of_mem _ hq)).ys ⟨s2.ok, s2.a0, s2.a1, s2.a2, s2.mg, ?_⟩⟩
      rcases s2.agr with e | e
      · exact .inl e
      · by_cases hc : p.c = 1
        · rw [if_pos hc] at e; exact .inr (e.trans (h.ba.rq p (by simp) hc))
        · rw [if_neg hc] at e; exact .inl e
    · exact ⟨h.ab, h.ba.sub (fun q hq => List.mem_cons_of_mem _ hq)⟩
theorem Ln.Ok.swap {l : Ln} {n : Nat} (h : l.Ok n) : l.swap.Ok n := ⟨h.b, h.a, h.gb, h.ga, h.pA, h.pB, h.lA, h.lB⟩
theorem Fix.deliver {l : Ln} {n : Nat} (h : Fix l) (ok : l.Ok n) (first lost : Bool) : Fix (l.deliver first lost).1 := by
  cases first
  · rw [l.deliver_swap]; exact (h.swap.deliverA ok.swap lost).swap
  · exact h.deliverA ok lost
end Go.Proofs.YtoeihlgidakjbaaGreatDoor
namespace Go.Proofs.YtoeihlgidakjbaaGreatDoor
open Go.RowKit Go.Lib
def isReq (p : Pq) : Bool := p.c == 1
theorem isReq_iff {p : Pq} : isReq p = true ↔ p.c = 1 := by unfold isReq; simp
namespace RE
def rowOne (l : List Nat) (st st' : Nat) (ev : Nat) : Bool :=
  Nat.ble (l.count 114 + l.count 101) 1 && (!(l.contains 114) || (st' != 7 && st' != 9)) && (ev == 10 || !(st' == 7 || st' == 9) || st == 7 || st == 9)
theorem rows_one : ((List.range 18).all fun ev => (List.range 10).all fun st => rowOne ((rowT ev).getD st []) st (((rowT ev).getD st []).foldl stL st) ev) = true := by decide +kernel
theorem row_one (ev : Nat) (hev : ev < 18) (st : Nat) (hs : st < 10) : ((rowT ev).getD st []).count 114 + ((rowT ev).getD st []).count 101 ≤ 1 ∧ (114 ∈ (rowT ev).getD st [] → ((rowT ev).getD st []).foldl stL st ≠ 7 ∧ ((rowT ev).getD st []).foldl stL st ≠ 9) ∧ (ev ≠ 10 → (((rowT ev).getD st []).foldl stL st = 7 ∨ ((rowT ev).getD st []).foldl stL st = 9) → st = 7 ∨ st = 9) := by
  have h1 := List.all_eq_true.1 rows_one ev (List.mem_range.2 hev)
  have h2 := List.all_eq_true.1 h1 st (List.mem_range.2 hs)
  unfold rowOne at h2
  generalize (rowT ev).getD st [] = l at *
  generalize l.foldl stL st = s' at *
  simp only [Bool.and_eq_true, Bool.or_eq_true, Nat.ble_eq, Bool.not_eq_true', bne_iff_ne, beq_iff_eq, Bool.or_eq_false_iff, beq_eq_false_iff_ne] at h2
  obtain ⟨⟨a, b⟩, c⟩ := h2
  refine ⟨a, fun hm => ?_, fun he hs' => ?_⟩
  · rcases b with b | b
    · have : l.contains 114 = true := List.contains_iff_mem.2 hm
      rw [this] at b; cases b
    · exact b
  · rcases c with ((c | c) | c) | c
    · exact absurd c he
    · omega
    · exact .inl c
    · exact .inr c
theorem letter_num (m : RE) (c : Nat) : (c ≠ 114 → c ≠ 101 → (m.letter c).1.id = m.id) ∧ (c ≠ 114 → (m.letter c).1.sid = m.sid ∧ (m.letter c).1.sent = m.sent ∧ (m.letterP c).filter isReq = []) ∧ (c = 101 → (m.letter c).1.id = (m.id + 1) % 256) ∧
    (c = 114 → (m.letter c).1.id = (m.id + 1) % 256 ∧ (m.letter c).1.sid = (((m.id + 1) % 256 : Nat) : Int) ∧ (m.letter c).1.sent = dataL m.asks ∧ (m.letterP c).filter isReq = [⟨1, (m.id + 1) % 256, dataL m.asks⟩]) := by
  by_cases e114 : c = 114
  · subst e114
    exact ⟨fun h => absurd rfl h, fun h => absurd rfl h, fun h => absurd h (by decide), fun _ => ⟨rfl, rfl, rfl, rfl⟩⟩
  by_cases e101 : c = 101
  · subst e101
    exact ⟨fun _ h => absurd rfl h, fun _ => ⟨rfl, rfl, rfl⟩, fun _ => rfl, fun h => absurd h (by decide)⟩
  have hP : (m.letterP c).filter isReq = [] := by
    unfold letterP actP
    rw [if_neg e114]
    repeat' split
    all_goals rfl
  have hN : m.nak.1.id = m.id ∧ m.nak.1.sid = m.sid ∧ m.nak.1.sent = m.sent := by
    unfold nak
    obtain ⟨x, y, z, e, _⟩ := nakItems_eq (m.bad ((itemsL m.pd).getD [])) m
    simp only [e, and_self]
  have hA : (m.letter c).1.id = m.id ∧ (m.letter c).1.sid = m.sid ∧ (m.letter c).1.sent = m.sent := by
    unfold letter
    split
    · exact ⟨rfl, rfl, rfl⟩
    · by_cases e110 : c = 110
      · subst e110; exact hN
      by_cases e117 : c = 117
      · subst e117; exact ⟨rfl, rfl, rfl⟩
      by_cases e100 : c = 100
      · subst e100; exact ⟨rfl, rfl, rfl⟩
      by_cases e98 : c = 98
      · subst e98; exact ⟨rfl, rfl, rfl⟩
      by_cases e102 : c = 102
      · subst e102; exact ⟨rfl, rfl, rfl⟩
      by_cases e105 : c = 105
      · subst e105; exact ⟨rfl, rfl, rfl⟩
      by_cases e116 : c = 116
      · subst e116; exact ⟨rfl, rfl, rfl⟩
      by_cases e122 : c = 122
      · subst e122; exact ⟨rfl, rfl, rfl⟩
      by_cases e97 : c = 97
      · subst e97; exact ⟨rfl, rfl, rfl⟩
      by_cases e107 : c = 107
      · subst e107; exact ⟨rfl, rfl, rfl⟩
      by_cases e106 : c = 106
      · subst e106; exact ⟨rfl, rfl, rfl⟩
      by_cases e111 : c = 111
      · subst e111; exact ⟨rfl, rfl, rfl⟩
      unfold act
      rw [if_neg e117, if_neg e100, if_neg e98, if_neg e102, if_neg e105, if_neg e116, if_neg e122, if_neg e114, if_neg e101, if_neg e97, if_neg e110, if_neg e107, if_neg e106, if_neg e111]
      exact ⟨rfl, rfl, rfl⟩
  exact ⟨fun _ _ => hA.1, fun _ => ⟨hA.2.1, hA.2.2, hP⟩, fun h => absurd h e101, fun h => absurd h e114⟩
theorem run_num (l : List Nat) (m : RE) (h : l.count 114 + l.count 101 ≤ 1) :
    (114 ∉ l → (m.run l).1.sid = m.sid ∧ (m.run l).1.sent = m.sent ∧ (m.runP l).filter isReq = []) ∧
    (114 ∈ l → (m.run l).1.id = (m.id + 1) % 256 ∧ (m.run l).1.sid = (((m.id + 1) % 256 : Nat) : Int) ∧ (m.run l).1.sent = dataL m.asks ∧ (m.runP l).filter isReq = [⟨1, (m.id + 1) % 256, dataL m.asks⟩]) ∧
    ((m.run l).1.id = m.id ∨ (m.run l).1.id = (m.id + 1) % 256) ∧ (l.count 114 + l.count 101 = 0 → (m.run l).1.id = m.id) := by
  induction l generalizing m with
  | nil => exact ⟨fun _ => ⟨rfl, rfl, rfl⟩, fun q => (nomatch q), .inl rfl, fun _ => rfl⟩
  | cons c l ih =>
    have hcf := m.letter_cf c
    obtain ⟨n1, n2, n3, n4⟩ := m.letter_num c
    have hf : (m.runP (c :: l)).filter isReq = (m.letterP c).filter isReq ++ ((m.letter c).1.runP l).filter isReq := by
      show (m.letterP c ++ (m.letter c).1.runP l).filter isReq = _
      rw [List.filter_append]
    have hr : m.run (c :: l) = (((m.letter c).1.run l).1, (m.letter c).2 ++ ((m.letter c).1.run l).2) := rfl
    by_cases e114 : c = 114
    · subst e114
      obtain ⟨d1, d2, d3, d4⟩ := n4 rfl
      have h0 : l.count 114 + l.count 101 = 0 := by simp at h; omega
      have hn : 114 ∉ l := fun q => by have := List.count_pos_iff.2 q; omega
      obtain ⟨i1, _, _, i4⟩ := ih (m.letter 114).1 (by omega)
      obtain ⟨j1, j2, j3⟩ := i1 hn
      refine ⟨fun q => absurd (List.mem_cons_self ..) q, fun _ => ⟨?_, ?_, ?_, ?_⟩, .inr ?_, fun q => by simp at q⟩
      · rw [hr]; show ((m.letter 114).1.run l).1.id = _; rw [i4 h0, d1]
      · rw [hr]; show ((m.letter 114).1.run l).1.sid = _; rw [j1, d2]
      · rw [hr]; show ((m.letter 114).1.run l).1.sent = _; rw [j2, d3]
      · rw [hf, d4, j3]; rfl
      · rw [hr]; show ((m.letter 114).1.run l).1.id = _; rw [i4 h0, d1]
    · obtain ⟨b1, b2, b3⟩ := n2 e114
      by_cases e101 : c = 101
      · subst e101
        have h0 : l.count 114 + l.count 101 = 0 := by simp at h; omega
        have hn : 114 ∉ l := fun q => by have := List.count_pos_iff.2 q; omega
        obtain ⟨i1, _, _, i4⟩ := ih (m.letter 101).1 (by omega)
        obtain ⟨j1, j2, j3⟩ := i1 hn
        refine ⟨fun _ => ⟨?_, ?_, ?_⟩, fun q => by simp [hn] at q, .inr ?_, fun q => by simp at q⟩
        · rw [hr]; show ((m.letter 101).1.run l).1.sid = _; rw [j1, b1]
        · rw [hr]; show ((m.letter 101).1.run l).1.sent = _; rw [j2, b2]
        · rw [hf, b3, j3]; rfl
        · rw [hr]; show ((m.letter 101).1.run l).1.id = _; rw [i4 h0, n3 rfl]
      · have hid := n1 e114 e101
        have hcnt : (c :: l).count 114 + (c :: l).count 101 = l.count 114 + l.count 101 := by
          rw [List.count_cons_of_ne e114, List.count_cons_of_ne e101]
        rw [hcnt] at h
        obtain ⟨i1, i2, i3, i4⟩ := ih (m.letter c).1 h
        rw [hid, hcf.asks] at i2
        rw [hid] at i3 i4
        refine ⟨fun q => ?_, fun q => ?_, ?_, fun q => ?_⟩
        · obtain ⟨j1, j2, j3⟩ := i1 (fun z => q (List.mem_cons_of_mem _ z))
          rw [hr, hf, b3, j3]
          exact ⟨j1.trans b1, j2.trans b2, rfl⟩
        · obtain ⟨j1, j2, j3, j4⟩ := i2 (by
            rcases List.mem_cons.1 q with z | z
            · exact absurd z.symm e114
            · exact z)
          rw [hr, hf, b3, j4]
          exact ⟨j1, j2, j3, rfl⟩
        · rw [hr]; exact i3
        · rw [hr]; exact i4 (by omega)
end RE
def IsForm (w0 w1 w2 : List Nat) (s : List UInt8) : Prop := ∃ k0 k1 k2 g, itemsL s = some [(1, k0), (2, k1), (3, k2), (4, g)] ∧ k0 ∈ w0 ∧ k1 ∈ w1 ∧ k2 ∈ w2
def AccOk (a0 a1 a2 : List Nat) (s : List UInt8) : Prop := ∀ k0 k1 k2 g, itemsL s = some [(1, k0), (2, k1), (3, k2), (4, g)] → k0 ∈ a0 ∧ k1 ∈ a1 ∧ k2 ∈ a2
structure Idd (x y : RE) (out back : List Pq) (c : Nat) : Prop where
  xo : x.Ok
  idc : x.id ≤ c
  sidle : x.sid ≤ (x.id : Int)
  srt : (out.filter isReq).Pairwise (fun p q => p.d < q.d)
  rle : ∀ p ∈ out, p.c = 1 → (p.d : Int) ≤ x.sid
  rlast : ∀ p ∈ out, p.c = 1 → (p.d : Int) = x.sid → p.s = x.sent
  ack : ∀ q ∈ back, q.c = 2 → (q.d : Int) ≤ x.sid ∧ (∀ p ∈ out, p.c = 1 → q.d < p.d) ∧ ((q.d : Int) = x.sid → y.agr = q.s)
  st : x.st = 7 ∨ x.st = 9 → y.agr = x.sent ∧ (∀ p ∈ out, p.c ≠ 1) ∧ IsForm x.w0 x.w1 x.w2 x.sent
  w0 : x.k0 ∈ x.w0
  w1 : x.k1 ∈ x.w1
  w2 : x.k2 ∈ x.w2
  form : x.sid < 0 ∨ IsForm x.w0 x.w1 x.w2 x.sent
  acc : AccOk y.a0 y.a1 y.a2 y.agr
theorem form_asks {n : RE} (ok : n.Ok) (w0 : n.k0 ∈ n.w0) (w1 : n.k1 ∈ n.w1) (w2 : n.k2 ∈ n.w2) : IsForm n.w0 n.w1 n.w2 (dataL n.asks) := ⟨n.k0, n.k1, n.k2, n.mag, ok.items, w0, w1, w2⟩
theorem Idd.at_ {x y n : RE} {out back : List Pq} {c : Nat} (h : Idd x y out back c) (hc : c < 255) (ok : n.Ok) (hid : n.id = x.id) (hsid : n.sid = x.sid) (hsent : n.sent = x.sent) (hst : n.st = x.st) (v0 : n.w0 = x.w0) (v1 : n.w1 = x.w1) (v2 : n.w2 = x.w2) (k0 : n.k0 ∈ n.w0) (k1 : n.k1 ∈ n.w1) (k2 : n.k2 ∈ n.w2) (ev : Nat) (hev : ev < 18)
    (h10 : ev = 10 → y.agr = x.sent ∧ (∀ p ∈ out, p.c ≠ 1) ∧ IsForm x.w0 x.w1 x.w2 x.sent) : Idd (n.at_ ev).1 y (out ++ n.atP ev) back (c + 1) := by
  obtain ⟨r1, r2, r3⟩ := RE.row_one ev hev n.st ok.st
  obtain ⟨s1, s2, s3, _⟩ := RE.run_num ((rowT ev).getD n.st []) n r1
  have cf := n.at_cf ev
  have hst' := n.at_st ev
  have hidlt : n.id < 255 := by have := h.idc; omega
  have hmod : (n.id + 1) % 256 = n.id + 1 := Nat.mod_eq_of_lt (by omega)
  rw [hmod] at s2 s3
  have hidc : (n.at_ ev).1.id ≤ c + 1 := by
    have := h.idc
    rcases s3 with q | q
    · have q' : (n.at_ ev).1.id = n.id := q
      omega
    · have q' : (n.at_ ev).1.id = n.id + 1 := q
      omega
  have hKW : (n.at_ ev).1.k0 ∈ (n.at_ ev).1.w0 ∧ (n.at_ ev).1.k1 ∈ (n.at_ ev).1.w1 ∧ (n.at_ ev).1.k2 ∈ (n.at_ ev).1.w2 := by rw [cf.k0, cf.k1, cf.k2, cf.w0, cf.w1, cf.w2]; exact ⟨k0, k1, k2⟩
  have hW : (n.at_ ev).1.w0 = x.w0 ∧ (n.at_ ev).1.w1 = x.w1 ∧ (n.at_ ev).1.w2 = x.w2 := ⟨cf.w0.trans v0, cf.w1.trans v1, cf.w2.trans v2⟩
  by_cases hm : 114 ∈ (rowT ev).getD n.st []
  · obtain ⟨t1, t2, t3, t4⟩ := s2 hm
    have t1' : (n.at_ ev).1.id = n.id + 1 := t1
    have t2' : (n.at_ ev).1.sid = ((n.id + 1 : Nat) : Int) := t2
    have t3' : (n.at_ ev).1.sent = dataL n.asks := t3
    have t4' : (n.atP ev).filter isReq = [⟨1, n.id + 1, dataL n.asks⟩] := t4
    have hreq : ∀ p ∈ n.atP ev, p.c = 1 → p = ⟨1, n.id + 1, dataL n.asks⟩ := fun p hp e => by
      have : p ∈ (n.atP ev).filter isReq := List.mem_filter.2 ⟨hp, isReq_iff.2 e⟩
      rw [t4'] at this
      exact List.mem_singleton.1 this
    have hold : ∀ p ∈ out, p.c = 1 → p.d < n.id + 1 := fun p hp e => by
      have := h.rle p hp e; have := h.sidle; omega
    refine ⟨RE.run_ok ok _, hidc, by rw [t1', t2']; exact Int.le_refl _, ?_, ?_, ?_, ?_, ?_, hKW.1, hKW.2.1, hKW.2.2, .inr ?_, h.acc⟩
    · rw [List.filter_append, t4', List.pairwise_append]
      refine ⟨h.srt, by simp, fun p hp q hq => ?_⟩
      obtain rfl := List.mem_singleton.1 hq
      obtain ⟨hp1, hp2⟩ := List.mem_filter.1 hp
      exact hold p hp1 (isReq_iff.1 hp2)
    · intro p hp e
      rw [t2']
      rcases List.mem_append.1 hp with q | q
      · have := hold p q e; omega
      · rw [hreq p q e]; exact Int.le_refl _
    · intro p hp e he
      rw [t2'] at he
      rw [t3']
      rcases List.mem_append.1 hp with q | q
      · have := hold p q e; omega
      · rw [hreq p q e]
    · intro q hq e
      obtain ⟨a1, a2, a3⟩ := h.ack q hq e
      have hql : q.d < n.id + 1 := by have := h.sidle; omega
      rw [t2']
      refine ⟨by omega, fun p hp e1 => ?_, fun e1 => by omega⟩
      rcases List.mem_append.1 hp with z | z
      · exact a2 p z e1
      · rw [hreq p z e1]; exact hql
    · intro e
      rw [hst'] at e
      have := r2 hm
      omega
    · rw [t3', hW.1, hW.2.1, hW.2.2, ← v0, ← v1, ← v2]; exact form_asks ok k0 k1 k2
  · obtain ⟨t1, t2, t3⟩ := s1 hm
    have t1' : (n.at_ ev).1.sid = x.sid := t1.trans hsid
    have t2' : (n.at_ ev).1.sent = x.sent := t2.trans hsent
    have t3' : (n.atP ev).filter isReq = [] := t3
    have hnr : ∀ p ∈ n.atP ev, p.c ≠ 1 := fun p hp e => by
      have : p ∈ (n.atP ev).filter isReq := List.mem_filter.2 ⟨hp, isReq_iff.2 e⟩
      rw [t3'] at this
      cases this
    have hidge : n.id ≤ (n.at_ ev).1.id := by
      rcases s3 with q | q
      · exact Nat.le_of_eq (show n.id = (n.at_ ev).1.id from q.symm)
      · have q' : (n.at_ ev).1.id = n.id + 1 := q
        omega
    refine ⟨RE.run_ok ok _, hidc, by rw [t1']; have := h.sidle; omega, ?_, ?_, ?_, ?_, ?_, hKW.1, hKW.2.1, hKW.2.2, ?_, h.acc⟩
    · rw [List.filter_append, t3', List.append_nil]; exact h.srt
    · intro p hp e
      rw [t1']
      rcases List.mem_append.1 hp with q | q
      · exact h.rle p q e
      · exact absurd e (hnr p q)
    · intro p hp e he
      rw [t1'] at he
      rw [t2']
      rcases List.mem_append.1 hp with q | q
      · exact h.rlast p q e he
      · exact absurd e (hnr p q)
    · intro q hq e
      obtain ⟨a1, a2, a3⟩ := h.ack q hq e
      rw [t1']
      refine ⟨a1, fun p hp e1 => ?_, a3⟩
      rcases List.mem_append.1 hp with z | z
      · exact a2 p z e1
      · exact absurd e1 (hnr p z)
    · intro e
      rw [hst'] at e
      rw [t2', hW.1, hW.2.1, hW.2.2]
      have key : y.agr = x.sent ∧ (∀ p ∈ out, p.c ≠ 1) ∧ IsForm x.w0 x.w1 x.w2 x.sent := by
        by_cases h1 : ev = 10
        · exact h10 h1
        · exact h.st (by have := r3 h1 e; rw [← hst]; exact this)
      exact ⟨key.1, mem_app key.2.1 hnr, key.2.2⟩
    · rw [t1', t2', hW.1, hW.2.1, hW.2.2]; exact h.form
end Go.Proofs.YtoeihlgidakjbaaGreatDoor
namespace Go.Proofs.YtoeihlgidakjbaaGreatDoor
open Go.RowKit Go.Lib
namespace RE
theorem run_agr (l : List Nat) (m : RE) (h : 97 ∈ l) : (m.run l).1.agr = m.pd := by
  induction l generalizing m with
  | nil => cases h
  | cons c l ih =>
    have cf := m.letter_cf c
    by_cases hl : 97 ∈ l
    · have := ih (m.letter c).1 hl
      rw [cf.pd] at this
      exact this
    · have hc : c = 97 := by
        rcases List.mem_cons.1 h with q | q
        · exact q.symm
        · exact absurd q hl
      subst hc
      rcases (run_sent l (m.letter 97).1).2 with q | q
      · exact q.trans rfl
      · exact absurd q.1 hl
def KW (m : RE) : Prop := m.k0 ∈ m.w0 ∧ m.k1 ∈ m.w1 ∧ m.k2 ∈ m.w2
structure Tw (m n : RE) : Prop where
  id : n.id = m.id
  sid : n.sid = m.sid
  sent : n.sent = m.sent
  st : n.st = m.st
  agr : n.agr = m.agr
  w0 : n.w0 = m.w0
  w1 : n.w1 = m.w1
  w2 : n.w2 = m.w2
  a0 : n.a0 = m.a0
  a1 : n.a1 = m.a1
  a2 : n.a2 = m.a2
  kw : n.KW
theorem take1_tw {m : RE} (h : m.KW) (x : Nat × Nat) : Tw m (m.take1 x) := by
  unfold take1
  split
  · exact ⟨rfl, rfl, rfl, rfl, rfl, rfl, rfl, rfl, rfl, rfl, rfl, h⟩
  · split
    · rename_i hw
      unfold ask
      unfold want at hw
      split
      · rename_i e; rw [if_pos e] at hw; exact ⟨rfl, rfl, rfl, rfl, rfl, rfl, rfl, rfl, rfl, rfl, rfl, hw, h.2.1, h.2.2⟩
      · rename_i e
        rw [if_neg e] at hw
        split
        · rename_i e; rw [if_pos e] at hw; exact ⟨rfl, rfl, rfl, rfl, rfl, rfl, rfl, rfl, rfl, rfl, rfl, h.1, hw, h.2.2⟩
        · rename_i e; rw [if_neg e] at hw; exact ⟨rfl, rfl, rfl, rfl, rfl, rfl, rfl, rfl, rfl, rfl, rfl, h.1, h.2.1, hw⟩
    · exact ⟨rfl, rfl, rfl, rfl, rfl, rfl, rfl, rfl, rfl, rfl, rfl, h⟩
theorem takeAll_tw (l : List (Nat × Nat)) {m : RE} (h : m.KW) : Tw m (m.takeAll l) := by
  induction l generalizing m with
  | nil => exact ⟨rfl, rfl, rfl, rfl, rfl, rfl, rfl, rfl, rfl, rfl, rfl, h⟩
  | cons x l ih =>
    have h1 := take1_tw h x
    have h2 := ih h1.kw
    exact ⟨h2.id.trans h1.id, h2.sid.trans h1.sid, h2.sent.trans h1.sent, h2.st.trans h1.st, h2.agr.trans h1.agr, h2.w0.trans h1.w0, h2.w1.trans h1.w1, h2.w2.trans h1.w2, h2.a0.trans h1.a0, h2.a1.trans h1.a1, h2.a2.trans h1.a2, h2.kw⟩
end RE
theorem Idd.mono {x y : RE} {out back : List Pq} {c d : Nat} (h : Idd x y out back c) (hd : c ≤ d) : Idd x y out back d := ⟨h.xo, Nat.le_trans h.idc hd, h.sidle, h.srt, h.rle, h.rlast, h.ack, h.st, h.w0, h.w1, h.w2, h.form, h.acc⟩
theorem Idd.same {x y n : RE} {out back : List Pq} {c : Nat} (h : Idd x y out back c) (ok : n.Ok) (hid : n.id = x.id) (hsid : n.sid = x.sid) (hsent : n.sent = x.sent) (hst : n.st = x.st) (v0 : n.w0 = x.w0) (v1 : n.w1 = x.w1) (v2 : n.w2 = x.w2) (k : n.KW) : Idd n y out back c := by
  refine ⟨ok, by rw [hid]; exact h.idc, by rw [hsid, hid]; exact h.sidle, h.srt, by rw [hsid]; exact h.rle, by rw [hsid, hsent]; exact h.rlast, by rw [hsid]; exact h.ack, by rw [hst, hsent, v0, v1, v2]; exact h.st, k.1, k.2.1, k.2.2, by rw [hsid, hsent, v0, v1, v2]; exact h.form, h.acc⟩
theorem Idd.kw {x y : RE} {out back : List Pq} {c : Nat} (h : Idd x y out back c) : x.KW := ⟨h.w0, h.w1, h.w2⟩
theorem Idd.event {x y : RE} {out back : List Pq} {c : Nat} (h : Idd x y out back c) (hc : c < 255) (k : Int) : Idd (x.event k).1 y (out ++ x.eventP k) back (c + 1) := by
  have ht : ∀ t, ({ x with tim := t } : RE).Ok := fun t => by
    obtain ⟨st, id, odd, k0, k1, k2, pc, pi, pd, mg, ms, aa, ww⟩ := h.xo
    exact ⟨st, id, odd, k0, k1, k2, pc, pi, pd, mg, ms, aa, ww⟩
  exact RE.event_ind x k (fun n ps => Idd n y (out ++ ps) back (c + 1)) (fun t => by
      rw [List.append_nil]; exact (h.same (ht t) rfl rfl rfl rfl rfl rfl rfl h.kw).mono (by omega)) (fun ev h1 h4 _ => h.at_ hc h.xo rfl rfl rfl rfl rfl rfl rfl h.w0 h.w1 h.w2 ev (by omega) (fun e => by omega)) (fun ev t _ hh _ _ => h.at_ (n := { x with tim := t }) hc (ht t) rfl rfl rfl rfl rfl rfl rfl h.w0 h.w1 h.w2 ev (by omega) (fun e => by omega))
theorem Idd.tail {x y : RE} {out back : List Pq} {q : Pq} {c : Nat} (h : Idd x y out (q :: back) c) : Idd x y out back c := ⟨h.xo, h.idc, h.sidle, h.srt, h.rle, h.rlast, fun p hp => h.ack p (List.mem_cons_of_mem _ hp), h.st, h.w0, h.w1, h.w2, h.form, h.acc⟩
theorem Idd.xhear {x y : RE} {out back : List Pq} {q : Pq} {c : Nat} (h : Idd x y out (q :: back) c) (hc : c < 255) (hq : q.Good) : Idd (x.hear q) y (out ++ x.hearP q) back (c + 1) := by
  have h' := h.tail
  have hg : (x.got1 q).Ok := RE.got1_ok h.xo hq
  have hn : ∀ n, ({ x.got1 q with loops := n } : RE).Ok := fun n => by
    obtain ⟨st, id, odd, k0, k1, k2, pc, pi, pd, mg, ms, aa, ww⟩ := hg
    exact ⟨st, id, odd, k0, k1, k2, pc, pi, pd, mg, ms, aa, ww⟩
  have ht : ∀ n t, ({ x.got1 q with loops := n, told := (x.got1 q).told ++ [t] } : RE).Ok := fun n t => by
    obtain ⟨st, id, odd, k0, k1, k2, pc, pi, pd, mg, ms, aa, ww⟩ := hg
    exact ⟨st, id, odd, k0, k1, k2, pc, pi, pd, mg, ms, aa, ww⟩
  refine RE.receive_ind (x.got1 q) (fun n ps => Idd n y (out ++ ps) back (c + 1)) (by rw [List.append_nil]; exact (h'.same hg rfl rfl rfl rfl rfl rfl rfl h.kw).mono (by omega)) (fun _ _ _ _ _ => h'.at_ hc hg rfl rfl rfl rfl rfl rfl rfl h.w0 h.w1 h.w2 8 (by omega) (fun e => by omega)) (fun _ n _ _ _ _ _ _ => h'.at_ (n := { x.got1 q with loops := n }) hc (hn n) rfl rfl rfl rfl rfl rfl rfl h.w0 h.w1 h.w2 9 (by omega) (fun e => by omega)) (fun _ n t _ _ _ _ _ _ _ _ => h'.at_ (n := { x.got1 q with loops := n, told := (x.got1 q).told ++ [t] }) hc (ht n t) rfl rfl rfl rfl rfl rfl rfl h.w0 h.w1 h.w2 4 (by omega) (fun e => by omega)) (fun h2 hpi hpd => ?_) (fun l _ _ _ _ => ?_) (fun ev hev => h'.at_ hc hg rfl rfl rfl rfl rfl rfl rfl h.w0 h.w1 h.w2 ev (by omega) (fun e => by omega))
  · have e1 : q.c = 2 := h2
    have e2 : (q.d : Int) = x.sid := hpi
    have e3 : q.s = x.sent := hpd
    obtain ⟨b1, b2, b3⟩ := h.ack q (List.mem_cons_self ..) e1
    refine h'.at_ hc hg rfl rfl rfl rfl rfl rfl rfl h.w0 h.w1 h.w2 10 (by omega) (fun _ => ⟨(b3 e2).trans e3, fun p hp e => ?_, ?_⟩)
    · have := b2 p hp e; have := h.rle p hp e; omega
    · rcases h.form with f | f
      · omega
      · exact f
  · have tw := RE.takeAll_tw l (m := x.got1 q) h.kw
    exact h'.at_ hc (RE.takeAll_ok l hg) tw.id tw.sid tw.sent tw.st tw.w0 tw.w1 tw.w2 tw.kw.1 tw.kw.2.1 tw.kw.2.2 11 (by omega) (fun e => by omega)
theorem Idd.yb {x y y' : RE} {out back ps : List Pq} {c : Nat} (h : Idd x y out back c) (ha : y'.agr = y.agr) (b0 : y'.a0 = y.a0) (b1 : y'.a1 = y.a1) (b2 : y'.a2 = y.a2) (hp : ∀ q ∈ ps, q.c ≠ 2) : Idd x y' out (back ++ ps) c := by
  refine ⟨h.xo, h.idc, h.sidle, h.srt, h.rle, h.rlast, fun q hq e => ?_, by rw [ha]; exact h.st, h.w0, h.w1, h.w2, h.form, by rw [ha, b0, b1, b2]; exact h.acc⟩
  rcases List.mem_append.1 hq with z | z
  · rw [ha]; exact h.ack q z e
  · exact absurd e (hp q z)
theorem Idd.ynat {x y n m : RE} {out back : List Pq} {c : Nat} (h : Idd x y out back c) (ok : n.Ok) (ha : n.agr = y.agr) (b0 : n.a0 = y.a0) (b1 : n.a1 = y.a1) (b2 : n.a2 = y.a2) (ev : Nat) (hev : ev < 18) (h8 : ev ≠ 8) (hm : m = (n.at_ ev).1) : Idd x m out (back ++ n.atP ev) c := by
  subst hm
  have cf := n.at_cf ev
  exact h.yb ((n.at_agr ev hev h8 ok.st).trans ha) (cf.a0.trans b0) (cf.a1.trans b1) (cf.a2.trans b2) (RE.atP_ack ev hev h8 ok.st)
theorem Idd.yev {x y : RE} {out back : List Pq} {c : Nat} (h : Idd x y out back c) (yo : y.Ok) (k : Int) : Idd x (y.event k).1 out (back ++ y.eventP k) c := by
  have ht : ∀ t, ({ y with tim := t } : RE).Ok := fun t => by
    obtain ⟨st, id, odd, k0, k1, k2, pc, pi, pd, mg, ms, aa, ww⟩ := yo
    exact ⟨st, id, odd, k0, k1, k2, pc, pi, pd, mg, ms, aa, ww⟩
  exact RE.event_ind y k (fun n ps => Idd x n out (back ++ ps) c) (fun t => h.yb rfl rfl rfl rfl (fun _ q => (nomatch q))) (fun ev h1 h4 _ => h.ynat yo rfl rfl rfl rfl ev (by omega) (by omega) rfl) (fun ev t _ hh _ _ => h.ynat (n := { y with tim := t }) (ht t) rfl rfl rfl rfl ev (by omega) (by omega) rfl)
theorem Idd.yhear {x y : RE} {out back : List Pq} {p : Pq} {c : Nat} (h : Idd x y (p :: out) back c) (yo : y.Ok) (ky : y.KW) (hp : p.Good) : Idd x (y.hear p) out (back ++ y.hearP p) c := by
  have hs : (p :: out).filter isReq = if isReq p = true then p :: out.filter isReq else out.filter isReq := List.filter_cons
  have srt' : (out.filter isReq).Pairwise (fun p q => p.d < q.d) := by
    have := h.srt
    rw [hs] at this
    split at this
    · exact (List.pairwise_cons.1 this).2
    · exact this
  have h' : Idd x y out back c := ⟨h.xo, h.idc, h.sidle, srt', fun q hq => h.rle q (List.mem_cons_of_mem _ hq), fun q hq => h.rlast q (List.mem_cons_of_mem _ hq), fun q hq e => ⟨(h.ack q hq e).1, fun r hr => (h.ack q hq e).2.1 r (List.mem_cons_of_mem _ hr), (h.ack q hq e).2.2⟩, fun e => ⟨(h.st e).1, fun q hq => (h.st e).2.1 q (List.mem_cons_of_mem _ hq), (h.st e).2.2⟩, h.w0, h.w1, h.w2, h.form, h.acc⟩
  have hg : (y.got1 p).Ok := RE.got1_ok yo hp
  have hn : ∀ n, ({ y.got1 p with loops := n } : RE).Ok := fun n => by
    obtain ⟨st, id, odd, k0, k1, k2, pc, pi, pd, mg, ms, aa, ww⟩ := hg
    exact ⟨st, id, odd, k0, k1, k2, pc, pi, pd, mg, ms, aa, ww⟩
  have ht : ∀ n t, ({ y.got1 p with loops := n, told := (y.got1 p).told ++ [t] } : RE).Ok := fun n t => by
    obtain ⟨st, id, odd, k0, k1, k2, pc, pi, pd, mg, ms, aa, ww⟩ := hg
    exact ⟨st, id, odd, k0, k1, k2, pc, pi, pd, mg, ms, aa, ww⟩
  refine RE.receive_ind (y.got1 p) (fun n ps => Idd x n out (back ++ ps) c) (h'.yb rfl rfl rfl rfl (fun _ q => (nomatch q))) (fun l hc hi _ hb => ?_) (fun _ n _ _ _ _ _ _ => h'.ynat (n := { y.got1 p with loops := n }) (hn n) rfl rfl rfl rfl 9 (by omega) (by omega) rfl) (fun _ n t _ _ _ _ _ _ _ _ => h'.ynat (n := { y.got1 p with loops := n, told := (y.got1 p).told ++ [t] }) (ht n t) rfl rfl rfl rfl 4 (by omega) (by omega) rfl) (fun _ _ _ => h'.ynat (n := y.got1 p) hg rfl rfl rfl rfl 10 (by omega) (by omega) rfl) (fun l _ _ _ _ => ?_) (fun ev hev => h'.ynat (n := y.got1 p) hg rfl rfl rfl rfl ev (by omega) (by omega) rfl)
  · have hc' : p.c = 1 := hc
    have hi' : itemsL p.s = some l := hi
    have cf := (y.got1 p).at_cf 8
    have hlt : ∀ r ∈ out, r.c = 1 → p.d < r.d := fun r hr e => by
      have := h.srt
      rw [hs, if_pos (isReq_iff.2 hc')] at this
      exact (List.pairwise_cons.1 this).1 r (List.mem_filter.2 ⟨hr, isReq_iff.2 e⟩)
    by_cases h97 : 97 ∈ (rowT 8).getD (y.got1 p).st []
    · have hagr : ((y.got1 p).at_ 8).1.agr = p.s := RE.run_agr _ (y.got1 p) h97
      refine ⟨h.xo, h.idc, h.sidle, srt', h'.rle, h'.rlast, fun q hq e => ?_, fun e => absurd hc' ((h.st e).2.1 p (List.mem_cons_self ..)), h.w0, h.w1, h.w2, h.form, ?_⟩
      · rw [hagr]
        rcases List.mem_append.1 hq with z | z
        · obtain ⟨b1, b2, b3⟩ := h.ack q z e
          refine ⟨b1, fun r hr => b2 r (List.mem_cons_of_mem _ hr), fun e2 => ?_⟩
          have := b2 p (List.mem_cons_self ..) hc'
          have := h.rle p (List.mem_cons_self ..) hc'
          omega
        · obtain ⟨_, b2, b3⟩ := (RE.runP_what _ (y.got1 p) q z).2 e
          have b2' : q.d = p.d := b2
          have b3' : q.s = p.s := b3
          rw [b2', b3']
          exact ⟨h.rle p (List.mem_cons_self ..) hc', hlt, fun _ => rfl⟩
      · rw [hagr, cf.a0, cf.a1, cf.a2]
        intro k0 k1 k2 g hk
        obtain rfl := Option.some.inj (hi'.symm.trans hk)
        have nb : ∀ z ∈ [(1, k0), (2, k1), (3, k2), (4, g)], (y.got1 p).isBad z = false := fun z hz => by
          cases hq : (y.got1 p).isBad z with
          | false => rfl
          | true =>
            have : z ∈ (y.got1 p).bad [(1, k0), (2, k1), (3, k2), (4, g)] := List.mem_filter.2 ⟨hz, hq⟩
            rw [hb] at this
            cases this
        have q0 := nb (1, k0) (by simp)
        have q1 := nb (2, k1) (by simp)
        have q2 := nb (3, k2) (by simp)
        have r0 : (!decide (k0 ∈ y.a0)) = false := q0
        have r1 : (!decide (k1 ∈ y.a1)) = false := q1
        have r2 : (!decide (k2 ∈ y.a2)) = false := q2
        show k0 ∈ y.a0 ∧ k1 ∈ y.a1 ∧ k2 ∈ y.a2
        exact ⟨by simpa using r0, by simpa using r1, by simpa using r2⟩
    · have hagr : ((y.got1 p).at_ 8).1.agr = y.agr := by
        rcases (RE.run_sent ((rowT 8).getD (y.got1 p).st []) (y.got1 p)).2 with q | q
        · exact q
        · exact absurd q.1 h97
      exact h'.yb hagr cf.a0 cf.a1 cf.a2 (fun q hq e => h97 ((RE.runP_what _ (y.got1 p) q hq).2 e).1)
  · have tw := RE.takeAll_tw l (m := y.got1 p) ky
    exact h'.ynat (n := (y.got1 p).takeAll l) (RE.takeAll_ok l hg) tw.agr tw.a0 tw.a1 tw.a2 11 (by omega) (by omega) rfl
theorem Idd.sub {x y : RE} {out back out' back' : List Pq} {c : Nat} (h : Idd x y out back c) (ho : out'.Sublist out) (hb : ∀ q ∈ back', q ∈ back) : Idd x y out' back' c :=
  ⟨h.xo, h.idc, h.sidle, h.srt.sublist (ho.filter _), fun p hp => h.rle p (ho.subset hp), fun p hp => h.rlast p (ho.subset hp), fun q hq e => ⟨(h.ack q (hb q hq) e).1, fun p hp => (h.ack q (hb q hq) e).2.1 p (ho.subset hp), (h.ack q (hb q hq) e).2.2⟩, fun e => ⟨(h.st e).1, fun p hp => (h.st e).2.1 p (ho.subset hp), (h.st e).2.2⟩, h.w0, h.w1, h.w2, h.form, h.acc⟩
structure IdL (l : Ln) (c : Nat) : Prop where
  ab : Idd l.a l.b l.toB l.toA c
  ba : Idd l.b l.a l.toA l.toB c
theorem IdL.mono {l : Ln} {c d : Nat} (h : IdL l c) (hd : c ≤ d) : IdL l d := ⟨h.ab.mono hd, h.ba.mono hd⟩
theorem IdL.swap {l : Ln} {c : Nat} (h : IdL l c) : IdL l.swap c := ⟨h.ba, h.ab⟩
theorem IdL.tellA {l : Ln} {c : Nat} (h : IdL l c) (hc : c < 255) (k : Int) : IdL (l.tell true k) (c + 1) := ⟨h.ab.event hc k, (h.ba.yev h.ab.xo k).mono (by omega)⟩
theorem IdL.tell {l : Ln} {c : Nat} (h : IdL l c) (hc : c < 255) (first : Bool) (k : Int) : IdL (l.tell first k) (c + 1) := by
  cases first
  · rw [l.tell_swap]; exact (h.swap.tellA hc k).swap
  · exact h.tellA hc k
theorem IdL.deliverA {l : Ln} {c n : Nat} (h : IdL l c) (hc : c < 255) (ok : l.Ok n) (lost : Bool) : IdL (l.deliver true lost).1 (c + 1) := by
  obtain ⟨a, b, toB, toA⟩ := l
  cases toA with
  | nil => exact h.mono (by omega)
  | cons p r =>
    have hp : p.Good := ok.pA p (List.mem_cons_self ..)
    cases lost
    · exact ⟨h.ab.xhear hc hp, (h.ba.yhear h.ab.xo h.ab.kw hp).mono (by omega)⟩
    · exact (show IdL (⟨a, b, toB, r⟩ : Ln) (c + 1) from ⟨(h.ab.tail).mono (by omega), (h.ba.sub (List.sublist_cons_self _ _) (fun _ q => q)).mono (by omega)⟩)
theorem IdL.deliver {l : Ln} {c n : Nat} (h : IdL l c) (hc : c < 255) (ok : l.Ok n) (first lost : Bool) : IdL (l.deliver first lost).1 (c + 1) := by
  cases first
  · rw [l.deliver_swap]; exact (h.swap.deliverA hc ok.swap lost).swap
  · exact h.deliverA hc ok lost
def Terms (x y : RE) : Prop := y.agr = x.sent ∧ IsForm x.w0 x.w1 x.w2 x.sent ∧ AccOk y.a0 y.a1 y.a2 x.sent
theorem Idd.terms {x y : RE} {out back : List Pq} {c : Nat} (h : Idd x y out back c) (h9 : x.st = 9) : Terms x y := by
  obtain ⟨h1, _, h2⟩ := h.st (.inr h9)
  exact ⟨h1, h2, by rw [← h1]; exact h.acc⟩
theorem Fx.terms {x y : RE} {out : List Pq} (h : Fx x y out) : Terms x y := by
  refine ⟨h.agr.trans h.sent.symm, ?_, ?_⟩
  · rw [h.sent]; exact form_asks h.xo h.w0 h.w1 h.w2
  · rw [h.sent]
    intro k0 k1 k2 g hk
    have := Option.some.inj (h.xo.items.symm.trans hk)
    unfold RE.asks at this
    simp only [List.cons.injEq, Prod.mk.injEq, true_and, and_true] at this
    rw [← this.1, ← this.2.1, ← this.2.2.1]
    exact ⟨h.g0, h.g1, h.g2⟩
end Go.Proofs.YtoeihlgidakjbaaGreatDoor

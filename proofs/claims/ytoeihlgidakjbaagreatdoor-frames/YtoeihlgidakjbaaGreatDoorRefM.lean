/- An end as the document has it: plain mathematics. -/
import Derived.Test.YtoeihlgidakjbaaGreatDoorMem
namespace Go.Proofs.YtoeihlgidakjbaaGreatDoor
/-- Two bytes of a number, the lower one first. -/
def twoL (n : Nat) : List UInt8 := [UInt8.ofNat (n % 256), UInt8.ofNat (n / 256)]
theorem two_str (n : Nat) (hn : n < 65536) : (({ data := #[UInt8.ofNat (n % 256)] } : ByteArray) ++ { data := #[UInt8.ofNat (n / 256 % 256)] }).data.toList = (⟨(twoL n).toArray⟩ : ByteArray).data.toList := by
  rw [app_toList, Nat.mod_eq_of_lt (show n / 256 < 256 by omega)]
  rfl

/-- An end: what it wishes (w0 w1 w2), accepts (a0 a1 a2), its state, what it has told, what is gathered, counter, timer, its two rows of IDs, the last Request's data and ID, the data of the last one that was agreed to, the packet that has come, Naks, loops, what is asked for, which hint is next, its magics. -/
structure RE where
  w0 : List Nat
  w1 : List Nat
  w2 : List Nat
  a0 : List Nat
  a1 : List Nat
  a2 : List Nat
  st : Nat
  told : List Nat
  got : List UInt8
  cnt : Int
  tim : Int
  id : Nat
  odd : Nat
  sent : List UInt8
  sid : Int
  agr : List UInt8
  pc : Nat
  pi : Nat
  pd : List UInt8
  naks : Nat
  loops : Nat
  k0 : Nat
  k1 : Nat
  k2 : Nat
  h0 : Nat
  h1 : Nat
  h2 : Nat
  mg : List Nat

def itemL (i n : Nat) : List UInt8 := UInt8.ofNat i :: twoL n
def dataL (l : List (Nat × Nat)) : List UInt8 := l.flatMap fun x => itemL x.1 x.2
def lineL (c d : Nat) (s : List UInt8) : List UInt8 := encl (content (UInt8.ofNat c) (UInt8.ofNat d) s)
def itemsAux : List UInt8 → Nat → Option (List (Nat × Nat))
  | [], _ => some []
  | a :: b :: c :: r, p => if a.toNat < 1 ∨ 4 < a.toNat ∨ a.toNat ≤ p then none else (itemsAux r a.toNat).map ((a.toNat, b.toNat + 256 * c.toNat) :: ·)
  | [_], _ => none
  | [_, _], _ => none
/-- The items of data. -/
def itemsL (s : List UInt8) : Option (List (Nat × Nat)) := itemsAux s 0

namespace RE
def mag (m : RE) : Nat := m.mg.getLast?.getD 0
def asks (m : RE) : List (Nat × Nat) := [(1, m.k0), (2, m.k1), (3, m.k2), (4, m.mag)]
def request (m : RE) : RE × List UInt8 :=
  ({ m with id := (m.id + 1) % 256, sent := dataL m.asks, sid := (((m.id + 1) % 256 : Nat) : Int) }, lineL 1 ((m.id + 1) % 256) (dataL m.asks))
def acc (m : RE) (i : Nat) : List Nat := if i = 1 then m.a0 else if i = 2 then m.a1 else m.a2
def want (m : RE) (i : Nat) : List Nat := if i = 1 then m.w0 else if i = 2 then m.w1 else m.w2
def isBad (m : RE) (x : Nat × Nat) : Bool := if x.1 = 4 then decide (x.2 ∈ m.mg) else !decide (x.2 ∈ m.acc x.1)
def bad (m : RE) (l : List (Nat × Nat)) : List (Nat × Nat) := l.filter m.isBad
/-- Is the last magic that is named one that the end has or had? -/
def own (m : RE) (l : List (Nat × Nat)) : Bool := l.any fun x => decide (x.1 = 4) && decide (x.2 ∈ m.mg)
def hint (m : RE) (i : Nat) : Nat := if i = 1 then m.h0 else if i = 2 then m.h1 else m.h2
def hinted (m : RE) (i : Nat) : RE := if i = 1 then { m with h0 := m.h0 + 1 } else if i = 2 then { m with h1 := m.h1 + 1 } else { m with h2 := m.h2 + 1 }
def named1 (m : RE) (x : Nat × Nat) : RE × (Nat × Nat) :=
  if x.1 < 4 then (m.hinted x.1, (x.1, (m.acc x.1).getD (m.hint x.1 % (m.acc x.1).length) 0)) else (m, (x.1, 0))
def nakItems (m : RE) : List (Nat × Nat) → RE × List (Nat × Nat)
  | [] => (m, [])
  | x :: r => let y := m.named1 x; let z := nakItems y.1 r; (z.1, y.2 :: z.2)
def nak (m : RE) : RE × List UInt8 :=
  let z := m.nakItems (m.bad ((itemsL m.pd).getD []))
  ({ z.1 with naks := z.1.naks + 1 }, lineL 3 m.pi (dataL z.2))
/-- An action, by its letter. -/
def act (m : RE) (c : Nat) : RE × List UInt8 :=
  if c = 117 then ({ m with told := m.told ++ [1], naks := 0 }, [])
  else if c = 100 then ({ m with told := m.told ++ [2] }, [])
  else if c = 98 then ({ m with told := m.told ++ [3] }, [])
  else if c = 102 then ({ m with told := m.told ++ [4] }, [])
  else if c = 105 then ({ m with cnt := 5 }, [])
  else if c = 116 then ({ m with cnt := 2 }, [])
  else if c = 122 then ({ m with cnt := 0, tim := 3 }, [])
  else if c = 114 then { m with cnt := m.cnt - 1, tim := 3 }.request
  else if c = 101 then ({ m with cnt := m.cnt - 1, tim := 3, id := (m.id + 1) % 256 }, lineL 5 ((m.id + 1) % 256) [])
  else if c = 97 then ({ m with naks := 0, agr := m.pd }, lineL 2 m.pi m.pd)
  else if c = 110 then m.nak
  else if c = 107 then (m, lineL 6 m.pi [])
  else if c = 106 then ({ m with odd := (m.odd + 1) % 256 }, lineL 7 ((m.odd + 1) % 256) ((UInt8.ofNat m.pc :: UInt8.ofNat m.pi :: m.pd).take 40))
  else if c = 111 then (m, lineL 10 m.pi m.pd)
  else (m, [])
/-- A letter of the table: a state, or an action. -/
def letter (m : RE) (c : Nat) : RE × List UInt8 := if 48 ≤ c ∧ c ≤ 57 then ({ m with st := c - 48 }, []) else m.act c
def run (m : RE) : List Nat → RE × List UInt8
  | [] => (m, [])
  | c :: r => let y := m.letter c; let z := run y.1 r; (z.1, y.2 ++ z.2)
theorem run_snoc (m : RE) (l : List Nat) (c : Nat) : m.run (l ++ [c]) = (((m.run l).1.letter c).1, (m.run l).2 ++ ((m.run l).1.letter c).2) := by
  induction l generalizing m with
  | nil => simp [run]
  | cons x l ih => simp [run, ih]
end RE
/-- The table, as letters: by an event, the ten states. -/
def rowT (ev : Nat) : List (List Nat) :=
  if ev = 1 then [[50], [105, 114, 54], [], [], [], [], [], [], [], []]
  else if ev = 2 then [[], [], [48], [98, 49], [48], [49], [49], [49], [49], [100, 49]]
  else if ev = 3 then [[98, 49], [], [105, 114, 54], [], [53], [], [], [], [], []]
  else if ev = 4 then [[], [102, 48], [], [50], [], [52], [116, 101, 52], [116, 101, 52], [116, 101, 52], [100, 116, 101, 52]]
  else if ev = 6 then [[], [], [], [], [101], [101], [114], [114, 54], [114], []]
  else if ev = 7 then [[], [], [], [], [102, 50], [102, 51], [102, 51], [102, 51], [102, 51], []]
  else if ev = 8 then [[], [], [107], [105, 114, 97, 56], [], [], [97, 56], [97, 117, 57], [97], [100, 114, 97, 56]]
  else if ev = 9 then [[], [], [107], [105, 114, 110, 54], [], [], [110], [110], [110, 54], [100, 114, 110, 54]]
  else if ev = 10 then [[], [], [107], [107], [], [], [105, 55], [114, 54], [105, 117, 57], [100, 114, 54]]
  else if ev = 11 then [[], [], [107], [107], [], [], [105, 114], [114, 54], [105, 114], [100, 114, 54]]
  else if ev = 12 then [[], [], [107], [107], [107], [107], [107], [107, 54], [107, 54], [100, 122, 107, 53]]
  else if ev = 13 then [[], [], [], [], [102, 50], [102, 51], [], [54], [], [100, 114, 54]]
  else if ev = 14 then [[], [], [106], [106], [106], [106], [106], [106], [106], [106]]
  else if ev = 15 then [[], [], [], [], [], [], [], [54], [], []]
  else if ev = 16 then [[], [], [102], [102], [102, 50], [102, 51], [102, 51], [102, 51], [102, 51], [100, 116, 101, 53]]
  else if ev = 17 then [[], [], [], [], [], [], [], [], [], [111]]
  else [[], [], [], [], [], [], [], [], [], []]
namespace RE
def at_ (m : RE) (ev : Nat) : RE × List UInt8 := m.run ((rowT ev).getD m.st [])
/-- Event: what is told to the end. -/
def event (m : RE) (k : Int) : RE × List UInt8 :=
  if 1 ≤ k ∧ k ≤ 4 then m.at_ k.toNat
  else if k ≠ 5 ∨ m.st < 4 ∨ 8 < m.st ∨ m.tim ≤ 0 then (m, [])
  else if 0 < m.tim - 1 then ({ m with tim := m.tim - 1 }, [])
  else if 0 < m.cnt then { m with tim := m.tim - 1 }.at_ 6
  else { m with tim := m.tim - 1 }.at_ 7
end RE
end Go.Proofs.YtoeihlgidakjbaaGreatDoor

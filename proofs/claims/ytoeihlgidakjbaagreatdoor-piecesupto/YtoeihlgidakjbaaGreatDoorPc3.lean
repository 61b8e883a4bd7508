/- errnoOf: OK of nil, ErrFrame of a FrameError, ErrSum and ErrPacket of a ContentError that wraps the one or the other: errors.As and errors.Is are walked. errors.As and errors.Is at the errors that the package line makes. errors.As and errors.Is at a ContentError; errnoOf. errnoOf: OK of nil, ErrFrame of a FrameError, ErrSum of a ContentError that wraps the sum's error, ErrPacket of one that wraps the code's; nothing old turns. Unframe: the packet, or the error's number. What Lined's walk stands on: Frame as it reads, what Unframe answers at a packet's own bytes and at others. Memory: blocks, rows, what may turn. An end as the document has it: plain mathematics. The end as plain mathematics: what its numbers keep to. What a received packet keeps: plain mathematics. Bytes as plain mathematics: what each byte does, and what it keeps. The program's ends, as the document has them: what is asked of them; the laws' world with its ends. -/
import Derived.Test.YtoeihlgidakjbaaGreatDoorPc2
import Derived.LaidEql
import Derived.Stop.Asserts
import Derived.RowKitTokens
import Derived.Deep.RegionWith
import Derived.Lib.BufferWrite
import Derived.Laws.CopyOwn
import Derived.Deep.DeepCutAuto
import Derived.Deep.RegionHeld3
import Derived.Deep.AppendLies
import Derived.Deep.RegionHeldLaw
import Derived.Deep.RegionLaw
import Derived.Deep.QuietTactic
import Derived.BigQuiet
import Derived.Laws.ResultCell
import Derived.Laws.BytesString
namespace Go.Proofs.YtoeihlgidakjbaaGreatDoor
open Go.RowKit Go.Extern.Stop Go.Stop Go.Extern
theorem Tryz.valueOfPP (t : Addr) (w : World) : (ReflectliteValue.unpack (.iface 140 (.pointer (some t)))).run Tryz.prog w
    = .ok (.agg #[.pointer (some ⟨11, 140, none⟩), .pointer (some ⟨w.heap.size, 0, none⟩), .int .u64 150]) (w.alloc (.cells #[.pointer (some t)] 140)) := by kernel_rfl
theorem Tryz.typePP (a : Addr) (w : World) : (ReflectliteValue.methodAny (ReflectliteValue.valueError "reflectlite.Value.Type" 0) (fun t _ _ _ => ReflectliteType.toType t) #[.agg #[.pointer (some ⟨11, 140, none⟩), .pointer (some a), .int .u64 150]]).run Tryz.prog w
    = .ok (.iface 198 (.agg #[.pointer (some ⟨11, 140, none⟩)])) w := by kernel_rfl
theorem Tryz.methodKind (h : Value) (w : World) : (Go.method 347 198 (.agg #[h]) "Kind").run Tryz.prog w = .ok (193, h) w := by kernel_rfl
theorem Tryz.kindPP (w : World) : ((ReflectliteType.abiMethod fun t => (fun a : Nat => Value.int IntKind.u8 (a : Int)) <$> Rtype.kind t) #[.pointer (some ⟨11, 140, none⟩)]).run Tryz.prog w = .ok (.int .u8 22) w := by kernel_rfl
theorem Tryz.kindP (w : World) : ((ReflectliteType.abiMethod fun t => (fun a : Nat => Value.int IntKind.u8 (a : Int)) <$> Rtype.kind t) #[.pointer (some ⟨11, 138, none⟩)]).run Tryz.prog w = .ok (.int .u8 22) w := by kernel_rfl
theorem Tryz.partsPP (a : Addr) (w : World) : (ReflectliteValue.parts (.agg #[.pointer (some ⟨11, 140, none⟩), .pointer (some a), .int .u64 150])).run Tryz.prog w = .ok (some (140, a, 150)) w := by kernel_rfl
theorem Tryz.isNilPP (a p : Addr) (W : World) (ha : W.cell? a = some (.pointer (some p))) :
    (ReflectliteValue.method (ReflectliteValue.valueError "reflectlite.Value.IsNil" 0) ReflectliteValue.isNil #[.agg #[.pointer (some ⟨11, 140, none⟩), .pointer (some a), .int .u64 150]]).run Tryz.prog W = .ok (.bool false) W := by
  delta ReflectliteValue.method ReflectliteValue.method.match_2
  dsimp only
  rw [dif_pos (by rfl)]
  simp only [Array.getLit, List.getElem_toArray, List.getElem_cons_zero, Sem.run_bind, Tryz.partsPP, Result.andThen]
  simp [ReflectliteValue.isNil, loadVar, isAgg, underlying, Tryz.underlying140, ha, Result.andThen]
theorem Tryz.methodElem (h : Value) (w : World) : (Go.method 347 198 (.agg #[h]) "Elem").run Tryz.prog w = .ok (208, .agg #[h]) w := by kernel_rfl
theorem Tryz.methodImplements (h : Value) (w : World) : (Go.method 347 198 (.agg #[h]) "Implements").run Tryz.prog w = .ok (209, .agg #[h]) w := by kernel_rfl
theorem Tryz.methodAssignableTo (h : Value) (w : World) : (Go.method 347 198 (.agg #[h]) "AssignableTo").run Tryz.prog w = .ok (206, .agg #[h]) w := by kernel_rfl
theorem Tryz.elemPP (w : World) : (ReflectliteType.method ReflectliteType.elem #[.agg #[.pointer (some ⟨11, 140, none⟩)]]).run Tryz.prog w = .ok (.iface 198 (.agg #[.pointer (some ⟨11, 138, none⟩)])) w := by kernel_rfl
theorem Tryz.implementsP (w : World) : (ReflectliteType.relation "Implements" ReflectliteType.implements_ #[.agg #[.pointer (some ⟨11, 138, none⟩)], .iface 198 (.agg #[.pointer (some ⟨11, 118, none⟩)])]).run Tryz.prog w = .ok (.bool true) w := by kernel_rfl
theorem Tryz.typeOfP (v : Value) (w : World) : (ReflectliteType.typeOf #[.iface 138 v]).run Tryz.prog w = .ok (.iface 198 (.agg #[.pointer (some ⟨11, 138, none⟩)])) w := by kernel_rfl
theorem Tryz.typeOfC (v : Value) (w : World) : (ReflectliteType.typeOf #[.iface 160 v]).run Tryz.prog w = .ok (.iface 198 (.agg #[.pointer (some ⟨11, 160, none⟩)])) w := by kernel_rfl
theorem Tryz.typeOfE (v : Value) (w : World) : (ReflectliteType.typeOf #[.iface 216 v]).run Tryz.prog w = .ok (.iface 198 (.agg #[.pointer (some ⟨11, 216, none⟩)])) w := by kernel_rfl
theorem Tryz.assignableP (w : World) : (ReflectliteType.relation "AssignableTo" ReflectliteType.assignableTo #[.agg #[.pointer (some ⟨11, 138, none⟩)], .iface 198 (.agg #[.pointer (some ⟨11, 138, none⟩)])]).run Tryz.prog w = .ok (.bool true) w := by kernel_rfl
theorem Tryz.assignableC (w : World) : (ReflectliteType.relation "AssignableTo" ReflectliteType.assignableTo #[.agg #[.pointer (some ⟨11, 160, none⟩)], .iface 198 (.agg #[.pointer (some ⟨11, 138, none⟩)])]).run Tryz.prog w = .ok (.bool false) w := by kernel_rfl
theorem Tryz.assignableE (w : World) : (ReflectliteType.relation "AssignableTo" ReflectliteType.assignableTo #[.agg #[.pointer (some ⟨11, 216, none⟩)], .iface 198 (.agg #[.pointer (some ⟨11, 138, none⟩)])]).run Tryz.prog w = .ok (.bool false) w := by kernel_rfl
theorem Tryz.valueOfP (e : Addr) (w : World) : (ReflectliteValue.unpack (.iface 138 (.pointer (some e)))).run Tryz.prog w
    = .ok (.agg #[.pointer (some ⟨11, 138, none⟩), .pointer (some ⟨w.heap.size, 0, none⟩), .int .u64 150]) (w.alloc (.cells #[.pointer (some e)] 138)) := by kernel_rfl
theorem Tryz.elemOfPP (w : World) : (Rtype.elem? 140).run Tryz.prog w = .ok (some 138) w := by kernel_rfl
theorem Tryz.mkP (p : Addr) (w : World) : (ReflectliteValue.mk 138 p ReflectliteValue.flagAddr).run Tryz.prog w = .ok (.agg #[.pointer (some ⟨11, 138, none⟩), .pointer (some p), .int .u64 406]) w := by kernel_rfl
theorem Tryz.elemVPP (a p : Addr) (W : World) (ha : W.cell? a = some (.pointer (some p))) :
    (ReflectliteValue.method (ReflectliteValue.valueError "reflectlite.Value.Elem" 0) ReflectliteValue.elem #[.agg #[.pointer (some ⟨11, 140, none⟩), .pointer (some a), .int .u64 150]]).run Tryz.prog W
      = .ok (.agg #[.pointer (some ⟨11, 138, none⟩), .pointer (some p), .int .u64 406]) W := by
  delta ReflectliteValue.method ReflectliteValue.method.match_2
  dsimp only
  rw [dif_pos (by rfl)]
  simp only [Array.getLit, List.getElem_toArray, List.getElem_cons_zero, Sem.run_bind, Tryz.partsPP, Result.andThen]
  simp [ReflectliteValue.elem, loadVar, isAgg, underlying, Tryz.underlying140, ha, Result.andThen, Tryz.elemOfPP, Tryz.mkP]
theorem Tryz.partsPa (a : Addr) (w : World) : (ReflectliteValue.parts (.agg #[.pointer (some ⟨11, 138, none⟩), .pointer (some a), .int .u64 406])).run Tryz.prog w = .ok (some (138, a, 406)) w := by kernel_rfl
theorem Tryz.partsP (a : Addr) (w : World) : (ReflectliteValue.parts (.agg #[.pointer (some ⟨11, 138, none⟩), .pointer (some a), .int .u64 150])).run Tryz.prog w = .ok (some (138, a, 150)) w := by kernel_rfl
theorem Tryz.directP (w : World) : (Rtype.directlyAssignable 138 138).run Tryz.prog w = .ok true w := by kernel_rfl
theorem Tryz.setP (ta b e : Addr) (old : Value) (W : World) (hb : W.cell? b = some (.pointer (some e))) (ht : W.cell? ta = some old) (hf : W.frozen? ta = false) :
    (ReflectliteValue.set #[.agg #[.pointer (some ⟨11, 138, none⟩), .pointer (some ta), .int .u64 406], .agg #[.pointer (some ⟨11, 138, none⟩), .pointer (some b), .int .u64 150]]).run Tryz.prog W
      = .ok (.tuple #[]) (W.setCell ta (.pointer (some e))) := by
  delta ReflectliteValue.set ReflectliteValue.set.match_3
  dsimp only
  rw [dif_pos (by rfl)]
  simp only [Array.getLit, List.getElem_toArray, List.getElem_cons_zero, List.getElem_cons_succ, Sem.run_bind, Tryz.partsPa, Tryz.partsP, Result.andThen]
  simp [ReflectliteValue.flagAddr, loadVar, isAgg, underlying, Tryz.underlying138, hb, Result.andThen, Tryz.directP, storeVar, Value.cells, storeCells, Addr.add]
  rw [run_store Tryz.prog W ta _ _ (by rfl)]
  simp [ht, hf]
end Go.Proofs.YtoeihlgidakjbaaGreatDoor
namespace Go.Proofs.YtoeihlgidakjbaaGreatDoor
open Go.RowKit Go.Extern.Stop Go.Stop Go.Extern
theorem Tryz.noAsC (v : Value) (xT : TypeId) (w : World) : (Instr.typeAssert (.iface 160 v) xT 202 true).run Tryz.prog w = .ok (.tuple #[.nilIface, .bool false]) w := run_typeAssert_lacksB Tryz.underlying202 (by kernel_rfl) (by kernel_rfl) v xT w
theorem Tryz.noAsE (v : Value) (xT : TypeId) (w : World) : (Instr.typeAssert (.iface 216 v) xT 202 true).run Tryz.prog w = .ok (.tuple #[.nilIface, .bool false]) w := run_typeAssert_lacksB Tryz.underlying202 (by kernel_rfl) (by kernel_rfl) v xT w
theorem Tryz.noIsC (v : Value) (xT : TypeId) (w : World) : (Instr.typeAssert (.iface 160 v) xT 210 true).run Tryz.prog w = .ok (.tuple #[.nilIface, .bool false]) w := run_typeAssert_lacksB Tryz.underlying210 (by kernel_rfl) (by kernel_rfl) v xT w
theorem Tryz.noIsE (v : Value) (xT : TypeId) (w : World) : (Instr.typeAssert (.iface 216 v) xT 210 true).run Tryz.prog w = .ok (.tuple #[.nilIface, .bool false]) w := run_typeAssert_lacksB Tryz.underlying210 (by kernel_rfl) (by kernel_rfl) v xT w
theorem Tryz.hasUnwrapC (v : Value) (xT : TypeId) (w : World) : (Instr.typeAssert (.iface 160 v) xT 205 true).run Tryz.prog w = .ok (.tuple #[.iface 160 v, .bool true]) w := run_typeAssert_hasB Tryz.underlying205 (by kernel_rfl) v xT w
theorem Tryz.noUnwrapE (v : Value) (xT : TypeId) (w : World) : (Instr.typeAssert (.iface 216 v) xT 205 true).run Tryz.prog w = .ok (.tuple #[.nilIface, .bool false]) w := run_typeAssert_lacksB Tryz.underlying205 (by kernel_rfl) (by kernel_rfl) v xT w
theorem Tryz.noUnwrapsE (v : Value) (xT : TypeId) (w : World) : (Instr.typeAssert (.iface 216 v) xT 207 true).run Tryz.prog w = .ok (.tuple #[.nilIface, .bool false]) w := run_typeAssert_lacksB Tryz.underlying207 (by kernel_rfl) (by kernel_rfl) v xT w
theorem Tryz.methodUnwrap (v : Value) (w : World) : (Go.method 347 160 v "Unwrap").run Tryz.prog w = .ok (199, v) w := by kernel_rfl
theorem Tryz.cmpCall (w : World) : Sem.run Tryz.prog (callFunc 207 #[.agg #[.pointer (some ⟨11, 216, none⟩)]]) w = Result.ok (Next.value (.bool true)) w := by
  have h := @run_callFunc_extern Tryz.prog 207 _ (ReflectliteType.method fun t => do Rtype.noPackHeld "Comparable" t; pure (.bool (← typeInfo t).comparable)) Tryz.func207 (by kernel_rfl) (by kernel_rfl) (by kernel_rfl) (by kernel_rfl)
  have e : (ReflectliteType.method (fun t => do Rtype.noPackHeld "Comparable" t; pure (.bool (← typeInfo t).comparable)) #[.agg #[.pointer (some ⟨11, 216, none⟩)]]).run Tryz.prog w = .ok (.bool true) w := by kernel_rfl
  rw [h, e]; rfl
theorem Tryz.isMethodComparable (v : Value) (w : World) : (Go.method 347 198 v "Comparable").run Tryz.prog w = .ok (207, v) w := by kernel_rfl
theorem Tryz.isComp : (Tryz.prog.info? 216).map (·.comparable) = some true := by kernel_rfl
theorem Tryz.isSize : (Tryz.prog.info? 236).map (·.size) = some 1 := by kernel_rfl
set_option maxRecDepth 100000 in
set_option maxHeartbeats 4000000 in
theorem as_hit (e t : Addr) (old : Value) (w : World) (hg : w.cell? ⟨6, 0, none⟩ = some (.iface 198 (.agg #[.pointer (some ⟨11, 118, none⟩)]))) (ht0 : w.cell? t = some old) (hf0 : w.frozen? t = false) :
    Calls Tryz.prog 110 #[.iface 138 (.pointer (some e)), .iface 140 (.pointer (some t))] w fun ev w' => ev = .returned (.bool true) ∧ ∃ o1 o2 o3 o4, w' = ((((w.alloc o1).alloc o2).alloc o3).alloc o4).setCell t (.pointer (some e)) := by
  have h6 := @run_callFunc_extern Tryz.prog 145 _ (fun args => ReflectliteValue.unpack (args.getD 0 (.tuple #[]))) Tryz.func145 (by kernel_rfl) (by kernel_rfl) (by kernel_rfl) (by kernel_rfl)
  have h7 := @run_callFunc_extern Tryz.prog 146 _ (ReflectliteValue.methodAny (ReflectliteValue.valueError "reflectlite.Value.Type" 0) (fun t _ _ _ => ReflectliteType.toType t)) Tryz.func146 (by kernel_rfl) (by kernel_rfl) (by kernel_rfl) (by kernel_rfl)
  have h8 := @run_callFunc_extern Tryz.prog 147 _ (ReflectliteValue.method (ReflectliteValue.valueError "reflectlite.Value.IsNil" 0) ReflectliteValue.isNil) Tryz.func147 (by kernel_rfl) (by kernel_rfl) (by kernel_rfl) (by kernel_rfl)
  have h27 := @run_callFunc_extern Tryz.prog 193 _ (ReflectliteType.abiMethod fun t => do pure (.int .u8 (← Rtype.kind t))) Tryz.func193 (by kernel_rfl) (by kernel_rfl) (by kernel_rfl) (by kernel_rfl)
  have h37 := @run_callFunc_extern Tryz.prog 208 _ (ReflectliteType.method ReflectliteType.elem) Tryz.func208 (by kernel_rfl) (by kernel_rfl) (by kernel_rfl) (by kernel_rfl)
  have h38 := @run_callFunc_extern Tryz.prog 209 _ (ReflectliteType.relation "Implements" ReflectliteType.implements_) Tryz.func209 (by kernel_rfl) (by kernel_rfl) (by kernel_rfl) (by kernel_rfl)
  have h10 := @run_callFunc_extern Tryz.prog 149 _ ReflectliteType.typeOf Tryz.func149 (by kernel_rfl) (by kernel_rfl) (by kernel_rfl) (by kernel_rfl)
  have h35 := @run_callFunc_extern Tryz.prog 206 _ (ReflectliteType.relation "AssignableTo" ReflectliteType.assignableTo) Tryz.func206 (by kernel_rfl) (by kernel_rfl) (by kernel_rfl) (by kernel_rfl)
  have h11 := @run_callFunc_extern Tryz.prog 170 _ (ReflectliteValue.method (ReflectliteValue.valueError "reflectlite.Value.Elem" 0) ReflectliteValue.elem) Tryz.func170 (by kernel_rfl) (by kernel_rfl) (by kernel_rfl) (by kernel_rfl)
  have h12 := @run_callFunc_extern Tryz.prog 171 _ ReflectliteValue.set Tryz.func171 (by kernel_rfl) (by kernel_rfl) (by kernel_rfl) (by kernel_rfl)
  have tO := Tryz.typeOfP
  have mA := Tryz.methodAssignableTo
  have a25 := Tryz.assignableP
  have v25 := Tryz.valueOfP
  have f6 := Tryz.valueOfPP
  have f7 := Tryz.typePP
  have mK := Tryz.methodKind
  have mE := Tryz.methodElem
  have mI := Tryz.methodImplements
  have k27 := Tryz.kindPP
  have k25 := Tryz.kindP
  have e27 := Tryz.elemPP
  have i25 := Tryz.implementsP
  have n8 := Tryz.isNilPP ⟨w.heap.size, 0, none⟩ t ((w.alloc (.cells #[.pointer (some t)] 140)).alloc (.cells #[.pointer (some ⟨11, 140, none⟩), .pointer (some ⟨w.heap.size, 0, none⟩), .int .u64 150] 175)) (by simp)
  have hlt : 6 < w.heap.size := by
    rcases Nat.lt_or_ge 6 w.heap.size with h | h
    · exact h
    · simp [World.cell?, Array.getElem?_eq_none h] at hg
  have hg2 : ((w.alloc (.cells #[.pointer (some t)] 140)).alloc (.cells #[.pointer (some ⟨11, 140, none⟩), .pointer (some ⟨w.heap.size, 0, none⟩), .int .u64 150] 175)).cell? ⟨6, 0, none⟩ = some (.iface 198 (.agg #[.pointer (some ⟨11, 118, none⟩)])) := by
    rw [World.cell?_alloc_lt _ _ ⟨6, 0, none⟩ (by simp; omega), World.cell?_alloc_lt _ _ ⟨6, 0, none⟩ hlt]; exact hg
  have htl : t.block < w.heap.size := by
    rcases Nat.lt_or_ge t.block w.heap.size with h | h
    · exact h
    · simp [World.cell?, Array.getElem?_eq_none h] at ht0
  have el := Tryz.elemVPP ⟨w.heap.size, 0, none⟩ t (((w.alloc (.cells #[.pointer (some t)] 140)).alloc (.cells #[.pointer (some ⟨11, 140, none⟩), .pointer (some ⟨w.heap.size, 0, none⟩), .int .u64 150] 175)).alloc (.cells #[.pointer (some ⟨11, 140, none⟩), .pointer (some ⟨w.heap.size, 0, none⟩), .int .u64 150] 175)) (by rw [World.cell?_alloc_lt _ _ ⟨w.heap.size, 0, none⟩ (by simp; omega)]; simp)
  have st := Tryz.setP t ⟨w.heap.size + 1 + 1 + 1, 0, none⟩ e old ((((w.alloc (.cells #[.pointer (some t)] 140)).alloc (.cells #[.pointer (some ⟨11, 140, none⟩), .pointer (some ⟨w.heap.size, 0, none⟩), .int .u64 150] 175)).alloc (.cells #[.pointer (some ⟨11, 140, none⟩), .pointer (some ⟨w.heap.size, 0, none⟩), .int .u64 150] 175)).alloc (.cells #[.pointer (some e)] 138))
    (by rw [World.cell?_alloc_at _ _ _ _ (by simp)]; rfl)
    (by rw [World.cell?_alloc_lt _ _ t (by simp; omega), World.cell?_alloc_lt _ _ t (by simp; omega), World.cell?_alloc_lt _ _ t (by simp; omega), World.cell?_alloc_lt _ _ t htl]; exact ht0)
    (by rw [World.frozen?_alloc_old _ _ t (by simp; omega), World.frozen?_alloc_old _ _ t (by simp; omega), World.frozen?_alloc_old _ _ t (by simp; omega), World.frozen?_alloc_old _ _ t (Nat.ne_of_lt htl)]; exact hf0)
  go_enter Tryz.func110, Tryz.ntmps110
  go_wp2
  refine wp_loop_rounds 1 ?_
  rw [rounds_succ]
  go_wp2
  go_ret
  exact ⟨rfl, _, _, _, _, rfl⟩
end Go.Proofs.YtoeihlgidakjbaaGreatDoor
namespace Go.Proofs.YtoeihlgidakjbaaGreatDoor
open Go.RowKit Go.Extern.Stop Go.Stop Go.Extern
set_option maxRecDepth 100000 in
set_option maxHeartbeats 4000000 in
theorem as_miss (g : Nat) (t aX : Addr) (w : World) (hg : w.cell? ⟨6, 0, none⟩ = some (.iface 198 (.agg #[.pointer (some ⟨11, 118, none⟩)]))) (hgb : g < w.heap.size) (hw : w.cell? ⟨g, 1, none⟩ = some (.iface 216 (.pointer (some aX)))) :
    Calls Tryz.prog 110 #[.iface 160 (.pointer (some ⟨g, 0, none⟩)), .iface 140 (.pointer (some t))] w fun ev w' => ev = .returned (.bool false) ∧ ∃ o1 o2 o3, w' = ((w.alloc o1).alloc o2).alloc o3 := by
  have h6 := @run_callFunc_extern Tryz.prog 145 _ (fun args => ReflectliteValue.unpack (args.getD 0 (.tuple #[]))) Tryz.func145 (by kernel_rfl) (by kernel_rfl) (by kernel_rfl) (by kernel_rfl)
  have h7 := @run_callFunc_extern Tryz.prog 146 _ (ReflectliteValue.methodAny (ReflectliteValue.valueError "reflectlite.Value.Type" 0) (fun t _ _ _ => ReflectliteType.toType t)) Tryz.func146 (by kernel_rfl) (by kernel_rfl) (by kernel_rfl) (by kernel_rfl)
  have h8 := @run_callFunc_extern Tryz.prog 147 _ (ReflectliteValue.method (ReflectliteValue.valueError "reflectlite.Value.IsNil" 0) ReflectliteValue.isNil) Tryz.func147 (by kernel_rfl) (by kernel_rfl) (by kernel_rfl) (by kernel_rfl)
  have h27 := @run_callFunc_extern Tryz.prog 193 _ (ReflectliteType.abiMethod fun t => do pure (.int .u8 (← Rtype.kind t))) Tryz.func193 (by kernel_rfl) (by kernel_rfl) (by kernel_rfl) (by kernel_rfl)
  have h37 := @run_callFunc_extern Tryz.prog 208 _ (ReflectliteType.method ReflectliteType.elem) Tryz.func208 (by kernel_rfl) (by kernel_rfl) (by kernel_rfl) (by kernel_rfl)
  have h38 := @run_callFunc_extern Tryz.prog 209 _ (ReflectliteType.relation "Implements" ReflectliteType.implements_) Tryz.func209 (by kernel_rfl) (by kernel_rfl) (by kernel_rfl) (by kernel_rfl)
  have h10 := @run_callFunc_extern Tryz.prog 149 _ ReflectliteType.typeOf Tryz.func149 (by kernel_rfl) (by kernel_rfl) (by kernel_rfl) (by kernel_rfl)
  have h35 := @run_callFunc_extern Tryz.prog 206 _ (ReflectliteType.relation "AssignableTo" ReflectliteType.assignableTo) Tryz.func206 (by kernel_rfl) (by kernel_rfl) (by kernel_rfl) (by kernel_rfl)
  have tC := Tryz.typeOfC
  have tE := Tryz.typeOfE
  have mA := Tryz.methodAssignableTo
  have aC := Tryz.assignableC
  have aE := Tryz.assignableE
  have f6 := Tryz.valueOfPP
  have f7 := Tryz.typePP
  have mK := Tryz.methodKind
  have mE := Tryz.methodElem
  have mI := Tryz.methodImplements
  have k27 := Tryz.kindPP
  have k25 := Tryz.kindP
  have e27 := Tryz.elemPP
  have i25 := Tryz.implementsP
  have q1 := Tryz.noAsC
  have q2 := Tryz.noAsE
  have q3 := Tryz.hasUnwrapC
  have q4 := Tryz.noUnwrapE
  have q5 := Tryz.noUnwrapsE
  have q6 := Tryz.methodUnwrap
  have n8 := Tryz.isNilPP ⟨w.heap.size, 0, none⟩ t ((w.alloc (.cells #[.pointer (some t)] 140)).alloc (.cells #[.pointer (some ⟨11, 140, none⟩), .pointer (some ⟨w.heap.size, 0, none⟩), .int .u64 150] 175)) (by simp)
  have hlt : 6 < w.heap.size := by
    rcases Nat.lt_or_ge 6 w.heap.size with h | h
    · exact h
    · simp [World.cell?, Array.getElem?_eq_none h] at hg
  have hg2 : ((w.alloc (.cells #[.pointer (some t)] 140)).alloc (.cells #[.pointer (some ⟨11, 140, none⟩), .pointer (some ⟨w.heap.size, 0, none⟩), .int .u64 150] 175)).cell? ⟨6, 0, none⟩ = some (.iface 198 (.agg #[.pointer (some ⟨11, 118, none⟩)])) := by
    rw [World.cell?_alloc_lt _ _ ⟨6, 0, none⟩ (by simp; omega), World.cell?_alloc_lt _ _ ⟨6, 0, none⟩ hlt]; exact hg
  have hw2 : (((w.alloc (.cells #[.pointer (some t)] 140)).alloc (.cells #[.pointer (some ⟨11, 140, none⟩), .pointer (some ⟨w.heap.size, 0, none⟩), .int .u64 150] 175)).alloc (.cells #[.pointer (some ⟨11, 140, none⟩), .pointer (some ⟨w.heap.size, 0, none⟩), .int .u64 150] 175)).cell? ⟨g, 1, none⟩ = some (.iface 216 (.pointer (some aX))) := by
    rw [World.cell?_alloc_lt _ _ ⟨g, 1, none⟩ (by simp; omega), World.cell?_alloc_lt _ _ ⟨g, 1, none⟩ (by simp; omega), World.cell?_alloc_lt _ _ ⟨g, 1, none⟩ hgb]; exact hw
  go_enter Tryz.func110, Tryz.ntmps110
  go_wp2
  refine wp_loop_rounds 2 ?_
  rw [rounds_succ]
  go_wp2
  rw [rounds_succ]
  go_wp2
  go_ret
  exact ⟨rfl, _, _, _, rfl⟩
set_option maxRecDepth 100000 in
set_option maxHeartbeats 4000000 in
theorem is_wrap_same (g : Nat) (b : Addr) (w : World) (h1 : w.cell? ⟨g, 1, none⟩ = some (.iface 216 (.pointer (some b)))) :
    Calls Tryz.prog 111 #[.iface 160 (.pointer (some ⟨g, 0, none⟩)), .iface 216 (.pointer (some b))] w fun e w' => e = .returned (.bool true) ∧ w = w' := by
  obtain ⟨i, hi, hcmp⟩ := Option.map_eq_some_iff.1 Tryz.isComp
  obtain ⟨j, hj, hjs⟩ := Option.map_eq_some_iff.1 Tryz.isSize
  have h10 := @run_callFunc_extern Tryz.prog 149 _ ReflectliteType.typeOf Tryz.func149 (by kernel_rfl) (by kernel_rfl) (by kernel_rfl) (by kernel_rfl)
  have tT := Tryz.typeOfE
  have cT := Tryz.cmpCall
  have mR := Tryz.isMethodComparable
  have nW := Tryz.noIsC
  have uW := Tryz.hasUnwrapC
  have mU := Tryz.methodUnwrap
  have heq := run_eql_iface_ptr_same (P := Tryz.prog) w b Tryz.underlying118 Tryz.underlying216 hi hcmp hj
  have hty := run_eql_iface_types (P := Tryz.prog) 160 216 (.pointer (some ⟨g, 0, none⟩)) (.pointer (some b)) Tryz.underlying118 (by decide) w
  clear hjs
  go_enter Tryz.func111, Tryz.ntmps111
  go_wp2
  refine wp_loop_rounds 2 ?_
  rw [rounds_succ]
  go_wp2
  rw [rounds_succ]
  go_wp2
  go_ret
  exact ⟨rfl, rfl⟩
set_option maxRecDepth 100000 in
set_option maxHeartbeats 4000000 in
theorem is_wrap_other (g : Nat) (b a : Addr) (ca cb : Array Value) (ta tb : TypeId) (w : World) (h1 : w.cell? ⟨g, 1, none⟩ = some (.iface 216 (.pointer (some a)))) (hne : a ≠ b) (ha : w.heap[a.block]? = some (.cells ca ta (0, 0))) (hb : w.heap[b.block]? = some (.cells cb tb (0, 0))) :
    Calls Tryz.prog 111 #[.iface 160 (.pointer (some ⟨g, 0, none⟩)), .iface 216 (.pointer (some b))] w fun e w' => e = .returned (.bool false) ∧ w = w' := by
  obtain ⟨i, hi, hcmp⟩ := Option.map_eq_some_iff.1 Tryz.isComp
  obtain ⟨j, hj, hjs⟩ := Option.map_eq_some_iff.1 Tryz.isSize
  have h10 := @run_callFunc_extern Tryz.prog 149 _ ReflectliteType.typeOf Tryz.func149 (by kernel_rfl) (by kernel_rfl) (by kernel_rfl) (by kernel_rfl)
  have tT := Tryz.typeOfE
  have cT := Tryz.cmpCall
  have mR := Tryz.isMethodComparable
  have nE := Tryz.noIsE
  have uE := Tryz.noUnwrapE
  have vE := Tryz.noUnwrapsE
  have nW := Tryz.noIsC
  have uW := Tryz.hasUnwrapC
  have mU := Tryz.methodUnwrap
  have heq := run_eql_iface_ptr_other (P := Tryz.prog) w Tryz.underlying118 Tryz.underlying216 hi hcmp hj (by rw [hjs]; decide) hne ha hb
  have hty := run_eql_iface_types (P := Tryz.prog) 160 216 (.pointer (some ⟨g, 0, none⟩)) (.pointer (some b)) Tryz.underlying118 (by decide) w
  clear hjs hne ha hb
  go_enter Tryz.func111, Tryz.ntmps111
  go_wp2
  refine wp_loop_rounds 2 ?_
  rw [rounds_succ]
  go_wp2
  rw [rounds_succ]
  go_wp2
  go_ret
  exact ⟨rfl, rfl⟩
end Go.Proofs.YtoeihlgidakjbaaGreatDoor
namespace Go.Proofs.YtoeihlgidakjbaaGreatDoor
open Go.RowKit
set_option maxHeartbeats 1000000 in
theorem errnoOf_nil (w : World) : Calls Tryz.prog 75 #[.nilIface] w fun e w' => e = .returned (.int .i64 0) ∧ Below w.heap.size w w' := by
  go_enter Tryz.func75, Tryz.ntmps75
  go_wp2
  go_ret
  exact ⟨rfl, (Below.refl _ _).alloc (Nat.le_refl _) _⟩
set_option maxHeartbeats 1000000 in
theorem errnoOf_frame {aS aC aF aL aO aH : Addr} (a : Addr) (w : World) (hgl : Gl w aS aC aF aL aO aH) :
    Calls Tryz.prog 75 #[.iface 138 (.pointer (some a))] w fun e w' => e = .returned (.int .i64 3) ∧ Below w.heap.size w w' := by
  have hz := hgl.size
  have hb : ∀ o, Below w.heap.size w (w.alloc o) := fun o => (Below.refl _ _).alloc (Nat.le_refl _) o
  have ht := fun o => (hgl.below (hb o)).t
  go_enter Tryz.func75, Tryz.ntmps75
  go_wp2_with fail
  refine (as_hit a ⟨w.heap.size, 0, none⟩ (.pointer none) _ (ht _) (by simp) (by simp)).mono ?_
  rintro e w' ⟨rfl, o1, o2, o3, o4, rfl⟩
  go_wp2_with fail
  go_ret
  exact ⟨rfl, ((((hb _).alloc (by simp) _).alloc (by simp; omega) _).alloc (by simp; omega) _).alloc (by simp; omega) _⟩
set_option maxHeartbeats 1000000 in
theorem errnoOf_sum {aS aC aF aL aO aH : Addr} (g : Nat) (w : World) (hgl : Gl w aS aC aF aL aO aH) (hgb : g < w.heap.size) (hw : w.cell? ⟨g, 1, none⟩ = some (.iface 216 (.pointer (some aS)))) :
    Calls Tryz.prog 75 #[.iface 160 (.pointer (some ⟨g, 0, none⟩))] w fun e w' => e = .returned (.int .i64 4) ∧ Below w.heap.size w w' := by
  have hz := hgl.size
  have hb : ∀ o, Below w.heap.size w (w.alloc o) := fun o => (Below.refl _ _).alloc (Nat.le_refl _) o
  have ht := fun o => (hgl.below (hb o)).t
  go_enter Tryz.func75, Tryz.ntmps75
  go_wp2_with fail
  refine (as_miss g ⟨w.heap.size, 0, none⟩ aS _ (ht _) (by simp; omega) ((World.cell?_alloc_lt _ _ ⟨g, 1, none⟩ hgb).trans hw)).mono ?_
  rintro e w' ⟨rfl, o1, o2, o3, rfl⟩
  have hbb := ((((hb (.cells #[.pointer none] 138)).alloc (by simp) o1).alloc (by simp; omega) o2).alloc (by simp; omega) o3)
  have gs := (hgl.below hbb).s
  have gw := (hbb.cell (p := ⟨g, 1, none⟩) hgb).trans hw
  generalize (((w.alloc (.cells #[.pointer none] 138)).alloc o1).alloc o2).alloc o3 = W at *
  go_wp2_with fail
  refine (is_wrap_same g aS W gw).mono ?_
  rintro e w' ⟨rfl, rfl⟩
  go_wp2_with fail
  go_ret
  exact ⟨rfl, hbb⟩
set_option maxHeartbeats 1000000 in
theorem errnoOf_code {aS aC aF aL aO aH : Addr} (g : Nat) (w : World) (hgl : Gl w aS aC aF aL aO aH) (hgb : g < w.heap.size) (hw : w.cell? ⟨g, 1, none⟩ = some (.iface 216 (.pointer (some aC)))) :
    Calls Tryz.prog 75 #[.iface 160 (.pointer (some ⟨g, 0, none⟩))] w fun e w' => e = .returned (.int .i64 2) ∧ Below w.heap.size w w' := by
  have hz := hgl.size
  have hb : ∀ o, Below w.heap.size w (w.alloc o) := fun o => (Below.refl _ _).alloc (Nat.le_refl _) o
  have ht := fun o => (hgl.below (hb o)).t
  go_enter Tryz.func75, Tryz.ntmps75
  go_wp2_with fail
  refine (as_miss g ⟨w.heap.size, 0, none⟩ aC _ (ht _) (by simp; omega) ((World.cell?_alloc_lt _ _ ⟨g, 1, none⟩ hgb).trans hw)).mono ?_
  rintro e w' ⟨rfl, o1, o2, o3, rfl⟩
  have hbb := ((((hb (.cells #[.pointer none] 138)).alloc (by simp) o1).alloc (by simp; omega) o2).alloc (by simp; omega) o3)
  have hgg := hgl.below hbb
  have gs := hgg.s
  have gw := (hbb.cell (p := ⟨g, 1, none⟩) hgb).trans hw
  generalize (((w.alloc (.cells #[.pointer none] 138)).alloc o1).alloc o2).alloc o3 = W at *
  obtain ⟨c1, t1, b1⟩ := hgg.bs
  obtain ⟨c2, t2, b2⟩ := hgg.bc
  go_wp2_with fail
  refine (is_wrap_other g aS aC c2 c1 t2 t1 W gw (Ne.symm hgg.ne) b2 b1).mono ?_
  rintro e w' ⟨rfl, rfl⟩
  go_wp2_with fail
  go_ret
  exact ⟨rfl, hbb⟩
end Go.Proofs.YtoeihlgidakjbaaGreatDoor
namespace Go.Proofs.YtoeihlgidakjbaaGreatDoor
open Go.RowKit
def UnfR (l : List UInt8) (v : Value) (n : Int) : Prop :=
  (unesc l = none ∧ v = zeroP ∧ n = 3) ∨
  (∃ c d t x y, unesc l = some ((c :: d :: t) ++ [x, y]) ∧
    ((¬ le16 x y = sumL (c :: d :: t) ∧ v = zeroP ∧ n = 4) ∨ (le16 x y = sumL (c :: d :: t) ∧ c.toNat = 0 ∧ v = zeroP ∧ n = 2) ∨ (le16 x y = sumL (c :: d :: t) ∧ ¬ c.toNat = 0 ∧ v = pktV c d t ∧ n = 0)))
theorem after_call {w w1 w2 : World} {p0 p1 p2 q0 q1 q2 : Value} {T : Nat} (hz : w.heap.size + 1 ≤ w1.heap.size)
    (f0 : w1.cell? ⟨w.heap.size, 0, none⟩ = some q0) (f1 : w1.cell? ⟨w.heap.size, 1, none⟩ = some q1) (f2 : w1.cell? ⟨w.heap.size, 2, none⟩ = some q2)
    (z0 : w1.frozen? ⟨w.heap.size, 0, none⟩ = false) (z1 : w1.frozen? ⟨w.heap.size, 1, none⟩ = false) (z2 : w1.frozen? ⟨w.heap.size, 2, none⟩ = false)
    (hb : Below (w1.heap.size + 1) (w1.alloc (.cells #[p0, p1, p2] T)).drew w2) :
    (w2.cell? ⟨w1.heap.size, 0, none⟩ = some p0 ∧ w2.cell? ⟨w1.heap.size, 1, none⟩ = some p1 ∧ w2.cell? ⟨w1.heap.size, 2, none⟩ = some p2) ∧
    (w2.cell? ⟨w.heap.size, 0, none⟩ = some q0 ∧ w2.cell? ⟨w.heap.size, 1, none⟩ = some q1 ∧ w2.cell? ⟨w.heap.size, 2, none⟩ = some q2) ∧
    (w2.frozen? ⟨w.heap.size, 0, none⟩ = false ∧ w2.frozen? ⟨w.heap.size, 1, none⟩ = false ∧ w2.frozen? ⟨w.heap.size, 2, none⟩ = false) := by
  have a : ∀ i, w2.cell? ⟨w1.heap.size, i, none⟩ = (w1.alloc (.cells #[p0, p1, p2] T)).cell? ⟨w1.heap.size, i, none⟩ := fun i => hb.cell (p := ⟨w1.heap.size, i, none⟩) (by simp)
  have b : ∀ i, w2.cell? ⟨w.heap.size, i, none⟩ = w1.cell? ⟨w.heap.size, i, none⟩ := fun i => (hb.cell (p := ⟨w.heap.size, i, none⟩) (by show w.heap.size < _; omega)).trans (World.cell?_alloc_lt _ _ ⟨w.heap.size, i, none⟩ (by show w.heap.size < _; omega))
  have c : ∀ i, w2.frozen? ⟨w.heap.size, i, none⟩ = w1.frozen? ⟨w.heap.size, i, none⟩ := fun i => (hb.frozen (p := ⟨w.heap.size, i, none⟩) (by show w.heap.size < _; omega)).trans (World.frozen?_alloc_old _ _ ⟨w.heap.size, i, none⟩ (by show w.heap.size ≠ _; omega))
  refine ⟨⟨(a 0).trans (by simp), (a 1).trans (by simp), (a 2).trans (by simp)⟩, ⟨(b 0).trans f0, (b 1).trans f1, (b 2).trans f2⟩, ⟨(c 0).trans z0, (c 1).trans z1, (c 2).trans z2⟩⟩
set_option maxHeartbeats 1000000 in
theorem unframe_any {aS aC aF aL aO aH : Addr} (b off cap : Nat) (l : List UInt8) (w : World) (hgl : Gl w aS aC aF aL aO aH) (hr : Rd w b off l) (hbl : b < w.heap.size) (hn : l.length ≤ 140737488351232) :
    Calls Tryz.prog 47 #[.slice (some ⟨b, off, none⟩) l.length cap] w fun e w' => Below w.heap.size w w' ∧ ∃ v n, e = .returned (.tuple #[v, .int .i64 n]) ∧ UnfR l v n := by
  have hb0 : ∀ o, Below w.heap.size w (w.alloc o) := fun o => (Below.refl _ _).alloc (Nat.le_refl _) o
  go_enter Tryz.func47, Tryz.ntmps47
  go_wp2_with fail
  refine (read_any b off cap l _ (hgl.below (hb0 _)).toGr (rd_below hr (hb0 _) hbl) (by simp; omega) hn).mono ?_
  rintro e w1 ⟨hb1, hcase⟩
  have hb2 : Below (w.heap.size + 1) (w.alloc (.cells #[.int .i64 0, .int .i64 0, .string ⟨#[]⟩] 27)) w1 := by simpa using hb1
  have hbb := (hb0 _).trans (hb2.mono (Nat.le_succ _))
  have hz := hb2.size
  simp at hz
  have hgl1 := hgl.below hbb
  obtain ⟨f0, f1, f2⟩ := below_cell3 hb2
  have z0 := below_frz hb2 0
  have z1 := below_frz hb2 1
  have z2 := below_frz hb2 2
  clear hb1 hb2
  rcases hcase with ⟨hu, a, rfl⟩ | ⟨c, d, t, x, y, hu, ⟨h1, g2, rfl, h3, h4⟩ | ⟨h1, h1', g2, rfl, h3, h4⟩ | ⟨h1, h1', rfl⟩⟩
  · have HU : Hid (UnfR l zeroP 3) := .inl ⟨hu, rfl, rfl⟩
    have hglW := hgl1.below (((Below.refl _ _).alloc (Nat.le_refl _) (.cells #[.int .i64 0, .int .i64 0, .string ⟨#[]⟩] 27)).drew)
    clear hu
    unfold zeroP
    go_wp2_with fail
    go_region_with (go_at_call 75; refine (errnoOf_frame a _ hglW).mono ?_; rintro e w2 ⟨rfl, hb3⟩; obtain ⟨⟨k0, k1, k2⟩, ⟨m0, m1, m2⟩, n0, n1, n2⟩ := after_call hz f0 f1 f2 z0 z1 z2 (by simpa using hb3))
    all_goals go_wp2
    all_goals
      refine bodyPost_ret (v := .tuple #[zeroP, .int .i64 3]) (by simp [results, Tryz.results47, go_sem, m0, m1, m2, zeroP]) rfl ⟨?_, _, _, rfl, HU.out⟩
      exact (((((hbb.alloc hbb.size _).drew.trans (hb3.mono (by simp; omega))).setCell (by simp) _).setCell (by simp) _).setCell (by simp) _)
  · have HU : Hid (UnfR l zeroP 4) := .inr ⟨c, d, t, x, y, hu, .inl ⟨h1, rfl, rfl⟩⟩
    have hglW := hgl1.below (((Below.refl _ _).alloc (Nat.le_refl _) (.cells #[.int .i64 0, .int .i64 0, .string ⟨#[]⟩] 27)).drew)
    have hgg : g2 < (w1.alloc (.cells #[.int .i64 0, .int .i64 0, .string ⟨#[]⟩] 27)).drew.heap.size := by simp; omega
    have h5 : (w1.alloc (.cells #[.int .i64 0, .int .i64 0, .string ⟨#[]⟩] 27)).drew.cell? ⟨g2, 1, none⟩ = _ := (World.cell?_alloc_lt _ _ ⟨g2, 1, none⟩ h3).trans h4
    unfold zeroP
    go_wp2_with fail
    go_region_with (go_at_call 75; refine (errnoOf_sum g2 _ hglW hgg h5).mono ?_; rintro e w2 ⟨rfl, hb3⟩; obtain ⟨⟨k0, k1, k2⟩, ⟨m0, m1, m2⟩, n0, n1, n2⟩ := after_call hz f0 f1 f2 z0 z1 z2 (by simpa using hb3))
    all_goals go_wp2
    all_goals
      refine bodyPost_ret (v := .tuple #[zeroP, .int .i64 4]) (by simp [results, Tryz.results47, go_sem, m0, m1, m2, zeroP]) rfl ⟨?_, _, _, rfl, HU.out⟩
      exact (((((hbb.alloc hbb.size _).drew.trans (hb3.mono (by simp; omega))).setCell (by simp) _).setCell (by simp) _).setCell (by simp) _)
  · have HU : Hid (UnfR l zeroP 2) := .inr ⟨c, d, t, x, y, hu, .inr (.inl ⟨h1, h1', rfl, rfl⟩)⟩
    have hglW := hgl1.below (((Below.refl _ _).alloc (Nat.le_refl _) (.cells #[.int .i64 0, .int .i64 0, .string ⟨#[]⟩] 27)).drew)
    have hgg : g2 < (w1.alloc (.cells #[.int .i64 0, .int .i64 0, .string ⟨#[]⟩] 27)).drew.heap.size := by simp; omega
    have h5 : (w1.alloc (.cells #[.int .i64 0, .int .i64 0, .string ⟨#[]⟩] 27)).drew.cell? ⟨g2, 1, none⟩ = _ := (World.cell?_alloc_lt _ _ ⟨g2, 1, none⟩ h3).trans h4
    unfold zeroP
    go_wp2_with fail
    go_region_with (go_at_call 75; refine (errnoOf_code g2 _ hglW hgg h5).mono ?_; rintro e w2 ⟨rfl, hb3⟩; obtain ⟨⟨k0, k1, k2⟩, ⟨m0, m1, m2⟩, n0, n1, n2⟩ := after_call hz f0 f1 f2 z0 z1 z2 (by simpa using hb3))
    all_goals go_wp2
    all_goals
      refine bodyPost_ret (v := .tuple #[zeroP, .int .i64 2]) (by simp [results, Tryz.results47, go_sem, m0, m1, m2, zeroP]) rfl ⟨?_, _, _, rfl, HU.out⟩
      exact (((((hbb.alloc hbb.size _).drew.trans (hb3.mono (by simp; omega))).setCell (by simp) _).setCell (by simp) _).setCell (by simp) _)
  · have HU : Hid (UnfR l (pktV c d t) 0) := .inr ⟨c, d, t, x, y, hu, .inr (.inr ⟨h1, h1', rfl, rfl⟩)⟩
    have hglW := hgl1.below (((Below.refl _ _).alloc (Nat.le_refl _) (.cells #[.int .i64 (c.toNat : Int), .int .i64 (d.toNat : Int), .string ⟨t.toArray⟩] 27)).drew)
    unfold pktV
    go_wp2_with fail
    go_region_with (go_at_call 75; refine (errnoOf_nil _).mono ?_; rintro e w2 ⟨rfl, hb3⟩; obtain ⟨⟨k0, k1, k2⟩, ⟨m0, m1, m2⟩, n0, n1, n2⟩ := after_call hz f0 f1 f2 z0 z1 z2 (by simpa using hb3))
    all_goals go_wp2
    all_goals
      refine bodyPost_ret (v := .tuple #[pktV c d t, .int .i64 0]) (by simp [results, Tryz.results47, go_sem, m0, m1, m2, pktV]) rfl ⟨?_, _, _, rfl, HU.out⟩
      exact (((((hbb.alloc hbb.size _).drew.trans (hb3.mono (by simp; omega))).setCell (by simp) _).setCell (by simp) _).setCell (by simp) _)
end Go.Proofs.YtoeihlgidakjbaaGreatDoor
namespace Go.Proofs.YtoeihlgidakjbaaGreatDoor
open Go.RowKit
theorem owns_below {w w' : World} {B e s : Nat} {v : Value} {n : Nat} {xs : List Value} (h : w.ownsRow B e s v n xs) (hb : Below w.heap.size w w') : w'.ownsRow B e s v n xs := by
  obtain ⟨h1, h2⟩ := h
  refine ⟨h1, ?_⟩
  rcases h2 with h | ⟨g, cap, cur, e1, e2, e3, e4⟩
  · exact .inl h
  · exact .inr ⟨g, cap, cur, e1, e2, (hb.block g (lt_of_block e3)).trans e3, e4⟩
theorem encl_len (l : List UInt8) : (encl l).length = (escL l).length + 2 := by simp [encl]
end Go.Proofs.YtoeihlgidakjbaaGreatDoor
namespace Go.Proofs.YtoeihlgidakjbaaGreatDoor
open Go.RowKit Go.Lib
theorem str_eq {a : ByteArray} {l : List UInt8} (h : a.data.toList = l) : a = ⟨l.toArray⟩ := by
  obtain ⟨⟨x⟩⟩ := a
  simp at h
  rw [h]
theorem app_toList (a b : ByteArray) : (a ++ b).data.toList = a.data.toList ++ b.data.toList := by simp
theorem own_shape {w : World} {B e : Nat} {v : Value} {n : Nat} {xs : List Value} (h : w.ownsRow B e 1 v n xs) : ∃ a cap g, v = .slice a n cap ∧ (0 < n → a = some ⟨g, 0, none⟩) ∧ n ≤ maxLen ∧ ∀ j, j < n → w.cell? ⟨g, j, none⟩ = xs[j]? := by
  have h0 := h
  obtain ⟨_, h2⟩ := h
  rcases h2 with ⟨rfl, rfl⟩ | ⟨g, cap, cur, rfl, hb, hg, hnc, hcm, hcs, htake⟩
  · exact ⟨none, 0, 0, rfl, fun h => by omega, Nat.zero_le _, fun j hj => by omega⟩
  · exact ⟨some ⟨g, 0, none⟩, cap, g, rfl, fun _ => rfl, by omega, fun j hj => h0.cellAt j (by omega)⟩
structure Tch (S : Nat → Prop) (w w' : World) : Prop where
  os : w'.os = w.os
  tape : w'.tape = w.tape
  output : w'.output = w.output
  size : w.heap.size ≤ w'.heap.size
  block : ∀ k, k < w.heap.size → ¬ S k → w'.heap[k]? = w.heap[k]?
theorem Tch.refl (S : Nat → Prop) (w : World) : Tch S w w := ⟨rfl, rfl, rfl, Nat.le_refl _, fun _ _ _ => rfl⟩
theorem Tch.trans {S : Nat → Prop} {a b c : World} (h : Tch S a b) (k : Tch S b c) : Tch S a c :=
  ⟨k.os.trans h.os, k.tape.trans h.tape, k.output.trans h.output, Nat.le_trans h.size k.size, fun i hi hs => (k.block i (Nat.lt_of_lt_of_le hi h.size) hs).trans (h.block i hi hs)⟩
theorem Tch.mono {S T : Nat → Prop} {a b : World} (h : Tch S a b) (hs : ∀ k, S k → T k) : Tch T a b := ⟨h.os, h.tape, h.output, h.size, fun k hk ht => h.block k hk (fun x => ht (hs k x))⟩
theorem Tch.of_below {S : Nat → Prop} {a b : World} (h : Below a.heap.size a b) : Tch S a b := ⟨h.os, h.tape, h.output, h.size, fun k hk _ => h.block k hk⟩
theorem Tch.set (S : Nat → Prop) (w : World) (p : Addr) (v : Value) (hp : S p.block) : Tch S w (w.setCell p v) :=
  ⟨rfl, rfl, rfl, by simp [World.setCell], fun k _ hk => Below.heap_setCell _ _ _ _ (fun e => hk (e ▸ hp))⟩
theorem Tch.drew {S : Nat → Prop} {a b : World} (h : Tch S a b) : Tch S a b.drew := ⟨h.os, h.tape, h.output, h.size, h.block⟩
theorem Tch.below {S : Nat → Prop} {a b : World} {B : Nat} (h : Tch S a b) (hB : B ≤ a.heap.size) (hs : ∀ k, S k → B ≤ k) : Below B a b :=
  ⟨h.os, h.tape, h.output, h.size, fun k hk => h.block k (by omega) (fun x => by have := hs k x; omega)⟩
theorem owns_tch {w w' : World} {B e s : Nat} {v : Value} {n : Nat} {xs : List Value} {S : Nat → Prop} (h : w.ownsRow B e s v n xs) (ht : Tch S w w') (hs : ∀ b, v.ownBlock = some b → ¬ S b) : w'.ownsRow B e s v n xs := by
  obtain ⟨h1, h2⟩ := h
  refine ⟨h1, ?_⟩
  rcases h2 with h | ⟨g, cap, cur, rfl, e2, e3, e4⟩
  · exact .inl h
  · exact .inr ⟨g, cap, cur, rfl, e2, (ht.block g (lt_of_block e3) (hs g rfl)).trans e3, e4⟩
theorem Tryz.infoI : (Tryz.prog.info? 3).map (fun i => (i.zero, i.size, i.bytes)) = some (some (.int .i64 0), 1, 8) := by kernel_rfl
theorem tch_grown {W0 w1 : World} {o : Obj} {row : Option Nat} (h : (W0.alloc o).grownBy w1 row) : Tch (fun b => row = some b) W0 w1 :=
  ⟨h.os, h.tape, h.output, Nat.le_trans (by simp) h.size, fun k hk hs => (h.block k (by simp; omega) (fun e => hs e.symm)).trans (Below.heap_alloc W0 o k hk)⟩
theorem Tch.restrict {S : Nat → Prop} {a b : World} (h : Tch (fun k => S k ∨ a.heap.size ≤ k) a b) : Tch S a b :=
  ⟨h.os, h.tape, h.output, h.size, fun k hk hs => h.block k hk (fun x => x.elim hs (fun y => by omega))⟩
def iv (n : Nat) : Value := .int .i64 (n : Int)
theorem blk_cell {w : World} {b k : Nat} {a : Array Value} {T : Nat} (h : w.heap[b]? = some (.cells a T (0, 0))) : w.cell? ⟨b, k, none⟩ = a[k]? := by simp [World.cell?, h]
theorem blk_free {w : World} {b k : Nat} {a : Array Value} {T : Nat} (h : w.heap[b]? = some (.cells a T (0, 0))) : w.frozen? ⟨b, k, none⟩ = false := by simp [World.frozen?, h]
theorem blk_lt {w : World} {b : Nat} {o : Obj} (h : w.heap[b]? = some o) : b < w.heap.size := (Array.getElem?_eq_some_iff.1 h).1
theorem blk_set {w : World} {b k : Nat} {a : Array Value} {T : Nat} {x : Value} (h : w.heap[b]? = some (.cells a T (0, 0))) : (w.setCell ⟨b, k, none⟩ x).heap[b]? = some (.cells (a.setIfInBounds k x) T (0, 0)) := by
  simp [World.setCell, Array.getElem?_modify, h]
theorem news2 (w : World) (a b : Value) (T : Nat) : ∀ (j : Nat) (u : Value), [a, b][j]? = some u → (w.alloc (.cells #[a, b] T)).cell? (Addr.add ⟨w.heap.size, 0, none⟩ j) = some u := by
  intro j u hu
  match j with
  | 0 => simp at hu; subst hu; simp [Addr.add]
  | 1 => simp at hu; subst hu; simp [Addr.add]
  | j + 2 => simp at hu
theorem wrap_in {x : Int} (h0 : -9223372036854775808 ≤ x) (h1 : x < 9223372036854775808) : IntKind.i64.wrap x = x := by
  simp only [IntKind.wrap, IntKind.signed, IntKind.bits, Bool.true_and]
  split
  · rename_i h; simp at h; omega
  · rename_i h; simp at h; omega
theorem tset (w : World) (rb k : Nat) (x : Value) : Tch (fun b => b = rb) w (w.setCell ⟨rb, k, none⟩ x) := Tch.set _ w ⟨rb, k, none⟩ _ rfl
theorem cell_one_i (w : World) (n : Int) (T : Nat) : ∀ (j : Nat) (u : Value), [Value.int .i64 n][j]? = some u → (w.alloc (.cells #[.int .i64 n] T)).cell? (Addr.add ⟨w.heap.size, 0, none⟩ j) = some u := by
  intro j u hu
  match j with
  | 0 => simp at hu; subst hu; simp [Addr.add]
  | j + 1 => simp at hu
def IntsAt (w : World) (v : Value) (l : List Int) : Prop := ∃ a cap g off, v = .slice a l.length cap ∧ (0 < l.length → a = some ⟨g, off, none⟩ ∧ g < w.heap.size) ∧ ∀ k (h : k < l.length), w.cell? ⟨g, off + k, none⟩ = some (.int .i64 l[k])
theorem IntsAt.below {w w' : World} {v : Value} {l : List Int} (h : IntsAt w v l) (hb : Below w.heap.size w w') : IntsAt w' v l := by
  obtain ⟨a, cap, g, off, rfl, h1, h2⟩ := h
  refine ⟨a, cap, g, off, rfl, fun h => ⟨(h1 h).1, Nat.lt_of_lt_of_le (h1 h).2 hb.size⟩, fun k hk => (hb.cell (p := ⟨g, off + k, none⟩) (h1 (by omega)).2).trans (h2 k hk)⟩
def IsL (l : List Int) : Prop := 0 < l.length ∧ l.length ≤ 8 ∧ (∀ x ∈ l, 0 ≤ x ∧ x ≤ 255) ∧ ∀ i j, i < j → j < l.length → l[i]? ≠ l[j]?
noncomputable instance (l : List Int) : Decidable (IsL l) := Classical.propDecidable _
noncomputable def isL (l : List Int) : Bool := decide (IsL l)
def zv (n : Int) : Value := .int .i64 n
theorem IntsAt.drew {w : World} {v : Value} {l : List Int} (h : IntsAt w v l) : IntsAt w.drew v l := h
theorem IntsAt.tch {w W wc : World} {v : Value} {l : List Int} (h : IntsAt w v l) (hb : Below w.heap.size w W) (ht : Tch (fun b => b = w.heap.size + 1) W wc) : IntsAt wc v l := by
  obtain ⟨a, cap, g, off, rfl, h1, h2⟩ := h
  refine ⟨a, cap, g, off, rfl, fun h => ⟨(h1 h).1, Nat.lt_of_lt_of_le (h1 h).2 (Nat.le_trans hb.size ht.size)⟩, fun k hk => ?_⟩
  have hg := (h1 (by omega)).2
  exact (World.cell?_of_block (w := W) (a := ⟨g, off + k, none⟩) (ht.block g (Nat.lt_of_lt_of_le hg hb.size) (by omega))).trans ((hb.cell (p := ⟨g, off + k, none⟩) hg).trans (h2 k hk))
theorem headD_get (l : List Int) (h : 0 < l.length) : l.headD 0 = l[0] := by
  match l, h with
  | y :: ys, _ => rfl
theorem map_iv (l : List Int) (h : ∀ x ∈ l, 0 ≤ x) : (l.map Int.toNat).map iv = l.map zv := by
  rw [List.map_map]
  refine List.map_congr_left fun x hx => ?_
  show Value.int .i64 ((x.toNat : Nat) : Int) = .int .i64 x
  rw [Int.toNat_of_nonneg (h x hx)]
theorem own_shape2 {w : World} {B e : Nat} {v : Value} {n : Nat} {xs : List Value} (h : w.ownsRow B e 2 v n xs) : ∃ a cap g, v = .slice a n cap ∧ (0 < n → a = some ⟨g, 0, none⟩ ∧ B ≤ g ∧ g < w.heap.size) ∧ ∀ j u, xs[j]? = some u → w.cell? ⟨g, j, none⟩ = some u := by
  have h0 := h
  rcases h.2 with ⟨rfl, hz⟩ | ⟨g, cap, cur, rfl, hb, hg, _⟩
  · have hl := h.1
    rw [hz] at hl
    have hx : xs = [] := List.eq_nil_of_length_eq_zero (by omega)
    subst hx
    exact ⟨none, 0, 0, by rw [hz], fun h => by omega, fun j u hu => by simp at hu⟩
  · refine ⟨_, cap, g, rfl, fun _ => ⟨rfl, hb, (Array.getElem?_eq_some_iff.1 hg).1⟩, fun j u hu => ?_⟩
    have hadd : (⟨g, 0, none⟩ : Addr).add j = ⟨g, j, none⟩ := by unfold Addr.add; split <;> simp_all
    rw [← hadd]; exact h0.cells (g := g) rfl j u hu
theorem ints_own {w : World} {B : Nat} {v : Value} {l : List Nat} (h : w.ownsRow B 3 1 v l.length (l.map iv)) : IntsAt w v (l.map fun (n : Nat) => (n : Int)) := by
  obtain ⟨a, cap, g, hv, ha, _, hc⟩ := own_shape h
  subst hv
  refine ⟨a, cap, g, 0, by rw [List.length_map], fun h0 => ?_, fun k hk => ?_⟩
  · rw [List.length_map] at h0
    obtain rfl := ha h0
    exact ⟨rfl, (h.lt g rfl).2⟩
  · rw [List.length_map] at hk
    rw [Nat.zero_add, hc k hk, List.getElem?_map, List.getElem?_eq_getElem hk]
    simp [iv]
theorem mem_ints (l : List Nat) (n : Nat) : ((n : Int) ∈ l.map fun (n : Nat) => (n : Int)) ↔ n ∈ l := by
  constructor
  · intro h
    obtain ⟨a, ha, e⟩ := List.mem_map.1 h
    have : a = n := by omega
    exact this ▸ ha
  · intro h
    exact List.mem_map.2 ⟨n, h, rfl⟩
theorem rem_run (h n p : Nat) (wx : World) (hn : ¬ n = 0) (hp : p = h % n) (hh : h ≤ 1000000000000000) (hn8 : n ≤ 8) : (binOp .rem 3 (.int .i64 (h : Int)) (.int .i64 (n : Int))).run Tryz.prog wx = .ok (.int .i64 (p : Int)) wx := by
  have hz : ((n : Int) == 0) = false := by simp; omega
  have hr : (h : Int).tmod (n : Int) = (p : Int) := by rw [hp, Int.tmod_eq_emod_of_nonneg (by omega)]; exact (Int.natCast_emod h n).symm
  have hpl : p < n := by rw [hp]; exact Nat.mod_lt _ (by omega)
  have hw : IntKind.i64.wrap (p : Int) = (p : Int) := wrap_in (by omega) (by omega)
  clear hp
  go_simp
theorem getD_lt (l : List Nat) (p N : Nat) (h : ∀ x ∈ l, x < N) (hN : 0 < N) : l.getD p 0 < N := by
  rw [List.getD]
  cases hp : l[p]? with
  | none => exact hN
  | some x => exact h x (List.mem_of_getElem? hp)
end Go.Proofs.YtoeihlgidakjbaaGreatDoor
namespace Go.Proofs.YtoeihlgidakjbaaGreatDoor
def twoL (n : Nat) : List UInt8 := [UInt8.ofNat (n % 256), UInt8.ofNat (n / 256)]
structure RE where
  w0 : List Nat
  w1 : List Nat
  w2 : List Nat
  a0 : List Nat
  a1 : List Nat
  a2 : List Nat
  st : Nat
  told : List Nat
  got : List UInt8
  cnt : Int
  tim : Int
  id : Nat
  odd : Nat
  sent : List UInt8
  sid : Int
  agr : List UInt8
  pc : Nat
  pi : Nat
  pd : List UInt8
  naks : Nat
  loops : Nat
  k0 : Nat
  k1 : Nat
  k2 : Nat
  h0 : Nat
  h1 : Nat
  h2 : Nat
  mg : List Nat
def itemL (i n : Nat) : List UInt8 := UInt8.ofNat i :: twoL n
def dataL (l : List (Nat × Nat)) : List UInt8 := l.flatMap fun x => itemL x.1 x.2
def lineL (c d : Nat) (s : List UInt8) : List UInt8 := encl (content (UInt8.ofNat c) (UInt8.ofNat d) s)
def itemsAux : List UInt8 → Nat → Option (List (Nat × Nat))
  | [], _ => some []
  | a :: b :: c :: r, p => if a.toNat < 1 ∨ 4 < a.toNat ∨ a.toNat ≤ p then none else (itemsAux r a.toNat).map ((a.toNat, b.toNat + 256 * c.toNat) :: ·)
  | [_], _ => none
  | [_, _], _ => none
def itemsL (s : List UInt8) : Option (List (Nat × Nat)) := itemsAux s 0
namespace RE
def mag (m : RE) : Nat := m.mg.getLast?.getD 0
def asks (m : RE) : List (Nat × Nat) := [(1, m.k0), (2, m.k1), (3, m.k2), (4, m.mag)]
def request (m : RE) : RE × List UInt8 :=
  ({ m with id := (m.id + 1) % 256, sent := dataL m.asks, sid := (((m.id + 1) % 256 : Nat) : Int) }, lineL 1 ((m.id + 1) % 256) (dataL m.asks))
def acc (m : RE) (i : Nat) : List Nat := if i = 1 then m.a0 else if i = 2 then m.a1 else m.a2
def want (m : RE) (i : Nat) : List Nat := if i = 1 then m.w0 else if i = 2 then m.w1 else m.w2
def isBad (m : RE) (x : Nat × Nat) : Bool := if x.1 = 4 then decide (x.2 ∈ m.mg) else !decide (x.2 ∈ m.acc x.1)
def bad (m : RE) (l : List (Nat × Nat)) : List (Nat × Nat) := l.filter m.isBad
def own (m : RE) (l : List (Nat × Nat)) : Bool := l.any fun x => decide (x.1 = 4) && decide (x.2 ∈ m.mg)
def hint (m : RE) (i : Nat) : Nat := if i = 1 then m.h0 else if i = 2 then m.h1 else m.h2
def hinted (m : RE) (i : Nat) : RE := if i = 1 then { m with h0 := m.h0 + 1 } else if i = 2 then { m with h1 := m.h1 + 1 } else { m with h2 := m.h2 + 1 }
def named1 (m : RE) (x : Nat × Nat) : RE × (Nat × Nat) :=
  if x.1 < 4 then (m.hinted x.1, (x.1, (m.acc x.1).getD (m.hint x.1 % (m.acc x.1).length) 0)) else (m, (x.1, 0))
def nakItems (m : RE) : List (Nat × Nat) → RE × List (Nat × Nat)
  | [] => (m, [])
  | x :: r => let y := m.named1 x; let z := nakItems y.1 r; (z.1, y.2 :: z.2)
def nak (m : RE) : RE × List UInt8 :=
  let z := m.nakItems (m.bad ((itemsL m.pd).getD []))
  ({ z.1 with naks := z.1.naks + 1 }, lineL 3 m.pi (dataL z.2))
def act (m : RE) (c : Nat) : RE × List UInt8 :=
  if c = 117 then ({ m with told := m.told ++ [1], naks := 0 }, [])
  else if c = 100 then ({ m with told := m.told ++ [2] }, [])
  else if c = 98 then ({ m with told := m.told ++ [3] }, [])
  else if c = 102 then ({ m with told := m.told ++ [4] }, [])
  else if c = 105 then ({ m with cnt := 5 }, [])
  else if c = 116 then ({ m with cnt := 2 }, [])
  else if c = 122 then ({ m with cnt := 0, tim := 3 }, [])
  else if c = 114 then { m with cnt := m.cnt - 1, tim := 3 }.request
  else if c = 101 then ({ m with cnt := m.cnt - 1, tim := 3, id := (m.id + 1) % 256 }, lineL 5 ((m.id + 1) % 256) [])
  else if c = 97 then ({ m with naks := 0, agr := m.pd }, lineL 2 m.pi m.pd)
  else if c = 110 then m.nak
  else if c = 107 then (m, lineL 6 m.pi [])
  else if c = 106 then ({ m with odd := (m.odd + 1) % 256 }, lineL 7 ((m.odd + 1) % 256) ((UInt8.ofNat m.pc :: UInt8.ofNat m.pi :: m.pd).take 40))
  else if c = 111 then (m, lineL 10 m.pi m.pd)
  else (m, [])
def letter (m : RE) (c : Nat) : RE × List UInt8 := if 48 ≤ c ∧ c ≤ 57 then ({ m with st := c - 48 }, []) else m.act c
def run (m : RE) : List Nat → RE × List UInt8
  | [] => (m, [])
  | c :: r => let y := m.letter c; let z := run y.1 r; (z.1, y.2 ++ z.2)
end RE
def rowT (ev : Nat) : List (List Nat) :=
  if ev = 1 then [[50], [105, 114, 54], [], [], [], [], [], [], [], []]
  else if ev = 2 then [[], [], [48], [98, 49], [48], [49], [49], [49], [49], [100, 49]]
  else if ev = 3 then [[98, 49], [], [105, 114, 54], [], [53], [], [], [], [], []]
  else if ev = 4 then [[], [102, 48], [], [50], [], [52], [116, 101, 52], [116, 101, 52], [116, 101, 52], [100, 116, 101, 52]]
  else if ev = 6 then [[], [], [], [], [101], [101], [114], [114, 54], [114], []]
  else if ev = 7 then [[], [], [], [], [102, 50], [102, 51], [102, 51], [102, 51], [102, 51], []]
  else if ev = 8 then [[], [], [107], [105, 114, 97, 56], [], [], [97, 56], [97, 117, 57], [97], [100, 114, 97, 56]]
  else if ev = 9 then [[], [], [107], [105, 114, 110, 54], [], [], [110], [110], [110, 54], [100, 114, 110, 54]]
  else if ev = 10 then [[], [], [107], [107], [], [], [105, 55], [114, 54], [105, 117, 57], [100, 114, 54]]
  else if ev = 11 then [[], [], [107], [107], [], [], [105, 114], [114, 54], [105, 114], [100, 114, 54]]
  else if ev = 12 then [[], [], [107], [107], [107], [107], [107], [107, 54], [107, 54], [100, 122, 107, 53]]
  else if ev = 13 then [[], [], [], [], [102, 50], [102, 51], [], [54], [], [100, 114, 54]]
  else if ev = 14 then [[], [], [106], [106], [106], [106], [106], [106], [106], [106]]
  else if ev = 15 then [[], [], [], [], [], [], [], [54], [], []]
  else if ev = 16 then [[], [], [102], [102], [102, 50], [102, 51], [102, 51], [102, 51], [102, 51], [100, 116, 101, 53]]
  else if ev = 17 then [[], [], [], [], [], [], [], [], [], [111]]
  else [[], [], [], [], [], [], [], [], [], []]
namespace RE
def at_ (m : RE) (ev : Nat) : RE × List UInt8 := m.run ((rowT ev).getD m.st [])
def event (m : RE) (k : Int) : RE × List UInt8 :=
  if 1 ≤ k ∧ k ≤ 4 then m.at_ k.toNat
  else if k ≠ 5 ∨ m.st < 4 ∨ 8 < m.st ∨ m.tim ≤ 0 then (m, [])
  else if 0 < m.tim - 1 then ({ m with tim := m.tim - 1 }, [])
  else if 0 < m.cnt then { m with tim := m.tim - 1 }.at_ 6
  else { m with tim := m.tim - 1 }.at_ 7
end RE
end Go.Proofs.YtoeihlgidakjbaaGreatDoor
namespace Go.Proofs.YtoeihlgidakjbaaGreatDoor
open Go.RowKit Go.Lib
def itemC (l : List (Nat × Nat)) : List Value := l.flatMap fun x => [Value.int .i64 (x.1 : Int), Value.int .i64 (x.2 : Int)]
theorem itemC_get (l : List (Nat × Nat)) (k : Nat) (h : k < l.length) : (itemC l)[k * 2]? = some (.int .i64 ((l[k]).1 : Int)) ∧ (itemC l)[k * 2 + 1]? = some (.int .i64 ((l[k]).2 : Int)) := by
  induction l generalizing k with
  | nil => simp at h
  | cons x l ih =>
    cases k with
    | zero => simp [itemC]
    | succ k =>
      have := ih k (by simpa using h)
      have e : itemC (x :: l) = [Value.int .i64 (x.1 : Int), Value.int .i64 (x.2 : Int)] ++ itemC l := rfl
      rw [e, show (k + 1) * 2 = k * 2 + 2 from by omega, List.getElem?_append_right (by simp), List.getElem?_append_right (by simp)]
      simpa [show k * 2 + 2 + 1 - 2 = k * 2 + 1 from by omega] using this
theorem dataL_take (l : List (Nat × Nat)) (k : Nat) (h : k < l.length) : dataL (l.take (k + 1)) = dataL (l.take k) ++ itemL (l[k]).1 (l[k]).2 := by
  rw [List.take_add_one, List.getElem?_eq_getElem h]
  unfold dataL
  rw [List.flatMap_append]; rfl
theorem dataL_len (l : List (Nat × Nat)) : (dataL l).length = 3 * l.length := by
  induction l with
  | nil => rfl
  | cons x l ih =>
    have e : dataL (x :: l) = itemL x.1 x.2 ++ dataL l := rfl
    rw [e, List.length_append, ih]; simp [itemL, twoL]; omega
def ItemsIn (w : World) (v : Value) (l : List (Nat × Nat)) : Prop := ∃ a cap g, v = .slice a l.length cap ∧ (0 < l.length → a = some ⟨g, 0, none⟩ ∧ g < w.heap.size) ∧ ∀ k (h : k < l.length), w.cell? ⟨g, k * 2, none⟩ = some (.int .i64 ((l[k]).1 : Int)) ∧ w.cell? ⟨g, k * 2 + 1, none⟩ = some (.int .i64 ((l[k]).2 : Int))
theorem itemsIn_own {w : World} {B e : Nat} {v : Value} {l : List (Nat × Nat)} (h : w.ownsRow B e 2 v l.length (itemC l)) : ItemsIn w v l := by
  have h0 := h
  rcases h.2 with ⟨rfl, hz⟩ | ⟨g, cap, cur, rfl, _, hg, _⟩
  · exact ⟨none, 0, 0, by rw [hz], fun h => by omega, fun k hk => by omega⟩
  · refine ⟨_, cap, g, rfl, fun _ => ⟨rfl, (Array.getElem?_eq_some_iff.1 hg).1⟩, fun k hk => ?_⟩
    have hc := h0.cells (g := g) rfl
    have := itemC_get l k hk
    have hadd : ∀ j, (⟨g, 0, none⟩ : Addr).add j = ⟨g, j, none⟩ := fun j => by unfold Addr.add; split <;> simp_all
    exact ⟨by rw [← hadd]; exact hc _ _ this.1, by rw [← hadd]; exact hc _ _ this.2⟩
structure RE.Ok (m : RE) : Prop where
  st : m.st < 10
  id : m.id < 256
  odd : m.odd < 256
  k0 : m.k0 < 256
  k1 : m.k1 < 256
  k2 : m.k2 < 256
  pc : m.pc < 256
  pi : m.pi < 256
  pd : m.pd.length ≤ 40
  mg : m.mg ≠ []
  ms : ∀ x ∈ m.mg, x < 65536
  aa : ∀ i, m.acc i ≠ [] ∧ (m.acc i).length ≤ 8 ∧ ∀ x ∈ m.acc i, x < 256
  ww : ∀ i, m.want i ≠ [] ∧ (m.want i).length ≤ 8 ∧ ∀ x ∈ m.want i, x < 256
theorem RE.Ok.mag {m : RE} (h : m.Ok) : ∃ k, ∃ hk : k < m.mg.length, k + 1 = m.mg.length ∧ m.mg[k] = m.mag ∧ m.mag < 65536 := by
  obtain ⟨k, hk⟩ : ∃ k, k + 1 = m.mg.length := ⟨m.mg.length - 1, by have := List.length_pos_iff.2 h.mg; omega⟩
  have hlt : k < m.mg.length := by omega
  have e : m.mag = m.mg[k] := by
    unfold RE.mag
    rw [List.getLast?_eq_getElem?, show m.mg.length - 1 = k by omega, List.getElem?_eq_getElem hlt]; rfl
  exact ⟨k, hlt, hk, e.symm, by rw [e]; exact h.ms _ (List.getElem_mem hlt)⟩
structure RE.Fit (m : RE) (k : Nat) : Prop where
  told : m.told.length + k ≤ 17000000000000
  mg : m.mg.length + k ≤ 17000000000000
  c0 : -1000000 + (k : Int) ≤ m.cnt
  c1 : m.cnt ≤ 5
  nk : m.naks + k ≤ 1000000000000000
  lp : m.loops + k ≤ 1000000000000000
  h0 : m.h0 + k ≤ 1000000000000000
  h1 : m.h1 + k ≤ 1000000000000000
  h2 : m.h2 + k ≤ 1000000000000000
theorem RE.hinted_eq (m : RE) (i : Nat) : ∃ x y z, m.hinted i = { m with h0 := x, h1 := y, h2 := z } ∧ x ≤ m.h0 + 1 ∧ y ≤ m.h1 + 1 ∧ z ≤ m.h2 + 1 := by
  unfold RE.hinted
  split
  · exact ⟨m.h0 + 1, m.h1, m.h2, rfl, by omega, by omega, by omega⟩
  · split
    · exact ⟨m.h0, m.h1 + 1, m.h2, rfl, by omega, by omega, by omega⟩
    · exact ⟨m.h0, m.h1, m.h2 + 1, rfl, by omega, by omega, by omega⟩
theorem RE.named1_eq (m : RE) (p : Nat × Nat) : ∃ x y z, (m.named1 p).1 = { m with h0 := x, h1 := y, h2 := z } ∧ x ≤ m.h0 + 1 ∧ y ≤ m.h1 + 1 ∧ z ≤ m.h2 + 1 := by
  unfold RE.named1
  split
  · exact m.hinted_eq p.1
  · exact ⟨m.h0, m.h1, m.h2, rfl, by omega, by omega, by omega⟩
theorem RE.nakItems_eq (l : List (Nat × Nat)) (m : RE) : ∃ x y z, (m.nakItems l).1 = { m with h0 := x, h1 := y, h2 := z } ∧ x ≤ m.h0 + l.length ∧ y ≤ m.h1 + l.length ∧ z ≤ m.h2 + l.length := by
  induction l generalizing m with
  | nil => exact ⟨m.h0, m.h1, m.h2, rfl, by simp, by simp, by simp⟩
  | cons p l ih =>
    obtain ⟨x, y, z, e, h1, h2, h3⟩ := m.named1_eq p
    obtain ⟨x', y', z', e', k1, k2, k3⟩ := ih (m.named1 p).1
    refine ⟨x', y', z', ?_, ?_, ?_, ?_⟩
    · show ((m.named1 p).1.nakItems l).1 = _
      rw [e', e]
    all_goals rw [e] at k1 k2 k3; simp only [List.length_cons] at *; omega
theorem itemsAux_len : ∀ (s : List UInt8) (p : Nat) (l : List (Nat × Nat)), itemsAux s p = some l → l.length ≤ s.length
  | [], p, l, h => by simp [itemsAux] at h; subst h; simp
  | [_], p, l, h => by simp [itemsAux] at h
  | [_, _], p, l, h => by simp [itemsAux] at h
  | a :: b :: c :: r, p, l, h => by
    rw [itemsAux] at h
    split at h
    · cases h
    · obtain ⟨l', h1, rfl⟩ := Option.map_eq_some_iff.1 h
      have := itemsAux_len r _ l' h1
      simp; omega
theorem RE.bads_len (m : RE) : (m.bad ((itemsL m.pd).getD [])).length ≤ m.pd.length := by
  refine Nat.le_trans (List.length_filter_le _ _) ?_
  cases h : itemsL m.pd with
  | none => simp
  | some l => exact itemsAux_len _ _ _ h
theorem RE.act_ind (m : RE) (c : Nat) (P : RE × List UInt8 → Prop) (h117 : P ({ m with told := m.told ++ [1], naks := 0 }, [])) (h100 : P ({ m with told := m.told ++ [2] }, [])) (h98 : P ({ m with told := m.told ++ [3] }, [])) (h102 : P ({ m with told := m.told ++ [4] }, [])) (h105 : P ({ m with cnt := 5 }, [])) (h116 : P ({ m with cnt := 2 }, [])) (h122 : P ({ m with cnt := 0, tim := 3 }, [])) (h114 : P ({ m with cnt := m.cnt - 1, tim := 3 }.request)) (h101 : P ({ m with cnt := m.cnt - 1, tim := 3, id := (m.id + 1) % 256 }, lineL 5 ((m.id + 1) % 256) [])) (h97 : P ({ m with naks := 0, agr := m.pd }, lineL 2 m.pi m.pd)) (h110 : P (m.nak)) (h107 : P (m, lineL 6 m.pi [])) (h106 : P ({ m with odd := (m.odd + 1) % 256 }, lineL 7 ((m.odd + 1) % 256) ((UInt8.ofNat m.pc :: UInt8.ofNat m.pi :: m.pd).take 40))) (h111 : P (m, lineL 10 m.pi m.pd)) (h0 : P (m, [])) : P (m.act c) := by
  unfold RE.act
  by_cases e117 : c = 117
  · rw [if_pos e117]; exact h117
  rw [if_neg e117]
  by_cases e100 : c = 100
  · rw [if_pos e100]; exact h100
  rw [if_neg e100]
  by_cases e98 : c = 98
  · rw [if_pos e98]; exact h98
  rw [if_neg e98]
  by_cases e102 : c = 102
  · rw [if_pos e102]; exact h102
  rw [if_neg e102]
  by_cases e105 : c = 105
  · rw [if_pos e105]; exact h105
  rw [if_neg e105]
  by_cases e116 : c = 116
  · rw [if_pos e116]; exact h116
  rw [if_neg e116]
  by_cases e122 : c = 122
  · rw [if_pos e122]; exact h122
  rw [if_neg e122]
  by_cases e114 : c = 114
  · rw [if_pos e114]; exact h114
  rw [if_neg e114]
  by_cases e101 : c = 101
  · rw [if_pos e101]; exact h101
  rw [if_neg e101]
  by_cases e97 : c = 97
  · rw [if_pos e97]; exact h97
  rw [if_neg e97]
  by_cases e110 : c = 110
  · rw [if_pos e110]; exact h110
  rw [if_neg e110]
  by_cases e107 : c = 107
  · rw [if_pos e107]; exact h107
  rw [if_neg e107]
  by_cases e106 : c = 106
  · rw [if_pos e106]; exact h106
  rw [if_neg e106]
  by_cases e111 : c = 111
  · rw [if_pos e111]; exact h111
  rw [if_neg e111]
  exact h0
theorem RE.act_ok {m : RE} (h : m.Ok) (c : Nat) : (m.act c).1.Ok := by
  obtain ⟨st, id, odd, k0, k1, k2, pc, pi, pd, mg, ms, aa, ww⟩ := h
  have hi : (m.id + 1) % 256 < 256 := Nat.mod_lt _ (by decide)
  have ho : (m.odd + 1) % 256 < 256 := Nat.mod_lt _ (by decide)
  refine RE.act_ind m c (fun r => r.1.Ok) ?_ ?_ ?_ ?_ ?_ ?_ ?_ ?_ ?_ ?_ ?_ ?_ ?_ ?_ ?_
  all_goals first
    | exact ⟨st, id, odd, k0, k1, k2, pc, pi, pd, mg, ms, aa, ww⟩
    | exact ⟨st, hi, odd, k0, k1, k2, pc, pi, pd, mg, ms, aa, ww⟩
    | exact ⟨st, id, ho, k0, k1, k2, pc, pi, pd, mg, ms, aa, ww⟩
    | skip
  · unfold RE.nak
    obtain ⟨x, y, z, e, _⟩ := RE.nakItems_eq (m.bad ((itemsL m.pd).getD [])) m
    simp only [e]
    exact ⟨st, id, odd, k0, k1, k2, pc, pi, pd, mg, ms, aa, ww⟩
theorem RE.letter_ok {m : RE} (h : m.Ok) (c : Nat) : (m.letter c).1.Ok := by
  unfold RE.letter
  split
  · obtain ⟨st, id, odd, k0, k1, k2, pc, pi, pd, mg, ms, aa, ww⟩ := h
    exact ⟨by show c - 48 < 10; omega, id, odd, k0, k1, k2, pc, pi, pd, mg, ms, aa, ww⟩
  · exact RE.act_ok h c
theorem RE.act_fit {m : RE} {k : Nat} (h : m.Fit (k + 100)) (ok : m.Ok) (c : Nat) : (m.act c).1.Fit k := by
  obtain ⟨told, mg, c0, c1, nk, lp, h0, h1, h2⟩ := h
  have hp := ok.pd
  refine RE.act_ind m c (fun r => r.1.Fit k) ?_ ?_ ?_ ?_ ?_ ?_ ?_ ?_ ?_ ?_ ?_ ?_ ?_ ?_ ?_
  all_goals first
    | (constructor <;> simp only [RE.request, List.length_append, List.length_cons, List.length_nil] <;> omega)
    | skip
  unfold RE.nak
  obtain ⟨x, y, z, e, hx, hy, hz⟩ := RE.nakItems_eq (m.bad ((itemsL m.pd).getD [])) m
  have hb := m.bads_len
  simp only [e]
  constructor <;> simp only <;> omega
theorem RE.letter_fit {m : RE} {k : Nat} (h : m.Fit (k + 100)) (ok : m.Ok) (c : Nat) : (m.letter c).1.Fit k := by
  unfold RE.letter
  split
  · obtain ⟨told, mg, c0, c1, nk, lp, h0, h1, h2⟩ := h
    constructor <;> simp only <;> omega
  · exact RE.act_fit h ok c
theorem RE.run_ok {m : RE} (h : m.Ok) (l : List Nat) : (m.run l).1.Ok := by
  induction l generalizing m with
  | nil => exact h
  | cons c l ih => exact ih (RE.letter_ok h c)
theorem lineL_len (c d : Nat) (s : List UInt8) : (lineL c d s).length ≤ 2 * s.length + 10 := by
  unfold lineL encl
  have := (escL_len (content (UInt8.ofNat c) (UInt8.ofNat d) s)).2
  rw [content_len] at this
  simp only [List.length_cons, List.length_append, List.length_nil]; omega
theorem RE.nakItems_len (l : List (Nat × Nat)) (m : RE) : (m.nakItems l).2.length = l.length := by
  induction l generalizing m with
  | nil => rfl
  | cons p l ih => show ((m.named1 p).1.nakItems l).2.length + 1 = _; rw [ih]; rfl
theorem RE.act_len {m : RE} (ok : m.Ok) (c : Nat) : (m.act c).2.length ≤ 1000 := by
  have hp := ok.pd
  refine RE.act_ind m c (fun r => r.2.length ≤ 1000) ?_ ?_ ?_ ?_ ?_ ?_ ?_ ?_ ?_ ?_ ?_ ?_ ?_ ?_ ?_
  all_goals first
    | (show 0 ≤ _; omega)
    | skip
  · refine Nat.le_trans (lineL_len _ _ _) ?_
    rw [dataL_len]; simp [RE.asks]
  · exact Nat.le_trans (lineL_len _ _ _) (by simp)
  · refine Nat.le_trans (lineL_len _ _ _) (by omega)
  · unfold RE.nak
    refine Nat.le_trans (lineL_len _ _ _) ?_
    rw [dataL_len, RE.nakItems_len]
    have := m.bads_len
    omega
  · exact Nat.le_trans (lineL_len _ _ _) (by simp)
  · refine Nat.le_trans (lineL_len _ _ _) ?_
    rw [List.length_take]; omega
  · refine Nat.le_trans (lineL_len _ _ _) (by omega)
theorem rowT_small : ∀ ev, ev < 18 → ∀ st, st < 10 → ((rowT ev).getD st []).length ≤ 4 ∧ (∀ c ∈ (rowT ev).getD st [], c < 256) ∧ (rowT ev).length = 10 := by decide +kernel
def newM (L : Nat → List Int) (mg : Int) : RE := ⟨(L 0).map Int.toNat, (L 1).map Int.toNat, (L 2).map Int.toNat, (L 3).map Int.toNat, (L 4).map Int.toNat, (L 5).map Int.toNat, 0, [], [], 0, 0, 0, 0, [], -1, [], 0, 0, [], 0, 0, ((L 0).headD 0).toNat, ((L 1).headD 0).toNat, ((L 2).headD 0).toNat, 0, 0, 0, [mg.toNat]⟩
def lastW (l : List (Nat × Nat)) : Nat := (l.getLast?.map (·.1)).getD 0
theorem lastW_snoc (l : List (Nat × Nat)) (x : Nat × Nat) : lastW (l ++ [x]) = x.1 := by simp [lastW]
theorem itemsAux_bad (a b c : UInt8) (r : List UInt8) (p : Nat) (h : a.toNat < 1 ∨ 4 < a.toNat ∨ a.toNat ≤ p) : itemsAux (a :: b :: c :: r) p = none := by rw [itemsAux, if_pos h]
theorem itemsAux_next (a b c : UInt8) (r : List UInt8) (p : Nat) (h : ¬ (a.toNat < 1 ∨ 4 < a.toNat ∨ a.toNat ≤ p)) : itemsAux (a :: b :: c :: r) p = (itemsAux r a.toNat).map ((a.toNat, b.toNat + 256 * c.toNat) :: ·) := by rw [itemsAux, if_neg h]
theorem itemsAux_odd : ∀ (s : List UInt8) (p : Nat), s.length % 3 ≠ 0 → itemsAux s p = none
  | [], p, h => by simp at h
  | [_], p, h => rfl
  | [_, _], p, h => rfl
  | a :: b :: c :: r, p, h => by
    have := itemsAux_odd r a.toNat (by simp at h; omega)
    rw [itemsAux, this]; split <;> rfl
def termsI (s : List UInt8) (i : Nat) : Nat := (((itemsL s).getD []).getD i (0, 0)).2
def termsV (s : List UInt8) : Value := .agg #[iv (termsI s 0), iv (termsI s 1), iv (termsI s 2)]
def tC (k : Nat) (l : List (Nat × Nat)) : Array Value := #[if 0 < k then iv (l.getD 0 (0, 0)).2 else .int .i64 0, if 1 < k then iv (l.getD 1 (0, 0)).2 else .int .i64 0, if 2 < k then iv (l.getD 2 (0, 0)).2 else .int .i64 0]
theorem Tryz.size3 : (Tryz.prog.info? 74).map (·.size) = some 3 := by kernel_rfl
def RE.ownF (m : RE) (l : List (Nat × Nat)) : Bool := l.foldl (fun a x => if x.1 = 4 then decide (x.2 ∈ m.mg) else a) false
theorem RE.bad_snoc (m : RE) (l : List (Nat × Nat)) (x : Nat × Nat) : m.bad (l ++ [x]) = m.bad l ++ (if m.isBad x then [x] else []) := by
  unfold RE.bad
  rw [List.filter_append]
  congr 1
  by_cases h : m.isBad x = true <;> simp [h]
theorem RE.nakItems_snoc (l : List (Nat × Nat)) (m : RE) (x : Nat × Nat) : m.nakItems (l ++ [x]) = (((m.nakItems l).1.named1 x).1, (m.nakItems l).2 ++ [((m.nakItems l).1.named1 x).2]) := by
  induction l generalizing m with
  | nil => simp [RE.nakItems]
  | cons y l ih => simp [RE.nakItems, ih]
theorem itemsAux_rng : ∀ (s : List UInt8) (p : Nat) (l : List (Nat × Nat)), itemsAux s p = some l → ∀ x ∈ l, 1 ≤ x.1 ∧ x.1 ≤ 4 ∧ x.2 < 65536
  | [], p, l, h => by simp [itemsAux] at h; subst h; simp
  | [_], p, l, h => by simp [itemsAux] at h
  | [_, _], p, l, h => by simp [itemsAux] at h
  | a :: b :: c :: r, p, l, h => by
    rw [itemsAux] at h
    split at h
    · cases h
    · rename_i hn
      obtain ⟨l', h1, rfl⟩ := Option.map_eq_some_iff.1 h
      have := itemsAux_rng r _ l' h1
      intro x hx
      rcases List.mem_cons.1 hx with rfl | hx
      · have hb := UInt8.toNat_lt b
        have hc := UInt8.toNat_lt c
        simp only; omega
      · exact this x hx
theorem ItemsIn.drew {w : World} {v : Value} {l : List (Nat × Nat)} (h : ItemsIn w v l) : ItemsIn w.drew v l := h
theorem RE.hint_le (l : List (Nat × Nat)) (m : RE) (i : Nat) (N : Nat) (h0 : m.h0 ≤ N) (h1 : m.h1 ≤ N) (h2 : m.h2 ≤ N) : (m.nakItems l).1.hint i ≤ N + l.length := by
  obtain ⟨x, y, z, e, hx, hy, hz⟩ := RE.nakItems_eq l m
  rw [e]
  unfold RE.hint
  simp only
  split
  · omega
  · split <;> omega
theorem RE.nakItems_rng (L : List (Nat × Nat)) (m : RE) (ha : ∀ i, ∀ x ∈ m.acc i, x < 256) (hL : ∀ x ∈ L, x.1 ≤ 4) : ∀ x ∈ (m.nakItems L).2, x.1 < 256 ∧ x.2 < 65536 := by
  induction L generalizing m with
  | nil => intro x hx; cases hx
  | cons y L ih =>
    intro x hx
    have hx' : x ∈ (m.named1 y).2 :: ((m.named1 y).1.nakItems L).2 := hx
    rcases List.mem_cons.1 hx' with rfl | hx'
    · have hy := hL y (by simp)
      unfold RE.named1
      split
      · have := getD_lt (m.acc y.1) (m.hint y.1 % (m.acc y.1).length) 256 (ha y.1) (by decide)
        simp only; omega
      · simp only; omega
    · refine ih (m.named1 y).1 ?_ (fun z hz => hL z (by simp [hz])) x hx'
      obtain ⟨p, q, r, e, _⟩ := m.named1_eq y
      rw [e]; exact ha
namespace RE
def ask (m : RE) (i n : Nat) : RE := if i = 1 then { m with k0 := n } else if i = 2 then { m with k1 := n } else { m with k2 := n }
end RE
namespace RE
def take1 (m : RE) (x : Nat × Nat) : RE := if x.1 = 4 then { m with mg := m.mg ++ [(5 * m.mag + 3) % 65536] } else if x.2 ∈ m.want x.1 then m.ask x.1 x.2 else m
end RE
namespace RE
def takeAll (m : RE) (l : List (Nat × Nat)) : RE := l.foldl take1 m
end RE
namespace RE
def asked (m : RE) (l : List (Nat × Nat)) : RE × List UInt8 :=
  if m.bad l = [] then m.at_ 8
  else
    let m1 := if (m.st = 3 ∨ 6 ≤ m.st) ∧ m.ownF l = true then { m with loops := m.loops + 1 } else m
    if (m.st = 3 ∨ 6 ≤ m.st) ∧ m.ownF l = true ∧ 3 < m1.loops then { m1 with told := m1.told ++ [6] }.at_ 4
    else if (m.st = 3 ∨ 6 ≤ m.st) ∧ 20 ≤ m.naks then { m1 with told := m1.told ++ [5] }.at_ 4
    else m1.at_ 9
end RE
namespace RE
def receive (m : RE) : RE × List UInt8 :=
  if m.pc = 1 then (match itemsL m.pd with | some l => if l.length = 4 then m.asked l else (m, []) | none => (m, []))
  else if m.pc = 2 then (if (m.pi : Int) = m.sid ∧ m.pd = m.sent then m.at_ 10 else (m, []))
  else if m.pc = 3 then (match itemsL m.pd with | some l => if l = [] ∨ (m.pi : Int) ≠ m.sid then (m, []) else (m.takeAll l).at_ 11 | none => (m, []))
  else if m.pc = 5 then m.at_ 12
  else if m.pc = 6 then m.at_ 13
  else if m.pc = 7 then (match m.pd with | [] => (m, []) | c :: _ => if c.toNat = 1 ∨ c.toNat = 2 ∨ c.toNat = 3 ∨ c.toNat = 5 ∨ c.toNat = 6 then m.at_ 16 else m.at_ 15)
  else if m.pc = 9 then m.at_ 17
  else if m.pc = 10 then (m, [])
  else m.at_ 14
end RE
theorem RE.take1_ok {m : RE} (h : m.Ok) (x : Nat × Nat) : (m.take1 x).Ok := by
  obtain ⟨st, id, odd, k0, k1, k2, pc, pi, pd, mg, ms, aa, ww⟩ := h
  unfold RE.take1
  split
  · refine ⟨st, id, odd, k0, k1, k2, pc, pi, pd, by simp, ?_, aa, ww⟩
    intro y hy
    rcases List.mem_append.1 hy with q | q
    · exact ms y q
    · have : y = (5 * m.mag + 3) % 65536 := by simpa using q
      omega
  · split
    · rename_i hin
      have hn := (ww x.1).2.2 _ hin
      unfold RE.ask
      split
      · exact ⟨st, id, odd, hn, k1, k2, pc, pi, pd, mg, ms, aa, ww⟩
      · split
        · exact ⟨st, id, odd, k0, hn, k2, pc, pi, pd, mg, ms, aa, ww⟩
        · exact ⟨st, id, odd, k0, k1, hn, pc, pi, pd, mg, ms, aa, ww⟩
    · exact ⟨st, id, odd, k0, k1, k2, pc, pi, pd, mg, ms, aa, ww⟩
theorem RE.takeAll_ok (l : List (Nat × Nat)) {m : RE} (h : m.Ok) : (m.takeAll l).Ok := by
  induction l generalizing m with
  | nil => exact h
  | cons x l ih => exact ih (RE.take1_ok h x)
theorem RE.takeAll_snoc (m : RE) (l : List (Nat × Nat)) (x : Nat × Nat) : m.takeAll (l ++ [x]) = (m.takeAll l).take1 x := by simp [RE.takeAll]
theorem RE.take1_mg (m : RE) (x : Nat × Nat) : (m.take1 x).mg.length ≤ m.mg.length + 1 := by
  unfold RE.take1
  split
  · simp
  · split
    · unfold RE.ask; split
      · simp
      · split <;> simp
    · simp
theorem RE.takeAll_mg (m : RE) (l : List (Nat × Nat)) : (m.takeAll l).mg.length ≤ m.mg.length + l.length := by
  induction l generalizing m with
  | nil => exact Nat.le_refl _
  | cons x l ih =>
    have h1 := ih (m.take1 x)
    have h2 := m.take1_mg x
    show ((m.take1 x).takeAll l).mg.length ≤ _
    rw [List.length_cons]; omega
theorem RE.Fit.less {m : RE} {j k : Nat} (h : m.Fit k) (hj : j ≤ k) : m.Fit j := by
  obtain ⟨a, b, c, d, e, f, g, i, l⟩ := h
  exact ⟨by omega, by omega, by omega, d, by omega, by omega, by omega, by omega, by omega⟩
def RE.ans (m : RE) : Bool := ((m.st : Int) == 3) || decide ((m.st : Int) ≥ 6)
theorem RE.asked_0 {m : RE} {l : List (Nat × Nat)} (h : m.bad l = []) : m.asked l = m.at_ 8 := by unfold RE.asked; rw [if_pos h]
theorem RE.asked_6 {m : RE} {l : List (Nat × Nat)} (h : m.bad l ≠ []) (ha : m.st = 3 ∨ 6 ≤ m.st) (ho : m.ownF l = true) (hl : 3 < m.loops + 1) : m.asked l = { m with loops := m.loops + 1, told := m.told ++ [6] }.at_ 4 := by
  unfold RE.asked; rw [if_neg h]; simp only [ha, ho, and_self, if_true, hl]
theorem RE.asked_o5 {m : RE} {l : List (Nat × Nat)} (h : m.bad l ≠ []) (ha : m.st = 3 ∨ 6 ≤ m.st) (ho : m.ownF l = true) (hl : ¬ 3 < m.loops + 1) (hn : 20 ≤ m.naks) : m.asked l = { m with loops := m.loops + 1, told := m.told ++ [5] }.at_ 4 := by
  unfold RE.asked; rw [if_neg h]; simp only [ha, ho, and_self, if_true, hl, and_false, if_false, hn]
theorem RE.asked_o9 {m : RE} {l : List (Nat × Nat)} (h : m.bad l ≠ []) (ha : m.st = 3 ∨ 6 ≤ m.st) (ho : m.ownF l = true) (hl : ¬ 3 < m.loops + 1) (hn : ¬ 20 ≤ m.naks) : m.asked l = { m with loops := m.loops + 1 }.at_ 9 := by
  unfold RE.asked; rw [if_neg h]; simp only [ha, ho, and_self, if_true, hl, and_false, if_false, hn]
theorem RE.asked_n5 {m : RE} {l : List (Nat × Nat)} (h : m.bad l ≠ []) (ha : m.st = 3 ∨ 6 ≤ m.st) (ho : m.ownF l = false) (hn : 20 ≤ m.naks) : m.asked l = { m with told := m.told ++ [5] }.at_ 4 := by
  unfold RE.asked; rw [if_neg h]; simp [ha, ho, hn]
theorem RE.asked_n9 {m : RE} {l : List (Nat × Nat)} (h : m.bad l ≠ []) (ho : m.ownF l = false) (hn : ¬ 20 ≤ m.naks) : m.asked l = m.at_ 9 := by
  unfold RE.asked; rw [if_neg h]; simp [ho, hn]
theorem RE.asked_x {m : RE} {l : List (Nat × Nat)} (h : m.bad l ≠ []) (ha : ¬ (m.st = 3 ∨ 6 ≤ m.st)) : m.asked l = m.at_ 9 := by
  unfold RE.asked; rw [if_neg h]; simp [ha]
theorem ItemsIn.below {w w' : World} {v : Value} {l : List (Nat × Nat)} (h : ItemsIn w v l) (hb : Below w.heap.size w w') : ItemsIn w' v l := by
  obtain ⟨a, cap, g, rfl, ha, hc⟩ := h
  refine ⟨a, cap, g, rfl, fun h0 => ⟨(ha h0).1, Nat.lt_of_lt_of_le (ha h0).2 hb.size⟩, fun k hk => ?_⟩
  have hg := (ha (by omega)).2
  exact ⟨(hb.cell (p := ⟨g, k * 2, none⟩) hg).trans (hc k hk).1, (hb.cell (p := ⟨g, k * 2 + 1, none⟩) hg).trans (hc k hk).2⟩
theorem RE.take1_fit {m : RE} {k : Nat} (h : m.Fit (k + 1)) (x : Nat × Nat) : (m.take1 x).Fit k := by
  obtain ⟨a1, a2, a3, a4, a5, a6, a7, a8, a9⟩ := h
  unfold RE.take1
  split
  · exact ⟨by simp; omega, by simp; omega, by simp; omega, a4, by simp; omega, by simp; omega, by simp; omega, by simp; omega, by simp; omega⟩
  · split
    · unfold RE.ask
      split
      · exact ⟨by simp; omega, by simp; omega, by simp; omega, a4, by simp; omega, by simp; omega, by simp; omega, by simp; omega, by simp; omega⟩
      · split <;> exact ⟨by simp; omega, by simp; omega, by simp; omega, a4, by simp; omega, by simp; omega, by simp; omega, by simp; omega, by simp; omega⟩
    · exact ⟨by omega, by omega, by omega, a4, by omega, by omega, by omega, by omega, by omega⟩
theorem RE.takeAll_fit (l : List (Nat × Nat)) {m : RE} {k : Nat} (h : m.Fit (k + l.length)) : (m.takeAll l).Fit k := by
  induction l generalizing m with
  | nil => exact h
  | cons x l ih => exact ih (RE.take1_fit (by rw [List.length_cons] at h; exact h) x)
end Go.Proofs.YtoeihlgidakjbaaGreatDoor
namespace Go.Proofs.YtoeihlgidakjbaaGreatDoor
open Go.RowKit Go.Lib
def RE.Fine (m : RE) (k : Nat) : Prop := m.Ok ∧ m.Fit k
theorem RE.Fine.less {m : RE} {j k : Nat} (h : m.Fine k) (hj : j ≤ k) : m.Fine j := ⟨h.1, h.2.less hj⟩
theorem RE.loop_fine {m : RE} {k : Nat} (h : m.Fine (k + 1)) : ({ m with loops := m.loops + 1 } : RE).Fine k := by
  obtain ⟨⟨st, id, odd, k0, k1, k2, pc, pi, pd, mg, ms, aa, ww⟩, ⟨a1, a2, a3, a4, a5, a6, a7, a8, a9⟩⟩ := h
  exact ⟨⟨st, id, odd, k0, k1, k2, pc, pi, pd, mg, ms, aa, ww⟩, ⟨by simp; omega, by simp; omega, by simp; omega, a4, by simp; omega, by simp; omega, by simp; omega, by simp; omega, by simp; omega⟩⟩
end Go.Proofs.YtoeihlgidakjbaaGreatDoor
namespace Go.Proofs.YtoeihlgidakjbaaGreatDoor
open Go.RowKit Go.Lib
def unframeL (l : List UInt8) : Option (UInt8 × UInt8 × List UInt8) := match unesc l with
  | none => none
  | some z => match z.take (z.length - 2), z.drop (z.length - 2) with
    | c :: d :: t, [x, y] => if le16 x y = sumL (c :: d :: t) ∧ c.toNat ≠ 0 then some (c, d, t) else none
    | _, _ => none
theorem unfR_L {l : List UInt8} {v : Value} {n : Int} (h : UnfR l v n) : (unframeL l = none ∧ n ≠ 0) ∨ (∃ c d t, unframeL l = some (c, d, t) ∧ v = pktV c d t ∧ n = 0 ∧ t.length ≤ 40) := by
  rcases h with ⟨h1, _, rfl⟩ | ⟨c, d, t, x, y, h1, h2⟩
  · left; unfold unframeL; rw [h1]; exact ⟨rfl, by omega⟩
  · have hlen : ((c :: d :: t) ++ [x, y]).length - 2 = (c :: d :: t).length := by simp
    have e1 : ((c :: d :: t) ++ [x, y]).take (((c :: d :: t) ++ [x, y]).length - 2) = c :: d :: t := by rw [hlen]; exact List.take_left
    have e2 : ((c :: d :: t) ++ [x, y]).drop (((c :: d :: t) ++ [x, y]).length - 2) = [x, y] := by rw [hlen]; exact List.drop_left
    have eq : unframeL l = if le16 x y = sumL (c :: d :: t) ∧ c.toNat ≠ 0 then some (c, d, t) else none := by
      unfold unframeL; rw [h1]; simp only [e1, e2]
    have hl : t.length ≤ 40 := by
      have := (unesc_rd h1).2.2
      simp at this; omega
    rcases h2 with ⟨a, _, rfl⟩ | ⟨a, b, _, rfl⟩ | ⟨a, b, hv, hn⟩
    · left; rw [eq, if_neg (fun e => a e.1)]; exact ⟨rfl, by omega⟩
    · left; rw [eq, if_neg (fun e => e.2 b)]; exact ⟨rfl, by omega⟩
    · right; exact ⟨c, d, t, by rw [eq, if_pos ⟨a, b⟩], hv, hn, hl⟩
namespace RE
def come (m : RE) (p : UInt8 × UInt8 × List UInt8) : RE := { m with pc := p.1.toNat, pi := p.2.1.toNat, pd := p.2.2 }
def byte1 (m : RE) (b : UInt8) : RE × List UInt8 :=
  if b.toNat ≠ 126 then (if m.got.length ≤ 88 then { m with got := m.got ++ [b] } else m, [])
  else if m.got = [] ∨ 88 < m.got.length then ({ m with got := [] }, [])
  else match unframeL m.got with
    | none => ({ m with got := [] }, [])
    | some p => (({ m with got := [] } : RE).come p).receive
def bytes (m : RE) (l : List UInt8) : RE × List UInt8 := l.foldl (fun r b => ((r.1.byte1 b).1, r.2 ++ (r.1.byte1 b).2)) (m, [])
theorem bytes_snoc (m : RE) (l : List UInt8) (b : UInt8) : m.bytes (l ++ [b]) = (((m.bytes l).1.byte1 b).1, (m.bytes l).2 ++ ((m.bytes l).1.byte1 b).2) := by simp [bytes]
theorem got_fine {m : RE} {k : Nat} (h : m.Fine k) (s : List UInt8) : ({ m with got := s } : RE).Fine k := by
  obtain ⟨⟨st, id, odd, k0, k1, k2, pc, pi, pd, mg, ms, aa, ww⟩, ⟨a1, a2, a3, a4, a5, a6, a7, a8, a9⟩⟩ := h
  exact ⟨⟨st, id, odd, k0, k1, k2, pc, pi, pd, mg, ms, aa, ww⟩, ⟨a1, a2, a3, a4, a5, a6, a7, a8, a9⟩⟩
theorem come_fine {m : RE} {k : Nat} (h : m.Fine k) (p : UInt8 × UInt8 × List UInt8) (hp : p.2.2.length ≤ 40) : (m.come p).Fine k := by
  obtain ⟨⟨st, id, odd, k0, k1, k2, pc, pi, pd, mg, ms, aa, ww⟩, ⟨a1, a2, a3, a4, a5, a6, a7, a8, a9⟩⟩ := h
  exact ⟨⟨st, id, odd, k0, k1, k2, p.1.toNat_lt, p.2.1.toNat_lt, hp, mg, ms, aa, ww⟩, ⟨a1, a2, a3, a4, a5, a6, a7, a8, a9⟩⟩
theorem run_len (l : List Nat) {m : RE} (ok : m.Ok) : (m.run l).2.length ≤ 1000 * l.length := by
  induction l generalizing m with
  | nil => exact Nat.le_refl _
  | cons c l ih =>
    have h1 : (m.letter c).2.length ≤ 1000 := by
      unfold RE.letter; split
      · exact Nat.zero_le _
      · exact RE.act_len ok c
    have h2 : (m.letter c).1.Ok := RE.run_ok ok [c]
    have h3 := ih h2
    show ((m.letter c).2 ++ ((m.letter c).1.run l).2).length ≤ _
    rw [List.length_append, List.length_cons]; omega
theorem at_len {m : RE} (ok : m.Ok) (ev : Nat) (hev : ev < 18) : (m.at_ ev).2.length ≤ 4000 := by
  have h1 := run_len ((rowT ev).getD m.st []) ok
  have h2 := (rowT_small ev hev m.st ok.st).1
  show (m.run _).2.length ≤ _
  omega
end RE
theorem unframeL_len {l : List UInt8} {p : UInt8 × UInt8 × List UInt8} (h : unframeL l = some p) : p.2.2.length ≤ 40 := by
  unfold unframeL at h
  cases hz : unesc l with
  | none => rw [hz] at h; cases h
  | some z =>
    rw [hz] at h
    have hl := (unesc_rd hz).2.2
    simp only at h
    split at h
    · rename_i c d t x y e1 e2
      split at h
      · cases h
        have := congrArg List.length e1
        rw [List.length_take] at this
        simp at this
        show t.length ≤ 40
        omega
      · cases h
    · cases h
theorem RE.asked_len {m : RE} (ok : m.Fine 1) (l : List (Nat × Nat)) : (m.asked l).2.length ≤ 4000 := by
  have h0 : m.Ok := ok.1
  have h1 : ({ m with loops := m.loops + 1 } : RE).Ok := (RE.loop_fine (k := 0) ok).1
  have ht : ∀ {m : RE} (x : Nat), m.Ok → ({ m with told := m.told ++ [x] } : RE).Ok := fun x ⟨st, id, odd, k0, k1, k2, pc, pi, pd, mg, ms, aa, ww⟩ => ⟨st, id, odd, k0, k1, k2, pc, pi, pd, mg, ms, aa, ww⟩
  by_cases hb : m.bad l = []
  · rw [RE.asked_0 hb]; exact RE.at_len h0 8 (by omega)
  · by_cases ha : m.st = 3 ∨ 6 ≤ m.st
    · cases ho : m.ownF l
      · by_cases hn : 20 ≤ m.naks
        · rw [RE.asked_n5 hb ha ho hn]; exact RE.at_len (ht 5 h0) 4 (by omega)
        · rw [RE.asked_n9 hb ho hn]; exact RE.at_len h0 9 (by omega)
      · by_cases hl : 3 < m.loops + 1
        · rw [RE.asked_6 hb ha ho hl]; exact RE.at_len (ht 6 h1) 4 (by omega)
        · by_cases hn : 20 ≤ m.naks
          · rw [RE.asked_o5 hb ha ho hl hn]; exact RE.at_len (ht 5 h1) 4 (by omega)
          · rw [RE.asked_o9 hb ha ho hl hn]; exact RE.at_len h1 9 (by omega)
    · rw [RE.asked_x hb ha]; exact RE.at_len h0 9 (by omega)
theorem RE.receive_len {m : RE} (h : m.Fine 1) : m.receive.2.length ≤ 4000 := by
  have h0 : m.Ok := h.1
  unfold RE.receive
  split
  · split
    · split
      · exact RE.asked_len h _
      · exact Nat.zero_le _
    · exact Nat.zero_le _
  · split
    · split
      · exact RE.at_len h0 10 (by omega)
      · exact Nat.zero_le _
    · split
      · split
        · rename_i l hl
          split
          · exact Nat.zero_le _
          · exact RE.at_len (RE.takeAll_ok l h0) 11 (by omega)
        · exact Nat.zero_le _
      · split
        · exact RE.at_len h0 12 (by omega)
        · split
          · exact RE.at_len h0 13 (by omega)
          · split
            · split
              · exact Nat.zero_le _
              · split
                · exact RE.at_len h0 16 (by omega)
                · exact RE.at_len h0 15 (by omega)
            · split
              · exact RE.at_len h0 17 (by omega)
              · split
                · exact Nat.zero_le _
                · exact RE.at_len h0 14 (by omega)
theorem RE.byte1_len {m : RE} (h : m.Fine 1) (b : UInt8) : (m.byte1 b).2.length ≤ 4000 := by
  unfold RE.byte1
  split
  · exact Nat.zero_le _
  · split
    · exact Nat.zero_le _
    · split
      · exact Nat.zero_le _
      · rename_i p hp
        exact RE.receive_len (RE.come_fine (RE.got_fine h _) p (unframeL_len hp))
end Go.Proofs.YtoeihlgidakjbaaGreatDoor
namespace Go.Proofs.YtoeihlgidakjbaaGreatDoor
open Go.RowKit Go.Lib
structure RE.Lim (m : RE) (n : Nat) : Prop where
  ok : m.Ok
  c0 : 0 ≤ m.cnt
  c1 : m.cnt ≤ 5
  t1 : m.tim ≤ 3
  told : m.told.length ≤ n
  mg : m.mg.length ≤ n + 1
  nk : m.naks ≤ n
  lp : m.loops ≤ n
  h0 : m.h0 ≤ n
  h1 : m.h1 ≤ n
  h2 : m.h2 ≤ n
  sn : m.sent.length ≤ 40
  ag : m.agr.length ≤ 40
theorem RE.Lim.fit {m : RE} {n : Nat} (h : m.Lim n) (hn : n ≤ 15000000000000) : m.Fit 500 := by
  obtain ⟨_, c0, c1, _, h1, h2, h3, h4, h5, h6, h7, _, _⟩ := h
  constructor <;> omega
theorem RE.Lim.mono {m : RE} {n k : Nat} (h : m.Lim n) (hn : n ≤ k) : m.Lim k := by
  obtain ⟨ok, c0, c1, t1, h1, h2, h3, h4, h5, h6, h7, sn, ag⟩ := h
  exact ⟨ok, c0, c1, t1, by omega, by omega, by omega, by omega, by omega, by omega, by omega, sn, ag⟩
theorem head_lt {l : List Int} (h : IsL l) : (l.headD 0).toNat < 256 := by
  obtain ⟨p1, _, p3, _⟩ := h
  rw [headD_get _ p1]
  have := p3 _ (List.getElem_mem p1)
  omega
theorem isL_nat {l : List Int} (h : IsL l) : l.map Int.toNat ≠ [] ∧ (l.map Int.toNat).length ≤ 8 ∧ ∀ x ∈ l.map Int.toNat, x < 256 := by
  obtain ⟨p1, p2, p3, _⟩ := h
  refine ⟨fun e => by have := congrArg List.length e; simp at this; rw [this] at p1; simp at p1, by rw [List.length_map]; exact p2, ?_⟩
  intro x hx
  obtain ⟨y, hy, rfl⟩ := List.mem_map.1 hx
  have := p3 y hy
  omega
theorem lim_new {L : Nat → List Int} {mg : Int} (h : ∀ i, i < 6 → IsL (L i)) (h1 : 1 ≤ mg) (h2 : mg ≤ 65535) : (newM L mg).Lim 0 := by
  refine ⟨⟨by show 0 < 10; omega, by show 0 < 256; omega, by show 0 < 256; omega, head_lt (h 0 (by omega)), head_lt (h 1 (by omega)), head_lt (h 2 (by omega)), by show 0 < 256; omega, by show 0 < 256; omega, by show 0 ≤ 40; omega, by simp [newM], ?_, ?_, ?_⟩, by show (0 : Int) ≤ 0; omega, by show (0 : Int) ≤ 5; omega, by show (0 : Int) ≤ 3; omega, by show 0 ≤ 0; omega, by show 1 ≤ 1; omega, by show 0 ≤ 0; omega, by show 0 ≤ 0; omega, by show 0 ≤ 0; omega, by show 0 ≤ 0; omega, by show 0 ≤ 0; omega, by show 0 ≤ 40; omega, by show 0 ≤ 40; omega⟩
  · intro x hx
    have : x = mg.toNat := by simpa [newM] using hx
    omega
  · intro i
    unfold RE.acc newM
    simp only
    split
    · exact isL_nat (h 3 (by omega))
    · split
      · exact isL_nat (h 4 (by omega))
      · exact isL_nat (h 5 (by omega))
  · intro i
    unfold RE.want newM
    simp only
    split
    · exact isL_nat (h 0 (by omega))
    · split
      · exact isL_nat (h 1 (by omega))
      · exact isL_nat (h 2 (by omega))
theorem ev_out {m : RE} (h : m.Ok) (ev : Nat) (hev : ev < 18) : (m.at_ ev).2.length ≤ 10000 := by
  obtain ⟨hl, _, _⟩ := rowT_small ev hev m.st h.st
  have run_len : ∀ (L : List Nat) (m : RE), m.Ok → (m.run L).2.length ≤ 1000 * L.length := by
    intro L
    induction L with
    | nil => intro m _; exact Nat.zero_le _
    | cons c L ih =>
      intro m hm
      show ((m.letter c).2 ++ ((m.letter c).1.run L).2).length ≤ _
      have h1 := ih _ (RE.letter_ok hm c)
      have h2 : (m.letter c).2.length ≤ 1000 := by
        unfold RE.letter; split
        · simp
        · exact RE.act_len hm c
      rw [List.length_append, List.length_cons]; omega
  have := run_len ((rowT ev).getD m.st []) m h
  unfold RE.at_; omega
theorem event_out {m : RE} (h : m.Ok) (k : Int) : (m.event k).2.length ≤ 10000 := by
  unfold RE.event
  have hl : RE.Ok { m with tim := m.tim - 1 } := ⟨h.st, h.id, h.odd, h.k0, h.k1, h.k2, h.pc, h.pi, h.pd, h.mg, h.ms, h.aa, h.ww⟩
  split
  · exact ev_out h _ (by omega)
  · split
    · simp
    · split
      · simp
      · split
        · exact ev_out hl 6 (by omega)
        · exact ev_out hl 7 (by omega)
end Go.Proofs.YtoeihlgidakjbaaGreatDoor

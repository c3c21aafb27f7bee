/- errors.As at a target that is a struct of an error and a number: nil; an error of just this type. -/
import Derived.Test.YtpmmfalpcooenaaDoorGeLib
import Derived.Test.YtpmmfalpcooenaaDoorIsLib
import Derived.Test.YtpmmfalpcooenaaDoorQbLib
import Derived.Stop.Asserts
import Derived.LaidEql
namespace Go.Proofs.YtpmmfalpcooenaaDoor.Ea
set_option linter.unusedVariables false
open Go.RowKit Go.Extern.Stop Go.Stop Go.Extern Ft Is Ge Qb

theorem as_nil (t : Value) (w : World) : Calls Tryd.prog 82 #[.nilIface, t] w fun e w' => e = .returned (.bool false) ∧ w' = w := by
  go_enter Tryd.func82, Tryd.ntmps82
  go_wp2
  go_ret
  exact ⟨rfl, rfl⟩

theorem valueOfP (t : Addr) (w : World) : (ReflectliteValue.unpack (.iface 111 (.pointer (some t)))).run Tryd.prog w
    = .ok (.agg #[.pointer (some ⟨11, 111, none⟩), .pointer (some ⟨w.heap.size, 0, none⟩), .int .u64 150]) (w.alloc (.cells #[.pointer (some t)] 111)) := by kernel_rfl
theorem typeP (a : Addr) (w : World) : (ReflectliteValue.methodAny (ReflectliteValue.valueError "reflectlite.Value.Type" 0) (fun t _ _ _ => ReflectliteType.toType t) #[.agg #[.pointer (some ⟨11, 111, none⟩), .pointer (some a), .int .u64 150]]).run Tryd.prog w
    = .ok (.iface 139 (.agg #[.pointer (some ⟨11, 111, none⟩)])) w := by kernel_rfl
theorem methodKind (h : Value) (w : World) : (Go.method 312 139 (.agg #[h]) "Kind").run Tryd.prog w = .ok (153, h) w := by kernel_rfl
theorem kindP (w : World) : ((ReflectliteType.abiMethod fun t => (fun a : Nat => Value.int IntKind.u8 (a : Int)) <$> Rtype.kind t) #[.pointer (some ⟨11, 111, none⟩)]).run Tryd.prog w = .ok (.int .u8 22) w := by kernel_rfl
theorem kindC (w : World) : ((ReflectliteType.abiMethod fun t => (fun a : Nat => Value.int IntKind.u8 (a : Int)) <$> Rtype.kind t) #[.pointer (some ⟨11, 109, none⟩)]).run Tryd.prog w = .ok (.int .u8 25) w := by kernel_rfl
theorem partsP (a : Addr) (w : World) : (ReflectliteValue.parts (.agg #[.pointer (some ⟨11, 111, none⟩), .pointer (some a), .int .u64 150])).run Tryd.prog w = .ok (some (111, a, 150)) w := by kernel_rfl
theorem methodElem (h : Value) (w : World) : (Go.method 312 139 (.agg #[h]) "Elem").run Tryd.prog w = .ok (164, .agg #[h]) w := by kernel_rfl
theorem methodImplements (h : Value) (w : World) : (Go.method 312 139 (.agg #[h]) "Implements").run Tryd.prog w = .ok (165, .agg #[h]) w := by kernel_rfl
theorem methodAssignableTo (h : Value) (w : World) : (Go.method 312 139 (.agg #[h]) "AssignableTo").run Tryd.prog w = .ok (162, .agg #[h]) w := by kernel_rfl
theorem elemP (w : World) : (ReflectliteType.method ReflectliteType.elem #[.agg #[.pointer (some ⟨11, 111, none⟩)]]).run Tryd.prog w = .ok (.iface 139 (.agg #[.pointer (some ⟨11, 109, none⟩)])) w := by kernel_rfl
theorem implementsC (w : World) : (ReflectliteType.relation "Implements" ReflectliteType.implements_ #[.agg #[.pointer (some ⟨11, 109, none⟩)], .iface 139 (.agg #[.pointer (some ⟨11, 62, none⟩)])]).run Tryd.prog w = .ok (.bool true) w := by kernel_rfl
theorem typeOfC (v : Value) (w : World) : (ReflectliteType.typeOf #[.iface 109 v]).run Tryd.prog w = .ok (.iface 139 (.agg #[.pointer (some ⟨11, 109, none⟩)])) w := by kernel_rfl
theorem assignableC (w : World) : (ReflectliteType.relation "AssignableTo" ReflectliteType.assignableTo #[.agg #[.pointer (some ⟨11, 109, none⟩)], .iface 139 (.agg #[.pointer (some ⟨11, 109, none⟩)])]).run Tryd.prog w = .ok (.bool true) w := by kernel_rfl
theorem valueOfC (u : TypeId) (v : Value) (n : Int) (w : World) : (ReflectliteValue.unpack (.iface 109 (.agg #[.iface u v, .int .i64 n]))).run Tryd.prog w
    = .ok (.agg #[.pointer (some ⟨11, 109, none⟩), .pointer (some ⟨w.heap.size, 0, none⟩), .int .u64 153]) (w.alloc (.cells #[.iface u v, .int .i64 n] 109)) := by kernel_rfl
theorem elemOfP (w : World) : (Rtype.elem? 111).run Tryd.prog w = .ok (some 109) w := by kernel_rfl
theorem mkC (p : Addr) (w : World) : (ReflectliteValue.mk 109 p ReflectliteValue.flagAddr).run Tryd.prog w = .ok (.agg #[.pointer (some ⟨11, 109, none⟩), .pointer (some p), .int .u64 409]) w := by kernel_rfl
theorem partsCa (a : Addr) (w : World) : (ReflectliteValue.parts (.agg #[.pointer (some ⟨11, 109, none⟩), .pointer (some a), .int .u64 409])).run Tryd.prog w = .ok (some (109, a, 409)) w := by kernel_rfl
theorem partsC (a : Addr) (w : World) : (ReflectliteValue.parts (.agg #[.pointer (some ⟨11, 109, none⟩), .pointer (some a), .int .u64 153])).run Tryd.prog w = .ok (some (109, a, 153)) w := by kernel_rfl
theorem directC (w : World) : (Rtype.directlyAssignable 109 109).run Tryd.prog w = .ok true w := by kernel_rfl
theorem loadC (b : Nat) (u : TypeId) (v : Value) (n : Int) (W : World) (h0 : W.cell? ⟨b, 0, none⟩ = some (.iface u v)) (h1 : W.cell? ⟨b, 1, none⟩ = some (.int .i64 n)) :
    (loadVar 109 ⟨b, 0, none⟩).run Tryd.prog W = .ok (.agg #[.iface u v, .int .i64 n]) W := by
  have s2 : (sizeOf 109).run Tryd.prog W = .ok 2 W := by kernel_rfl
  have a1 : (isAgg 109).run Tryd.prog W = .ok true W := by kernel_rfl
  unfold loadVar
  simp only [Sem.run_bind, a1, Result.andThen]
  simp only [if_true, Sem.run_bind, s2, Result.andThen]
  simp [loadCells, loadCellsFrom, Addr.add, h0, h1, Result.andThen]
theorem storeC (b : Nat) (u : TypeId) (v : Value) (n : Int) (o0 o1 : Value) (W : World) (h0 : W.cell? ⟨b, 0, none⟩ = some o0) (h1 : W.cell? ⟨b, 1, none⟩ = some o1) (f0 : W.frozen? ⟨b, 0, none⟩ = false) (f1 : W.frozen? ⟨b, 1, none⟩ = false) :
    (storeVar 109 ⟨b, 0, none⟩ (.agg #[.iface u v, .int .i64 n])).run Tryd.prog W = .ok () ((W.setCell ⟨b, 0, none⟩ (.iface u v)).setCell ⟨b, 1, none⟩ (.int .i64 n)) := by
  have s2 : (sizeOf 109).run Tryd.prog W = .ok 2 W := by kernel_rfl
  unfold storeVar
  simp only [Sem.run_bind, s2, Result.andThen]
  simp [storeCells, Value.cells, Addr.add, Result.andThen]
  rw [run_store Tryd.prog W _ _ _ (by rfl)]
  simp [h0, f0]
  have h1' : (W.setCell ⟨b, 0, none⟩ (.iface u v)).cell? ⟨b, 1, none⟩ = some o1 := (World.cell?_setCell_other _ ⟨b, 0, none⟩ ⟨b, 1, none⟩ _ (by simp)).trans h1
  rw [run_store Tryd.prog _ _ _ _ (by rfl)]
  simp [h1', f1]
end Go.Proofs.YtpmmfalpcooenaaDoor.Ea

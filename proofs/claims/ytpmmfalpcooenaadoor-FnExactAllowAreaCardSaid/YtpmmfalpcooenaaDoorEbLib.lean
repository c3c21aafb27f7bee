/- errors.As at a target that is a struct of an error and a number: the entries that read or write memory; nil; an error of just this type. -/
import Derived.Test.YtpmmfalpcooenaaDoorEaLib
namespace Go.Proofs.YtpmmfalpcooenaaDoor.Eb
set_option linter.unusedVariables false
open Go.RowKit Go.Extern.Stop Go.Stop Go.Extern Ft Is Ge Qb Ea

/-- How a method of a Value goes: first its parts. -/
theorem by_parts (z : Sem Value) (f : TypeId → Addr → Nat → Nat → Sem Value) (v : Value) : ∃ F, ReflectliteValue.method z f #[v] = (ReflectliteValue.parts v >>= F) ∧ ∀ t a fl, F (some (t, a, fl)) = f t a fl (fl % 32) :=
  ⟨_, rfl, fun _ _ _ => rfl⟩
theorem isNilP (a p : Addr) (W : World) (ha : W.cell? a = some (.pointer (some p))) :
    (ReflectliteValue.method (ReflectliteValue.valueError "reflectlite.Value.IsNil" 0) ReflectliteValue.isNil #[.agg #[.pointer (some ⟨11, 111, none⟩), .pointer (some a), .int .u64 150]]).run Tryd.prog W = .ok (.bool false) W := by
  obtain ⟨F, h1, h2⟩ := by_parts (ReflectliteValue.valueError "reflectlite.Value.IsNil" 0) ReflectliteValue.isNil (.agg #[.pointer (some ⟨11, 111, none⟩), .pointer (some a), .int .u64 150])
  rw [h1]
  simp only [Sem.run_bind, partsP, Result.andThen, h2]
  simp [ReflectliteValue.isNil, loadVar, isAgg, underlying, Tryd.underlying111, ha, Result.andThen]
theorem elemVP (a p : Addr) (W : World) (ha : W.cell? a = some (.pointer (some p))) :
    (ReflectliteValue.method (ReflectliteValue.valueError "reflectlite.Value.Elem" 0) ReflectliteValue.elem #[.agg #[.pointer (some ⟨11, 111, none⟩), .pointer (some a), .int .u64 150]]).run Tryd.prog W
      = .ok (.agg #[.pointer (some ⟨11, 109, none⟩), .pointer (some p), .int .u64 409]) W := by
  obtain ⟨F, h1, h2⟩ := by_parts (ReflectliteValue.valueError "reflectlite.Value.Elem" 0) ReflectliteValue.elem (.agg #[.pointer (some ⟨11, 111, none⟩), .pointer (some a), .int .u64 150])
  rw [h1]
  simp only [Sem.run_bind, partsP, Result.andThen, h2]
  simp [ReflectliteValue.elem, loadVar, isAgg, underlying, Tryd.underlying111, ha, Result.andThen, elemOfP, mkC]
/-- How a Value is set, at two Values of this type. -/
theorem set_parts (v x : Value) (a b : Addr) : ∃ (F : Option (TypeId × Addr × Nat) → Option (TypeId × Addr × Nat) → Sem Value) (G : Value → Sem Value) (H : Value → Bool → Sem Value),
    ReflectliteValue.set #[v, x] = (ReflectliteValue.parts v >>= fun p => ReflectliteValue.parts x >>= fun q => F p q) ∧ F (some (109, a, 409)) (some (109, b, 153)) = (loadVar 109 b >>= G) ∧
    (∀ val, G val = (Rtype.directlyAssignable 109 109 >>= H val)) ∧ ∀ val, H val true = (storeVar 109 a val >>= fun _ => pure (.tuple #[])) :=
  ⟨_, _, _, rfl, rfl, fun _ => rfl, fun _ => rfl⟩
theorem setC (t b : Nat) (u : TypeId) (v : Value) (n : Int) (o0 o1 : Value) (W : World) (h0 : W.cell? ⟨b, 0, none⟩ = some (.iface u v)) (h1 : W.cell? ⟨b, 1, none⟩ = some (.int .i64 n)) (t0 : W.cell? ⟨t, 0, none⟩ = some o0) (t1 : W.cell? ⟨t, 1, none⟩ = some o1) (f0 : W.frozen? ⟨t, 0, none⟩ = false) (f1 : W.frozen? ⟨t, 1, none⟩ = false) :
    (ReflectliteValue.set #[.agg #[.pointer (some ⟨11, 109, none⟩), .pointer (some ⟨t, 0, none⟩), .int .u64 409], .agg #[.pointer (some ⟨11, 109, none⟩), .pointer (some ⟨b, 0, none⟩), .int .u64 153]]).run Tryd.prog W
      = .ok (.tuple #[]) ((W.setCell ⟨t, 0, none⟩ (.iface u v)).setCell ⟨t, 1, none⟩ (.int .i64 n)) := by
  obtain ⟨F, G, H, e1, e2, e3, e4⟩ := set_parts (.agg #[.pointer (some ⟨11, 109, none⟩), .pointer (some ⟨t, 0, none⟩), .int .u64 409]) (.agg #[.pointer (some ⟨11, 109, none⟩), .pointer (some ⟨b, 0, none⟩), .int .u64 153]) ⟨t, 0, none⟩ ⟨b, 0, none⟩
  rw [e1]
  simp only [Sem.run_bind, partsCa, partsC, Result.andThen, e2, loadC b u v n W h0 h1, e3, directC, e4, storeC t u v n o0 o1 W t0 t1 f0 f1]
  rfl
end Go.Proofs.YtpmmfalpcooenaaDoor.Eb

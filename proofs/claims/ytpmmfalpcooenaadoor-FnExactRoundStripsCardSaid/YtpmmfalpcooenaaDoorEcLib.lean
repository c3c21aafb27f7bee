/- errors.As at an error of just the target's type; the code of an error. -/
import Derived.Test.YtpmmfalpcooenaaDoorEbLib
namespace Go.Proofs.YtpmmfalpcooenaaDoor.Ec
set_option linter.unusedVariables false
open Go.RowKit Go.Extern.Stop Go.Stop Go.Extern Ft Is Ge Qb Ea Eb

/-- The variable of errors.As. -/
def EtyAt (w : World) : Prop := w.cell? ⟨2, 0, none⟩ = some (.iface 139 (.agg #[.pointer (some ⟨11, 62, none⟩)]))
theorem EtyAt.below {w w' : World} (h : EtyAt w) (hb : Below w.heap.size w w') : EtyAt w' := (hb.cell (p := ⟨2, 0, none⟩) (World.block_lt_of_cell? w _ h)).trans h
/-- An error with its code. -/
abbrev ceV (u : TypeId) (v : Value) (n : Int) : Value := .iface 109 (.agg #[.iface u v, .int .i64 n])
set_option maxRecDepth 100000 in
set_option maxHeartbeats 4000000 in
theorem as_hit (u : TypeId) (v : Value) (n : Int) (t : Nat) (o0 o1 : Value) (w : World) (hg : EtyAt w) (t0 : w.cell? ⟨t, 0, none⟩ = some o0) (t1 : w.cell? ⟨t, 1, none⟩ = some o1) (f0 : w.frozen? ⟨t, 0, none⟩ = false) (f1 : w.frozen? ⟨t, 1, none⟩ = false) :
    Calls Tryd.prog 82 #[ceV u v n, .iface 111 (.pointer (some ⟨t, 0, none⟩))] w fun ev w' => ev = .returned (.bool true) ∧ ∃ q, Below w.heap.size w q ∧ w' = (q.setCell ⟨t, 0, none⟩ (.iface u v)).setCell ⟨t, 1, none⟩ (.int .i64 n) := by
  have h6 := @run_callFunc_extern Tryd.prog 96 _ (fun args => ReflectliteValue.unpack (args.getD 0 (.tuple #[]))) Tryd.func96 (by kernel_rfl) (by kernel_rfl) (by kernel_rfl) (by kernel_rfl)
  have h7 := @run_callFunc_extern Tryd.prog 97 _ (ReflectliteValue.methodAny (ReflectliteValue.valueError "reflectlite.Value.Type" 0) (fun t _ _ _ => ReflectliteType.toType t)) Tryd.func97 (by kernel_rfl) (by kernel_rfl) (by kernel_rfl) (by kernel_rfl)
  have h8 := @run_callFunc_extern Tryd.prog 98 _ (ReflectliteValue.method (ReflectliteValue.valueError "reflectlite.Value.IsNil" 0) ReflectliteValue.isNil) Tryd.func98 (by kernel_rfl) (by kernel_rfl) (by kernel_rfl) (by kernel_rfl)
  have h27 := @run_callFunc_extern Tryd.prog 153 _ (ReflectliteType.abiMethod fun t => do pure (.int .u8 (← Rtype.kind t))) Tryd.func153 (by kernel_rfl) (by kernel_rfl) (by kernel_rfl) (by kernel_rfl)
  have h37 := @run_callFunc_extern Tryd.prog 164 _ (ReflectliteType.method ReflectliteType.elem) Tryd.func164 (by kernel_rfl) (by kernel_rfl) (by kernel_rfl) (by kernel_rfl)
  have h38 := @run_callFunc_extern Tryd.prog 165 _ (ReflectliteType.relation "Implements" ReflectliteType.implements_) Tryd.func165 (by kernel_rfl) (by kernel_rfl) (by kernel_rfl) (by kernel_rfl)
  have h10 := @run_callFunc_extern Tryd.prog 108 _ ReflectliteType.typeOf Tryd.func108 (by kernel_rfl) (by kernel_rfl) (by kernel_rfl) (by kernel_rfl)
  have h35 := @run_callFunc_extern Tryd.prog 162 _ (ReflectliteType.relation "AssignableTo" ReflectliteType.assignableTo) Tryd.func162 (by kernel_rfl) (by kernel_rfl) (by kernel_rfl) (by kernel_rfl)
  have h11 := @run_callFunc_extern Tryd.prog 109 _ (ReflectliteValue.method (ReflectliteValue.valueError "reflectlite.Value.Elem" 0) ReflectliteValue.elem) Tryd.func109 (by kernel_rfl) (by kernel_rfl) (by kernel_rfl) (by kernel_rfl)
  have h12 := @run_callFunc_extern Tryd.prog 110 _ ReflectliteValue.set Tryd.func110 (by kernel_rfl) (by kernel_rfl) (by kernel_rfl) (by kernel_rfl)
  have tO := typeOfC
  have mA := methodAssignableTo
  have aC := assignableC
  have vC := valueOfC u v n
  have fP := valueOfP
  have f7 := typeP
  have mK := methodKind
  have mE := methodElem
  have mI := methodImplements
  have kP := kindP
  have kC := kindC
  have eP := elemP
  have iC := implementsC
  have htl : t < w.heap.size := World.block_lt_of_cell? w _ t0
  obtain ⟨w1, hw1⟩ : ∃ w1, w1 = w.alloc (.cells #[.pointer (some ⟨t, 0, none⟩)] 111) := ⟨_, rfl⟩
  obtain ⟨w2, hw2⟩ : ∃ w2, w2 = w1.alloc (.cells #[.pointer (some ⟨11, 111, none⟩), .pointer (some ⟨w.heap.size, 0, none⟩), .int .u64 150] 125) := ⟨_, rfl⟩
  obtain ⟨w3, hw3⟩ : ∃ w3, w3 = w2.alloc (.cells #[.pointer (some ⟨11, 111, none⟩), .pointer (some ⟨w.heap.size, 0, none⟩), .int .u64 150] 125) := ⟨_, rfl⟩
  obtain ⟨w4, hw4⟩ : ∃ w4, w4 = w3.alloc (.cells #[.iface u v, .int .i64 n] 109) := ⟨_, rfl⟩
  have s1 : w1.heap.size = w.heap.size + 1 := by rw [hw1]; simp
  have s2 : w2.heap.size = w.heap.size + 2 := by rw [hw2]; simp [s1]
  have s3 : w3.heap.size = w.heap.size + 3 := by rw [hw3]; simp [s2]
  have b1 : Below w.heap.size w w1 := by rw [hw1]; exact below_box _ _
  have b2 : Below w.heap.size w w2 := by rw [hw2]; exact below_then b1 (below_box _ _)
  have b12 : Below w1.heap.size w1 w2 := by rw [hw2]; exact below_box _ _
  have b13 : Below w1.heap.size w1 w3 := by rw [hw3]; exact below_then b12 (below_box _ _)
  have b3 : Below w.heap.size w w3 := below_then b1 b13
  have b34 : Below w3.heap.size w3 w4 := by rw [hw4]; exact below_box _ _
  have b4 : Below w.heap.size w w4 := below_then b3 b34
  have c1 : w1.cell? ⟨w.heap.size, 0, none⟩ = some (.pointer (some ⟨t, 0, none⟩)) := by rw [hw1]; simp
  have keep : ∀ {a b : World} {p : Addr} {x : Value}, Below a.heap.size a b → a.cell? p = some x → b.cell? p = some x := fun {a b p x} hb h => (hb.cell (p := p) (World.block_lt_of_cell? a _ h)).trans h
  have n8 := isNilP ⟨w.heap.size, 0, none⟩ ⟨t, 0, none⟩ w2 (keep b12 c1)
  have el := elemVP ⟨w.heap.size, 0, none⟩ ⟨t, 0, none⟩ w3 (keep b13 c1)
  have hg2 : w2.cell? ⟨2, 0, none⟩ = some (.iface 139 (.agg #[.pointer (some ⟨11, 62, none⟩)])) := keep b2 hg
  have k4 : w4.heap[w.heap.size + 3]? = some (.cells #[.iface u v, .int .i64 n] 109 (0, 0)) := by rw [hw4, ← s3]; exact heap_alloc_new _ _
  have fr : ∀ i, w.frozen? ⟨t, i, none⟩ = false → w4.frozen? ⟨t, i, none⟩ = false := fun i h => (World.frozen?_of_block (a := ⟨t, i, none⟩) (b4.block t htl)).trans h
  have st := setC t (w.heap.size + 3) u v n o0 o1 w4 (cell_of_row _ _ _ _ _ _ k4) (cell_of_row _ _ _ _ _ _ k4) (keep b4 t0) (keep b4 t1) (fr 0 f0) (fr 1 f1)
  have HZ : Hid (∃ q, Below w.heap.size w q ∧ (w4.setCell ⟨t, 0, none⟩ (.iface u v)).setCell ⟨t, 1, none⟩ (.int .i64 n) = (q.setCell ⟨t, 0, none⟩ (.iface u v)).setCell ⟨t, 1, none⟩ (.int .i64 n)) := Lib.hid ⟨w4, b4, rfl⟩
  clear keep b1 b2 b12 b13 b3 b34 b4 k4 fr c1 hg t0 t1 f0 f1 htl
  subst hw1
  subst hw2
  subst hw3
  subst hw4
  simp only [World.size_alloc] at s1 s2 s3
  go_enter Tryd.func82, Tryd.ntmps82
  go_wp2
  refine wp_loop_rounds 1 ?_
  rw [rounds_succ]
  go_wp2
  go_ret
  exact ⟨rfl, HZ.out⟩
end Go.Proofs.YtpmmfalpcooenaaDoor.Ec

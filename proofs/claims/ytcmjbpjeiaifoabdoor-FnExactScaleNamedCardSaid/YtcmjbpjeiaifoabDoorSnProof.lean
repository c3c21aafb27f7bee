/- The law FnExactScaleNamed holds for every input, whenever the package-level variables that it reads hold what the program's text lays there; the card ties them to that text. -/
import Derived.Test.YtcmjbpjeiaifoabDoorCards
import Derived.Test.YtcmjbpjeiaifoabDoorTie
import Derived.Test.YtcmjbpjeiaifoabDoorSnLib
import Derived.WalkKit
import Derived.ProofKit
import Derived.OpenShut
import Derived.OpenVars
import Derived.ShutString
import Derived.ChangeOld
import Derived.Below
import Derived.Deep.DeepHandedRow
import Derived.Lib.LaidTab
import Derived.Lib.SmallJoins
import Derived.Stop.Joined
import Derived.LaidMore
namespace Go.Proofs.YtcmjbpjeiaifoabDoor.fnExactScaleNamed
open Go.ChangeShapes Go.WideShapes Go.ChangeAt Go.RowKit Go.Joins
open Go.ChangeMaps (open_string shut_string)
set_option linter.unusedVariables false

theorem own : ownKnob Tryd.prog.godebug = none := by kernel_rfl
theorem laidOut : laidOutB Tryd.prog = true := by kernel_rfl
theorem gSc : Tryd.prog.globalNamed "loop.example/g01043/impl.scales" = some 0 := by kernel_rfl
theorem gScType : (Tryd.prog.globals[0]?).map (·.type) = some 33 := by kernel_rfl
theorem at_of {cs : List Value} {a b i : Nat} {v : Value} (h : (((cs.drop a).take b).drop i).take 1 = [v]) : cs[a + i]? = some v := by
  have h0 := congrArg (fun l : List Value => l[0]?) h
  simp only [List.getElem?_take, List.getElem?_drop] at h0
  simp at h0
  exact h0.2
theorem four {H : Type} {enc : TypeId × Value → H} {W : World} {base : Nat} {sp : Nat → Bool} {held : Bool} {fu a : Nat} {cs : List Value} {z : DataW H × List MemPlace} {l : List UInt8} {x y u : Int}
    (h : DataW.trod enc Tryd.prog W base sp held fu 23 ((cs.drop a).take 4) = some z) (e : z.1 = .agg [.lit (.string l), .lit (.int .i64 x), .lit (.int .i64 y), .lit (.int .i64 u)]) :
    cs[a]? = some (.string ⟨l.toArray⟩) ∧ cs[a + 1]? = some (.int .i64 x) ∧ cs[a + 2]? = some (.int .i64 y) ∧ cs[a + 3]? = some (.int .i64 u) := by
  obtain ⟨y0, y1, y2, y3, n, hx, _, h0, h1, h2, h3⟩ := trod_struct4 Tryd.underlying23 h
  have c1 : Tryd.prog.cellsOf 9 = 1 := by kernel_rfl
  have c2 : Tryd.prog.cellsOf 2 = 1 := by kernel_rfl
  rw [hx] at e
  simp at e
  obtain ⟨q0, q1, q2, q3⟩ := e
  simp only [c1, c2] at h0 h1 h2 h3
  obtain ⟨v0, e0, rfl, _⟩ := DataW.trod_string Tryd.underlying9 h0
  obtain ⟨v1, e1, rfl, _⟩ := DataW.trod_int Tryd.underlying2 h1
  obtain ⟨v2, e2, rfl, _⟩ := DataW.trod_int Tryd.underlying2 h2
  obtain ⟨v3, e3, rfl, _⟩ := DataW.trod_int Tryd.underlying2 h3
  simp at q0 q1 q2 q3
  subst q0 q1 q2 q3
  exact ⟨at_of e0, at_of e1, at_of e2, at_of e3⟩
/-- What the row's list gives: the scales of the library. -/
theorem table {W : World} (h : laidMetH Tryd.prog Rows.fnExactScaleNamedRow.laid W) : Sn.Laid W := by
  rw [MakeChecks.laidMetH_plain _ _ _ (by kernel_rfl)] at h
  obtain ⟨ps, ⟨g, t, cs, fu, p, q, hg, ht, hvar, hd, _, _⟩, _, _⟩ := h
  obtain rfl := Option.some.inj (gSc.symm.trans hg)
  obtain rfl := Option.some.inj (gScType.symm.trans ht)
  obtain ⟨xs, m, rfl, hx, hlen, hn, hel⟩ := DataW.trod_array Tryd.underlying33 hd
  have ce : Tryd.prog.cellsOf 23 = 4 := by kernel_rfl
  rw [ce] at hel
  match xs, hn with
  | [z0, z1, z2, z3], _ =>
    simp [Rows.laid_loop_example_g01043_impl_scales] at hx
    obtain ⟨⟨d0, d1, d2, d3⟩, _⟩ := hx
    obtain ⟨a0, a1, a2, a3⟩ := four (hel 0 (by omega)) d0.symm
    obtain ⟨a4, a5, a6, a7⟩ := four (hel 1 (by omega)) d1.symm
    obtain ⟨a8, a9, a10, a11⟩ := four (hel 2 (by omega)) d2.symm
    obtain ⟨a12, a13, a14, a15⟩ := four (hel 3 (by omega)) d3.symm
    intro j hj
    rw [World.var?_cell hg hvar j]
    have hs : ∀ i, cs[i]? = cs.toList[i]? := fun i => Array.getElem?_toList.symm
    rw [hs]
    match j, hj with
    | 0, _ => exact a0
    | 1, _ => exact a1
    | 2, _ => exact a2
    | 3, _ => exact a3
    | 4, _ => exact a4
    | 5, _ => exact a5
    | 6, _ => exact a6
    | 7, _ => exact a7
    | 8, _ => exact a8
    | 9, _ => exact a9
    | 10, _ => exact a10
    | 11, _ => exact a11
    | 12, _ => exact a12
    | 13, _ => exact a13
    | 14, _ => exact a14
    | 15, _ => exact a15
    | k + 16, hk => exact absurd hk (by omega)

set_option maxRecDepth 100000 in
theorem contract (H : Type) (enc : TypeId × Value → H) (W : World) (base : Nat) (args : Array Value) (ds gs : List (DataW H)) (before : List MemPlace)
    (hval : ∀ (j : Nat) t v, Tryd.f3.params[j]? = some t → args[j]? = some v → Value.okWide Tryd.prog W .any base t v)
    (hW : DataW.Whole enc Tryd.prog Tryd.f3.params.toList Rows.fnExactScaleNamedSpec.vars false W args.toList ds gs before) (hL : laidMetH Tryd.prog Rows.fnExactScaleNamedRow.laid W) :
    Calls Tryd.prog 3 args W fun e W' => ∃ v, e = .returned v ∧ Rows.fnExactScaleNamedSpec.post enc Tryd.prog Tryd.f3 false true false false W args v W' := by
  have hW' := hW
  obtain ⟨p, q, hA0, hV, rfl, hfz, hnd⟩ := hW
  have hA : DataW.TrodAll enc Tryd.prog W 0 (fun _ => true) true Tryd.f3.params.toList args.toList ds p := hA0
  rw [Tryd.params3] at hA hval
  obtain ⟨v0, vs0, d0, ds0, p0, q0, hargs, rfl, rfl, h0, r0⟩ := trodAll_cons hA
  obtain ⟨rfl, rfl, rfl⟩ := trodAll_nil r0
  obtain rfl : args = #[v0] := by cases args; simp_all
  obtain ⟨a0, rfl, rfl, rfl, w0⟩ := open_string Tryd.underlying9 (hval 0 9 v0 rfl rfl) h0
  have hV2 := hV
  obtain ⟨g, t, cs, fuel, d, p', rfl, _, _, _, _, _⟩ := trodVars_one hV2
  clear hA0
  refine (Sn.law a0 W (table hL) w0).mono fun e W' ⟨he, bel⟩ => ?_
  subst he
  exact ⟨_, rfl, _, _, _, [], _, _, hW', trodAll_mk1 (shut_bool Tryd.underlying4 _), (trodAll_cons_mk (shut_string Tryd.underlying9 w0) trodAll_mk0), Below.trodVars laidOut bel (by kernel_rfl) hV, bel.frame _, fun h => by cases h⟩

/-- A world for the witness: the variables hold what their initialisers lay. -/
noncomputable def laidWorld (os : Os) : World :=
  { World.holding Tryd.prog os ⟨#[], #[], []⟩ with heap := ((World.holding Tryd.prog os ⟨#[], #[], []⟩).heap.modify 0 fun
      | .cells _ t frozen => .cells (#[Value.string ⟨#[112, 97, 114, 105, 115]⟩, Value.int .i64 0, Value.int .i64 100, Value.int .i64 3, Value.string ⟨#[101, 110, 103, 108, 105, 115, 104]⟩, Value.int .i64 50, Value.int .i64 127, Value.int .i64 3, Value.string ⟨#[97, 109, 101, 114, 105, 99, 97, 110]⟩, Value.int .i64 48, Value.int .i64 127, Value.int .i64 3, Value.string ⟨#[109, 111, 110, 100, 111]⟩, Value.int .i64 0, Value.int .i64 25, Value.int .i64 1]) t frozen
      | o => o) }
theorem laid_met (os : Os) : laidMet Tryd.prog Rows.fnExactScaleNamedRow.laid ((laidWorld os).forCall (fun _ _ => 0) ⟨#[], #[.string ByteArray.empty], []⟩).memory :=
  laidMet_of_run' 8 (by kernel_rfl) (by kernel_rfl)
theorem reads (os : Os) {H : Type} (enc : TypeId × Value → H) : ∃ places, DataW.whole enc Tryd.prog ((laidWorld os).forCall (fun _ _ => 0) ⟨#[], #[.string ByteArray.empty], []⟩).memory Tryd.f3.params.toList Rows.fnExactScaleNamedSpec.vars false #[.string ByteArray.empty].toList 8 = some ([.lit (.string [])], [Rows.laid_loop_example_g01043_impl_scales], places) :=
  ⟨MemPlace.row ⟨0, 0, none⟩ 16, by kernel_rfl⟩

set_option maxRecDepth 100000 in
theorem lifted (os : Os) (started : os.Started) (H : Type) (enc : TypeId × Value → H) (F : Stop.Interp) :
    ReturnsInHanded {} Tryd.checked os 3 .any ((OpenSpec.ofChange Rows.fnExactScaleNamedSpec).preRow enc Tryd.prog Tryd.f3 Rows.fnExactScaleNamedRow.domain false Rows.fnExactScaleNamedRow.laid) (((OpenSpec.ofChange Rows.fnExactScaleNamedSpec).at F).post enc Tryd.prog Tryd.f3 false true false false) := by
  obtain ⟨places, hx⟩ := reads os enc
  refine returnsInHanded_of_row (C := Tryd.checked) (s := OpenSpec.ofChange Rows.fnExactScaleNamedSpec) own started (by kernel_rfl) Tryd.func3
    (witness_row_at (enc := enc) (C := Tryd.checked) false (laidWorld os) #[.string ByteArray.empty] rfl (by kernel_rfl) (by kernel_rfl) (by kernel_rfl)
      (OpenSpec.preRow_of_cond 8 hx (by kernel_rfl) (fun k hk => by cases hk) (by kernel_rfl) (laid_met os))) ?_
  intro W base args ds gs before hval hW _ _ _ hL _ _
  exact contract H enc W base args ds gs before hval hW hL

theorem said : Rows.FnExactScaleNamedSaid :=
  OpenClaim.holds_of_cond 3 Tryd.f3 rfl rfl rfl rfl rfl rfl rfl ⟨rfl, rfl, rfl, rfl, rfl⟩ rfl rfl rfl rfl rfl (by kernel_rfl) Tryd.func3 (by kernel_rfl)
    (of_decide_eq_true (by kernel_rfl)) (by unfold Func.isWrapper; first | (rw [if_pos (by decide +kernel)]; kernel_rfl) | (rw [if_neg (by decide +kernel)]; exact ⟨rfl, rfl⟩))
    (fun os started H enc _ F => by rw [OpenClaim.pre_eq_preRow]; exact lifted os started H enc F)

theorem plain (f : FuncId) (fn : Func) (hf : Tryd.pinned.checked.prog.funcNamed "loop.example/g01043/laws.FnExactScaleNamed" = some f) (hfn : Tryd.pinned.checked.prog.funcs[f]? = some fn) :
    true = Tryd.pinned.checked.prog.looks [] ∧ ∀ (j : Nat) t, fn.params[j]? = some t → Tryd.pinned.checked.prog.wantsStandIn t = false := by
  obtain rfl : f = 3 := Option.some.inj ((show Tryd.prog.funcNamed "loop.example/g01043/laws.FnExactScaleNamed" = some 3 by kernel_rfl).symm.trans hf) |>.symm
  obtain rfl : fn = Tryd.f3 := (Option.some.inj (Tryd.func3.symm.trans hfn)).symm
  refine ⟨by kernel_rfl, fun j t ht => ?_⟩
  rw [Tryd.params3] at ht
  obtain rfl : t = 9 := by simpa using Array.mem_of_getElem? ht
  exact (show Tryd.prog.wantsStandIn 9 = false by kernel_rfl)

theorem proved : Rows.FnExactScaleNamedCardSaid :=
  Claim7.holds_tied_plain_at .later [] _ _ _ _ said (fun _ h => by cases h) (by kernel_rfl) (fun _ h => by cases h) fnExactScaleNamed_row_tie rfl ⟨rfl, rfl⟩ (by kernel_rfl) rfl plain (by kernel_rfl)
#print axioms proved
end Go.Proofs.YtcmjbpjeiaifoabDoor.fnExactScaleNamed

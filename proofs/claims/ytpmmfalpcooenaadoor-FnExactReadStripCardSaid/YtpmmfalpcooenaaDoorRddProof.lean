/- The law FnExactReadStrip holds for every input, whenever the package-level variables that it reads hold what the program's text lays there; the card ties them to that text. -/
import Derived.Test.YtpmmfalpcooenaaDoorCards
import Derived.Test.YtpmmfalpcooenaaDoorTie
import Derived.Test.YtpmmfalpcooenaaDoorRddLaw
import Derived.WalkKit
import Derived.ProofKit
import Derived.OpenShut
import Derived.OpenVars
import Derived.ShutString
import Derived.ChangeOld
import Derived.Below
import Derived.Deep.DeepHandedRow
import Derived.Lib.LaidTab
import Derived.Lib.SmallJoins
import Derived.Stop.Joined
import Derived.LaidMore
import Derived.Shelf.Vars
import Derived.LaidLaws
import Derived.LaidHandle
import Derived.LaidSub
namespace Go.Proofs.YtpmmfalpcooenaaDoor.fnExactReadStrip
open Go.ChangeShapes Go.WideShapes Go.ChangeAt Go.RowKit Go.Joins
open Go.ChangeMaps (open_string shut_string)
set_option linter.unusedVariables false

theorem own : ownKnob Tryd.prog.godebug = none := by kernel_rfl
theorem laidOut : laidOutB Tryd.prog = true := by kernel_rfl
theorem gn2 : Tryd.prog.globalNamed "internal/strconv.uint64pow10" = some 6 := by kernel_rfl
theorem gt2 : (Tryd.prog.globals[6]?).map (·.type) = some 168 := by kernel_rfl
theorem gn3 : Tryd.prog.globalNamed "strconv.ErrRange" = some 8 := by kernel_rfl
theorem gt3 : (Tryd.prog.globals[8]?).map (·.type) = some 62 := by kernel_rfl
theorem gn4 : Tryd.prog.globalNamed "strconv.ErrSyntax" = some 7 := by kernel_rfl
theorem gt4 : (Tryd.prog.globals[7]?).map (·.type) = some 62 := by kernel_rfl
theorem gn5 : Tryd.prog.globalNamed "loop.example/g01043/impl.stripMarks" = some 0 := by kernel_rfl
theorem gt5 : (Tryd.prog.globals[0]?).map (·.type) = some 96 := by kernel_rfl
theorem gn6 : Tryd.prog.globalNamed "loop.example/g01043/impl.errOutside" = some 3 := by kernel_rfl
theorem gt6 : (Tryd.prog.globals[3]?).map (·.type) = some 62 := by kernel_rfl
theorem vars_len {H : Type} {enc : TypeId × Value → H} {P : Program} {w : World} {sp : Nat → Bool} : ∀ {ns : List String} {gs : List (DataW H)} {ps : List MemPlace}, DataW.TrodVars enc P w sp ns gs ps → gs.length = ns.length
  | [], [], _, _ => rfl
  | [], _ :: _, _, h => h.elim
  | _ :: _, [], _, h => h.elim
  | n :: ns, d :: ds, ps, h => by
    obtain ⟨_, _, _, _, _, _, _, _, _, _, hs, _⟩ := h
    rw [List.length_cons, List.length_cons, vars_len hs]
theorem one_at {cs : List Value} {a : Nat} {v : Value} (h : (cs.drop a).take 1 = [v]) : cs[a]? = some v := by
  have h0 := congrArg (fun l : List Value => l[0]?) h
  simp only [List.getElem?_take, List.getElem?_drop] at h0
  simp at h0
  exact h0
theorem mark_of {H : Type} {enc : TypeId × Value → H} {W : World} {base : Nat} {sp : Nat → Bool} {held : Bool} {fu a : Nat} {cs : List Value} {z : DataW H × List MemPlace} {l : List UInt8}
    (h : DataW.trod enc Tryd.prog W base sp held fu 9 ((cs.drop a).take 1) = some z) (e : z.1 = .lit (.string l)) : cs[a]? = some (.string ⟨l.toArray⟩) := by
  obtain ⟨v0, e0, e1, _⟩ := DataW.trod_string Tryd.underlying9 h
  subst e1
  simp at e
  subst e
  exact one_at e0
theorem table {W : World} (h : laidMetH Tryd.prog Rows.fnExactReadStripRow.laid W) : Rdc.VR W := by
  rw [MakeChecks.laidMetH_plain _ _ _ (by kernel_rfl)] at h
  obtain ⟨ps, ⟨g0, t0, cs0, fu0, p0, q0, hg0, ht0, hv0, hd0, ⟨g1, t1, cs1, fu1, p1, q1, hg1, ht1, hv1, hd1, ⟨g2, t2, cs2, fu2, p2, q2, hg2, ht2, hv2, hd2, ⟨g3, t3, cs3, fu3, p3, q3, hg3, ht3, hv3, hd3, ⟨g4, t4, cs4, fu4, p4, q4, hg4, ht4, hv4, hd4, ⟨g5, t5, cs5, fu5, p5, q5, hg5, ht5, hv5, hd5, ⟨g6, t6, cs6, fu6, p6, q6, hg6, ht6, hv6, hd6, _, _⟩, _⟩, _⟩, _⟩, _⟩, _⟩, _⟩, _, _⟩ := h
  obtain rfl := Option.some.inj (gn2.symm.trans hg2)
  obtain rfl := Option.some.inj (gt2.symm.trans ht2)
  have sTab : Tb.Tab W := by
    unfold Tb.Tab Lib.TabIs
    rw [hv2, ← Lib.cells_of_tab (zs := Lib.pow10Tab) Tryd.underlying168 Tryd.underlying153 (by kernel_rfl) (by kernel_rfl) hd2]
  obtain rfl := Option.some.inj (gn3.symm.trans hg3)
  obtain rfl := Option.some.inj (gt3.symm.trans ht3)
  have sErrRange : ∃ v, W.cell? ⟨8, 0, none⟩ = some v ∧ (v = .nilIface ∨ ∃ u x, v = .iface u x) := by
    obtain ⟨f2, u, v, hc, _, _⟩ := iface_of_trod Tryd.underlying62 hd3
    refine ⟨.iface u v, ?_, .inr ⟨u, v, rfl⟩⟩
    rw [World.var?_cell hg3 hv3 0, ← Array.getElem?_toList, hc]
    rfl
  obtain rfl := Option.some.inj (gn4.symm.trans hg4)
  obtain rfl := Option.some.inj (gt4.symm.trans ht4)
  have sErrSyntax : ∃ v, W.cell? ⟨7, 0, none⟩ = some v ∧ (v = .nilIface ∨ ∃ u x, v = .iface u x) := by
    obtain ⟨f2, u, v, hc, _, _⟩ := iface_of_trod Tryd.underlying62 hd4
    refine ⟨.iface u v, ?_, .inr ⟨u, v, rfl⟩⟩
    rw [World.var?_cell hg4 hv4 0, ← Array.getElem?_toList, hc]
    rfl
  obtain rfl := Option.some.inj (gn5.symm.trans hg5)
  obtain rfl := Option.some.inj (gt5.symm.trans ht5)
  have sMk : ∀ k, k < 4 → W.cell? ⟨0, k, none⟩ = some (.string ⟨(Sx.sm k).toArray⟩) := by
    obtain ⟨xs, m, rfl, hx, hlen, hn, hel⟩ := DataW.trod_array Tryd.underlying96 hd5
    have ce : Tryd.prog.cellsOf 9 = 1 := by kernel_rfl
    rw [ce] at hel
    match xs, hn with
    | [z0, z1, z2, z3], _ =>
      simp [Rows.laid_loop_example_g01043_impl_stripMarks] at hx
      obtain ⟨⟨d0, d1, d2, d3⟩, _⟩ := hx
      intro j hj
      rw [World.var?_cell hg5 hv5 j, ← Array.getElem?_toList]
      match j, hj with
      | 0, _ => exact mark_of (hel 0 (by omega)) d0.symm
      | 1, _ => exact mark_of (hel 1 (by omega)) d1.symm
      | 2, _ => exact mark_of (hel 2 (by omega)) d2.symm
      | 3, _ => exact mark_of (hel 3 (by omega)) d3.symm
      | k + 4, hk => exact absurd hk (by omega)
  obtain rfl := Option.some.inj (gn6.symm.trans hg6)
  obtain rfl := Option.some.inj (gt6.symm.trans ht6)
  have sErrOutside : Er.Sen W 3 := by
    obtain ⟨f2, u, v, hc, _, _⟩ := iface_of_trod Tryd.underlying62 hd6
    refine ⟨u, v, ?_⟩
    rw [World.var?_cell hg6 hv6 0, ← Array.getElem?_toList, hc]
    rfl
  exact ⟨⟨sTab, sErrSyntax, sErrRange⟩, sMk, sErrOutside⟩

/-- The cell of bytealg's MaxLen holds a number. -/
theorem maxAt {W : World} (h : W.ShapedOpen Tryd.prog) : Rdc.MaxAt W :=
  cell_of_shapedOpen_int (zero := #[.int .i64 0]) (t := 3) h (of_decide_eq_true (by kernel_rfl)) (by kernel_rfl) rfl (by kernel_rfl) (by kernel_rfl) Tryd.underlying3

set_option maxRecDepth 100000 in
theorem contract (H : Type) (enc : TypeId × Value → H) (W : World) (base : Nat) (args : Array Value) (ds gs : List (DataW H)) (before : List MemPlace)
    (hval : ∀ (j : Nat) t v, Tryd.f13.params[j]? = some t → args[j]? = some v → Value.okWide Tryd.prog W .any base t v)
    (hW : DataW.Whole enc Tryd.prog Tryd.f13.params.toList Rows.fnExactReadStripSpec.vars false W args.toList ds gs before) (hL : laidMetH Tryd.prog Rows.fnExactReadStripRow.laid W) (hSh : W.ShapedOpen Tryd.prog) :
    Calls Tryd.prog 13 args W fun e W' => ∃ v, e = .returned v ∧ Rows.fnExactReadStripSpec.post enc Tryd.prog Tryd.f13 false true false false W args v W' := by
  have hW' := hW
  obtain ⟨p, q, hA0, hV, rfl, hfz, hnd⟩ := hW
  have hA : DataW.TrodAll enc Tryd.prog W 0 (fun _ => true) true Tryd.f13.params.toList args.toList ds p := hA0
  rw [Tryd.params13] at hA hval
  obtain ⟨v0, vs0, d0, ds0, p0, q0, hargs, rfl, rfl, h0, r0⟩ := trodAll_cons hA
  obtain ⟨rfl, rfl, rfl⟩ := trodAll_nil r0
  obtain rfl : args = #[v0] := by cases args; simp_all
  obtain ⟨a0, rfl, rfl, rfl, w0⟩ := open_string Tryd.underlying9 (hval 0 9 v0 rfl rfl) h0
  obtain ⟨g0, g1, rfl⟩ : ∃ g0 g1, gs = [g0, g1] := by
    match gs, vars_len hV with
    | [g0, g1], _ => exact ⟨g0, g1, rfl⟩
  clear hA0
  refine (Rdd.law a0 W (table hL) (maxAt hSh) w0).mono fun e W' ⟨he, bel⟩ => ?_
  subst he
  exact ⟨_, rfl, _, _, _, [], _, _, hW', trodAll_mk1 (shut_bool Tryd.underlying4 _), (trodAll_cons_mk (shut_string Tryd.underlying9 w0) trodAll_mk0), Below.trodVars laidOut bel (by kernel_rfl) hV, bel.frame _, fun h => by cases h⟩

noncomputable def low : Nat := (World.holding Tryd.prog default ⟨#[], #[], []⟩).heap.size
/-- A world for the witness: the variables hold what their initialisers lay. -/
noncomputable def laidWorld (os : Os) : World :=
  { World.holding Tryd.prog os ⟨#[.cells #[.string ⟨#[118, 97, 108, 117, 101, 32, 111, 117, 116, 32, 111, 102, 32, 114, 97, 110, 103, 101]⟩] 183, .cells #[.string ⟨#[105, 110, 118, 97, 108, 105, 100, 32, 115, 121, 110, 116, 97, 120]⟩] 183, .cells #[.string ⟨#[97, 32, 110, 117, 109, 98, 101, 114, 32, 105, 115, 32, 111, 117, 116, 32, 111, 102, 32, 105, 116, 115, 32, 114, 97, 110, 103, 101]⟩] 183], #[], []⟩ with heap := ((((((((World.holding Tryd.prog os ⟨#[.cells #[.string ⟨#[118, 97, 108, 117, 101, 32, 111, 117, 116, 32, 111, 102, 32, 114, 97, 110, 103, 101]⟩] 183, .cells #[.string ⟨#[105, 110, 118, 97, 108, 105, 100, 32, 115, 121, 110, 116, 97, 120]⟩] 183, .cells #[.string ⟨#[97, 32, 110, 117, 109, 98, 101, 114, 32, 105, 115, 32, 111, 117, 116, 32, 111, 102, 32, 105, 116, 115, 32, 114, 97, 110, 103, 101]⟩] 183], #[], []⟩).heap.modify 9 fun
      | .cells _ t frozen => .cells ((([0, 1, 28, 2, 29, 14, 24, 3, 30, 22, 20, 15, 25, 17, 4, 8, 31, 27, 13, 23, 21, 19, 16, 7, 26, 12, 18, 6, 11, 5, 10, 9] : List Int).map (Value.int .u8)).toArray) t frozen
      | o => o).modify 10 fun
      | .cells _ t frozen => .cells ((([0, 1, 56, 2, 57, 49, 28, 3, 61, 58, 42, 50, 38, 29, 17, 4, 62, 47, 59, 36, 45, 43, 51, 22, 53, 39, 33, 30, 24, 18, 12, 5, 63, 55, 48, 27, 60, 41, 37, 16, 46, 35, 44, 21, 52, 32, 23, 11, 54, 26, 40, 15, 34, 20, 31, 10, 25, 14, 19, 9, 13, 8, 7, 6] : List Int).map (Value.int .u8)).toArray) t frozen
      | o => o).modify 6 fun
      | .cells _ t frozen => .cells ((([1, 10, 100, 1000, 10000, 100000, 1000000, 10000000, 100000000, 1000000000, 10000000000, 100000000000, 1000000000000, 10000000000000, 100000000000000, 1000000000000000, 10000000000000000, 100000000000000000, 1000000000000000000, 10000000000000000000] : List Int).map (Value.int .u64)).toArray) t frozen
      | o => o).modify 8 fun
      | .cells _ t frozen => .cells (#[.iface 181 (.pointer (some ⟨low, 0, none⟩))]) t frozen
      | o => o).modify 7 fun
      | .cells _ t frozen => .cells (#[.iface 181 (.pointer (some ⟨low + 1, 0, none⟩))]) t frozen
      | o => o).modify 0 fun
      | .cells _ t frozen => .cells (#[Value.string ⟨#[43]⟩, Value.string ⟨#[40]⟩, Value.string ⟨#[44]⟩, Value.string ⟨#[41]⟩]) t frozen
      | o => o).modify 3 fun
      | .cells _ t frozen => .cells (#[.iface 181 (.pointer (some ⟨low + 2, 0, none⟩))]) t frozen
      | o => o) }
theorem laid_met (os : Os) : laidMet Tryd.prog Rows.fnExactReadStripRow.laid ((laidWorld os).forCall (fun _ _ => 0) ⟨#[], #[.string ByteArray.empty], []⟩).memory :=
  laidMet_of_run' 8 (by kernel_rfl) (by kernel_rfl)
theorem reads (os : Os) {H : Type} (enc : TypeId × Value → H) : ∃ places, DataW.whole enc Tryd.prog ((laidWorld os).forCall (fun _ _ => 0) ⟨#[], #[.string ByteArray.empty], []⟩).memory Tryd.f13.params.toList Rows.fnExactReadStripSpec.vars false #[.string ByteArray.empty].toList 8 = some ([.lit (.string [])], [Rows.laid_loop_example_g01043_impl_stripMarks, .held (enc (181, .pointer (some ⟨low + 2, 0, none⟩)))], places) :=
  ⟨MemPlace.row ⟨0, 0, none⟩ 4 ++ MemPlace.row ⟨3, 0, none⟩ 1, by kernel_rfl⟩

set_option maxRecDepth 100000 in
theorem lifted (os : Os) (started : os.Started) (H : Type) (enc : TypeId × Value → H) (F : Stop.Interp) :
    ReturnsInHanded {} Tryd.checked os 13 .any ((OpenSpec.ofChange Rows.fnExactReadStripSpec).preRow enc Tryd.prog Tryd.f13 Rows.fnExactReadStripRow.domain false Rows.fnExactReadStripRow.laid) (((OpenSpec.ofChange Rows.fnExactReadStripSpec).at F).post enc Tryd.prog Tryd.f13 false true false false) := by
  obtain ⟨places, hx⟩ := reads os enc
  refine returnsInHanded_of_row (C := Tryd.checked) (s := OpenSpec.ofChange Rows.fnExactReadStripSpec) own started (by kernel_rfl) Tryd.func13
    (witness_row_at (enc := enc) (C := Tryd.checked) false (laidWorld os) #[.string ByteArray.empty] rfl (by kernel_rfl) (by kernel_rfl) (by kernel_rfl)
      (OpenSpec.preRow_of_cond 8 hx (by kernel_rfl) (fun k hk => by cases hk) (by kernel_rfl) (laid_met os))) ?_
  intro W base args ds gs before hval hW _ _ _ hL hSh _
  exact contract H enc W base args ds gs before hval hW hL hSh

theorem said : Rows.FnExactReadStripSaid :=
  OpenClaim.holds_of_cond 13 Tryd.f13 rfl rfl rfl rfl rfl rfl rfl ⟨rfl, rfl, rfl, rfl, rfl⟩ rfl rfl rfl rfl rfl (by kernel_rfl) Tryd.func13 (by kernel_rfl)
    (of_decide_eq_true (by kernel_rfl)) (by unfold Func.isWrapper; first | (rw [if_pos (by decide +kernel)]; kernel_rfl) | (rw [if_neg (by decide +kernel)]; exact ⟨rfl, rfl⟩))
    (fun os started H enc _ F => by rw [OpenClaim.pre_eq_preRow]; exact lifted os started H enc F)

theorem plain (f : FuncId) (fn : Func) (hf : Tryd.pinned.checked.prog.funcNamed "loop.example/g01043/laws.FnExactReadStrip" = some f) (hfn : Tryd.pinned.checked.prog.funcs[f]? = some fn) :
    true = Tryd.pinned.checked.prog.looks [] ∧ ∀ (j : Nat) t, fn.params[j]? = some t → Tryd.pinned.checked.prog.wantsStandIn t = false := by
  obtain rfl : f = 13 := Option.some.inj ((show Tryd.prog.funcNamed "loop.example/g01043/laws.FnExactReadStrip" = some 13 by kernel_rfl).symm.trans hf) |>.symm
  obtain rfl : fn = Tryd.f13 := (Option.some.inj (Tryd.func13.symm.trans hfn)).symm
  refine ⟨by kernel_rfl, fun j t ht => ?_⟩
  rw [Tryd.params13] at ht
  obtain rfl : t = 9 := by simpa using Array.mem_of_getElem? ht
  exact (show Tryd.prog.wantsStandIn 9 = false by kernel_rfl)

theorem proved : Rows.FnExactReadStripCardSaid :=
  Claim7.holds_tied_plain_at .later [] _ _ _ _ said (fun _ h => by cases h) (by kernel_rfl) (fun _ h => by cases h) fnExactReadStrip_row_tie rfl ⟨rfl, rfl⟩ (by kernel_rfl) rfl plain (by kernel_rfl)
#print axioms proved
end Go.Proofs.YtpmmfalpcooenaaDoor.fnExactReadStrip

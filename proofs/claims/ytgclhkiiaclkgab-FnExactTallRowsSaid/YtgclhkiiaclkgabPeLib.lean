/- Blocks on a roll: the program's nests with rows; RowsFault, HeightOfRows, WasteOfRows, HeightBound. -/
import Derived.Test.YtgclhkiiaclkgabPdLib
import Derived.Test.YtgclhkiiaclkgabJvLib
import Derived.Test.YtgclhkiiaclkgabAwLib
namespace Go.Proofs.Ytgclhkiiaclkgab.Pe
set_option linter.unusedVariables false
open Go.RowKit Is Ge Qb Jr Js Jt Ju Jw Jx Pa P5 Pb Pc Pd
open Go.Proofs.Ytgclhkiiaclkgab.Ba (inB below_then below_box)

abbrev fnV (A : Option Addr) (n c : Nat) (roll : Int) (f : Nat → Nat) : Value := .agg #[.slice A n c, .int .i64 roll, .int .u16 (f 0 : Int), .int .u16 (f 1 : Int), .int .u16 (f 2 : Int), .int .u16 (f 3 : Int), .int .u16 (f 4 : Int), .int .u16 (f 5 : Int), .int .u16 (f 6 : Int), .int .u16 (f 7 : Int), .int .u16 (f 8 : Int)]
abbrev fnO (A : Option Addr) (n c : Nat) (roll : Int) (f : Nat → Nat) : Obj := .cells #[.slice A n c, .int .i64 roll, .int .u16 (f 0 : Int), .int .u16 (f 1 : Int), .int .u16 (f 2 : Int), .int .u16 (f 3 : Int), .int .u16 (f 4 : Int), .int .u16 (f 5 : Int), .int .u16 (f 6 : Int), .int .u16 (f 7 : Int), .int .u16 (f 8 : Int)] 68
theorem below11 {B : Nat} {w wr : World} (h : Below B w wr) {g : Nat} (hg : B ≤ g) (c0 c1 c2 c3 c4 c5 c6 c7 c8 c9 c10 : Value) : Below B w (((((((((((wr.setCell ⟨g, 0, none⟩ c0).setCell ⟨g, 1, none⟩ c1).setCell ⟨g, 2, none⟩ c2).setCell ⟨g, 3, none⟩ c3).setCell ⟨g, 4, none⟩ c4).setCell ⟨g, 5, none⟩ c5).setCell ⟨g, 6, none⟩ c6).setCell ⟨g, 7, none⟩ c7).setCell ⟨g, 8, none⟩ c8).setCell ⟨g, 9, none⟩ c9).setCell ⟨g, 10, none⟩ c10) := (((((((((((h.setCell (p := ⟨g, 0, none⟩) hg c0).setCell (p := ⟨g, 1, none⟩) hg c1).setCell (p := ⟨g, 2, none⟩) hg c2).setCell (p := ⟨g, 3, none⟩) hg c3).setCell (p := ⟨g, 4, none⟩) hg c4).setCell (p := ⟨g, 5, none⟩) hg c5).setCell (p := ⟨g, 6, none⟩) hg c6).setCell (p := ⟨g, 7, none⟩) hg c7).setCell (p := ⟨g, 8, none⟩) hg c8).setCell (p := ⟨g, 9, none⟩) hg c9).setCell (p := ⟨g, 10, none⟩) hg c10)
theorem blk11 {w : World} {g : Nat} {t : TypeId} {c0 c1 c2 c3 c4 c5 c6 c7 c8 c9 c10 : Value} (h : w.heap[g]? = some (.cells #[c0, c1, c2, c3, c4, c5, c6, c7, c8, c9, c10] t (0, 0))) :
    w.cell? ⟨g, 0, none⟩ = some c0 ∧ w.cell? ⟨g, 1, none⟩ = some c1 ∧ w.cell? ⟨g, 2, none⟩ = some c2 ∧ w.cell? ⟨g, 3, none⟩ = some c3 ∧ w.cell? ⟨g, 4, none⟩ = some c4 ∧ w.cell? ⟨g, 5, none⟩ = some c5 ∧ w.cell? ⟨g, 6, none⟩ = some c6 ∧ w.cell? ⟨g, 7, none⟩ = some c7 ∧ w.cell? ⟨g, 8, none⟩ = some c8 ∧ w.cell? ⟨g, 9, none⟩ = some c9 ∧ w.cell? ⟨g, 10, none⟩ = some c10 :=
  ⟨cell_of_row _ _ _ _ _ _ h, cell_of_row _ _ _ _ _ _ h, cell_of_row _ _ _ _ _ _ h, cell_of_row _ _ _ _ _ _ h, cell_of_row _ _ _ _ _ _ h, cell_of_row _ _ _ _ _ _ h, cell_of_row _ _ _ _ _ _ h, cell_of_row _ _ _ _ _ _ h, cell_of_row _ _ _ _ _ _ h, cell_of_row _ _ _ _ _ _ h, cell_of_row _ _ _ _ _ _ h⟩
theorem ro_cases (roll : Int) (n : Nat) (g : Nat → Int) (m : Nat) (p : Nat → Int) : (tv (BlP roll n g) = false → roC roll n g m p = 1) ∧ (tv (BlP roll n g) = true → m ≠ n → roC roll n g m p = 2) ∧ (tv (BlP roll n g) = true → tv (Ly.Al 0 8 m p) = false → roC roll n g m p = 2) ∧ (tv (BlP roll n g) = true → m = n → tv (Ly.Al 0 8 m p) = true → roC roll n g m p = 0) := by
  refine ⟨fun h => ?_, fun h h1 => ?_, fun h h1 => ?_, fun h h1 h2 => ?_⟩
  · unfold roC; rw [if_pos h]
  · unfold roC; rw [if_neg (by rw [h]; simp), if_pos (tv_no fun e => h1 e.2)]
  · unfold roC; rw [if_neg (by rw [h]; simp), if_pos (tv_no fun e => by rw [show tv (Ly.Al 0 8 m p) = true from tv_yes e.1] at h1; cases h1)]
  · have : tv ((∀ j, j < m → inB (p j) 0 8 = true) ∧ m = n) = true := tv_yes ⟨tv_iff.1 h2, h1⟩
    unfold roC; rw [if_neg (by rw [h]; simp), if_neg (by rw [this]; simp)]
set_option maxRecDepth 100000 in
set_option maxHeartbeats 2000000 in
theorem ifilled (A : Option Addr) (n c : Nat) (g : Nat → Int) (roll : Int) (P : Option Addr) (m pc : Nat) (p : Nat → Int) (hn : n ≤ 1048576) (hm : m ≤ 1048576) (w : World) (hA : Nums w w.heap.size A (n * 2) g) (hR : Nums w w.heap.size P m p) :
    Calls Try.prog 60 #[.slice A n c, .int .i64 roll, .slice P m pc] w fun e w' => e = .returned (.tuple #[if roC roll n g m p = 0 then fnV A n c roll (fun k => rs p k m) else fnV none 0 0 0 (fun _ => 0), .int .i64 (roC roll n g m p)]) ∧ Below w.heap.size w w' := by
  have HA := Lib.hid hA
  have HR := Lib.hid hR
  have BX := Lib.hid (Bx.of w (fnO none 0 0 0 (fun _ => 0)))
  have CN := Lib.hid (fun w h => inest A n c g roll hn w h)
  have CA := Lib.hid (fun w h => Ly.are_any 0 8 P m pc p hm w h)
  have CF := Lib.hid (fun (h : tv (BlP roll n g) = true) (h1 : m = n) (h2 : tv (Ly.Al 0 8 m p) = true) w hr => ifill P m pc p (by have := (tv_iff.1 h).1.2; omega) (fun j hj => inb (tv_iff.1 h2 j hj)) w hr)
  obtain ⟨v0, v1, v2, v3⟩ := ro_cases roll n g m p
  have V0 := Lib.hid v0
  have V1 := Lib.hid v1
  have V2 := Lib.hid v2
  have V3 := Lib.hid v3
  clear hA hR v0 v1 v2 v3
  unfold blC at CN
  generalize roC roll n g m p = C at V0 V1 V2 V3 ⊢
  generalize tv (BlP roll n g) = ok at CN CF V0 V1 V2 V3
  generalize tv (Ly.Al 0 8 m p) = al at CA CF V2 V3
  have hnz : (fun _ : Nat => (0 : Nat)) = fun _ => 0 := rfl
  cases ok
  · obtain rfl := V0.out rfl
    clear V0 V1 V2 V3 CF CA
    rw [if_neg (show ¬ (1 : Int) = 0 by omega)]
    rw [if_neg (show ¬ false = true by simp), if_neg (show ¬ false = true by simp)] at CN
    go_enter Try.func60, Try.ntmps60
    go_upto_region 1 with fail
    generalize hw9 : World.alloc _ _ = w0 at BX ⊢
    clear hw9
    go_wp2_with fail
    refine (CN.out _ ((HA.out.below BX.out.bel (Nat.le_refl _)).more BX.out.bel.size)).mono ?_
    rintro e w1 ⟨rfl, b1⟩
    have BX1 := Lib.hid ((BX.out.below b1).below (below_box w1 (neO none 0 0 0)))
    clear b1 BX CN HA HR
    go_upto_region 2 with fail
    generalize hw9 : World.alloc _ _ = w2 at BX1 ⊢
    clear hw9
    have hfr := blk_free BX1.out.box
    obtain ⟨z0, z1, z2, z3, z4, z5, z6, z7, z8, z9, z10⟩ := blk11 BX1.out.box
    have HQ := Lib.hid BX1.out.bel
    clear BX1
    go_wp2_with fail
    refine bodyPost_ret (v := .tuple #[fnV none 0 0 0 (fun _ => 0), .int .i64 1]) (by simp [results, Try.results60, go_sem, z0, z1, z2, z3, z4, z5, z6, z7, z8, z9, z10]) rfl ⟨rfl, ?_⟩
    with_reducible exact below11 HQ.out (Nat.le_refl _) _ _ _ _ _ _ _ _ _ _ _
  rw [if_pos rfl, if_pos rfl] at CN
  by_cases hmn : m = n
  rotate_left
  · obtain rfl := V1.out rfl hmn
    have hne : ((m : Int) != (n : Int)) = true := by simp; omega
    have hne2 : ¬ (m : Int) = (n : Int) := by omega
    clear V0 V1 V2 V3 CF CA
    rw [if_neg (show ¬ (2 : Int) = 0 by omega)]
    go_enter Try.func60, Try.ntmps60
    go_upto_region 1 with fail
    generalize hw9 : World.alloc _ _ = w0 at BX ⊢
    clear hw9
    go_wp2_with fail
    refine (CN.out _ ((HA.out.below BX.out.bel (Nat.le_refl _)).more BX.out.bel.size)).mono ?_
    rintro e w1 ⟨rfl, b1⟩
    have BX1 := Lib.hid ((BX.out.below b1).below (below_box w1 (neO A n c roll)))
    clear b1 BX CN HA HR
    go_upto_region 2 with fail
    generalize hw9 : World.alloc _ _ = w2 at BX1 ⊢
    clear hw9
    have hfr := blk_free BX1.out.box
    obtain ⟨z0, z1, z2, z3, z4, z5, z6, z7, z8, z9, z10⟩ := blk11 BX1.out.box
    have HQ := Lib.hid BX1.out.bel
    clear BX1
    go_wp2_with fail
    refine bodyPost_ret (v := .tuple #[fnV none 0 0 0 (fun _ => 0), .int .i64 2]) (by simp [results, Try.results60, go_sem, z0, z1, z2, z3, z4, z5, z6, z7, z8, z9, z10]) rfl ⟨rfl, ?_⟩
    with_reducible exact below11 HQ.out (Nat.le_refl _) _ _ _ _ _ _ _ _ _ _ _
  subst hmn
  cases al
  · obtain rfl := V2.out rfl rfl
    clear V0 V1 V2 V3 CF
    rw [if_neg (show ¬ (2 : Int) = 0 by omega)]
    go_enter Try.func60, Try.ntmps60
    go_upto_region 1 with fail
    generalize hw9 : World.alloc _ _ = w0 at BX ⊢
    clear hw9
    go_wp2_with fail
    refine (CN.out _ ((HA.out.below BX.out.bel (Nat.le_refl _)).more BX.out.bel.size)).mono ?_
    rintro e w1 ⟨rfl, b1⟩
    have BX1 := Lib.hid ((BX.out.below b1).below (below_box w1 (neO A m c roll)))
    clear b1 BX CN HA
    go_upto_region 2 with fail
    generalize hw9 : World.alloc _ _ = w2 at BX1 ⊢
    clear hw9
    have hfr := blk_free BX1.out.box
    obtain ⟨z0, z1, z2, z3, z4, z5, z6, z7, z8, z9, z10⟩ := blk11 BX1.out.box
    have HQ := Lib.hid BX1.out.bel
    go_wp2_with (go_at_call 83; refine (CA.out _ ((HR.out.below BX1.out.bel (Nat.le_refl _)).more BX1.out.bel.size)).mono ?_; rintro e w' ⟨rfl, rfl⟩)
    refine bodyPost_ret (v := .tuple #[fnV none 0 0 0 (fun _ => 0), .int .i64 2]) (by simp [results, Try.results60, go_sem, z0, z1, z2, z3, z4, z5, z6, z7, z8, z9, z10]) rfl ⟨rfl, ?_⟩
    with_reducible exact below11 HQ.out (Nat.le_refl _) _ _ _ _ _ _ _ _ _ _ _
  obtain rfl := V3.out rfl rfl rfl
  have CF1 := Lib.hid (CF.out rfl rfl rfl)
  clear V0 V1 V2 V3 CF
  rw [if_pos (show (0 : Int) = 0 by rfl)]
  go_enter Try.func60, Try.ntmps60
  go_upto_region 1 with fail
  generalize hw9 : World.alloc _ _ = w0 at BX ⊢
  clear hw9
  go_wp2_with fail
  refine (CN.out _ ((HA.out.below BX.out.bel (Nat.le_refl _)).more BX.out.bel.size)).mono ?_
  rintro e w1 ⟨rfl, b1⟩
  have BX1 := Lib.hid ((BX.out.below b1).below (below_box w1 (neO A m c roll)))
  have KN := Lib.hid (heap_alloc_new w1 (neO A m c roll))
  have hlt := Ge.lt_of_heap (BX.out.below b1).box
  clear b1 BX CN HA
  go_upto_region 2 with fail
  generalize hw9 : World.alloc _ _ = w2 at BX1 KN ⊢
  clear hw9
  generalize w1.heap.size = gn at *
  go_upto_region 6 with (go_at_call 83; refine (CA.out _ ((HR.out.below BX1.out.bel (Nat.le_refl _)).more BX1.out.bel.size)).mono ?_; rintro e w' ⟨rfl, rfl⟩)
  have KEEP : Hid (∀ W : World, Below w2.heap.size w2 W → (W.cell? ⟨gn, 0, none⟩ = some (.slice A m c) ∧ W.cell? ⟨gn, 1, none⟩ = some (.int .i64 roll)) ∧ W.heap[w.heap.size]? = some (fnO none 0 0 0 (fun _ => 0))) := Lib.hid fun W hW => ⟨blk2 (Ge.blk_keep hW KN.out), Ge.blk_keep hW BX1.out.box⟩
  have CF2 : Hid (∀ W : World, Below w2.heap.size w2 W → Calls Try.prog 84 #[.slice P m pc] W fun e w' => e = .returned (flV fun k => rs p k m) ∧ Below W.heap.size W w') := Lib.hid fun W hW => CF1.out W ((HR.out.below (below_then BX1.out.bel hW) (Nat.le_refl _)).more (below_then BX1.out.bel hW).size)
  have HB2 := Lib.hid BX1.out.bel
  obtain ⟨⟨y0, y1⟩, _⟩ := KEEP.out w2 (Below.refl _ _)
  clear BX1 KN CF1 HR CA
  go_region_with (go_at_call 84; (with_reducible refine (CF2.out _ ?_).mono ?_); (focus (repeat (first | (with_reducible exact Below.refl _ _) | refine Below.drew ?_))); rintro e w3 ⟨rfl, b3⟩; have b4 := below_then (w0 := w2) ?_ b3; rotate_left; (focus (repeat (first | (with_reducible exact Below.refl _ _) | refine Below.drew ?_))); obtain ⟨⟨y0, y1⟩, hres⟩ := KEEP.out _ b4; have hfr := blk_free hres; obtain ⟨z0, z1, z2, z3, z4, z5, z6, z7, z8, z9, z10⟩ := blk11 hres; clear hres b3)
  all_goals
    have HQ := Lib.hid (below_then HB2.out b4)
    go_wp2_with fail
    refine bodyPost_ret (v := .tuple #[fnV A m c roll (fun k => rs p k m), .int .i64 0]) (by simp [results, Try.results60, go_sem, z0, z1, z2, z3, z4, z5, z6, z7, z8, z9, z10]) rfl ⟨rfl, ?_⟩
    with_reducible exact below11 HQ.out (Nat.le_refl _) _ _ _ _ _ _ _ _ _ _ _
end Go.Proofs.Ytgclhkiiaclkgab.Pe

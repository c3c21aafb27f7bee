/- Blocks on a roll: the spec's BestRows and LeastHeight. -/
import Derived.Test.YtgclhkiiaclkgabQwLib
import Derived.Test.YtgclhkiiaclkgabPqLib
namespace Go.Proofs.Ytgclhkiiaclkgab.Qr
set_option linter.unusedVariables false
open Go.RowKit Go.Maps Ft Is Ge Qb Jr Js Jt Ju Jw Jx Pm Qs Qw
open N7 (put put_lt put_at Bst Before Upto NF)
open N8 (mn vl)
open Pq (BrAt lhV)
open Go.Proofs.Ytgclhkiiaclkgab.Ba (inB)

theorem walks (gs B0 : Nat) (A : Option Addr) (n c : Nat) (g : Nat → Int) (roll : Int) (hB : BlP roll n g) : ∀ (d k : Nat), k + d = n → ∀ (p : Nat → Int) (m : Nat) (X C : Nat → Nat) (bv : Value) (mb : Nat) (b : Nat → Int) (wo : Int) (w : World) (s : Int), Pre roll g k p → (m : Int) = mn p k → s = hi (ht g p k) 9 → St gs B0 w A n c g roll X C (v3 m m k) (v3 (wd g p k) (ht g p k) p) bv mb b wo → Bst n (vl g n) (Before n (N8.ok roll g) k p) b wo →
    Calls Try.prog 97 #[.pointer (some ⟨gs, 0, none⟩), .int .i64 s] w (WkAt gs B0 A n c g roll k m p X w)
  | 0, k, h => fun p m X C bv mb b wo w s h1 h2 h3 h4 h5 => by
    rw [h3]
    exact wstep gs B0 A n c g roll hB k (by omega) (fun hk => by omega) p m X C bv mb b wo w h1 h2 h4 h5
  | d + 1, k, h => fun p m X C bv mb b wo w s h1 h2 h3 h4 h5 => by
    rw [h3]
    exact wstep gs B0 A n c g roll hB k (by omega) (fun hk p m X C bv mb b wo w s h1 h2 h3 h4 h5 => walks gs B0 A n c g roll hB d (k + 1) (by omega) p m X C bv mb b wo w s h1 h2 h3 h4 h5) p m X C bv mb b wo w h1 h2 h4 h5
abbrev eO : Obj := .cells #[] 2
/-- The state at the beginning. -/
abbrev s0 (w : World) (A : Option Addr) (n c : Nat) (roll : Int) : World := (((w.alloc eO).alloc eO).alloc eO).alloc (stO A n c roll (v3 w.heap.size (w.heap.size + 1) (w.heap.size + 2)) (v3 0 0 0) (v3 0 0 0) (.slice none 0 0) (-1))
/-- What the search has found. -/
def FdAt (A : Option Addr) (n c : Nat) (g : Nat → Int) (roll : Int) (w : World) (e : Ending) (w' : World) : Prop :=
  ∃ gs X C bv, e = .returned (.pointer (some ⟨gs, 0, none⟩)) ∧ Hid (w'.heap[gs]? = some (stO A n c roll X C (v3 0 0 0) bv (brW roll n g))) ∧ Hid (w'.ownsRow w.heap.size 2 1 bv n (upto (brR roll n g) n)) ∧ Hid (Below w.heap.size w w')
theorem found {gs n c : Nat} {A : Option Addr} {g : Nat → Int} {roll : Int} (hB : BlP roll n g) {w w1 w' : World} {X : Nat → Nat} (hb : Below w.heap.size w w1) (hg : w.heap.size ≤ gs) (hX : ∀ j, j < 3 → w.heap.size ≤ X j) (h : WkAt gs w.heap.size A n c g roll 0 0 (fun _ => 0) X w1 (.returned (.tuple #[])) w') : FdAt A n c g roll w (.returned (.pointer (some ⟨gs, 0, none⟩))) w' := by
  obtain ⟨_, X', C', bv, mb, b, wo, HS, HB, HF⟩ := h
  have k0 := N7.whole HB.out
  have k1 := best_some hB k0
  have k2 := br_is hB k0
  have hm : mb = n := by
    rcases HS.out.cnt with ⟨e, _⟩ | ⟨_, e⟩
    · have := k1.2.2; omega
    · exact e
  subst hm
  have hs := hb.size
  refine ⟨gs, X', C', bv, rfl, Lib.hid (by rw [← k2.1]; exact HS.out.box), Lib.hid ?_, Lib.hid (hb.trans ⟨HF.out.os, HF.out.tape, HF.out.output, HF.out.size, fun i hi => HF.out.block i (by omega) (by omega) fun j hj => by have := hX j hj; omega⟩)⟩
  rw [← upto_ext k2.2]
  exact HS.out.best
theorem start_st {A : Option Addr} {n c : Nat} {g : Nat → Int} {roll : Int} {w : World} (hA : Nums w w.heap.size A (n * 2) g) : St (w.heap.size + 3) w.heap.size (s0 w A n c roll) A n c g roll (v3 w.heap.size (w.heap.size + 1) (w.heap.size + 2)) (v3 0 0 0) (v3 0 0 0) (v3 (wd g (fun _ => 0) 0) (ht g (fun _ => 0) 0) (fun _ => 0)) (.slice none 0 0) 0 (fun _ => 0) (-1) := by
  have b1 := below_box w eO
  have b2 := below_box (w.alloc eO) eO
  have b3 := below_box ((w.alloc eO).alloc eO) eO
  have b4 := below_box (((w.alloc eO).alloc eO).alloc eO) (stO A n c roll (v3 w.heap.size (w.heap.size + 1) (w.heap.size + 2)) (v3 0 0 0) (v3 0 0 0) (.slice none 0 0) (-1))
  have k1 := heap_alloc_new w eO
  have k2 := heap_alloc_new (w.alloc eO) eO
  have k3 := heap_alloc_new ((w.alloc eO).alloc eO) eO
  have k4 := heap_alloc_new (((w.alloc eO).alloc eO).alloc eO) (stO A n c roll (v3 w.heap.size (w.heap.size + 1) (w.heap.size + 2)) (v3 0 0 0) (v3 0 0 0) (.slice none 0 0) (-1))
  have z1 : (w.alloc eO).heap.size = w.heap.size + 1 := by simp
  have z2 : ((w.alloc eO).alloc eO).heap.size = w.heap.size + 2 := by simp
  have z3 : (((w.alloc eO).alloc eO).alloc eO).heap.size = w.heap.size + 3 := by simp
  rw [z1] at k2
  rw [z2] at k3
  rw [z3] at k4
  have j1 := Ge.blk_keep b4 (Ge.blk_keep b3 (Ge.blk_keep b2 k1))
  have j2 := Ge.blk_keep b4 (Ge.blk_keep b3 k2)
  have j3 := Ge.blk_keep b4 k3
  have row : ∀ x (v : World), w.heap.size ≤ x → v.heap[x]? = some (.cells #[] 2 (0, 0)) → v.ownsRow w.heap.size 2 1 (.slice (some ⟨x, 0, none⟩) 0 0) 0 [] := fun x v hx hv => ⟨rfl, .inr ⟨x, 0, #[], rfl, hx, hv, by simp, by unfold maxLen; omega, rfl, rfl⟩⟩
  refine ⟨k4, fun i hi => ?_, fun i j hi hj hne => ?_, fun i hi => ?_, fun i hi => (by intro e; cases e), ⟨rfl, .inl ⟨rfl, rfl⟩⟩, .inl ⟨rfl, rfl⟩, (by intro e; cases e), by omega, ?_⟩
  · rcases three hi with rfl | rfl | rfl
    · exact row _ _ (Nat.le_refl _) j1
    · exact row _ _ (show w.heap.size ≤ w.heap.size + 1 by omega) j2
    · exact row _ _ (show w.heap.size ≤ w.heap.size + 2 by omega) j3
  · rcases three hi with rfl | rfl | rfl <;> rcases three hj with rfl | rfl | rfl <;> first | exact absurd rfl hne | (show _ ≠ _; simp only [v3]; omega)
  · rcases three hi with rfl | rfl | rfl <;> (simp only [v3]; omega)
  · have := ((b1.trans (b2.mono (by omega))).trans (b3.mono (by omega))).trans (b4.mono (by omega))
    exact hA.below this (Nat.le_refl _)
set_option maxRecDepth 100000 in
set_option maxHeartbeats 2000000 in
theorem best (A : Option Addr) (n c : Nat) (g : Nat → Int) (roll : Int) (hB : BlP roll n g) (w : World) (hA : Nums w w.heap.size A (n * 2) g) :
    Calls Try.prog 79 #[.slice A n c, .int .i64 roll] w (FdAt A n c g roll w) := by
  have C := Lib.hid (walks (w.heap.size + 3) w.heap.size A n c g roll hB n 0 (by omega) (fun _ => 0) 0 _ _ _ _ _ _ _ 0 (fun j hj => by omega) rfl rfl (start_st (c := c) (roll := roll) hA) N7.none_before)
  have B0 : Hid (Below w.heap.size w (s0 w A n c roll)) := Lib.hid (by
    have b1 := below_box w eO
    have b2 := below_box (w.alloc eO) eO
    have b3 := below_box ((w.alloc eO).alloc eO) eO
    have b4 := below_box (((w.alloc eO).alloc eO).alloc eO) (stO A n c roll (v3 w.heap.size (w.heap.size + 1) (w.heap.size + 2)) (v3 0 0 0) (v3 0 0 0) (.slice none 0 0) (-1))
    exact ((b1.trans (b2.mono (by simp))).trans (b3.mono (by simp; omega))).trans (b4.mono (by simp; omega)))
  have FD := Lib.hid (fun w' h => found (g := g) (A := A) (c := c) hB (w := w) (w1 := s0 w A n c roll) (w' := w') (gs := w.heap.size + 3) (X := v3 w.heap.size (w.heap.size + 1) (w.heap.size + 2)) B0.out (by omega) (fun j hj => by rcases three hj with rfl | rfl | rfl <;> simp [v3]) h)
  generalize FdAt A n c g roll w = Q at FD ⊢
  clear hA hB B0
  go_enter Try.func79, Try.ntmps79
  go_wp2_with fail
  refine C.out.mono ?_
  rintro e w2 ⟨rfl, h2⟩
  have HX := Lib.hid (FD.out w2 ⟨rfl, h2⟩)
  clear h2 C FD
  go_wp2_with fail
  first | exact HX.out | (go_ret; exact HX.out)
set_option maxRecDepth 100000 in
set_option maxHeartbeats 2000000 in
theorem spec_br (A : Option Addr) (n c : Nat) (g : Nat → Int) (roll : Int) (hn : n ≤ 1048576) (w : World) (hA : Nums w w.heap.size A (n * 2) g) :
    Calls Try.prog 48 #[.slice A n c, .int .i64 roll] w (BrAt roll n g w) := by
  have C := Lib.hid (spec_ok A n c g roll hn w hA)
  have V0 : Hid (tv (BlP roll n g) = false → BrAt roll n g w (.returned (.tuple #[.slice none 0 0, .int .i64 1])) w) := Lib.hid fun h => by
    unfold BrAt rwN blC
    rw [if_neg (by rw [h]; simp), if_neg (by rw [h]; simp)]
    exact Ow.pair_no (Below.refl _ _) _
  have V1 : Hid (tv (BlP roll n g) = true → ∀ W P cap, Own W w.heap.size P n (brR roll n g) → Below w.heap.size w W → BrAt roll n g w (.returned (.tuple #[.slice P n cap, .int .i64 0])) W) := Lib.hid fun h W P cap ho hb => by
    unfold BrAt rwN blC
    rw [if_pos h, if_pos h]
    exact ⟨_, _, rfl, Lib.hid ho, hb⟩
  have CB := Lib.hid (fun (h : tv (BlP roll n g) = true) => best A n c g roll (tv_iff.1 h) w hA)
  clear hA
  generalize BrAt roll n g w = Q at V0 V1 ⊢
  generalize tv (BlP roll n g) = ok at *
  cases ok
  · have HF := Lib.hid (V0.out rfl)
    clear V0 V1 CB
    go_enter Try.func48, Try.ntmps48
    go_wp2_with fail
    refine C.out.mono ?_
    rintro e w1 ⟨rfl, rfl⟩
    go_wp2_with fail
    exact HF.out
  have V := Lib.hid (V1.out rfl)
  have CB1 := Lib.hid (CB.out rfl)
  clear V0 V1 CB
  go_enter Try.func48, Try.ntmps48
  go_wp2_with fail
  refine C.out.mono ?_
  rintro e w1 ⟨rfl, rfl⟩
  go_wp2_with fail
  refine CB1.out.mono ?_
  rintro e w2 ⟨gs, X, C', bv, rfl, HBX, HO, HB⟩
  obtain ⟨P, cap, rfl, ho⟩ := Ow.own_of_row HO.out
  have HF := Lib.hid (V.out w2 P cap ho HB.out)
  obtain ⟨_, _, _, _, _, z5, _⟩ := blk7 HBX.out
  clear HBX HO ho V CB1 HB
  go_wp2_with fail
  exact HF.out
set_option maxRecDepth 100000 in
set_option maxHeartbeats 2000000 in
theorem spec_lh (A : Option Addr) (n c : Nat) (g : Nat → Int) (roll : Int) (hn : n ≤ 1048576) (w : World) (hA : Nums w w.heap.size A (n * 2) g) :
    Calls Try.prog 50 #[.slice A n c, .int .i64 roll] w (IAt (lhV roll n g) (blC roll n g) w) := by
  have C := Lib.hid (spec_ok A n c g roll hn w hA)
  have CB := Lib.hid (fun (h : tv (BlP roll n g) = true) => best A n c g roll (tv_iff.1 h) w hA)
  clear hA
  unfold IAt lhV blC
  unfold FdAt at CB
  generalize brW roll n g = ls at *
  generalize tv (BlP roll n g) = ok at *
  cases ok
  · clear CB
    rw [if_neg (show ¬ false = true by simp), if_neg (show ¬ false = true by simp)]
    go_enter Try.func50, Try.ntmps50
    go_wp2_with fail
    refine C.out.mono ?_
    rintro e w1 ⟨rfl, rfl⟩
    go_wp2_with fail
    exact bodyPost_ret (v := .tuple #[.int .i64 0, .int .i64 1]) (by simp [results, Try.results50, go_sem]) rfl ⟨rfl, Below.refl _ _⟩
  have CB1 := Lib.hid (CB.out rfl)
  rw [if_pos rfl, if_pos rfl]
  clear CB
  go_enter Try.func50, Try.ntmps50
  go_wp2_with fail
  refine C.out.mono ?_
  rintro e w1 ⟨rfl, rfl⟩
  go_wp2_with fail
  refine CB1.out.mono ?_
  rintro e w2 ⟨gs, X, C', bv, rfl, HBX, HO, HB⟩
  obtain ⟨_, _, _, _, _, _, z6⟩ := blk7 HBX.out
  clear HBX HO CB1
  go_wp2_with fail
  exact bodyPost_ret (v := .tuple #[.int .i64 ls, .int .i64 0]) (by simp [results, Try.results50, go_sem]) rfl ⟨rfl, HB.out⟩
end Go.Proofs.Ytgclhkiiaclkgab.Qr

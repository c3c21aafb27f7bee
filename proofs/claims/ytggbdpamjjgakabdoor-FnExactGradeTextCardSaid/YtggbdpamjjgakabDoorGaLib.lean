/- Grades: the law's copy and comparison of one; its five numbers; whether it is valid (spec and program). -/
import Derived.Test.YtggbdpamjjgakabDoorLaLib
import Derived.Test.YtggbdpamjjgakabDoorAwLib
namespace Go.Proofs.YtggbdpamjjgakabDoor.Ga
open Go.RowKit Ft Ge Qb La

/-- Five numbers, by place. -/
abbrev fvV (g : Nat → Int) : Value := .agg #[.int .i64 (g 0), .int .i64 (g 1), .int .i64 (g 2), .int .i64 (g 3), .int .i64 (g 4)]
abbrev fvC (g : Nat → Int) (t : TypeId) : Obj := .cells #[.int .i64 (g 0), .int .i64 (g 1), .int .i64 (g 2), .int .i64 (g 3), .int .i64 (g 4)] t
theorem blk5 {w : World} {g : Nat} {t : TypeId} {c0 c1 c2 c3 c4 : Value} (h : w.heap[g]? = some (.cells #[c0, c1, c2, c3, c4] t (0, 0))) :
    w.cell? ⟨g, 0, none⟩ = some c0 ∧ w.cell? ⟨g, 1, none⟩ = some c1 ∧ w.cell? ⟨g, 2, none⟩ = some c2 ∧ w.cell? ⟨g, 3, none⟩ = some c3 ∧ w.cell? ⟨g, 4, none⟩ = some c4 :=
  ⟨cell_of_row _ _ _ _ _ _ h, cell_of_row _ _ _ _ _ _ h, cell_of_row _ _ _ _ _ _ h, cell_of_row _ _ _ _ _ _ h, cell_of_row _ _ _ _ _ _ h⟩
/-- A grade that is valid. -/
def grB (g : Nat → Int) : Bool := inB (g 0) 0 20000 && (inB (g 1) 0 20000 && (inB (g 2) 0 20000 && (inB (g 3) 0 20000 && inB (g 4) 0 20000)))
theorem gr_of {g : Nat → Int} (H : ∀ j, j < 5 → inB (g j) 0 20000 = true) : grB g = true := by
  simp [grB, H 0 (by omega), H 1 (by omega), H 2 (by omega), H 3 (by omega), H 4 (by omega)]
theorem gr_no {g : Nat → Int} {k : Nat} (hk : k < 5) (hn : inB (g k) 0 20000 = false) : grB g = false := by
  obtain rfl | rfl | rfl | rfl | rfl : k = 0 ∨ k = 1 ∨ k = 2 ∨ k = 3 ∨ k = 4 := by omega
  all_goals simp [grB, hn]
theorem gr_at {g : Nat → Int} (h : grB g = true) {k : Nat} (hk : k < 5) : 0 ≤ g k ∧ g k ≤ 20000 := by
  by_cases e : inB (g k) 0 20000 = true
  · simpa [inB] using e
  · have := gr_no hk (by simpa using e)
    rw [this] at h
    cases h
theorem to_grade (g : Nat → Int) (w : World) : Calls Tryd.prog 29 #[fvV g] w fun e w' => e = .returned (fvV g) ∧ Below w.heap.size w w' := by
  unfold fvV
  generalize g 0 = g0, g 1 = g1, g 2 = g2, g 3 = g3, g 4 = g4
  go_enter Tryd.func29, Tryd.ntmps29
  go_wp2
  exact bodyPost_ret (v := .agg #[.int .i64 g0, .int .i64 g1, .int .i64 g2, .int .i64 g3, .int .i64 g4]) (by simp [results, Tryd.results29, go_sem]) rfl ⟨rfl, by repeat (first | exact Below.refl _ _ | exact below_box _ _ | refine Below.setCell ?_ (by simp <;> omega) _ | refine Below.alloc ?_ (by simp <;> omega) _)⟩
theorem eq_grade (g : Nat → Int) (w : World) : Calls Tryd.prog 33 #[fvV g, fvV g] w fun e w' => e = .returned (.bool true) ∧ Below w.heap.size w w' := by
  unfold fvV
  generalize g 0 = g0, g 1 = g1, g 2 = g2, g 3 = g3, g 4 = g4
  go_enter Tryd.func33, Tryd.ntmps33
  go_wp2
  go_ret
  exact ⟨rfl, by repeat (first | exact Below.refl _ _ | exact below_box _ _ | refine Below.alloc ?_ (by simp <;> omega) _)⟩
/-- A new list of five numbers. -/
def FiveAt (f : Nat → Int) (w : World) (e : Ending) (w' : World) : Prop :=
  ∃ g, e = .returned (.slice (some ⟨g, 0, none⟩) 5 5) ∧ w.heap.size ≤ g ∧ g < w'.heap.size ∧ Below w.heap.size w w' ∧ Hid (∀ j, j < 5 → w'.cell? ⟨g, j, none⟩ = some (.int .i64 (f j)))
theorem five_any (f : Nat → Int) (w : World) : Calls Tryd.prog 79 #[fvV f] w (FiveAt f w) := by
  have HF : Hid (∀ j, j < 5 → (#[Value.int .i64 (f 0), .int .i64 (f 1), .int .i64 (f 2), .int .i64 (f 3), .int .i64 (f 4)] : Array Value)[j]? = some (.int .i64 (f j))) := Lib.hid fun j hj => by
    obtain rfl | rfl | rfl | rfl | rfl : j = 0 ∨ j = 1 ∨ j = 2 ∨ j = 3 ∨ j = 4 := by omega
    all_goals rfl
  have HP : Hid (∀ (g : Nat) (w' : World), w.heap.size ≤ g → g < w'.heap.size → Below w.heap.size w w' → (∀ j, j < 5 → w'.cell? ⟨g, j, none⟩ = some (.int .i64 (f j))) → FiveAt f w (.returned (.slice (some ⟨g, 0, none⟩) 5 5)) w') := Lib.hid fun g w' h1 h2 h3 h4 => ⟨g, rfl, h1, h2, h3, Lib.hid h4⟩
  generalize FiveAt f w = Q at HP ⊢
  unfold fvV
  generalize f 0 = a, f 1 = b, f 2 = c, f 3 = d, f 4 = p at HF ⊢
  go_enter Tryd.func79, Tryd.ntmps79
  go_wp2_with fail
  exact HP.out _ _ (by simp) (by simp) (by repeat (first | exact Below.refl _ _ | exact below_box _ _ | refine Below.alloc ?_ (by simp <;> omega) _)) (fun j hj => by
    have h := (cell_of_row ((w.alloc (.cells #[.int .i64 a, .int .i64 b, .int .i64 c, .int .i64 d, .int .i64 p] 50)).alloc (.cells #[.int .i64 a, .int .i64 b, .int .i64 c, .int .i64 d, .int .i64 p] 2)) _ j _ _ (0, 0) (heap_alloc_new _ _)).trans (HF.out j hj)
    rw [show (w.alloc (.cells #[.int .i64 a, .int .i64 b, .int .i64 c, .int .i64 d, .int .i64 p] 50)).heap.size = w.heap.size + 1 by simp] at h
    exact h)
theorem ok_any (g : Nat → Int) (w : World) : Calls Tryd.prog 55 #[fvV g] w fun e w' => e = .returned (.bool (grB g)) ∧ Below w.heap.size w w' := by
  have C := Lib.hid (fun w => five_any g w)
  have HY : Hid ((∀ j, j < 5 → inB (g j) 0 20000 = true) → grB g = true) := Lib.hid gr_of
  have HN : Hid (∀ k, k < 5 → inB (g k) 0 20000 = false → grB g = false) := Lib.hid fun k h => gr_no h
  generalize grB g = r at HY HN ⊢
  unfold fvV at C ⊢
  generalize hg0 : g 0 = g0, g 1 = g1, g 2 = g2, g 3 = g3, g 4 = g4 at C ⊢
  clear hg0
  go_enter Tryd.func55, Tryd.ntmps55
  go_wp2_with fail
  refine (C.out _).mono ?_
  rintro e w1 ⟨a, rfl, ha, hl, b1, hc⟩
  have HB1 := Lib.hid (below_then (below_box w (.cells #[.int .i64 g0, .int .i64 g1, .int .i64 g2, .int .i64 g3, .int .i64 g4] 50)) b1)
  clear b1
  go_wp2_with fail
  go_loop [4] (fun i => ∃ k : Nat, k ≤ 5 ∧ i = .int .i64 k ∧ Hid (∀ j, j < k → inB (g j) 0 20000 = true)) (fun i => 5 - (intOf i).toNat)
  case atStart => exact ⟨0, Nat.zero_le _, rfl, Lib.hid fun j hj => by omega⟩
  case round =>
    obtain ⟨k, hk, rfl, hall⟩ := hrel
    by_cases hlt : k < 5
    · have x0 := hc.out k hlt
      have CI := Lib.hid (fun w => in_any (g k) 0 20000 w)
      have HNk := Lib.hid (HN.out k hlt)
      have HS := Lib.hid (step_all (p := fun j => inB (g j) 0 20000) hall.out (k := k))
      generalize inB (g k) 0 20000 = q at CI HNk HS
      generalize g k = u at x0 CI
      have e0 : (0 : Int) ≤ (k : Int) := Int.natCast_nonneg _
      have e1 : (k : Int) < 5 := by omega
      go_wp2_with fail
      refine (CI.out _).mono ?_
      rintro e w' ⟨rfl, rfl⟩
      cases q
      · have HF := Lib.hid (HNk.out rfl)
        go_wp2_with fail
        go_ret
        exact ⟨ret_bool HF.out.symm, HB1.out⟩
      · have HD := Lib.hid (HS.out rfl)
        go_wp2_with fail
        go_round
        case rel => exact ⟨k + 1, by omega, by go_num, HD⟩
        case measure => simp [intOf]; omega
    · obtain rfl : k = 5 := by omega
      have HF := Lib.hid (HY.out hall.out)
      go_wp2_with fail
      go_ret
      exact ⟨ret_bool HF.out.symm, HB1.out⟩
theorem numbers_gr (g : Nat → Int) (w : World) : Calls Tryd.prog 58 #[fvV g] w fun e w' => e = .returned (fvV g) ∧ Below w.heap.size w w' := by
  unfold fvV
  generalize g 0 = g0, g 1 = g1, g 2 = g2, g 3 = g3, g 4 = g4
  go_enter Tryd.func58, Tryd.ntmps58
  go_wp2
  exact bodyPost_ret (v := .agg #[.int .i64 g0, .int .i64 g1, .int .i64 g2, .int .i64 g3, .int .i64 g4]) (by simp [results, Tryd.results58, go_sem]) rfl ⟨rfl, by repeat (first | exact Below.refl _ _ | exact below_box _ _ | refine Below.drew ?_ | refine Below.setCell ?_ (by simp <;> omega) _ | refine Below.alloc ?_ (by simp <;> omega) _)⟩
theorem index5_0 (x0 x1 x2 x3 x4 : Value) (w : World) : (Instr.index 82 (.agg #[x0, x1, x2, x3, x4]) (.int .i64 0)).run Tryd.prog w = .ok x0 w := by kernel_rfl
theorem index5_1 (x0 x1 x2 x3 x4 : Value) (w : World) : (Instr.index 82 (.agg #[x0, x1, x2, x3, x4]) (.int .i64 1)).run Tryd.prog w = .ok x1 w := by kernel_rfl
theorem index5_2 (x0 x1 x2 x3 x4 : Value) (w : World) : (Instr.index 82 (.agg #[x0, x1, x2, x3, x4]) (.int .i64 2)).run Tryd.prog w = .ok x2 w := by kernel_rfl
theorem index5_3 (x0 x1 x2 x3 x4 : Value) (w : World) : (Instr.index 82 (.agg #[x0, x1, x2, x3, x4]) (.int .i64 3)).run Tryd.prog w = .ok x3 w := by kernel_rfl
theorem index5_4 (x0 x1 x2 x3 x4 : Value) (w : World) : (Instr.index 82 (.agg #[x0, x1, x2, x3, x4]) (.int .i64 4)).run Tryd.prog w = .ok x4 w := by kernel_rfl
theorem index5 (g : Nat → Int) (k : Nat) (hk : k < 5) (w : World) : (Instr.index 82 (.agg #[.int .i64 (g 0), .int .i64 (g 1), .int .i64 (g 2), .int .i64 (g 3), .int .i64 (g 4)]) (.int .i64 (k : Int))).run Tryd.prog w = .ok (.int .i64 (g k)) w := by
  match k, hk with
  | 0, _ => exact index5_0 _ _ _ _ _ _
  | 1, _ => exact index5_1 _ _ _ _ _ _
  | 2, _ => exact index5_2 _ _ _ _ _ _
  | 3, _ => exact index5_3 _ _ _ _ _ _
  | 4, _ => exact index5_4 _ _ _ _ _ _
set_option maxRecDepth 100000 in
theorem valid_gr (g : Nat → Int) (w : World) : Calls Tryd.prog 57 #[fvV g] w fun e w' => e = .returned (.bool (grB g)) ∧ Below w.heap.size w w' := by
  have C := Lib.hid (fun w => numbers_gr g w)
  have HT : Hid (tv (Ly.Al 0 20000 5 g) = grB g) := Lib.hid (by
    by_cases h : Ly.Al 0 20000 5 g
    · rw [tv_yes h, gr_of h]
    · rw [tv_no h]
      refine Eq.symm (Classical.byContradiction fun q => h fun k hk => ?_)
      cases e : inB (g k) 0 20000
      · exact absurd (gr_no hk e) q
      · rfl)
  have CA := Lib.hid (fun A c w h => Ly.are_any 0 20000 A 5 c g (by omega) w h)
  rw [HT.out] at CA
  generalize grB g = r at CA ⊢
  have HG : Hid (∀ i, i < 5 → (#[Value.int .i64 (g 0), .int .i64 (g 1), .int .i64 (g 2), .int .i64 (g 3), .int .i64 (g 4)] : Array Value)[i]? = some (.int .i64 (g i))) := Lib.hid fun i hi => by
    obtain rfl | rfl | rfl | rfl | rfl : i = 0 ∨ i = 1 ∨ i = 2 ∨ i = 3 ∨ i = 4 := by omega
    all_goals rfl
  unfold fvV at C ⊢
  generalize hg0 : g 0 = g0, g 1 = g1, g 2 = g2, g 3 = g3, g 4 = g4 at C HG ⊢
  clear hg0 HT
  go_enter Tryd.func57, Tryd.ntmps57
  go_wp2_with fail
  refine (C.out _).mono ?_
  rintro e w1 ⟨rfl, b1⟩
  have HB1 := Lib.hid (below_then (below_box w (.cells #[.int .i64 g0, .int .i64 g1, .int .i64 g2, .int .i64 g3, .int .i64 g4] 50)) b1)
  clear b1
  go_wp2_with fail
  refine (CA.out _ _ _ ?_).mono ?_
  · exact fun _ => ⟨w1.heap.size, 0, rfl, by simp, fun i hi => by rw [Nat.zero_add]; exact (cell_of_row _ _ _ _ _ _ (heap_alloc_new _ _)).trans (HG.out i hi)⟩
  rintro e w2 ⟨rfl, rfl⟩
  go_wp2_with fail
  go_ret
  exact ⟨rfl, below_then HB1.out (below_box _ _)⟩
end Go.Proofs.YtggbdpamjjgakabDoor.Ga

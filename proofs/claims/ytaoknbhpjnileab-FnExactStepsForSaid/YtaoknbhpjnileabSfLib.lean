/- Both functions StepsFor. -/
import Derived.Test.YtaoknbhpjnileabGlLib
import Derived.Test.YtaoknbhpjnileabSeLib
namespace Go.Proofs.Ytaoknbhpjnileab.Sf
open Go.RowKit Go.Shelf Ft Ge Qb La Ga Fg Gl Se

theorem fl_spec {a b : Int} (hb : 0 < b) : b * fl a b ≤ a ∧ a < b * fl a b + b := by
  have h := Int.mul_tdiv_add_tmod a b
  have h1 := Int.tmod_lt_of_pos a hb
  have h2 := Int.lt_tmod_of_pos a hb
  unfold fl
  split
  · rw [Int.mul_sub, Int.mul_one]
    omega
  · omega
theorem fl_mono {a a' b : Int} (hb : 0 < b) (h : a ≤ a') : fl a b ≤ fl a' b := by
  obtain ⟨h1, _⟩ := fl_spec (a := a) hb
  obtain ⟨_, h4⟩ := fl_spec (a := a') hb
  by_cases hc : fl a b ≤ fl a' b
  · exact hc
  · have := Int.mul_le_mul_of_nonneg_left (show fl a' b + 1 ≤ fl a b by omega) (show 0 ≤ b by omega)
    rw [Int.mul_add, Int.mul_one] at this
    omega
theorem gw_mono {x g st st' : Int} (hg : 0 ≤ g) (h : st ≤ st') : gw x g st ≤ gw x g st' := by
  have h1 := Int.mul_le_mul_of_nonneg_left h hg
  have := fl_mono (a := 2 * (g * st) + 100) (a' := 2 * (g * st') + 100) (b := 2 * 100) (by omega) (by omega)
  unfold gw
  omega
/-- Whether i - 30 half sizes are enough. -/
def en (x g l : Int) (i : Nat) : Bool := decide (l ≤ gw x g ((i : Int) - 30))
theorem en_mono {x g l : Int} (hg : 0 ≤ g) : ∀ a b, a ≤ b → b < 61 → en x g l a = true → en x g l b = true := fun a b h _ h3 => by
  unfold en at *
  simp only [decide_eq_true_eq] at *
  have := gw_mono (x := x) hg (show (a : Int) - 30 ≤ (b : Int) - 30 by omega)
  omega
/-- The first that is enough. -/
def st0 (x g l : Int) : Nat := Nh.cut 61 (en x g l)
theorem st0_at {x g l : Int} (hg : 0 ≤ g) : ∀ i, i < 61 → en x g l i = decide (st0 x g l ≤ i) := Nh.cut_iff 61 _ (en_mono hg)
theorem st0_le (x g l : Int) : st0 x g l ≤ 61 := Nh.cut_le _ _
/-- What StepsFor answers. -/
noncomputable def sfC (s : ByteArray) (x g : Nat → Int) (l : Int) : Int := if (laB s x && grB g) = true then (if inB l 500 5000 = true then (if st0 (x 0) (g 0) l < 61 then 0 else 3) else 2) else 1
noncomputable def sfV (s : ByteArray) (x g : Nat → Int) (l : Int) : Int := if sfC s x g l = 0 then (st0 (x 0) (g 0) l : Int) - 30 else 0
/-- Two numbers. -/
def SfAt (s : ByteArray) (x g : Nat → Int) (l : Int) (w : World) (e : Ending) (w' : World) : Prop := e = .returned (.tuple #[.int .i64 (sfV s x g l), .int .i64 (sfC s x g l)]) ∧ Below w.heap.size w w'
theorem sf_not {s : ByteArray} {x g : Nat → Int} {l c : Int} (hc : sfC s x g l = c) (h0 : c ≠ 0) {w w' : World} (hb : Below w.heap.size w w') : SfAt s x g l w (.returned (.tuple #[.int .i64 0, .int .i64 c])) w' := by
  have hn : ¬ sfC s x g l = 0 := by rw [hc]; exact h0
  exact ⟨by unfold sfV; rw [if_neg hn, hc], hb⟩
theorem sf_yes {s : ByteArray} {x g : Nat → Int} {l v : Int} (hc : sfC s x g l = 0) (hv : (st0 (x 0) (g 0) l : Int) - 30 = v) {w w' : World} (hb : Below w.heap.size w w') : SfAt s x g l w (.returned (.tuple #[.int .i64 v, .int .i64 0])) w' :=
  ⟨by unfold sfV; rw [if_pos hc, hc, hv], hb⟩

set_option maxRecDepth 100000 in
set_option maxHeartbeats 2000000 in
theorem spec_sf (s : ByteArray) (x g : Nat → Int) (l : Int) (hs : s.size ≤ maxLen) (w : World) : Calls Try.prog 40 #[laV s x, fvV g, .int .i64 l] w (SfAt s x g l w) := by
  have C1 := Lib.hid (fun w => one_spec s x hs w)
  have C2 := Lib.hid (fun w => ok_any g w)
  have C3 := Lib.hid (fun w => in_any l 500 5000 w)
  have LA : Hid (laB s x = true → -1000000 ≤ x 0 ∧ x 0 ≤ 1000000) := Lib.hid fun h => la_at h (by omega)
  have LG : Hid (grB g = true → 0 ≤ g 0 ∧ g 0 ≤ 20000) := Lib.hid fun h => gr_at h (by omega)
  have P1 : Hid ((laB s x && grB g) = false → ∀ w', Below w.heap.size w w' → SfAt s x g l w (.returned (.tuple #[.int .i64 0, .int .i64 1])) w') := Lib.hid fun h w' hb => sf_not (by simp [sfC, h]) (by omega) hb
  have P2 : Hid ((laB s x && grB g) = true → inB l 500 5000 = false → ∀ w', Below w.heap.size w w' → SfAt s x g l w (.returned (.tuple #[.int .i64 0, .int .i64 2])) w') := Lib.hid fun h h' w' hb => sf_not (by simp [sfC, h, h']) (by omega) hb
  have P3 : Hid ((laB s x && grB g) = true → inB l 500 5000 = true → (∀ j, j < 61 → en (x 0) (g 0) l j = false) → ∀ w', Below w.heap.size w w' → SfAt s x g l w (.returned (.tuple #[.int .i64 0, .int .i64 3])) w') := Lib.hid fun h h' h'' w' hb => sf_not (by
    have hg : 0 ≤ g 0 := (gr_at (show grB g = true by simp at h; exact h.2) (by omega)).1
    have : ¬ st0 (x 0) (g 0) l < 61 := fun hlt => by
      have e1 := st0_at (x := x 0) (l := l) hg _ hlt
      rw [h'' _ hlt] at e1
      simp at e1
    simp [sfC, h, h', this]) (by omega) hb
  have P4 : Hid ((laB s x && grB g) = true → inB l 500 5000 = true → ∀ i, i < 61 → en (x 0) (g 0) l i = true → (∀ j, j < i → en (x 0) (g 0) l j = false) → ∀ w', Below w.heap.size w w' → SfAt s x g l w (.returned (.tuple #[.int .i64 ((i : Int) - 30), .int .i64 0])) w') := Lib.hid fun h h' i hi h1 h2 w' hb => by
    have hg : 0 ≤ g 0 := (gr_at (show grB g = true by simp at h; exact h.2) (by omega)).1
    have e1 := st0_at (x := x 0) (l := l) hg i hi
    rw [h1] at e1
    have e1' : st0 (x 0) (g 0) l ≤ i := by simpa using e1.symm
    have e2 : st0 (x 0) (g 0) l = i := by
      by_cases hlt : st0 (x 0) (g 0) l < i
      · have e3 := st0_at (x := x 0) (l := l) hg (st0 (x 0) (g 0) l) (by omega)
        rw [h2 _ hlt] at e3
        simp at e3
      · omega
    exact sf_yes (by simp [sfC, h, h']; omega) (by rw [e2]) hb
  obtain ⟨kx, kg⟩ := two w (laC s x 33) (fvC g 59)
  have B0 := Lib.hid (below2 w (laC s x 33) (fvC g 59))
  generalize SfAt s x g l w = Q at P1 P2 P3 P4 ⊢
  generalize laB s x = r1 at C1 LA P1 P2 P3 P4
  generalize grB g = r2 at C2 LG P1 P2 P3 P4
  generalize inB l 500 5000 = r3 at C3 P2 P3 P4
  simp only [laV, fvV, laC, fvC] at kx kg B0 C1 C2 ⊢
  generalize hx0 : x 0 = x0, x 1 = x1, x 2 = x2, x 3 = x3, x 4 = x4, g 0 = g0, g 1 = g1, g 2 = g2, g 3 = g3, g 4 = g4 at *
  clear hx0
  have KX := Lib.hid kx
  have KG := Lib.hid kg
  clear kx kg
  have R : (r1 = false) ∨ (r1 = true ∧ r2 = false) ∨ (r1 = true ∧ r2 = true ∧ r3 = false) ∨ (r1 = true ∧ r2 = true ∧ r3 = true) := by cases r1 <;> cases r2 <;> cases r3 <;> simp
  go_enter Try.func40, Try.ntmps40
  go_upto_region 1 with fail
  generalize hw2 : (w.alloc _).alloc _ = w2 at KX KG B0 ⊢
  clear hw2
  obtain ⟨v0, v1, v2, v3, v4, v5⟩ := blk6 KX.out
  go_wp2_with fail
  refine (C1.out _).mono ?_
  rintro e w3 ⟨rfl, b3⟩
  have B3 := Lib.hid (below_then B0.out b3)
  have KX3 := Lib.hid (blk_keep b3 KX.out)
  have KG3 := Lib.hid (blk_keep b3 KG.out)
  clear b3 v0 v1 v2 v3 v4 v5 KX KG B0
  rcases R with rfl | ⟨rfl, rfl⟩ | ⟨rfl, rfl, rfl⟩ | ⟨rfl, rfl, rfl⟩
  · go_wp2_with fail
    exact P1.out (by simp) _ B3.out
  all_goals
    obtain ⟨u0, u1, u2, u3, u4⟩ := blk5 KG3.out
    go_wp2_with fail
    refine (C2.out _).mono ?_
    rintro e w4 ⟨rfl, b4⟩
    have B4 := Lib.hid (below_then B3.out b4)
    have KX4 := Lib.hid (blk_keep b4 KX3.out)
    have KG4 := Lib.hid (blk_keep b4 KG3.out)
    clear b4 u0 u1 u2 u3 u4 KX3 KG3 B3
  · go_wp2_with fail
    exact P1.out (by simp) _ B4.out
  · go_wp2_with fail
    refine (C3.out _).mono ?_
    rintro e w' ⟨rfl, rfl⟩
    go_wp2_with fail
    exact P2.out (by simp) (by first | rfl | trivial) _ B4.out
  · go_wp2_with fail
    refine (C3.out _).mono ?_
    rintro e w' ⟨rfl, rfl⟩
    obtain ⟨l1, l2⟩ := LA.out (by first | rfl | trivial)
    obtain ⟨l3, l4⟩ := LG.out (by first | rfl | trivial)
    have P3' := Lib.hid (P3.out (by simp) (by first | rfl | trivial))
    have P4' := Lib.hid (P4.out (by simp) (by first | rfl | trivial))
    clear P1 P2 P3 P4 LA LG C1 C2 C3
    go_wp2_with fail
    go_loop [8] (fun n => ∃ i : Nat, i ≤ 61 ∧ n = .int .i64 ((i : Int) - 30) ∧ Hid (∀ j, j < i → en x0 g0 l j = false)) (fun n => (31 - intOf n).toNat)
    case atStart => exact ⟨0, by omega, by simp, Lib.hid fun j hj => by omega⟩
    case round =>
      obtain ⟨i, hi, rfl, hall⟩ := hrel
      by_cases hlt : i < 61
      · have CA := Lib.hid (fun w => add_any x0 g0 ((i : Int) - 30) l1 l2 l3 l4 (by omega) (by omega) w)
        have HE : Hid (en x0 g0 l i = decide (l ≤ gw x0 g0 ((i : Int) - 30))) := Lib.hid rfl
        have HS := Lib.hid (fun h : en x0 g0 l i = false => (fun j hj => by
          by_cases e : j = i
          · rw [e]; exact h
          · exact hall.out j (by omega) : ∀ j, j < i + 1 → en x0 g0 l j = false))
        have HY := Lib.hid (fun h : en x0 g0 l i = true => P4'.out i hlt h hall.out)
        generalize en x0 g0 l i = q at HE HS HY
        generalize gw x0 g0 ((i : Int) - 30) = v at CA HE
        obtain ⟨v0, v1, v2, v3, v4, v5⟩ := blk6 KX4.out
        obtain ⟨u0, u1, u2, u3, u4⟩ := blk5 KG4.out
        by_cases hq : l ≤ v
        · have HY' := Lib.hid (HY.out (by rw [HE.out]; simpa using hq))
          go_wp2_with fail
          refine (CA.out _).mono ?_
          rintro e w' ⟨rfl, rfl⟩
          go_wp2_with fail
          exact HY'.out _ B4.out
        · have HS' := Lib.hid (HS.out (by rw [HE.out]; simpa using hq))
          go_wp2_with fail
          refine (CA.out _).mono ?_
          rintro e w' ⟨rfl, rfl⟩
          go_wp2_with fail
          go_round
          case rel => exact ⟨i + 1, by omega, by go_num, HS'⟩
          case measure => simp [intOf]; omega
      · obtain rfl : i = 61 := by omega
        have HF := Lib.hid (P3'.out hall.out)
        go_wp2_with fail
        exact HF.out _ B4.out
theorem clo_any (s : ByteArray) (x g : Nat → Int) (l : Int) (gx gg gl i : Nat) (hi : i < 61) (l1 : -1000000 ≤ x 0) (l2 : x 0 ≤ 1000000) (l3 : 0 ≤ g 0) (l4 : g 0 ≤ 20000) (w : World) (hx : w.heap[gx]? = some (laC s x 33)) (hg : w.heap[gg]? = some (fvC g 59)) (hl : w.heap[gl]? = some (.cells #[.int .i64 l] 2 (0, 0))) :
    Calls Try.prog 85 #[.int .i64 i, .pointer (some ⟨gx, 0, none⟩), .pointer (some ⟨gg, 0, none⟩), .pointer (some ⟨gl, 0, none⟩)] w fun e w' => e = .returned (.bool (en (x 0) (g 0) l i)) ∧ Below w.heap.size w w' := by
  have CA := Lib.hid (fun w => grown_any (x 0) (g 0) ((i : Int) - 30) l1 l2 l3 l4 (by omega) (by omega) w)
  have HE : Hid (en (x 0) (g 0) l i = decide (l ≤ gw (x 0) (g 0) ((i : Int) - 30))) := Lib.hid rfl
  obtain ⟨_, v1, _, _, _, _⟩ := blk6 hx
  obtain ⟨u0, _, _, _, _⟩ := blk5 hg
  have t0 : w.cell? ⟨gl, 0, none⟩ = some (.int .i64 l) := cell_of_row _ _ _ _ _ _ hl
  generalize en (x 0) (g 0) l i = q at HE ⊢
  generalize gw (x 0) (g 0) ((i : Int) - 30) = v at CA HE
  generalize x 0 = x0 at *
  generalize g 0 = g0 at *
  clear hx hg hl
  have HW : Hid (∀ q, Below w.heap.size w (w.drewN q)) := Lib.hid (fun q => ⟨rfl, rfl, rfl, Nat.le_refl _, fun _ _ => rfl⟩)
  go_enter Try.func85, Try.ntmps85
  go_wp2_with fail
  all_goals (try go_quiet ((go_at_call 86; refine Calls.quiet_of_same ((CA.out _).mono fun _ _ h => ⟨h.1, h.2.symm⟩))))
  all_goals (try go_wp2_with fail)
  all_goals
    go_ret
    exact ⟨by rw [HE.out]; rfl, HW.out _⟩
set_option maxRecDepth 100000 in
set_option maxHeartbeats 2000000 in
theorem impl_sf (s : ByteArray) (x g : Nat → Int) (l : Int) (hs : s.size ≤ maxLen) (w : World) : Calls Try.prog 41 #[laV s x, fvV g, .int .i64 l] w (SfAt s x g l w) := by
  have eg : ∀ args w, (callFunc 85 args).run Try.prog w = .ok (.enter 85 args) w := enters_of Try.func85 (by kernel_rfl) rfl
  have C1 := Lib.hid (fun w => gval_any s x g hs w)
  have C3 := Lib.hid (fun w => within_any l 500 5000 w)
  have LA : Hid ((laB s x && grB g) = true → (-1000000 ≤ x 0 ∧ x 0 ≤ 1000000) ∧ 0 ≤ g 0 ∧ g 0 ≤ 20000) := Lib.hid fun h => by
    have h' : laB s x = true ∧ grB g = true := by simpa using h
    exact ⟨la_at h'.1 (by omega), gr_at h'.2 (by omega)⟩
  have hle := st0_le (x 0) (g 0) l
  have P1 : Hid ((laB s x && grB g) = false → ∀ w', Below w.heap.size w w' → SfAt s x g l w (.returned (.tuple #[.int .i64 0, .int .i64 1])) w') := Lib.hid fun h w' hb => sf_not (by simp [sfC, h]) (by omega) hb
  have P2 : Hid ((laB s x && grB g) = true → inB l 500 5000 = false → ∀ w', Below w.heap.size w w' → SfAt s x g l w (.returned (.tuple #[.int .i64 0, .int .i64 2])) w') := Lib.hid fun h h' w' hb => sf_not (by simp [sfC, h, h']) (by omega) hb
  have P3 : Hid ((laB s x && grB g) = true → inB l 500 5000 = true → ¬ st0 (x 0) (g 0) l < 61 → ∀ w', Below w.heap.size w w' → SfAt s x g l w (.returned (.tuple #[.int .i64 0, .int .i64 3])) w') := Lib.hid fun h h' h'' w' hb => sf_not (by simp [sfC, h, h', h'']) (by omega) hb
  have P4 : Hid ((laB s x && grB g) = true → inB l 500 5000 = true → st0 (x 0) (g 0) l < 61 → ∀ w', Below w.heap.size w w' → SfAt s x g l w (.returned (.tuple #[.int .i64 ((st0 (x 0) (g 0) l : Int) - 30), .int .i64 0])) w') := Lib.hid fun h h' h'' w' hb => sf_yes (by simp [sfC, h, h', h'']) rfl hb
  obtain ⟨kx, kg, kl⟩ := three w (laC s x 33) (fvC g 59) (.cells #[.int .i64 l] 2)
  have B0 := Lib.hid (below3 w (laC s x 33) (fvC g 59) (.cells #[.int .i64 l] 2))
  have CS : Hid ((laB s x && grB g) = true → ∀ W : World, W.heap[w.heap.size]? = some (laC s x 33) → W.heap[w.heap.size + 1]? = some (fvC g 59) → W.heap[w.heap.size + 2]? = some (.cells #[.int .i64 l] 2 (0, 0)) → Calls Try.prog 84 #[.int .i64 61, .func (.func 85) #[] #[.pointer (some ⟨w.heap.size, 0, none⟩), .pointer (some ⟨w.heap.size + 1, 0, none⟩), .pointer (some ⟨w.heap.size + 2, 0, none⟩)]] W fun e w' => e = .returned (.int .i64 (st0 (x 0) (g 0) l : Int)) ∧ Below W.heap.size W w') := Lib.hid fun h W h1 h2 h3 => by
    obtain ⟨⟨l1, l2⟩, l3, l4⟩ := LA.out h
    exact search_cl 85 #[.pointer (some ⟨w.heap.size, 0, none⟩), .pointer (some ⟨w.heap.size + 1, 0, none⟩), .pointer (some ⟨w.heap.size + 2, 0, none⟩)] 61 (st0 (x 0) (g 0) l) (by omega) (st0_le _ _ _) W eg (fun W' i hi hb => by
      have := clo_any s x g l w.heap.size (w.heap.size + 1) (w.heap.size + 2) i hi l1 l2 l3 l4 W' (blk_keep hb h1) (blk_keep hb h2) (blk_keep hb h3)
      rw [st0_at l3 i hi] at this
      exact this)
  clear eg LA
  generalize SfAt s x g l w = Q at P1 P2 P3 P4 ⊢
  generalize (laB s x && grB g) = r1 at C1 CS P1 P2 P3 P4
  generalize inB l 500 5000 = r3 at C3 P2 P3 P4
  generalize st0 (x 0) (g 0) l = c at CS hle P3 P4
  simp only [laV, fvV, laC, fvC, gdV] at kx kg kl B0 C1 CS ⊢
  generalize hx0 : x 0 = x0, x 1 = x1, x 2 = x2, x 3 = x3, x 4 = x4, g 0 = g0, g 1 = g1, g 2 = g2, g 3 = g3, g 4 = g4 at *
  clear hx0
  have KX := Lib.hid kx
  have KG := Lib.hid kg
  have KL := Lib.hid kl
  clear kx kg kl
  have R : (r1 = false) ∨ (r1 = true ∧ r3 = false) ∨ (r1 = true ∧ r3 = true) := by cases r1 <;> cases r3 <;> simp
  have CA : Hid (∀ w, Calls Try.prog 73 #[.bool r1, .bool r3] w fun e w' => e = .returned (.int .i64 (Ba.argE r1 r3)) ∧ w = w') := Lib.hid fun w => Ba.arg_any r1 r3 w
  go_enter Try.func41, Try.ntmps41
  go_upto_region 1 with fail
  generalize hw2 : ((w.alloc _).alloc _).alloc _ = w2 at KX KG KL B0 ⊢
  clear hw2
  obtain ⟨v0, v1, v2, v3, v4, v5⟩ := blk6 KX.out
  obtain ⟨u0, u1, u2, u3, u4⟩ := blk5 KG.out
  go_upto_region 2 with fail
  have BD := Lib.hid (below_then B0.out (below_box w2 (.cells #[.string s, .int .i64 x0, .int .i64 x1, .int .i64 x2, .int .i64 x3, .int .i64 x4, .int .i64 g0, .int .i64 g1, .int .i64 g2, .int .i64 g3, .int .i64 g4] 101)))
  have KD := Lib.hid (heap_alloc_new w2 (.cells #[.string s, .int .i64 x0, .int .i64 x1, .int .i64 x2, .int .i64 x3, .int .i64 x4, .int .i64 g0, .int .i64 g1, .int .i64 g2, .int .i64 g3, .int .i64 g4] 101))
  have KX3 := Lib.hid (blk_keep (below_box w2 (.cells #[.string s, .int .i64 x0, .int .i64 x1, .int .i64 x2, .int .i64 x3, .int .i64 x4, .int .i64 g0, .int .i64 g1, .int .i64 g2, .int .i64 g3, .int .i64 g4] 101)) KX.out)
  have KG3 := Lib.hid (blk_keep (below_box w2 (.cells #[.string s, .int .i64 x0, .int .i64 x1, .int .i64 x2, .int .i64 x3, .int .i64 x4, .int .i64 g0, .int .i64 g1, .int .i64 g2, .int .i64 g3, .int .i64 g4] 101)) KG.out)
  have KL3 := Lib.hid (blk_keep (below_box w2 (.cells #[.string s, .int .i64 x0, .int .i64 x1, .int .i64 x2, .int .i64 x3, .int .i64 x4, .int .i64 g0, .int .i64 g1, .int .i64 g2, .int .i64 g3, .int .i64 g4] 101)) KL.out)
  generalize w2.alloc (.cells #[.string s, .int .i64 x0, .int .i64 x1, .int .i64 x2, .int .i64 x3, .int .i64 x4, .int .i64 g0, .int .i64 g1, .int .i64 g2, .int .i64 g3, .int .i64 g4] 101) = w3 at BD KD KX3 KG3 KL3 ⊢
  generalize w2.heap.size = gd at KD ⊢
  clear v0 v1 v2 v3 v4 v5 u0 u1 u2 u3 u4 KX KG KL B0
  obtain ⟨d0, d1, d2, d3, d4, d5, d6, d7, d8, d9, d10⟩ := blk11 KD.out
  have t0 : w3.cell? ⟨w.heap.size + 2, 0, none⟩ = some (.int .i64 l) := cell_of_row _ _ _ _ _ _ KL3.out
  have d0 := bey_cell d0
  have d1 := bey_cell d1
  have d2 := bey_cell d2
  have d3 := bey_cell d3
  have d4 := bey_cell d4
  have d5 := bey_cell d5
  have d6 := bey_cell d6
  have d7 := bey_cell d7
  have d8 := bey_cell d8
  have d9 := bey_cell d9
  have d10 := bey_cell d10
  have t0 := bey_cell t0
  refine wp_region_below (by kernel_rfl) (by kernel_rfl) ?_
  repeat (go_big_quiet_step ((first | (go_at_call 74; exact bey_of _ (C1.out _)) | (go_at_call 72; exact bey_same _ (C3.out _)) | (go_at_call 73; exact bey_same _ (CA.out _)))))
  refine wpQuiet_nil ?_
  rintro _ ⟨pq, rfl⟩
  have B4 := Lib.hid (below_then BD.out pq.h)
  have KX4 := Lib.hid (blk_keep pq.h KX3.out)
  have KG4 := Lib.hid (blk_keep pq.h KG3.out)
  have KL4 := Lib.hid (blk_keep pq.h KL3.out)
  generalize pq.to = w4 at B4 KX4 KG4 KL4 ⊢
  clear d0 d1 d2 d3 d4 d5 d6 d7 d8 d9 d10 t0 KD KX3 KG3 KL3 BD C1 C3 CA
  rcases R with rfl | ⟨rfl, rfl⟩ | ⟨rfl, rfl⟩
  all_goals simp only [Ba.argE]
  · go_wp2_with fail
    exact P1.out (by first | rfl | trivial) _ B4.out
  · go_wp2_with fail
    exact P2.out (by first | rfl | trivial) (by first | rfl | trivial) _ B4.out
  · have CS' := Lib.hid (CS.out (by first | rfl | trivial) w4 KX4.out KG4.out KL4.out)
    by_cases hc : c < 61
    · have P4' := Lib.hid (P4.out (by first | rfl | trivial) (by first | rfl | trivial) hc)
      clear P1 P2 P3 P4 CS
      go_wp2_with fail
      refine CS'.out.mono ?_
      rintro e w5 ⟨rfl, b5⟩
      have B5 := Lib.hid (below_then B4.out b5)
      clear b5
      go_wp2_with fail
      exact P4'.out _ B5.out
    · have P3' := Lib.hid (P3.out (by first | rfl | trivial) (by first | rfl | trivial) hc)
      obtain rfl : c = 61 := by omega
      clear P1 P2 P3 P4 CS
      go_wp2_with fail
      refine CS'.out.mono ?_
      rintro e w5 ⟨rfl, b5⟩
      have B5 := Lib.hid (below_then B4.out b5)
      clear b5
      go_wp2_with fail
      exact P3'.out _ B5.out
end Go.Proofs.Ytaoknbhpjnileab.Sf

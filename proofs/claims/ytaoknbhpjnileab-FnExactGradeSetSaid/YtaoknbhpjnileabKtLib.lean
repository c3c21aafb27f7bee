/- Both functions GradeSet. -/
import Derived.Test.YtaoknbhpjnileabGqLib
import Derived.Test.YtaoknbhpjnileabKsLib
namespace Go.Proofs.Ytaoknbhpjnileab.Kt
open Go.RowKit Go.Shelf Ft Ge Qb La Ga Fg Jo Gl Ks

/-- How many steps there are, and whether each has a last. -/
def stN (a b : Int) : Nat := (b - a + 1).toNat
noncomputable def okB (s : ByteArray) (x g : Nat → Int) (a b : Int) : Bool := tv (∀ i, i < stN a b → laB s (ag x g (a + (i : Int))) = true)
noncomputable def gsC (s : ByteArray) (x g : Nat → Int) (a b : Int) : Int := if (laB s x && grB g) = true then (if (inB a (-30) 30 && inB b a 30) = true then (if okB s x g a b = true then 0 else 5) else 2) else 1
noncomputable def gsN (s : ByteArray) (x g : Nat → Int) (a b : Int) : Nat := if gsC s x g a b = 0 then stN a b else 0
/-- What GradeSet answers: the lasts of all steps, and a code. -/
def GsAt (s : ByteArray) (x g : Nat → Int) (a b : Int) (w : World) (e : Ending) (w' : World) : Prop := PairL (gsN s x g a b) (fun _ => s) (fun i => ag x g (a + (i : Int))) (gsC s x g a b) w e w'
theorem gs_not {s : ByteArray} {x g : Nat → Int} {a b c : Int} (hc : gsC s x g a b = c) (h0 : c ≠ 0) {w w' : World} (hb : Below w.heap.size w w') : GsAt s x g a b w (.returned (.tuple #[.slice none 0 0, .int .i64 c])) w' := by
  have hn : gsN s x g a b = 0 := by unfold gsN; rw [if_neg (by rw [hc]; exact h0)]
  unfold GsAt
  rw [hn, hc]
  exact ⟨none, 0, rfl, Lib.hid fun h => absurd h (by omega), hb⟩
theorem gs_yes {s : ByteArray} {x g : Nat → Int} {a b : Int} (hc : gsC s x g a b = 0) {w w' : World} {v : Value} (h : w'.ownsRow w.heap.size 33 6 v (stN a b) (rowV (lv (fun _ => s) (fun i => ag x g (a + (i : Int)))) (stN a b * 6))) (hb : Below w.heap.size w w') : GsAt s x g a b w (.returned (.tuple #[v, .int .i64 0])) w' := by
  have hn : gsN s x g a b = stN a b := by unfold gsN; rw [if_pos hc]
  unfold GsAt
  rw [hn, hc]
  exact pair_of_row h hb
theorem own_base {w' : World} {b b' : Nat} {e : TypeId} {size n : Nat} {v : Value} {xs : List Value} (h : w'.ownsRow b e size v n xs) (hb : b' ≤ b) : w'.ownsRow b' e size v n xs :=
  ⟨h.1, by
    rcases h.2 with h0 | ⟨g, cap, cur, hv, hbg, r⟩
    · exact .inl h0
    · exact .inr ⟨g, cap, cur, hv, by omega, r⟩⟩
set_option maxRecDepth 100000 in
set_option maxHeartbeats 4000000 in
theorem spec_gs (s : ByteArray) (x g : Nat → Int) (a b : Int) (hs : s.size ≤ maxLen) (w : World) : Calls Try.prog 33 #[laV s x, fvV g, .int .i64 a, .int .i64 b] w (GsAt s x g a b w) := by
  obtain ⟨i0, hi0, hz0, hz1, hz2⟩ := info_parts info_la
  have HI := Lib.hid (And.intro hi0 (And.intro hz0 (And.intro hz1 hz2)))
  clear hi0 hz0 hz1 hz2
  have C1 := Lib.hid (fun w => one_spec s x hs w)
  have C2 := Lib.hid (fun w => ok_any g w)
  have C3 := Lib.hid (fun w => steps_any a w)
  have C4 := Lib.hid (fun w => in_any b a 30 w)
  have P1 : Hid ((laB s x && grB g) = false → ∀ w', Below w.heap.size w w' → GsAt s x g a b w (.returned (.tuple #[.slice none 0 0, .int .i64 1])) w') := Lib.hid fun h w' hb => gs_not (by simp [gsC, h]) (by omega) hb
  have P2 : Hid ((laB s x && grB g) = true → (inB a (-30) 30 && inB b a 30) = false → ∀ w', Below w.heap.size w w' → GsAt s x g a b w (.returned (.tuple #[.slice none 0 0, .int .i64 2])) w') := Lib.hid fun h h' w' hb => gs_not (by simp [gsC, h, h']) (by omega) hb
  have P3 : Hid ((laB s x && grB g) = true → (inB a (-30) 30 && inB b a 30) = true → ∀ i, i < stN a b → laB s (ag x g (a + (i : Int))) = false → ∀ w', Below w.heap.size w w' → GsAt s x g a b w (.returned (.tuple #[.slice none 0 0, .int .i64 5])) w') := Lib.hid fun h h' i hi hl w' hb => by
    have ho : okB s x g a b = false := tv_no fun o => by rw [o i hi] at hl; cases hl
    exact gs_not (by simp [gsC, h, h', ho]) (by omega) hb
  have P4 : Hid ((laB s x && grB g) = true → (inB a (-30) 30 && inB b a 30) = true → (∀ i, i < stN a b → laB s (ag x g (a + (i : Int))) = true) → ∀ v w', w'.ownsRow w.heap.size 33 6 v (stN a b) (rowV (lv (fun _ => s) (fun i => ag x g (a + (i : Int)))) (stN a b * 6)) → Below w.heap.size w w' → GsAt s x g a b w (.returned (.tuple #[v, .int .i64 0])) w') := Lib.hid fun h h' hall v w' hr hb => by
    have ho : okB s x g a b = true := tv_yes hall
    exact gs_yes (by simp [gsC, h, h', ho]) hr hb
  have C5 : Hid (laB s x = true → grB g = true → ∀ st : Int, -30 ≤ st → st ≤ 30 → ∀ w, Calls Try.prog 70 #[laV s x, fvV g, .int .i64 st] w fun e w' => e = .returned (laV s (ag x g st)) ∧ Below w.heap.size w w') := Lib.hid fun h1 h2 st h3 h4 w => slast_any s x g st h1 h2 h3 h4 w
  have C6 : Hid (∀ st w, Calls Try.prog 55 #[laV s (ag x g st)] w fun e w' => e = .returned (.bool (laB s (ag x g st))) ∧ Below w.heap.size w w') := Lib.hid fun st w => one_spec s (ag x g st) hs w
  have HU : Hid (∀ k, rowV (lv (fun _ => s) (fun i => ag x g (a + (i : Int)))) ((k + 1) * 6) = rowV (lv (fun _ => s) (fun i => ag x g (a + (i : Int)))) (k * 6) ++ [.string s, .int .i64 (ag x g (a + (k : Int)) 0), .int .i64 (ag x g (a + (k : Int)) 1), .int .i64 (ag x g (a + (k : Int)) 2), .int .i64 (ag x g (a + (k : Int)) 3), .int .i64 (ag x g (a + (k : Int)) 4)]) := Lib.hid fun k => row_six _ _ k
  have HU0 : Hid (rowV (lv (fun _ => s) (fun i => ag x g (a + (i : Int)))) (0 * 6) = []) := Lib.hid rfl
  obtain ⟨_, kx, kg⟩ := Ba.boxes2 (Below.refl ((w.alloc (laC s x 33)).alloc (fvC g 59)).heap.size _)
  have B0 := Lib.hid (below_then (below_box w (laC s x 33)) (below_box _ (fvC g 59)))
  generalize rowV (lv (fun _ => s) (fun i => ag x g (a + (i : Int)))) = UP at P4 HU HU0
  generalize GsAt s x g a b w = Q at P1 P2 P3 P4 ⊢
  generalize hn : stN a b = n at P3 P4
  generalize laB s x = r1 at C1 C5 P1 P2 P3 P4
  generalize grB g = r2 at C2 C5 P1 P2 P3 P4
  generalize hr3 : inB a (-30) 30 = r3 at C3 P2 P3 P4
  generalize hr4 : inB b a 30 = r4 at C4 P2 P3 P4
  generalize hlo : (fun st => laB s (ag x g st)) = lo at *
  have hlo' : ∀ st, laB s (ag x g st) = lo st := fun st => by rw [← hlo]
  simp only [hlo'] at P3 P4 C6
  clear hlo hlo'
  generalize ag x g = y at *
  simp only [laV, fvV, laC, fvC] at kx kg B0 C1 C2 C5 C6 ⊢
  generalize hx0 : x 0 = x0, x 1 = x1, x 2 = x2, x 3 = x3, x 4 = x4, g 0 = g0, g 1 = g1, g 2 = g2, g 3 = g3, g 4 = g4 at *
  clear hx0
  have KX := Lib.hid kx
  have KG := Lib.hid kg
  clear kx kg
  have R : (r1 = false) ∨ (r1 = true ∧ r2 = false) ∨ (r1 = true ∧ r2 = true ∧ r3 = false) ∨ (r1 = true ∧ r2 = true ∧ r3 = true ∧ r4 = false) ∨ (r1 = true ∧ r2 = true ∧ r3 = true ∧ r4 = true) := by cases r1 <;> cases r2 <;> cases r3 <;> cases r4 <;> simp
  go_enter Try.func33, Try.ntmps33
  go_upto_region 1 with fail
  generalize hw2 : (w.alloc _).alloc _ = w2 at KX KG B0 ⊢
  clear hw2
  obtain ⟨v0, v1, v2, v3, v4, v5⟩ := blk6 KX.out
  go_wp2_with fail
  refine (C1.out _).mono ?_
  rintro e w3 ⟨rfl, b3⟩
  have B3 := Lib.hid (below_then B0.out b3)
  have KX3 := Lib.hid (blk_keep b3 KX.out)
  have KG3 := Lib.hid (blk_keep b3 KG.out)
  clear b3 v0 v1 v2 v3 v4 v5 KX KG B0
  rcases R with rfl | ⟨rfl, rfl⟩ | ⟨rfl, rfl, rfl⟩ | ⟨rfl, rfl, rfl, rfl⟩ | ⟨rfl, rfl, rfl, rfl⟩
  · go_wp2_with fail
    exact P1.out (by simp) _ B3.out
  all_goals
    obtain ⟨u0, u1, u2, u3, u4⟩ := blk5 KG3.out
    go_wp2_with fail
    refine (C2.out _).mono ?_
    rintro e w4 ⟨rfl, b4⟩
    have B4 := Lib.hid (below_then B3.out b4)
    have KX4 := Lib.hid (blk_keep b4 KX3.out)
    have KG4 := Lib.hid (blk_keep b4 KG3.out)
    clear b4 u0 u1 u2 u3 u4 KX3 KG3 B3
  · go_wp2_with fail
    exact P1.out (by simp) _ B4.out
  all_goals
    go_wp2_with fail
    refine (C3.out _).mono ?_
    rintro e w' ⟨rfl, rfl⟩
  · go_wp2_with fail
    exact P2.out (by simp) (by simp) _ B4.out
  all_goals
    go_wp2_with fail
    refine (C4.out _).mono ?_
    rintro e w' ⟨rfl, rfl⟩
  · go_wp2_with fail
    exact P2.out (by simp) (by simp) _ B4.out
  · have hr3' : -30 ≤ a ∧ a ≤ 30 := by simpa [inB] using hr3
    have hr4' : a ≤ b ∧ b ≤ 30 := by simpa [inB] using hr4
    have hnv : (n : Int) = b - a + 1 := by rw [← hn]; unfold stN; omega
    have C5 := Lib.hid fun st h1 h2 w => C5.out (by first | rfl | trivial) (by first | rfl | trivial) st h1 h2 w
    have P3 := Lib.hid fun i hi hl w' hb => P3.out (by first | rfl | simp) (by first | rfl | simp) i hi hl w' hb
    have P4 := Lib.hid fun h v w' hr hb => P4.out (by first | rfl | simp) (by first | rfl | simp) h v w' hr hb
    clear P1 P2 C1 C2 C3 C4 hr3 hr4 hn
    go_wp2_with fail
    go_loopw [10, 11, 12] (fun o k _ wr => ∃ (i : Nat) (v : Value), i ≤ n ∧ v = o ∧ k = .int .i64 (a + (i : Int)) ∧ Hid (Below w4.heap.size w4 wr) ∧ Hid (wr.ownsRow w4.heap.size 33 6 v i (UP (i * 6))) ∧ Hid (∀ j : Nat, j < i → lo (a + (j : Int)) = true)) (fun _ k _ _ => n - (intOf k - a).toNat)
    case atStart => exact ⟨0, _, Nat.zero_le _, rfl, by simp, Lib.hid (below_box _ _), Lib.hid (by rw [HU0.out]; exact World.ownsRow_made w4 #[] 0 (Nat.le_refl _) (by simp [maxLen]) rfl), Lib.hid fun j hj => by omega⟩
    case round =>
      obtain ⟨i, v, hi, rfl, rfl, HB, HO, HD⟩ := hrel
      by_cases hlt : i < n
      · have hle : a + (i : Int) ≤ b := by omega
        have e1 : a + (i : Int) ≤ 30 := by omega
        have e2 : -30 ≤ a + (i : Int) := by omega
        have CL := Lib.hid (C5.out (a + (i : Int)) e2 e1)
        have CV := Lib.hid (C6.out (a + (i : Int)))
        have HUi := Lib.hid (HU.out i)
        have HP3 := Lib.hid (P3.out i hlt)
        obtain ⟨v0, v1, v2, v3, v4, v5⟩ := blk6 (blk_keep HB.out KX4.out)
        obtain ⟨u0, u1, u2, u3, u4⟩ := blk5 (blk_keep HB.out KG4.out)
        generalize y (a + (i : Int)) 0 = y0, y (a + (i : Int)) 1 = y1, y (a + (i : Int)) 2 = y2, y (a + (i : Int)) 3 = y3, y (a + (i : Int)) 4 = y4 at CL CV HUi
        generalize hl : lo (a + (i : Int)) = r at CV HP3
        have HL := Lib.hid hl
        clear hl
        go_wp2_with fail
        refine (CL.out _).mono ?_
        rintro e w5 ⟨rfl, b5⟩
        have HB5 := Lib.hid (below_then HB.out b5)
        have HO5 := Lib.hid (Ge.row_below HO.out b5)
        clear b5 v0 v1 v2 v3 v4 v5 u0 u1 u2 u3 u4
        go_wp2_with fail
        refine (CV.out _).mono ?_
        rintro e w6 ⟨rfl, b6⟩
        obtain ⟨hb6, k6⟩ := Ba.boxes1 b6
        have HB6 := Lib.hid (below_then HB5.out hb6)
        have HO6 := Lib.hid (Ge.row_below HO5.out hb6)
        obtain ⟨q0, q1, q2, q3, q4, q5⟩ := blk6 k6
        have hz6 := HB6.out.size
        clear b6 hb6 k6 HB5 HO5
        cases r
        · have HC := Lib.hid (HP3.out (by first | rfl | trivial) _ (below_then B4.out HB6.out))
          go_wp2_with fail
          exact HC.out
        · have HD' : Hid (∀ j : Nat, j < i + 1 → lo (a + (j : Int)) = true) := Lib.hid fun j hj => by
            by_cases e : j = i
            · rw [e]; exact HL.out
            · exact HD.out j (by omega)
          go_wp2_with (at_builtin; refine wpList_append_own _ rfl _ _ 47 rfl w4.heap.size 33 i0 _ 6 56 Try.underlying47 HI.out.1 HI.out.2.1 HI.out.2.2.1 HI.out.2.2.2 rfl (by decide) _ _ _ rfl (HO6.out.alloc _) ⟨w6.heap.size, 0, none⟩ 1 1 [.string s, .int .i64 y0, .int .i64 y1, .int .i64 y2, .int .i64 y3, .int .i64 y4] rfl rfl ?c1 ?c2 ?c3 ?c4 ?c5 ?_)
          case c1 => exact cells_new6 _ _ _ _ _ _ _ _
          case c2 => simp [Value.oneCell']
          case c3 => unfold maxLen; omega
          case c4 => omega
          case c5 => first | omega | (simp <;> omega)
          intro v' w7 hown7 hgrow _
          have HB7 := Lib.hid ((HB6.out.alloc hz6 _).grown hgrow (by simp; omega) fun g hg => (HO6.out.lt g hg).1)
          have HO7 : Hid (w7.ownsRow w4.heap.size 33 6 v' (i + 1) (UP ((i + 1) * 6))) := Lib.hid (by rw [HUi.out]; exact hown7)
          clear hown7 hgrow q0 q1 q2 q3 q4 q5
          go_wp2_with fail
          go_roundw
          case rel => exact ⟨i + 1, _, by omega, rfl, by go_num, HB7, HO7, HD'⟩
          case measure => simp [intOf]; omega
      · obtain rfl : i = n := by omega
        have HC := Lib.hid (P4.out HD.out _ _ (own_base HO.out B4.out.size) (below_then B4.out HB.out))
        have hgt : ¬ a + (i : Int) ≤ b := by omega
        go_wp2_with fail
        exact HC.out
set_option maxRecDepth 100000 in
set_option maxHeartbeats 4000000 in
theorem impl_gs (s : ByteArray) (x g : Nat → Int) (a b : Int) (hs : s.size ≤ maxLen) (w : World) : Calls Try.prog 35 #[laV s x, fvV g, .int .i64 a, .int .i64 b] w (GsAt s x g a b w) := by
  obtain ⟨i0, hi0, hz0, hz1, hz2⟩ := info_parts info_la
  have HI := Lib.hid (And.intro hi0 (And.intro hz0 (And.intro hz1 hz2)))
  clear hi0 hz0 hz1 hz2
  have C1 := Lib.hid (fun w => gval_any s x g hs w)
  have C3 := Lib.hid (fun w => are_any a w)
  have C4 := Lib.hid (fun w => within_any b a 30 w)
  have P1 : Hid ((laB s x && grB g) = false → ∀ w', Below w.heap.size w w' → GsAt s x g a b w (.returned (.tuple #[.slice none 0 0, .int .i64 1])) w') := Lib.hid fun h w' hb => gs_not (by simp [gsC, h]) (by omega) hb
  have P2 : Hid ((laB s x && grB g) = true → (inB a (-30) 30 && inB b a 30) = false → ∀ w', Below w.heap.size w w' → GsAt s x g a b w (.returned (.tuple #[.slice none 0 0, .int .i64 2])) w') := Lib.hid fun h h' w' hb => gs_not (by simp [gsC, h, h']) (by omega) hb
  have P3 : Hid ((laB s x && grB g) = true → (inB a (-30) 30 && inB b a 30) = true → ∀ i, i < stN a b → laB s (ag x g (a + (i : Int))) = false → ∀ w', Below w.heap.size w w' → GsAt s x g a b w (.returned (.tuple #[.slice none 0 0, .int .i64 5])) w') := Lib.hid fun h h' i hi hl w' hb => by
    have ho : okB s x g a b = false := tv_no fun o => by rw [o i hi] at hl; cases hl
    exact gs_not (by simp [gsC, h, h', ho]) (by omega) hb
  have P4 : Hid ((laB s x && grB g) = true → (inB a (-30) 30 && inB b a 30) = true → (∀ i, i < stN a b → laB s (ag x g (a + (i : Int))) = true) → ∀ v w', w'.ownsRow w.heap.size 33 6 v (stN a b) (rowV (lv (fun _ => s) (fun i => ag x g (a + (i : Int)))) (stN a b * 6)) → Below w.heap.size w w' → GsAt s x g a b w (.returned (.tuple #[v, .int .i64 0])) w') := Lib.hid fun h h' hall v w' hr hb => by
    have ho : okB s x g a b = true := tv_yes hall
    exact gs_yes (by simp [gsC, h, h', ho]) hr hb
  have C5 : Hid ((laB s x && grB g) = true → ∀ st : Int, -30 ≤ st → st ≤ 30 → ∀ w, Calls Try.prog 75 #[gdV s x g, .int .i64 st] w fun e w' => e = .returned (.tuple #[laV s (ag x g st), .bool (laB s (ag x g st))]) ∧ Below w.heap.size w w') := Lib.hid fun h st h3 h4 w => by
    obtain ⟨h1, h2⟩ : laB s x = true ∧ grB g = true := by simpa using h
    exact after_any s x g st hs h1 h2 h3 h4 w
  have HU : Hid (∀ k, rowV (lv (fun _ => s) (fun i => ag x g (a + (i : Int)))) ((k + 1) * 6) = rowV (lv (fun _ => s) (fun i => ag x g (a + (i : Int)))) (k * 6) ++ [.string s, .int .i64 (ag x g (a + (k : Int)) 0), .int .i64 (ag x g (a + (k : Int)) 1), .int .i64 (ag x g (a + (k : Int)) 2), .int .i64 (ag x g (a + (k : Int)) 3), .int .i64 (ag x g (a + (k : Int)) 4)]) := Lib.hid fun k => row_six _ _ k
  have HU0 : Hid (rowV (lv (fun _ => s) (fun i => ag x g (a + (i : Int)))) (0 * 6) = []) := Lib.hid rfl
  obtain ⟨_, kx, kg⟩ := Ba.boxes2 (Below.refl ((w.alloc (laC s x 33)).alloc (fvC g 59)).heap.size _)
  have B0 := Lib.hid (below_then (below_box w (laC s x 33)) (below_box _ (fvC g 59)))
  generalize rowV (lv (fun _ => s) (fun i => ag x g (a + (i : Int)))) = UP at P4 HU HU0
  generalize GsAt s x g a b w = Q at P1 P2 P3 P4 ⊢
  generalize hn : stN a b = n at P3 P4
  generalize (laB s x && grB g) = rr at C1 C5 P1 P2 P3 P4
  generalize hr3 : inB a (-30) 30 = r3 at C3 P2 P3 P4
  generalize hr4 : inB b a 30 = r4 at C4 P2 P3 P4
  generalize hlo : (fun st => laB s (ag x g st)) = lo at *
  have hlo' : ∀ st, laB s (ag x g st) = lo st := fun st => by rw [← hlo]
  simp only [hlo'] at P3 P4 C5
  clear hlo hlo'
  generalize ag x g = y at *
  simp only [laV, fvV, laC, fvC, gdV] at kx kg B0 C1 C5 ⊢
  generalize hx0 : x 0 = x0, x 1 = x1, x 2 = x2, x 3 = x3, x 4 = x4, g 0 = g0, g 1 = g1, g 2 = g2, g 3 = g3, g 4 = g4 at *
  clear hx0
  have KX := Lib.hid kx
  have KG := Lib.hid kg
  clear kx kg
  have R : (r3 = false) ∨ (r3 = true ∧ r4 = false) ∨ (r3 = true ∧ r4 = true) := by cases r3 <;> cases r4 <;> simp
  go_enter Try.func35, Try.ntmps35
  go_upto_region 1 with fail
  generalize hw2 : (w.alloc _).alloc _ = w2 at KX KG B0 ⊢
  clear hw2
  obtain ⟨v0, v1, v2, v3, v4, v5⟩ := blk6 KX.out
  obtain ⟨u0, u1, u2, u3, u4⟩ := blk5 KG.out
  rcases R with rfl | ⟨rfl, rfl⟩ | ⟨rfl, rfl⟩
  all_goals
    go_wp2_with (first | (go_at_call 71; refine (C3.out _).mono ?_; rintro e w' ⟨rfl, rfl⟩) | (go_at_call 72; refine (C4.out _).mono ?_; rintro e w' ⟨rfl, rfl⟩))
    refine (C1.out _).mono ?_
    rintro e w3 ⟨rfl, b3⟩
    obtain ⟨hb3, k3⟩ := Ba.boxes1 b3
    have B3 := Lib.hid (below_then B0.out hb3)
    have K3 := Lib.hid k3
    clear b3 hb3 k3 v0 v1 v2 v3 v4 v5 u0 u1 u2 u3 u4 KX KG B0
    cases rr
    · go_wp2_with (go_at_call 73; refine (Ba.arg_inv _ _).mono ?_; rintro e w' ⟨rfl, rfl⟩)
      exact P1.out (by simp) _ B3.out
  · go_wp2_with (go_at_call 73; refine (Ba.arg_rng _).mono ?_; rintro e w' ⟨rfl, rfl⟩)
    exact P2.out (by simp) (by simp) _ B3.out
  · go_wp2_with (go_at_call 73; refine (Ba.arg_rng _).mono ?_; rintro e w' ⟨rfl, rfl⟩)
    exact P2.out (by simp) (by simp) _ B3.out
  · have hr3' : -30 ≤ a ∧ a ≤ 30 := by simpa [inB] using hr3
    have hr4' : a ≤ b ∧ b ≤ 30 := by simpa [inB] using hr4
    have hnv : (n : Int) = b - a + 1 := by rw [← hn]; unfold stN; omega
    have D5 := Lib.hid fun st h1 h2 w => C5.out (by first | rfl | trivial) st h1 h2 w
    have Q3 := Lib.hid fun i hi hl w' hb => P3.out (by first | rfl | simp) (by first | rfl | simp) i hi hl w' hb
    have Q4 := Lib.hid fun h v w' hr hb => P4.out (by first | rfl | simp) (by first | rfl | simp) h v w' hr hb
    clear P1 P2 P3 P4 C1 C3 C4 C5 hr3 hr4 hn
    go_wp2_with (go_at_call 73; refine (Ba.arg_ok _).mono ?_; rintro e w' ⟨rfl, rfl⟩)
    go_loopw [13, 14, 15, 16] (fun o k _ _ wr => ∃ (i : Nat) (v : Value), i ≤ n ∧ v = o ∧ k = .int .i64 (a + (i : Int)) ∧ Hid (Below w3.heap.size w3 wr) ∧ Hid (wr.ownsRow w3.heap.size 33 6 v i (UP (i * 6))) ∧ Hid (∀ j : Nat, j < i → lo (a + (j : Int)) = true)) (fun _ k _ _ _ => n - (intOf k - a).toNat)
    case atStart => exact ⟨0, _, Nat.zero_le _, rfl, by simp, Lib.hid (Below.refl _ _), Lib.hid (by rw [HU0.out]; exact World.ownsRow_nil _ _ _ _), Lib.hid fun j hj => by omega⟩
    case round =>
      obtain ⟨i, v, hi, rfl, rfl, HB, HO, HD⟩ := hrel
      by_cases hlt : i < n
      · have hle : a + (i : Int) ≤ b := by omega
        have e1 : a + (i : Int) ≤ 30 := by omega
        have e2 : -30 ≤ a + (i : Int) := by omega
        have CL := Lib.hid (D5.out (a + (i : Int)) e2 e1)
        have HUi := Lib.hid (HU.out i)
        have HP3 := Lib.hid (Q3.out i hlt)
        obtain ⟨v0, v1, v2, v3, v4, v5, v6, v7, v8, v9, v10⟩ := blk11 (blk_keep HB.out K3.out)
        generalize y (a + (i : Int)) 0 = y0, y (a + (i : Int)) 1 = y1, y (a + (i : Int)) 2 = y2, y (a + (i : Int)) 3 = y3, y (a + (i : Int)) 4 = y4 at CL HUi
        generalize hl : lo (a + (i : Int)) = r at CL HP3
        have HL := Lib.hid hl
        clear hl
        have hzr := HB.out.size
        cases r
        all_goals
          go_wp2_with fail
          refine (CL.out _).mono ?_
          rintro e w5 ⟨rfl, b5⟩
          have HB5 := Lib.hid (below_then HB.out b5)
          have HO5 := Lib.hid (Ge.row_below HO.out b5)
          clear b5 v0 v1 v2 v3 v4 v5 v6 v7 v8 v9 v10
          have hz5 := HB5.out.size
          have HB6 := Lib.hid (below_then HB5.out (below_box w5 (.cells #[.string s, .int .i64 y0, .int .i64 y1, .int .i64 y2, .int .i64 y3, .int .i64 y4] 33)))
          have HO6 := Lib.hid (Ge.row_below HO5.out (below_box w5 (.cells #[.string s, .int .i64 y0, .int .i64 y1, .int .i64 y2, .int .i64 y3, .int .i64 y4] 33)))
        · have HC := Lib.hid (HP3.out (by first | rfl | trivial) _ (below_then B3.out HB6.out))
          go_wp2_with fail
          exact HC.out
        · have HD' : Hid (∀ j : Nat, j < i + 1 → lo (a + (j : Int)) = true) := Lib.hid fun j hj => by
            by_cases e : j = i
            · rw [e]; exact HL.out
            · exact HD.out j (by omega)
          have hz6 := HB6.out.size
          have NC := Lib.hid (cells_new6 (w5.alloc (.cells #[.string s, .int .i64 y0, .int .i64 y1, .int .i64 y2, .int .i64 y3, .int .i64 y4] 33)) (.string s) (.int .i64 y0) (.int .i64 y1) (.int .i64 y2) (.int .i64 y3) (.int .i64 y4) 33)
          rw [show (w5.alloc (.cells #[.string s, .int .i64 y0, .int .i64 y1, .int .i64 y2, .int .i64 y3, .int .i64 y4] 33)).heap.size = w5.heap.size + 1 by simp] at NC
          go_wp2_with (at_builtin; refine wpList_append_own _ rfl _ _ 47 rfl w3.heap.size 33 i0 _ 6 56 Try.underlying47 HI.out.1 HI.out.2.1 HI.out.2.2.1 HI.out.2.2.2 rfl (by decide) _ _ _ rfl (HO6.out.alloc _) ⟨w5.heap.size + 1, 0, none⟩ 1 1 [.string s, .int .i64 y0, .int .i64 y1, .int .i64 y2, .int .i64 y3, .int .i64 y4] rfl rfl ?c1 ?c2 ?c3 ?c4 ?c5 ?_)
          case c1 => exact NC.out
          case c2 => simp [Value.oneCell']
          case c3 => unfold maxLen; omega
          case c4 => omega
          case c5 => first | omega | (simp <;> omega)
          intro v' w7 hown7 hgrow _
          have HB7 := Lib.hid ((HB6.out.alloc hz6 _).grown hgrow (by simp <;> omega) fun g hg => (HO6.out.lt g hg).1)
          have HO7 : Hid (w7.ownsRow w3.heap.size 33 6 v' (i + 1) (UP ((i + 1) * 6))) := Lib.hid (by rw [HUi.out]; exact hown7)
          clear hown7 hgrow
          go_wp2_with fail
          go_roundw
          case rel => exact ⟨i + 1, _, by omega, rfl, by go_num, HB7, HO7, HD'⟩
          case measure => simp [intOf]; omega
      · obtain rfl : i = n := by omega
        have HC := Lib.hid (Q4.out HD.out _ _ (own_base HO.out B3.out.size) (below_then B3.out HB.out))
        have hgt : ¬ a + (i : Int) ≤ b := by omega
        go_wp2_with fail
        exact HC.out
end Go.Proofs.Ytaoknbhpjnileab.Kt

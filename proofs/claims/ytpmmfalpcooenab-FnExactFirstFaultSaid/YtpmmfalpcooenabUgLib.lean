/- The program's union of numbers: leaders, joins, first ones. -/
import Derived.Test.YtpmmfalpcooenabUfLib
import Derived.Test.YtpmmfalpcooenabSdqLib
namespace Go.Proofs.Ytpmmfalpcooenab.Ug
set_option linter.unusedVariables false
open Go.RowKit Go.Maps Ft Is Ge Qb Pt Pv Za Mm Zb Uf

theorem lawI : Keyed Try.prog 2 := int_keyed Try.underlying2
abbrev kI (x : Nat) : Lit := .int .i64 (x : Int)
abbrev vI (x : Nat) : Value := .int .i64 (x : Int)
theorem keyI {x : Nat} (h : x < 1000) : keyOf Try.prog 2 (vI x) = some (kI x) := keyOf_int_mk Try.underlying2 (WalkArith.wf_i64 (by omega))
theorem zeroI (w : World) : (zeroValue 2).run Try.prog w = .ok (.int .i64 0) w := by kernel_rfl
theorem injI (x y : Nat) (_ : x < 1000) (_ : y < 1000) (h : kI x = kI y) : x = y := by
  injection h with _ h
  omega
abbrev StI (w : World) (b : Nat) (l : Nat → Nat) : Prop := Sta Try.prog 2 vI kI 1000 w b l
set_option maxHeartbeats 1000000 in
theorem leader (w : World) (b : Nat) (l : Nat → Nat) (h : StI w b l) (x : Nat) (hx : x < 1000) :
    Calls Try.prog 163 #[.map (some b), .int .i64 (x : Int)] w fun e w' => e = .returned (.int .i64 (l x : Int)) ∧ w = w' := by
  obtain ⟨u, d, ⟨g, hm, h1, h2⟩, hl, h3, _⟩ := h
  have HM := Lib.hid hm
  have HN : Hid (∀ z, z < 1000 → u z = none → g (kI z) = none ∧ l z = z) := Lib.hid fun z hz hu => ⟨by rw [h1 z hz, hu]; rfl, hl.top hu⟩
  have HS : Hid (∀ z y, z < 1000 → u z = some y → g (kI z) = some (.int .i64 (y : Int)) ∧ y < 1000 ∧ l y = l z ∧ d y < d z) := Lib.hid fun z y hz hu => ⟨by rw [h1 z hz, hu]; rfl, h3 _ _ hu, (hl.step hu).1, (hl.step hu).2⟩
  clear hm h1 h2 hl h3
  go_enter Try.func163, Try.ntmps163
  go_wp2_with fail
  go_loop [1, 5, 6, 7] (fun i _ _ _ => ∃ z : Nat, z < 1000 ∧ i = .int .i64 (z : Int) ∧ l z = l x) (fun i _ _ _ => d (intOf i).toNat)
  case atStart => exact ⟨x, hx, rfl, rfl⟩
  case round =>
    obtain ⟨z, hz, rfl, hlz⟩ := hrel
    cases hu : u z with
    | none =>
      obtain ⟨q1, q2⟩ := HN.out z hz hu
      go_wp2_with (at_lookup; refine wp_look_ok _ rfl _ _ 177 rfl 2 2 lawI Try.underlying177 (zeroI _) b g rfl HM.out _ (kI z) rfl (keyI hz) (.int .i64 0) false (by rw [q1]; rfl) (by rw [q1]; rfl) ?_)
      go_wp2_with fail
      go_ret
      exact ⟨by rw [← hlz, q2]; rfl, rfl⟩
    | some y =>
      obtain ⟨q1, q2, q3, q4⟩ := HS.out z y hz hu
      go_wp2_with (at_lookup; refine wp_look_ok _ rfl _ _ 177 rfl 2 2 lawI Try.underlying177 (zeroI _) b g rfl HM.out _ (kI z) rfl (keyI hz) (.int .i64 (y : Int)) true (by rw [q1]; rfl) (by rw [q1]; rfl) ?_)
      go_wp2_with fail
      go_round
      case rel => exact ⟨y, q2, rfl, by rw [q3, hlz]⟩
      case measure => simpa [intOf] using q4
set_option maxHeartbeats 1000000 in
theorem join (w : World) (b : Nat) (l : Nat → Nat) (h : StI w b l) (x y : Nat) (hx : x < 1000) (hy : y < 1000) :
    Calls Try.prog 143 #[.map (some b), .int .i64 (x : Int), .int .i64 (y : Int)] w fun e w' => e = .returned (.tuple #[]) ∧ StI w' b (fun z => if l z = l x then l y else l z) ∧ Bw.But b w w' := by
  have C1 := Lib.hid (leader w b l h x hx)
  have C2 := Lib.hid (leader w b l h y hy)
  obtain ⟨u, d, ⟨g, hm, h1, h2⟩, hl, h3, h4⟩ := h
  have q1 := h4 x hx
  have q2 := h4 y hy
  have HM := Lib.hid hm
  have HK : Hid (∀ l, (g l).isSome = true → ∃ j, j < 1000 ∧ l = kI j) := Lib.hid h2
  by_cases e : l x = l y
  · have HS : Hid (StI w b (fun z => if l z = l x then l y else l z)) := Lib.hid (by
      have : (fun z => if l z = l x then l y else l z) = l := funext fun z => by
        split
        · omega
        · rfl
      rw [this]
      exact ⟨u, d, ⟨g, hm, h1, h2⟩, hl, h3, h4⟩)
    rw [← e] at C2
    clear hm h1 h2 hl h3 h4
    generalize (fun z => if l z = l x then l y else l z) = l' at HS ⊢
    go_enter Try.func143, Try.ntmps143
    go_wp2_with fail
    refine C1.out.mono ?_
    rintro e w1 ⟨rfl, rfl⟩
    go_wp2_with fail
    refine C2.out.mono ?_
    rintro e w1 ⟨rfl, rfl⟩
    go_wp2_with fail
    go_end0
    exact ⟨rfl, HS.out, Bw.But.refl _ _⟩
  · have HS : Hid (∀ w', MapIs Try.prog 2 w' b (upd g (kI (l x)) (vI (l y))) → StI w' b (fun z => if l z = l x then l y else l z)) := Lib.hid fun w' hm' =>
      ⟨_, _, Uni.upd injI h1 h2 q1 hm', hl.join x y e, fun a c hac => by
        split at hac
        · injection hac with hac; omega
        · exact h3 _ _ hac, fun z hz => by
        show (if l z = l x then l y else l z) < 1000
        split
        · exact q2
        · exact h4 z hz⟩
    have ne : ¬ (l x : Int) = (l y : Int) := by omega
    clear hm h1 h2 hl h3 h4
    generalize (fun z => if l z = l x then l y else l z) = l' at HS ⊢
    go_enter Try.func143, Try.ntmps143
    go_wp2_with fail
    refine C1.out.mono ?_
    rintro e w1 ⟨rfl, rfl⟩
    go_wp2_with fail
    refine C2.out.mono ?_
    rintro e w1 ⟨rfl, rfl⟩
    go_wp2_with (at_mapUpdate; refine wp_store _ rfl _ _ _ 177 rfl 2 2 lawI Try.underlying177 kI 1000 b g HK.out (by decide) rfl HM.out _ _ (kI (l x)) rfl rfl (keyI q1) ?_)
    intro w2 hm2 hg2
    have HZ := Lib.hid (HS.out w2 hm2)
    have HB : Hid (Bw.But b w w2) := Lib.hid ⟨hg2.os, hg2.tape, hg2.output, hg2.size, fun k hk hn => hg2.block k hk fun e => hn (by injection e)⟩
    clear hm2 hg2
    go_wp2_with fail
    go_end0
    exact ⟨rfl, HZ.out, HB.out⟩
/-- What the map of first indices holds. -/
def Kn (g : Lit → Option Value) (l x : Nat → Nat) (i : Nat) : Prop := (∀ z, z < 1000 → g (kI z) = (fo l x i z).map vI) ∧ ∀ q, (g q).isSome = true → ∃ z, z < 1000 ∧ q = kI z
theorem Kn.step_some {g : Lit → Option Value} {l x : Nat → Nat} {i : Nat} (h : Kn g l x i) {q : Nat} (hq : fo l x i (l (x i)) = some q) : Kn g l x (i + 1) :=
  ⟨fun z hz => by
    rw [h.1 z hz, fo]
    cases hf : fo l x i z with
    | some p => rfl
    | none =>
      dsimp only
      rw [if_neg fun e => by rw [← e, hq] at hf; cases hf], h.2⟩
theorem Kn.step_none {g : Lit → Option Value} {l x : Nat → Nat} {i : Nat} (h : Kn g l x i) (hl : l (x i) < 1000) (hq : fo l x i (l (x i)) = none) : Kn (upd g (kI (l (x i))) (vI i)) l x (i + 1) :=
  ⟨fun z hz => by
    rw [fo]
    by_cases e : z = l (x i)
    · subst e
      rw [upd_same, hq]
      dsimp only
      rw [if_pos rfl]; rfl
    · rw [upd_other _ _ (fun q => e (injI _ _ hz hl q)), h.1 z hz]
      cases hf : fo l x i z with
      | some p => rfl
      | none =>
        dsimp only
        rw [if_neg (Ne.symm e)], fun q hs => by
    by_cases e : q = kI (l (x i))
    · exact ⟨_, hl, e⟩
    · rw [upd_other _ _ e] at hs; exact h.2 q hs⟩
theorem one_of {n B : Nat} {f : Nat → Int} {w w' : World} {v : Value} (h : w'.ownsRow B 2 1 v n (upto f n)) (h0 : w.heap.size ≤ B) (hb : Below w.heap.size w w') : Sdq.OneAt n f w (.returned v) w' := by
  obtain ⟨A, cap, rfl, ho⟩ := Sdq.own_of_row h
  exact ⟨A, cap, rfl, Lib.hid (Bw.own_later ho h0), hb⟩
theorem row_grown {w w' : World} {base : Nat} {e : TypeId} {size n : Nat} {v : Value} {xs : List Value} (h : w.ownsRow base e size v n xs) {b : Nat} (hg : w.grownBy w' (some b)) (hb : b < base) : w'.ownsRow base e size v n xs := by
  rcases h with ⟨h1, h2 | ⟨g, cap, cur, hv, hB, hh, h3⟩⟩
  · exact ⟨h1, .inl h2⟩
  · exact ⟨h1, .inr ⟨g, cap, cur, hv, hB, (hg.block g (lt_of_heap hh) (fun e => by injection e; omega)).trans hh, h3⟩⟩
theorem fi_some {l x : Nat → Nat} {i q : Nat} (h : fo l x i (l (x i)) = some q) : fi l x i = q := by unfold fi; rw [h]; rfl
theorem fi_none {l x : Nat → Nat} {i : Nat} (h : fo l x i (l (x i)) = none) : fi l x i = i := by unfold fi; rw [h]; rfl

set_option maxRecDepth 100000 in
set_option maxHeartbeats 1000000 in
theorem firsts (w : World) (b : Nat) (l : Nat → Nat) (h : StI w b l) (A : Option Addr) (n c : Nat) (x : Nat → Nat) (hn : n ≤ 1000) (hx : ∀ i, i < n → x i < 1000) (hA : Nums w w.heap.size A n (fun i => (x i : Int))) :
    Calls Try.prog 144 #[.map (some b), .slice A n c] w (Sdq.OneAt n (fun i => (fi l x i : Int)) w) := by
  have HSt := Lib.hid h
  have HL : Hid (∀ x, x < 1000 → l x < 1000) := Lib.hid (by obtain ⟨_, _, _, _, _, h4⟩ := h; exact h4)
  have HX := Lib.hid hx
  have HA := Lib.hid hA
  have CL := Lib.hid (fun w h x hx => leader w b l h x hx)
  obtain ⟨i0, hi0, hz0, hz1, hz2⟩ := info_parts info_int
  have HI := Lib.hid (And.intro hi0 (And.intro hz0 (And.intro hz1 hz2)))
  have HMK : Hid (∀ w : World, (Instr.makeSlice 22 (.int .i64 0) (.int .i64 (n : Int))).run Try.prog w = .ok (.slice (some ⟨w.heap.size, 0, none⟩) 0 n) (w.alloc (.cells (Go.madeCells (Value.int .i64 0).cells (n * 1)) 2))) := Lib.hid fun w => by
    have := run_make w _ _ i0 _ Try.underlying22 hi0 hz0 .i64 .i64 0 n (by omega) (by omega) (by rw [hz2]; omega) (by omega)
    rw [hz1] at this
    simpa using this
  have HU : Hid (∀ j, upto (fun i => (fi l x i : Int)) (j + 1) = upto (fun i => (fi l x i : Int)) j ++ [.int .i64 (fi l x j : Int)]) := Lib.hid fun j => upto_snoc _ _
  have HU0 : Hid (upto (fun i => (fi l x i : Int)) 0 = []) := Lib.hid rfl
  have HF : Hid (∀ v B w', w'.ownsRow B 2 1 v n (upto (fun i => (fi l x i : Int)) n) → w.heap.size ≤ B → Below w.heap.size w w' → Sdq.OneAt n (fun i => (fi l x i : Int)) w (.returned v) w') := Lib.hid fun v B w' h1 h2 h3 => one_of h1 h2 h3
  clear h hx hA hi0 hz0 hz1 hz2
  generalize Sdq.OneAt n (fun i => (fi l x i : Int)) w = Q at HF ⊢
  generalize upto (fun i => (fi l x i : Int)) = UP at HU HU0 HF
  have hmm := run_makeMap (P := Try.prog) 176 w
  have B1 := Lib.hid (below_box w (.map #[] 0))
  have M1 := Lib.hid (MapIs.made w Try.prog 2)
  have hmk := HMK.out (w.alloc (.map #[] 0))
  go_enter Try.func144, Try.ntmps144
  go_upto_region 2 with fail
  have hs1 : Hid ((w.alloc (.map #[] 0)).heap.size = w.heap.size + 1) := Lib.hid (by simp)
  generalize w.alloc (.map #[] 0) = w1 at B1 M1 hmk hs1 ⊢
  clear hmm
  go_wp2_with fail
  clear hmk HMK
  have B0 := Lib.hid (below_then B1.out (below_box w1 (.cells (Go.madeCells #[Value.int .i64 0] n) 2)))
  have M0 := Lib.hid (M1.out.below (below_box w1 (.cells (Go.madeCells #[Value.int .i64 0] n) 2)) (by have := hs1.out; omega))
  have O0 : Hid ((w1.alloc (.cells (Go.madeCells #[Value.int .i64 0] n) 2)).ownsRow w1.heap.size 2 1 (.slice (some ⟨w1.heap.size, 0, none⟩) 0 n) 0 (UP 0)) := Lib.hid (by
    rw [HU0.out]
    exact ⟨rfl, .inr ⟨_, n, _, rfl, Nat.le_refl _, heap_alloc_new _ _, by omega, by unfold maxLen; omega, by rw [size_madeCells]; omega, rfl⟩⟩)
  have K0 : Hid (Kn (fun _ => none) l x 0) := Lib.hid ⟨fun z _ => rfl, fun q h => by cases h⟩
  go_loopw [6, 7, 8, 9, 10, 11, 18] (fun v _ _ _ _ _ i wr => ∃ (j : Nat) (u : Value) (g : Lit → Option Value), j ≤ n ∧ u = v ∧ i = .int .i64 (j : Int) ∧ Hid (Below w.heap.size w wr) ∧ w1.heap.size ≤ wr.heap.size ∧ Hid (wr.ownsRow w1.heap.size 2 1 u j (UP j)) ∧ Hid (MapIs Try.prog 2 wr w.heap.size g) ∧ Hid (Kn g l x j)) (fun _ _ _ _ _ _ i _ => n - (intOf i).toNat)
  case atStart => exact ⟨0, _, _, Nat.zero_le _, rfl, rfl, B0, by simp, O0, M0, K0⟩
  case round =>
    obtain ⟨j, v, g, hj, rfl, rfl, HW, hsz, HO, HM, HK⟩ := hrel
    have e0 : (0 : Int) ≤ (j : Int) := Int.natCast_nonneg _
    by_cases hlt : j < n
    · have e1 : (j : Int) < (n : Int) := by omega
      have hj1 : j + 1 ≤ n := by omega
      obtain ⟨b1, o1, rfl, hb1, hc1⟩ := (HA.out.below HW.out (Nat.le_refl _)).more HW.out.size (by omega)
      have x0 : wr.cell? ⟨b1, o1 + j, none⟩ = some (.int .i64 (x j : Int)) := hc1 j hlt
      have xj := HX.out j hlt
      have lj := HL.out _ xj
      have CJ := Lib.hid (CL.out wr (HSt.out.below HW.out) (x j) xj)
      have HUj := Lib.hid (HU.out j)
      have HKQ : Hid (∀ l', (g l').isSome = true → ∃ i, i < 1000 ∧ l' = kI i) := Lib.hid HK.out.2
      have hKz := HK.out.1 _ lj
      clear hc1
      cases hf : fo l x j (l (x j)) with
      | some q =>
        have HK1 := Lib.hid (HK.out.step_some hf)
        rw [fi_some hf] at HUj
        rw [hf] at hKz
        generalize l (x j) = lx at CJ hKz lj hf
        generalize x j = xx at x0 CJ xj
        go_wp2_with fail
        refine CJ.out.mono ?_
        rintro e w2 ⟨rfl, rfl⟩
        go_upto_region 8 with (at_lookup; refine wp_look_ok _ rfl _ _ 176 rfl 2 2 lawI Try.underlying176 (zeroI _) w.heap.size g rfl HM.out _ (kI lx) rfl (keyI lj) (.int .i64 (q : Int)) true (by rw [hKz]; rfl) (by rw [hKz]; rfl) ?_)
        have HO2 := HO
        have HM2 := HM
        have HW2 := HW
        generalize hw2 : wr = w2 at HO2 HM2 HW2 hsz ⊢
        clear hw2 HO HM HW x0 hb1
        go_wp2_with (at_builtin; refine wpList_append_own _ rfl _ _ 22 rfl w1.heap.size 2 i0 _ 1 8 Try.underlying22 HI.out.1 HI.out.2.1 HI.out.2.2.1 HI.out.2.2.2 rfl (by decide) _ _ _ rfl (HO2.out.alloc _) ⟨w2.heap.size, 0, none⟩ 1 1 [.int .i64 (q : Int)] rfl rfl ?c1 ?c2 ?c3 ?c4 ?c5 ?_)
        case c1 =>
          intro q' u hu
          rw [Addr.add_lit, Nat.zero_add]
          exact (cell_of_row _ _ q' _ _ _ (heap_alloc_new w2 _)).trans (by simpa using hu)
        case c2 => simp [Value.oneCell']
        case c3 => unfold maxLen; omega
        case c4 => omega
        case c5 => first | omega | (simp <;> omega)
        intro v' w6 hown2 hgrow _
        have hs16 := hs1.out
        have HQ := Lib.hid ((HW2.out.alloc (by omega) _).grown hgrow (by simp; omega) fun g hg => by have := (HO2.out.lt g hg).1; omega)
        have HO6 : Hid (w6.ownsRow w1.heap.size 2 1 v' (j + 1) (UP (j + 1))) := Lib.hid (by rw [HUj.out]; exact hown2)
        have M6 := Lib.hid ((HM2.out.below (below_box w2 (.cells #[.int .i64 (q : Int)] 2)) (by omega)).kept hgrow (fun e => by have := (HO2.out.lt _ e.symm).1; omega))
        have s6 : w1.heap.size ≤ w6.heap.size := by have := hgrow.size; simp at this; omega
        clear hs16 hown2 hgrow
        go_wp2_with fail
        go_roundw
        case rel => exact ⟨j + 1, _, _, hj1, rfl, by go_num, HQ, s6, HO6, M6, HK1⟩
        case measure => simp [intOf]; omega
      | none =>
        have HK1 := Lib.hid (HK.out.step_none lj hf)
        rw [fi_none hf] at HUj
        rw [hf] at hKz
        generalize l (x j) = lx at CJ hKz lj hf HK1
        generalize x j = xx at x0 CJ xj
        go_wp2_with fail
        refine CJ.out.mono ?_
        rintro e w2 ⟨rfl, rfl⟩
        go_upto_region 8 with (at_lookup; refine wp_look_ok _ rfl _ _ 176 rfl 2 2 lawI Try.underlying176 (zeroI _) w.heap.size g rfl HM.out _ (kI lx) rfl (keyI lj) (.int .i64 0) false (by rw [hKz]; rfl) (by rw [hKz]; rfl) ?_)
        go_upto_region 11 with (at_mapUpdate; refine wp_store _ rfl _ _ _ 176 rfl 2 2 lawI Try.underlying176 kI 1000 w.heap.size g HKQ.out (by decide) rfl HM.out _ _ (kI lx) rfl rfl (keyI lj) ?_; intro w2 hm2 hg2)
        have HM2 := Lib.hid hm2
        have hs17 := hs1.out
        have HO2 := Lib.hid (row_grown HO.out hg2 (by omega))
        have HW2 := Lib.hid (HW.out.grown hg2 (by omega) fun g hg => by injection hg; omega)
        have hsz : w1.heap.size ≤ w2.heap.size := Nat.le_trans hsz hg2.size
        clear hm2 hg2 HO HM HW x0 hb1 hs17
        go_wp2_with (at_builtin; refine wpList_append_own _ rfl _ _ 22 rfl w1.heap.size 2 i0 _ 1 8 Try.underlying22 HI.out.1 HI.out.2.1 HI.out.2.2.1 HI.out.2.2.2 rfl (by decide) _ _ _ rfl (HO2.out.alloc _) ⟨w2.heap.size, 0, none⟩ 1 1 [.int .i64 (j : Int)] rfl rfl ?c1 ?c2 ?c3 ?c4 ?c5 ?_)
        case c1 =>
          intro q' u hu
          rw [Addr.add_lit, Nat.zero_add]
          exact (cell_of_row _ _ q' _ _ _ (heap_alloc_new w2 _)).trans (by simpa using hu)
        case c2 => simp [Value.oneCell']
        case c3 => unfold maxLen; omega
        case c4 => omega
        case c5 => first | omega | (simp <;> omega)
        intro v' w6 hown2 hgrow _
        have hs16 := hs1.out
        have HQ := Lib.hid ((HW2.out.alloc (by omega) _).grown hgrow (by simp; omega) fun g hg => by have := (HO2.out.lt g hg).1; omega)
        have HO6 : Hid (w6.ownsRow w1.heap.size 2 1 v' (j + 1) (UP (j + 1))) := Lib.hid (by rw [HUj.out]; exact hown2)
        have M6 := Lib.hid ((HM2.out.below (below_box w2 (.cells #[.int .i64 (j : Int)] 2)) (by omega)).kept hgrow (fun e => by have := (HO2.out.lt _ e.symm).1; omega))
        have s6 : w1.heap.size ≤ w6.heap.size := by have := hgrow.size; simp at this; omega
        clear hs16 hown2 hgrow
        go_wp2_with fail
        go_roundw
        case rel => exact ⟨j + 1, _, _, hj1, rfl, by go_num, HQ, s6, HO6, M6, HK1⟩
        case measure => simp [intOf]; omega
    · obtain rfl : j = n := by omega
      have e1 : ¬ (j : Int) < (j : Int) := by omega
      have HZ := Lib.hid (HF.out v w1.heap.size wr HO.out (by have := hs1.out; omega) HW.out)
      clear hj HU HU0 HF
      go_wp2_with fail
      exact HZ.out
end Go.Proofs.Ytpmmfalpcooenab.Ug

/- AddAllow: both functions. -/
import Derived.Test.YtpmmfalpcooenaaDoorC9kLib
import Derived.LaidEql
namespace Go.Proofs.YtpmmfalpcooenaaDoor.C9a
set_option linter.unusedVariables false
open Go.RowKit Ft Is Ge Qb Ly Stv Ec Er C9k Str

/-- The strips with another allowance. -/
def aaD (f : Nat → Int) (k : Nat) (al : Int) (i : Nat) : Int := if i = k * 4 + 1 then al else f i
noncomputable def okA (n : Nat) (f : Nat → Int) (k al : Int) : Bool := tv (StP n f) && (inB k 0 ((n : Int) - 1) && inB al 0 200)
noncomputable def aaM (n : Nat) (f : Nat → Int) (k al : Int) : Nat := if okA n f k al = true then n else 0
noncomputable def aaC (n : Nat) (f : Nat → Int) (k al : Int) : Int := if tv (StP n f) = true then (if (inB k 0 ((n : Int) - 1) && inB al 0 200) = true then 0 else 2) else 1
theorem aam_le (n : Nat) (f : Nat → Int) (k al : Int) : aaM n f k al ≤ 1048576 := by
  unfold aaM okA
  split
  · rename_i h
    simp only [Bool.and_eq_true] at h
    have := (tv_iff.1 h.1).2.2
    omega
  · omega
theorem at_set {w : World} {g n j : Nat} {f : Nat → Int} (h : At w g n f) (hj : j < n) (v : Int) : At (w.setCell ⟨g, j, none⟩ (.int .i64 v)) g n (fun i => if i = j then v else f i) := by
  refine ⟨by simpa using h.1, fun i hi => ?_, fun i => by rw [World.frozen?_setCell]; exact h.2.2 i⟩
  by_cases e : i = j
  · subst e
    dsimp only
    rw [if_pos rfl]
    exact World.cell?_setCell_same' _ _ _ (by rw [h.2.1 i hi]; rfl)
  · dsimp only
    rw [if_neg e]
    exact (World.cell?_setCell_other _ ⟨g, j, none⟩ ⟨g, i, none⟩ _ (by simp)).trans (h.2.1 i hi)
theorem at_of_rows {w : World} {B n : Nat} {t : TypeId} {v : Value} {f : Nat → Int} (h : w.ownsRow B t 4 v n (upto f (n * 4))) (h0 : 0 < n) : ∃ g cap, v = .slice (some ⟨g, 0, none⟩) n cap ∧ B ≤ g ∧ At w g (n * 4) f := by
  rcases h.2 with ⟨rfl, rfl⟩ | ⟨g, cap, cur, rfl, hbg, hh, _⟩
  · omega
  · exact ⟨g, cap, rfl, hbg, lt_of_heap hh, fun i hi => (h.cellAt i (by omega)).trans (upto_get f hi), fun i => blk_free hh i⟩
theorem cells_upto {w : World} {b off n : Nat} {f : Nat → Int} (hc : ∀ i, i < n → w.cell? ⟨b, off + i, none⟩ = some (.int .i64 (f i))) : ∀ j u, (upto f n)[j]? = some u → w.cell? ((⟨b, off, none⟩ : Addr).add j) = some u := by
  intro j u hu
  have hj : j < n := by
    have := (List.getElem?_eq_some_iff.1 hu).1
    simpa [upto] using this
  rw [upto_get f hj] at hu
  rw [Addr.add_lit, hc j hj]
  exact hu
theorem upto_one (f : Nat → Int) (n : Nat) : ∀ u ∈ upto f n, u.oneCell' = true := by
  intro u hu
  simp only [upto, List.mem_map] at hu
  obtain ⟨j, _, rfl⟩ := hu
  rfl
set_option maxRecDepth 100000 in
theorem clone_any (A : Option Addr) (n c : Nat) (f : Nat → Int) (hn : n ≤ 1048576) (h0 : 0 < n) (w : World) (hA : Nums w w.heap.size A (n * 4) f) :
    Calls Tryd.prog 55 #[.slice A n c] w fun e w' => ∃ g cap, e = .returned (.slice (some ⟨g, 0, none⟩) n cap) ∧ w.heap.size ≤ g ∧ Hid (At w' g (n * 4) f) ∧ Below w.heap.size w w' := by
  obtain ⟨i0, hi0, hz0, hz1, hz2⟩ := info_parts info_re
  have HI := Lib.hid (And.intro hi0 (And.intro hz0 (And.intro hz1 hz2)))
  clear hi0 hz0 hz1 hz2
  obtain ⟨b, off, rfl, hlt, hc⟩ := hA (by omega)
  have HC := Lib.hid (cells_upto (fun i hi => (World.cell?_alloc_lt w _ _ (show (⟨b, off + i, none⟩ : Addr).block < w.heap.size from hlt)).trans (hc i hi) : ∀ i, i < n * 4 → (w.alloc (.cells #[] 54)).cell? ⟨b, off + i, none⟩ = some (.int .i64 (f i))))
  clear hc hA hlt
  have q22 : ∀ (w : World) (a : Option Addr) (n c n' c' : Nat), (binOp .eql 25 (.slice a n c) (.slice none n' c')).run Tryd.prog w = .ok (.bool a.isNone) w := fun w a n c n' c' => Lib.run_eql_slice_nil w _ _ a n c n' c' Tryd.underlying25
  go_enter Tryd.func55, Tryd.ntmps55
  go_wp2_with (at_builtin; refine wpList_append_own _ rfl _ _ 25 rfl w.heap.size 54 i0 _ 4 32 Tryd.underlying25 HI.out.1 HI.out.2.1 HI.out.2.2.1 HI.out.2.2.2 rfl (by decide) _ _ _ rfl (World.ownsRow_made w #[] 0 (Nat.le_refl _) (by simp [maxLen]) rfl) ⟨b, off, none⟩ n c (upto f (n * 4)) rfl ?c0 ?c1 ?c2 ?c3 ?c4 ?c5 ?_)
  case c0 => simp [upto]
  case c1 => exact HC.out
  case c2 => exact upto_one f (n * 4)
  case c3 => unfold maxLen; omega
  case c4 => omega
  case c5 => simp
  intro v' w1 hown hgrow _
  have HB := Lib.hid (((Below.refl _ w).alloc (Nat.le_refl _) (.cells #[] 54)).grown hgrow (by simp) (by intro k hk; simp [Value.ownBlock] at hk; omega))
  have hown' : w1.ownsRow w.heap.size 54 4 v' n (upto f (n * 4)) := by simpa using hown
  obtain ⟨g, cap, rfl, hg, hat⟩ := at_of_rows hown' h0
  have HT := Lib.hid hat
  clear hown hown' hgrow hat
  go_wp2_with fail
  go_ret
  exact ⟨g, cap, rfl, hg, HT, HB.out⟩
theorem pair_no {w w' : World} {c : Int} (hb : Below w.heap.size w w') (d : Nat → Int) : PairS 0 d c w (.returned (.tuple #[.slice none 0 0, .int .i64 c])) w' := ⟨none, 0, rfl, Lib.hid fun h => absurd h (by omega), hb⟩
theorem pair_at {n g cap : Nat} {f : Nat → Int} {w w1 w' : World} (h : At w' g (n * 4) f) (hg : w.heap.size ≤ g) (hb : Below w.heap.size w w') : PairS n f 0 w (.returned (.tuple #[.slice (some ⟨g, 0, none⟩) n cap, .int .i64 0])) w' :=
  ⟨_, _, rfl, Lib.hid fun hn => ⟨g, 0, rfl, hg, h.1, fun i hi => by rw [Nat.zero_add]; exact h.2.1 i hi, h.2.2⟩, hb⟩
theorem four_set (f : Nat → Int) (k : Nat) (al : Int) : (fun i => if i = k * 4 + 3 then f (k * 4 + 3) else if i = k * 4 + 2 then f (k * 4 + 2) else if i = k * 4 + 1 then al else if i = k * 4 then f (k * 4) else f i) = aaD f k al := by
  funext i
  unfold aaD
  by_cases e3 : i = k * 4 + 3
  · subst e3; rw [if_pos rfl, if_neg (by omega)]
  rw [if_neg e3]
  by_cases e2 : i = k * 4 + 2
  · subst e2; rw [if_pos rfl, if_neg (by omega)]
  rw [if_neg e2]
  by_cases e1 : i = k * 4 + 1
  · rw [if_pos e1, if_pos e1]
  rw [if_neg e1, if_neg e1]
  by_cases e0 : i = k * 4
  · subst e0; rw [if_pos rfl]
  · rw [if_neg e0]
theorem at_four {w : World} {g n kn : Nat} {f : Nat → Int} {al : Int} (h : At w g (n * 4) f) (hk : kn < n) : At ((((w.setCell ⟨g, kn * 4, none⟩ (.int .i64 (f (kn * 4)))).setCell ⟨g, kn * 4 + 1, none⟩ (.int .i64 al)).setCell ⟨g, kn * 4 + 2, none⟩ (.int .i64 (f (kn * 4 + 2)))).setCell ⟨g, kn * 4 + 3, none⟩ (.int .i64 (f (kn * 4 + 3)))) g (n * 4) (aaD f kn al) := by
  rw [← four_set]
  exact at_set (at_set (at_set (at_set h (j := kn * 4) (by omega) (f (kn * 4))) (j := kn * 4 + 1) (by omega) al) (j := kn * 4 + 2) (by omega) (f (kn * 4 + 2))) (j := kn * 4 + 3) (by omega) (f (kn * 4 + 3))
set_option maxRecDepth 100000 in
set_option maxHeartbeats 2000000 in
theorem spec_aa (k al : Int) (A : Option Addr) (n c : Nat) (f : Nat → Int) (hn : n ≤ 1048576) (w : World) (hA : Nums w w.heap.size A (n * 4) f) :
    Calls Tryd.prog 27 #[.slice A n c, .int .i64 k, .int .i64 al] w (PairS (aaM n f k al) (aaD f k.toNat al) (aaC n f k al) w) := by
  have HA := Lib.hid hA
  have C0 := Lib.hid (ok A n c f hn w hA)
  have C1 := Lib.hid (fun w => Stv.in_any k 0 ((n : Int) - 1) w)
  have C2 := Lib.hid (fun w => allow al w)
  have HN1 : Hid (tv (StP n f) = false → PairS (aaM n f k al) (aaD f k.toNat al) (aaC n f k al) w (.returned (.tuple #[.slice none 0 0, .int .i64 1])) w) := Lib.hid fun h => by
    unfold aaM aaC okA; rw [h]; exact pair_no (Below.refl _ _) _
  have HN2 : Hid (tv (StP n f) = true → (inB k 0 ((n : Int) - 1) && inB al 0 200) = false → PairS (aaM n f k al) (aaD f k.toNat al) (aaC n f k al) w (.returned (.tuple #[.slice none 0 0, .int .i64 2])) w) := Lib.hid fun h h2 => by
    unfold aaM aaC okA; rw [h, h2]; exact pair_no (Below.refl _ _) _
  have HY : Hid (tv (StP n f) = true → (inB k 0 ((n : Int) - 1) && inB al 0 200) = true → ∀ g cap w', At w' g (n * 4) (aaD f k.toNat al) → w.heap.size ≤ g → Below w.heap.size w w' → PairS (aaM n f k al) (aaD f k.toNat al) (aaC n f k al) w (.returned (.tuple #[.slice (some ⟨g, 0, none⟩) n cap, .int .i64 0])) w') := Lib.hid fun h h2 g cap w' h3 h4 h5 => by
    unfold aaM aaC okA; rw [h, h2]; exact pair_at (w1 := w) h3 h4 h5
  have HI : Hid (tv (StP n f) = true → inB k 0 ((n : Int) - 1) = true → 3 ≤ n ∧ n ≤ 12 ∧ k = (k.toNat : Int) ∧ k.toNat < n) := Lib.hid fun h h2 => by
    have h3 := tv_iff.1 h
    have h4 := Ba.in_of h2
    exact ⟨h3.2.1, h3.2.2, by omega, by omega⟩
  obtain ⟨i0, hi0, hz0, hz1, hz2⟩ := info_parts info_re
  have HIn := Lib.hid (And.intro hi0 (And.intro hz0 (And.intro hz1 hz2)))
  clear hA hi0 hz0 hz1 hz2
  generalize PairS (aaM n f k al) (aaD f k.toNat al) (aaC n f k al) w = Q at HN1 HN2 HY ⊢
  generalize tv (StP n f) = r at C0 HN1 HN2 HY HI
  generalize inB k 0 ((n : Int) - 1) = r1 at C1 HN2 HY HI
  generalize inB al 0 200 = r2 at C2 HN2 HY
  have t0 : IntKind.i64.wrap ((n : Int) - 1) = (n : Int) - 1 := by rw [IntKind.wrap_i64]; omega
  go_enter Tryd.func27, Tryd.ntmps27
  go_wp2_with fail
  refine C0.out.mono ?_
  rintro e w' ⟨rfl, rfl⟩
  cases r
  · have HX := Lib.hid (HN1.out rfl)
    clear HN1 HN2 HY HI
    go_wp2_with fail
    exact HX.out
  go_wp2_with fail
  refine (C1.out _).mono ?_
  rintro e w' ⟨rfl, rfl⟩
  cases r1
  · have HX := Lib.hid (HN2.out (by first | rfl | trivial) (by first | rfl | trivial))
    clear HN1 HN2 HY HI
    go_wp2_with fail
    exact HX.out
  go_wp2_with fail
  refine (C2.out _).mono ?_
  rintro e w' ⟨rfl, rfl⟩
  cases r2
  · have HX := Lib.hid (HN2.out (by first | rfl | trivial) (by first | rfl | trivial))
    clear HN1 HN2 HY HI
    go_wp2_with fail
    exact HX.out
  obtain ⟨n3, n12, hk, hkn⟩ := HI.out (by first | rfl | trivial) (by first | rfl | trivial)
  have HYr := Lib.hid (HY.out (by first | rfl | trivial) (by first | rfl | trivial))
  clear HN1 HN2 HY HI C0 C1 C2
  generalize k.toNat = kn at hk hkn HYr
  subst hk
  obtain ⟨b, off, rfl, hlt, hc⟩ := HA.out (by omega)
  have HC := Lib.hid (cells_upto (fun i hi => (World.cell?_alloc_lt w _ _ (show (⟨b, off + i, none⟩ : Addr).block < w.heap.size from hlt)).trans (hc i hi) : ∀ i, i < n * 4 → (w.alloc (.cells #[] 54)).cell? ⟨b, off + i, none⟩ = some (.int .i64 (f i))))
  clear hc hlt
  go_wp2_with (at_builtin; refine wpList_append_own _ rfl _ _ 25 rfl w.heap.size 54 i0 _ 4 32 Tryd.underlying25 HIn.out.1 HIn.out.2.1 HIn.out.2.2.1 HIn.out.2.2.2 rfl (by decide) _ _ _ rfl (World.ownsRow_made w #[] 0 (Nat.le_refl _) (by simp [maxLen]) rfl) ⟨b, off, none⟩ n c (upto f (n * 4)) rfl ?c0 ?c1 ?c2 ?c3 ?c4 ?c5 ?_)
  case c0 => simp [upto]
  case c1 => exact HC.out
  case c2 => exact upto_one f (n * 4)
  case c3 => unfold maxLen; omega
  case c4 => omega
  case c5 => simp
  intro v' w1 hown hgrow _
  have HB := Lib.hid (((Below.refl _ w).alloc (Nat.le_refl _) (.cells #[] 54)).grown hgrow (by simp) (by intro k hk; simp [Value.ownBlock] at hk; omega))
  have hown' : w1.ownsRow w.heap.size 54 4 v' n (upto f (n * 4)) := by simpa using hown
  obtain ⟨g, cap, rfl, hg, hat⟩ := at_of_rows hown' (by omega)
  have HT := Lib.hid hat
  clear hown hown' hgrow hat
  have x0 := HT.out.2.1 (kn * 4) (by omega)
  have x1 := HT.out.2.1 (kn * 4 + 1) (by omega)
  have x2 := HT.out.2.1 (kn * 4 + 2) (by omega)
  have x3 := HT.out.2.1 (kn * 4 + 3) (by omega)
  have z0 := HT.out.2.2 (kn * 4)
  have z1 := HT.out.2.2 (kn * 4 + 1)
  have z2 := HT.out.2.2 (kn * 4 + 2)
  have z3 := HT.out.2.2 (kn * 4 + 3)
  have hgl := HT.out.1
  have e0 : (0 : Int) ≤ (kn : Int) := Int.natCast_nonneg _
  have e1 : (kn : Int) < (n : Int) := by omega
  have HT2 := Lib.hid ((at_four (al := al) HT.out hkn).below (below_box _ (reC (f (kn * 4)) al (f (kn * 4 + 2)) (f (kn * 4 + 3)) 54)))
  have HB2 := Lib.hid (below_then ((((HB.out.setCell (p := ⟨g, kn * 4, none⟩) hg (.int .i64 (f (kn * 4)))).setCell (p := ⟨g, kn * 4 + 1, none⟩) hg (.int .i64 al)).setCell (p := ⟨g, kn * 4 + 2, none⟩) hg (.int .i64 (f (kn * 4 + 2)))).setCell (p := ⟨g, kn * 4 + 3, none⟩) hg (.int .i64 (f (kn * 4 + 3)))) (below_box _ (reC (f (kn * 4)) al (f (kn * 4 + 2)) (f (kn * 4 + 3)) 54)))
  have HX := Lib.hid (HYr.out g cap _ HT2.out hg HB2.out)
  clear HT HT2 HB HB2 HYr HC HIn t0
  generalize f (kn * 4) = u0 at *
  generalize f (kn * 4 + 1) = u1 at *
  generalize f (kn * 4 + 2) = u2 at *
  generalize f (kn * 4 + 3) = u3 at *
  go_wp2_with fail
  exact HX.out
set_option maxRecDepth 100000 in
set_option maxHeartbeats 2000000 in
theorem impl_aa (k al : Int) (A : Option Addr) (n c : Nat) (f : Nat → Int) (hn : n ≤ 1048576) (w : World) (hV : V3 w) (hA : Nums w w.heap.size A (n * 4) f) :
    Calls Tryd.prog 28 #[.slice A n c, .int .i64 k, .int .i64 al] w (PairS (aaM n f k al) (aaD f k.toNat al) (aaC n f k al) w) := by
  have HA := Lib.hid hA
  have C0 := Lib.hid (Es.check_strips A n c f hn w hA hV.cnt hV.out)
  have CC := Lib.hid (fun x hx W (hb : Below w.heap.size w W) => code_of 1 (tv (StP n f)) x hx W (hV.ety.below hb))
  have CK := Lib.hid (fun W (hb : Below w.heap.size w W) => check_allow (n : Int) k al (by omega) W (hV.out.below hb))
  have CD := Lib.hid (fun x hx W (hb : Below w.heap.size w W) => code_of 2 (inB k 0 ((n : Int) - 1) && inB al 0 200) x hx W (hV.ety.below hb))
  have HN1 : Hid (tv (StP n f) = false → ∀ W, Below w.heap.size w W → PairS (aaM n f k al) (aaD f k.toNat al) (aaC n f k al) w (.returned (.tuple #[.slice none 0 0, .int .i64 1])) W) := Lib.hid fun h W hb => by
    unfold aaM aaC okA; rw [h]; exact pair_no hb _
  have HN2 : Hid (tv (StP n f) = true → (inB k 0 ((n : Int) - 1) && inB al 0 200) = false → ∀ W, Below w.heap.size w W → PairS (aaM n f k al) (aaD f k.toNat al) (aaC n f k al) w (.returned (.tuple #[.slice none 0 0, .int .i64 2])) W) := Lib.hid fun h h2 W hb => by
    unfold aaM aaC okA; rw [h, h2]; exact pair_no hb _
  have HY : Hid (tv (StP n f) = true → (inB k 0 ((n : Int) - 1) && inB al 0 200) = true → ∀ g cap w', At w' g (n * 4) (aaD f k.toNat al) → w.heap.size ≤ g → Below w.heap.size w w' → PairS (aaM n f k al) (aaD f k.toNat al) (aaC n f k al) w (.returned (.tuple #[.slice (some ⟨g, 0, none⟩) n cap, .int .i64 0])) w') := Lib.hid fun h h2 g cap w' h3 h4 h5 => by
    unfold aaM aaC okA; rw [h, h2]; exact pair_at (w1 := w) h3 h4 h5
  have HI : Hid (tv (StP n f) = true → (inB k 0 ((n : Int) - 1) && inB al 0 200) = true → 3 ≤ n ∧ n ≤ 12 ∧ k = (k.toNat : Int) ∧ k.toNat < n) := Lib.hid fun h h2 => by
    have h3 := tv_iff.1 h
    simp only [Bool.and_eq_true] at h2
    have h4 := Ba.in_of h2.1
    exact ⟨h3.2.1, h3.2.2, by omega, by omega⟩
  have CL := Lib.hid (fun (h0 : 0 < n) W (hb : Below w.heap.size w W) => clone_any A n c f hn h0 W ((hA.below hb (Nat.le_refl _)).more hb.size))
  clear hA hV
  generalize PairS (aaM n f k al) (aaD f k.toNat al) (aaC n f k al) w = Q at HN1 HN2 HY ⊢
  generalize tv (StP n f) = r at C0 CC HN1 HN2 HY HI
  generalize (inB k 0 ((n : Int) - 1) && inB al 0 200) = r1 at CK CD HN2 HY HI
  go_enter Tryd.func28, Tryd.ntmps28
  go_wp2_with fail
  refine C0.out.mono ?_
  rintro e w1 ⟨⟨x, rfl, hx⟩, b1⟩
  have HB1 := Lib.hid b1
  have C1 := Lib.hid (CC.out x hx w1 b1)
  clear b1 hx C0 CC
  cases r
  · have HNr := Lib.hid (HN1.out rfl)
    clear HN1 HN2 HY HI CL CK CD
    simp only [Bool.false_eq_true, if_false] at C1
    go_wp2_with fail
    refine C1.out.mono ?_
    rintro e w2 ⟨rfl, b2⟩
    have HX := Lib.hid (HNr.out w2 (below_then HB1.out b2))
    clear b2 C1 HNr
    go_wp2_with fail
    exact HX.out
  simp only [if_true] at C1
  have HN2r := Lib.hid (HN2.out rfl)
  have HYr := Lib.hid (HY.out rfl)
  have HIr := Lib.hid (HI.out rfl)
  clear HN1 HN2 HY HI
  go_wp2_with fail
  refine C1.out.mono ?_
  rintro e w2 ⟨rfl, b2⟩
  have HB2 := Lib.hid (below_then HB1.out b2)
  have CK2 := Lib.hid (CK.out w2 HB2.out)
  clear b2 C1 HB1 CK
  go_wp2_with fail
  refine CK2.out.mono ?_
  rintro e w3 ⟨⟨x, rfl, hx⟩, b3⟩
  have HB3 := Lib.hid (below_then HB2.out b3)
  have C3 := Lib.hid (CD.out x hx w3 HB3.out)
  clear b3 hx CK2 CD HB2
  cases r1
  · have HNr := Lib.hid (HN2r.out rfl)
    clear HN2r HYr HIr CL
    simp only [Bool.false_eq_true, if_false] at C3
    go_wp2_with fail
    refine C3.out.mono ?_
    rintro e w4 ⟨rfl, b4⟩
    have HX := Lib.hid (HNr.out w4 (below_then HB3.out b4))
    clear b4 C3 HNr
    go_wp2_with fail
    exact HX.out
  simp only [if_true] at C3
  obtain ⟨n3, n12, hk, hkn⟩ := HIr.out rfl
  have HYs := Lib.hid (HYr.out rfl)
  clear HN2r HYr HIr
  generalize k.toNat = kn at hk hkn HYs
  subst hk
  go_wp2_with fail
  refine C3.out.mono ?_
  rintro e w4 ⟨rfl, b4⟩
  have HB4 := Lib.hid (below_then HB3.out b4)
  have CL4 := Lib.hid (CL.out (by omega) w4 HB4.out)
  clear b4 C3 HB3 CL
  go_wp2_with fail
  refine CL4.out.mono ?_
  rintro e w5 ⟨g, cap, rfl, hg, HT, b5⟩
  have HB5 := Lib.hid (below_then HB4.out b5)
  have hg0 : w.heap.size ≤ g := Nat.le_trans HB4.out.size hg
  clear b5 CL4 HB4 hg
  have x1 := HT.out.2.1 (kn * 4 + 1) (by omega)
  have z1 := HT.out.2.2 (kn * 4 + 1)
  have hgl := HT.out.1
  have e0 : (0 : Int) ≤ (kn : Int) := Int.natCast_nonneg _
  have e1 : (kn : Int) < (n : Int) := by omega
  have HX := Lib.hid (HYs.out g cap _ (at_set HT.out (j := kn * 4 + 1) (by omega) al) hg0 (HB5.out.setCell (p := ⟨g, kn * 4 + 1, none⟩) hg0 (.int .i64 al)))
  clear HT HB5 HYs
  generalize f (kn * 4 + 1) = u1 at *
  go_wp2_with fail
  exact HX.out
end Go.Proofs.YtpmmfalpcooenaaDoor.C9a

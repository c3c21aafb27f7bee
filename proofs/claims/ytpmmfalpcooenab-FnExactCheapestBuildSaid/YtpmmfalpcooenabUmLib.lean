/- Sums without a build: the program's. -/
import Derived.Test.YtpmmfalpcooenabUnLib
import Derived.Deep.LoopGhost
import Derived.WalkMore
namespace Go.Proofs.Ytpmmfalpcooenab.Un
open Go.RowKit Go.Maps Ft Is Ge Qb Ly Kn Kf Mm

/-- The program's first question. -/
theorem arg_impl (A : Option Addr) (n c : Nat) (d : Nat → Int) (hn : n ≤ 1048576) (w : World) (hA : Nums w w.heap.size A n d) :
    Calls Try.prog 26 #[.slice A n c] w fun e w' => e = .returned (.bool (tv (LyP n d))) ∧ Below w.heap.size w w' := impl_valid A n c d hn w hA
theorem law64 : Keyed Try.prog 2 := int_keyed Try.underlying2
theorem zeroB (w : World) : (zeroValue 4).run Try.prog w = .ok (.bool false) w := by kernel_rfl
/-- What a sum reads as, as a key. -/
theorem key64 {z : Int} (h0 : -1000000 ≤ z) (h1 : z ≤ 1000000) : keyOf Try.prog 2 (.int .i64 z) = some (.int .i64 z) := keyOf_int_mk Try.underlying2 (WalkArith.wf_i64 (by omega))
/-- The sums up to k that have a build. -/
noncomputable def reach (d : Nat → Int) (n k : Nat) : Lit → Option Value
  | .int .i64 z => if 0 ≤ z ∧ z ≤ (k : Int) ∧ 0 ≤ F d Kf.w1 n z then some (.bool true) else none
  | _ => none
theorem reach_key {d : Nat → Int} {n k : Nat} (hk : k ≤ 1000) (l : Lit) (h : (reach d n k l).isSome = true) : ∃ j : Nat, j < 1001 ∧ l = .int .i64 (j : Int) := by
  unfold reach at h
  split at h
  · rename_i z
    split at h
    · rename_i q; exact ⟨z.toNat, by omega, by rw [show (z.toNat : Int) = z by omega]⟩
    · cases h
  · cases h
theorem reach_got {d : Nat → Int} {n k : Nat} (hL : LyP n d) {z : Int} (hz : z ≤ (k : Int)) : got (reach d n k (.int .i64 z)) (.bool false) = .bool (decide (0 ≤ F d Kf.w1 n z)) := by
  unfold reach got
  by_cases h0 : 0 ≤ z
  · by_cases h1 : 0 ≤ F d Kf.w1 n z
    · simp [h0, hz, h1]
    · simp [h1]
  · have := F_neg (lay1 hL) (n := z) (by omega)
    simp [h0, this]
theorem reach_zero {d : Nat → Int} {n : Nat} (hL : LyP n d) : upd (fun _ => none) (.int .i64 0) (.bool true) = reach d n 0 := by
  funext l
  by_cases e : l = .int .i64 0
  · subst e
    rw [upd_same]
    simp [reach, F_zero (lay1 hL)]
  · rw [upd_other _ _ e]
    unfold reach
    split
    · rename_i z
      rw [if_neg]
      rintro ⟨h1, h2, _⟩
      exact e (by rw [show z = 0 by omega])
    · rfl
theorem reach_yes {d : Nat → Int} {n k : Nat} (h : 0 ≤ F d Kf.w1 n ((k : Int) + 1)) : upd (reach d n k) (.int .i64 ((k : Int) + 1)) (.bool true) = reach d n (k + 1) := by
  funext l
  by_cases e : l = .int .i64 ((k : Int) + 1)
  · subst e
    rw [upd_same]
    simp only [reach]
    rw [if_pos ⟨by omega, by omega, h⟩]
  · rw [upd_other _ _ e]
    unfold reach
    split
    · rename_i z
      have hz : z ≠ (k : Int) + 1 := fun q => e (by rw [q])
      by_cases q : 0 ≤ z ∧ z ≤ (k : Int) ∧ 0 ≤ F d Kf.w1 n z
      · rw [if_pos q, if_pos ⟨q.1, by omega, q.2.2⟩]
      · rw [if_neg q, if_neg fun p => q ⟨p.1, by omega, p.2.2⟩]
    · rfl
theorem reach_no {d : Nat → Int} {n k : Nat} (h : F d Kf.w1 n ((k : Int) + 1) < 0) : reach d n k = reach d n (k + 1) := by
  funext l
  unfold reach
  split
  · rename_i z
    by_cases q : 0 ≤ z ∧ z ≤ (k : Int) ∧ 0 ≤ F d Kf.w1 n z
    · rw [if_pos q, if_pos ⟨q.1, by omega, q.2.2⟩]
    · rw [if_neg q, if_neg]
      rintro ⟨p1, p2, p3⟩
      refine q ⟨p1, ?_, p3⟩
      by_cases e : z = (k : Int) + 1
      · rw [e] at p3; omega
      · omega
  · rfl

theorem pair_nil {n : Nat} {d : Nat → Int} {w w' : World} {B : Nat} {v : Value} (h : w'.ownsRow B 2 1 v n (upto d n)) (hB : w.heap.size ≤ B) (hb : Below w.heap.size w w') : PairAt n d 0 w (.returned (.tuple #[v, .int .i64 0])) w' := by
  rcases h.2 with ⟨rfl, h0⟩ | ⟨g, cap, cur, rfl, hbg, hh, _⟩
  · subst h0
    exact ⟨none, 0, rfl, Lib.hid fun h => absurd h (by omega), hb⟩
  · exact ⟨_, cap, rfl, Lib.hid fun _ => ⟨g, 0, rfl, by omega, lt_of_heap hh, fun i hi => by
      rw [Nat.zero_add]
      exact (h.cellAt i (by omega)).trans (upto_get d hi), fun i => Ge.blk_free hh i⟩, hb⟩
theorem row_turn {w w' : World} {base b : Nat} {e : TypeId} {size n : Nat} {v : Value} {xs : List Value} (h : w.ownsRow base e size v n xs) (hg : w.grownBy w' (some b)) (hb : b < base) : w'.ownsRow base e size v n xs :=
  ⟨h.1, by
    rcases h.2 with h0 | ⟨g, cap, cur, hv, hbg, hh, r⟩
    · exact .inl h0
    · exact .inr ⟨g, cap, cur, hv, hbg, (hg.block g (lt_of_heap hh) (by simp; omega)).trans hh, r⟩⟩
theorem nil_row (w : World) (B : Nat) (d : Nat → Int) : w.ownsRow B 2 1 (.slice none 0 0) 0 (upto d 0) := ⟨rfl, .inl ⟨rfl, rfl⟩⟩
set_option maxRecDepth 100000 in
set_option maxHeartbeats 4000000 in
theorem impl_un (A : Option Addr) (n c : Nat) (d : Nat → Int) (s : Int) (hn : n ≤ 1048576) (w : World) (hA : Nums w w.heap.size A n d) :
    Calls Try.prog 36 #[.slice A n c, .int .i64 s] w (PairAt (unL n d s).length (lsD (unL n d s)) (codeL n d s) w) := by
  have C1 := Lib.hid (arg_impl A n c d hn w hA)
  have C2 := Lib.hid (fun w => sum_any s w)
  have C3 := Lib.hid (fun w => Ba.arg_any (tv (LyP n d)) (inB s 0 1000) w)
  have HC : Hid (codeL n d s = Ba.argE (tv (LyP n d)) (inB s 0 1000)) := Lib.hid rfl
  have HA := Lib.hid hA
  by_cases h0 : codeL n d s = 0
  · obtain ⟨hL, hs0, hs1⟩ := code_ok h0
    obtain ⟨S, rfl⟩ : ∃ S : Nat, s = S := ⟨s.toNat, by omega⟩
    obtain ⟨i0, hi0, hz0, hz1, hz2⟩ := info_parts info_int
    have HI := Lib.hid (And.intro hi0 (And.intro hz0 (And.intro hz1 hz2)))
    have HU : unL n d (S : Int) = fl (noP d n) (S + 1) := by unfold unL; rw [if_pos h0]; simp
    rw [HU, h0]
    have hv : Ba.argE (tv (LyP n d)) (inB (S : Int) 0 1000) = 0 := HC.out.symm.trans h0
    rw [hv] at C3
    have HP : Hid (∀ v w' B, w'.ownsRow B 2 1 v (fl (noP d n) (S + 1)).length (upto (lsD (fl (noP d n) (S + 1))) (fl (noP d n) (S + 1)).length) → w.heap.size ≤ B → Below w.heap.size w w' → PairAt (fl (noP d n) (S + 1)).length (lsD (fl (noP d n) (S + 1))) 0 w (.returned (.tuple #[v, .int .i64 0])) w') := Lib.hid fun v w' B h h0 hb => pair_nil h h0 hb
    have HT : Hid (∀ k : Nat, noP d n (k + 1) = decide (F d Kf.w1 n ((k : Int) + 1) < 0)) := Lib.hid fun k => rfl
    have HT0 : Hid (noP d n 0 = false) := Lib.hid (by unfold noP FT; rw [show ((0 : Nat) : Int) = 0 from rfl, F_zero (lay1 hL)]; rfl)
    have HR : Hid (∀ k : Nat, 0 ≤ F d Kf.w1 n ((k : Int) + 1) ↔ ∃ i, i < n ∧ 0 ≤ F d Kf.w1 n ((k : Int) + 1 - d i)) := Lib.hid fun k => F_reach (lay1 hL) (by omega)
    have HG : Hid (∀ (k : Nat) (z : Int), z ≤ (k : Int) → got (reach d n k (.int .i64 z)) (.bool false) = .bool (decide (0 ≤ F d Kf.w1 n z))) := Lib.hid fun k z hz => reach_got hL hz
    have HG0 := Lib.hid (reach_zero hL)
    have HGy := Lib.hid (fun (k : Nat) h => reach_yes (d := d) (n := n) (k := k) h)
    have HGn := Lib.hid (fun (k : Nat) h => reach_no (d := d) (n := n) (k := k) h)
    have HGk := Lib.hid (fun (k : Nat) (hk : k ≤ 1000) => reach_key (d := d) (n := n) hk)
    have HD : Hid (∀ i, i < n → 1 ≤ d i ∧ d i ≤ 200) := Lib.hid (lay_of hL)
    have hn8 := hL.1
    have hmm := @run_makeMap Try.prog
    generalize PairAt _ _ _ w = Q at HP ⊢
    generalize noP d n = p at HP HT HT0
    generalize F d Kf.w1 n = T at HT HR HG HGy HGn
    generalize reach d n = g at HG HG0 HGy HGn HGk
    generalize tv (LyP n d) = r1 at C1 C3
    generalize inB (S : Int) 0 1000 = r2 at C2 C3
    clear hi0 hz0 hz1 hz2 hA HU h0 hL hv HC
    go_enter Try.func36, Try.ntmps36
    go_wp2_with fail
    go_step3
    go_wp2_with fail
    refine C1.out.mono ?_
    rintro e w1 ⟨rfl, b1⟩
    have HB1 := Lib.hid b1
    clear C1 b1
    go_wp2_with fail
    refine (C2.out _).mono ?_
    rintro e w2 ⟨rfl, rfl⟩
    go_wp2_with fail
    refine (C3.out _).mono ?_
    rintro e w3 ⟨rfl, rfl⟩
    have HM0 := Lib.hid (MapIs.made w1 Try.prog 2)
    have HB2 := Lib.hid (below_then HB1.out (below_box w1 (.map #[] 0)))
    have hz1 := HB1.out.size
    go_wp2_with (refine wp_insert _ rfl _ _ _ 109 rfl 2 4 law64 Try.underlying109 (fun j => .int .i64 (j : Int)) 1001 w1.heap.size (fun _ => none) (fun l h => by cases h) (by decide) rfl HM0.out _ _ (.int .i64 0) rfl rfl (key64 (by omega) (by omega)) ?_)
    intro w4 hm4 hg4
    have HM4 : Hid (MapIs Try.prog 2 w4 w1.heap.size (g 0)) := Lib.hid (by rw [← HG0.out]; exact hm4)
    have HB4 := Lib.hid (HB2.out.grown hg4 (by simp; omega) (fun j hj => by cases hj; exact hz1))
    clear hm4 hg4 HM0 HB2
    go_wp2_with fail
    go_step3
    go_wp2_with fail
    go_loopg [8, 9] S (fun kx o i wr => ∃ (k : Nat) (v : Value), k ≤ S ∧ kx = S - k ∧ v = o ∧ i = .int .i64 ((k : Int) + 1) ∧ Hid (Below w.heap.size w wr) ∧ w1.heap.size < wr.heap.size ∧ Hid (MapIs Try.prog 2 wr w1.heap.size (g k)) ∧ Hid (wr.ownsRow (w1.heap.size + 1) 2 1 v (fl p (k + 1)).length (upto (lsD (fl p (k + 1))) (fl p (k + 1)).length)))
    case atStart => exact ⟨0, _, Nat.zero_le _, rfl, rfl, rfl, HB4, HM4.out.lt, HM4, Lib.hid (by rw [fl_no HT0.out]; exact nil_row _ _ _)⟩
    case round =>
      obtain ⟨k, v, hk, rfl, rfl, rfl, HB, hlt1, HM, HO⟩ := hrel
      have e0 : (0 : Int) ≤ (k : Int) := Int.natCast_nonneg _
      by_cases hlt : k < S
      · have hle : (k : Int) + 1 ≤ (S : Int) := by omega
        have HX := Lib.hid (HA.out.below HB.out (Nat.le_refl _))
        have HTk := Lib.hid (HT.out k)
        have HRk := Lib.hid (HR.out k)
        have hzr := HB.out.size
        go_wp2_with fail
        go_loopg [11, 29] n (fun ky _ i wx => ∃ j : Nat, j ≤ n ∧ ky = n - j ∧ i = .int .i64 (j : Int) ∧ wx = wr ∧ Hid (∀ q, q < j → T ((k : Int) + 1 - d q) < 0))
        case atStart => exact ⟨0, Nat.zero_le _, rfl, rfl, rfl, Lib.hid fun q hq => by omega⟩
        case round =>
          obtain ⟨j, hj, rfl, rfl, rfl, hno⟩ := hrel
          by_cases hjn : j < n
          · obtain ⟨b, off, rfl, hb, hc⟩ := HX.out (by omega)
            have x0 := hc j hjn
            obtain ⟨d1, d2⟩ := HD.out j hjn
            have e1 : (0 : Int) ≤ (j : Int) := Int.natCast_nonneg _
            have e2 : (j : Int) < (n : Int) := by omega
            have HL := Lib.hid (HG.out k ((k : Int) + 1 - d j) (by omega))
            have HRj : Hid (0 ≤ T ((k : Int) + 1 - d j) → 0 ≤ T ((k : Int) + 1)) := Lib.hid fun h => HRk.out.2 ⟨j, hjn, h⟩
            clear hc
            by_cases hz : 0 ≤ T ((k : Int) + 1 - d j)
            · have hT := HRj.out hz
              have HMn := Lib.hid (HGy.out k hT)
              rw [decide_eq_true hz] at HL
              have HO2 : Hid (wr.ownsRow (w1.heap.size + 1) 2 1 v (fl p (k + 1 + 1)).length (upto (lsD (fl p (k + 1 + 1))) (fl p (k + 1 + 1)).length)) := Lib.hid (by
                rw [fl_no (by rw [HTk.out]; simpa using hT)]
                exact HO.out)
              clear hz hT
              generalize d j = u at x0 d1 d2 HL
              go_wp2_with (first | (at_lookup; refine wp_look _ rfl _ _ 109 rfl 2 4 law64 Try.underlying109 (zeroB _) w1.heap.size (g k) rfl HM.out _ (.int .i64 ((k : Int) + 1 - u)) rfl (key64 (by omega) (by omega)) (.bool true) HL.out ?_) | (at_mapUpdate; refine wp_store _ rfl _ _ _ 109 rfl 2 4 law64 Try.underlying109 (fun j => .int .i64 (j : Int)) 1001 w1.heap.size (g k) (HGk.out k (by omega)) (by decide) rfl HM.out _ _ (.int .i64 ((k : Int) + 1)) rfl rfl (key64 (by omega) (by omega)) ?_) | go_in)
              intro w5 hm5 hg5
              have HM5 : Hid (MapIs Try.prog 2 w5 w1.heap.size (g (k + 1))) := Lib.hid (by rw [← HMn.out]; exact hm5)
              have HB5 := Lib.hid (HB.out.grown hg5 hzr (fun j hj => by cases hj; exact hz1))
              have HO5 := Lib.hid (row_turn HO2.out hg5 (by omega))
              have hs5 := hg5.size
              clear hm5 hg5
              go_wp2_with fail
              go_roundg (S - (k + 1))
              case measure => omega
              case rel => exact ⟨k + 1, _, by omega, rfl, rfl, by go_num, HB5, by omega, HM5, HO5⟩
            · rw [decide_eq_false hz] at HL
              have HN2 : Hid (∀ q, q < j + 1 → T ((k : Int) + 1 - d q) < 0) := Lib.hid fun q hq => by
                by_cases e : q = j
                · rw [e]; omega
                · exact hno.out q (by omega)
              clear hz
              generalize d j = u at x0 d1 d2 HL
              go_wp2_with (at_lookup; refine wp_look _ rfl _ _ 109 rfl 2 4 law64 Try.underlying109 (zeroB _) w1.heap.size (g k) rfl HM.out _ (.int .i64 ((k : Int) + 1 - u)) rfl (key64 (by omega) (by omega)) (.bool false) HL.out ?_)
              go_wp2_with fail
              go_roundg (n - (j + 1))
              case measure => omega
              case rel => exact ⟨j + 1, by omega, rfl, by go_num, rfl, HN2⟩
          · obtain rfl : j = n := by omega
            have hT : T ((k : Int) + 1) < 0 := by
              refine Classical.byContradiction fun q => ?_
              obtain ⟨i, hi, h⟩ := HRk.out.1 (by omega)
              have := hno.out i hi
              omega
            have hp : p (k + 1) = true := by rw [HTk.out]; simpa using hT
            have HMn := Lib.hid (HGn.out k hT)
            have hk1 := fl_le p (k + 1)
            go_wp2_with (at_builtin; refine wpList_append_own _ rfl _ _ 22 rfl (w1.heap.size + 1) 2 i0 _ 1 8 Try.underlying22 HI.out.1 HI.out.2.1 HI.out.2.2.1 HI.out.2.2.2 rfl (by decide) _ _ _ rfl (HO.out.alloc _) ⟨wr.heap.size, 0, none⟩ 1 1 [.int .i64 ((k : Int) + 1)] rfl rfl ?c1 ?c2 ?c3 ?c4 ?c5 ?_)
            case c1 => exact cell_one_new _ _ _
            case c2 => simp [Value.oneCell']
            case c3 => unfold maxLen; omega
            case c4 => omega
            case c5 => first | omega | (simp <;> omega)
            intro v' w5 hown2 hgrow _
            have hlo := (HO.out.alloc (.cells #[.int .i64 ((k : Int) + 1)] 2)).lt
            have HB5 := Lib.hid ((HB.out.alloc hzr _).grown hgrow (by simp; omega) fun g hg => by have := (HO.out.lt g hg).1; omega)
            have HM5 : Hid (MapIs Try.prog 2 w5 w1.heap.size (g (k + 1))) := Lib.hid (by
              rw [← HMn.out]
              refine (HM.out.of_block ?_)
              rw [hgrow.block _ (by simp; omega) (fun e => by have := (HO.out.lt _ e.symm).1; omega), Below.heap_alloc _ _ _ (by omega)])
            have HO5 : Hid (w5.ownsRow (w1.heap.size + 1) 2 1 v' (fl p (k + 1 + 1)).length (upto (lsD (fl p (k + 1 + 1))) (fl p (k + 1 + 1)).length)) := Lib.hid (by
              rw [fl_yes hp, upto_ls, List.length_append]
              rw [show ((k + 1 : Nat) : Int) = (k : Int) + 1 by omega]
              exact hown2)
            have hs5 := hgrow.size
            clear hown2 hgrow
            go_wp2_with fail
            go_roundg (S - (k + 1))
            case measure => omega
            case rel => exact ⟨k + 1, _, by omega, rfl, rfl, by go_num, HB5, by simp at hs5; omega, HM5, HO5⟩
      · obtain rfl : k = S := by omega
        have hgt : ¬ (k : Int) + 1 ≤ (k : Int) := by omega
        have HF := Lib.hid (HP.out _ _ _ HO.out (by omega) HB.out)
        go_wp2_with fail
        try rw [Exit.noGoto_ret]
        exact HF.out
  · have HU : unL n d s = [] := by unfold unL; rw [if_neg h0]
    rw [HU]
    have hne : (codeL n d s != 0) = true := by simpa using h0
    rw [← HC.out] at C3
    have HP : Hid (∀ w', Below w.heap.size w w' → PairAt ([] : List Nat).length (lsD ([] : List Nat)) (codeL n d s) w (.returned (.tuple #[.slice none 0 0, .int .i64 (codeL n d s)])) w') := Lib.hid fun w' hb => pair_no hb (lsD [])
    generalize PairAt _ _ _ w = Q at HP ⊢
    generalize codeL n d s = r at C3 hne HP
    generalize tv (LyP n d) = r1 at C1 C3
    generalize inB s 0 1000 = r2 at C2 C3
    clear hA HU h0 HC
    go_enter Try.func36, Try.ntmps36
    go_wp2_with fail
    go_step3
    go_wp2_with fail
    refine C1.out.mono ?_
    rintro e w1 ⟨rfl, b1⟩
    have HF := Lib.hid (HP.out _ b1)
    clear b1
    go_wp2_with fail
    refine (C2.out _).mono ?_
    rintro e w2 ⟨rfl, rfl⟩
    go_wp2_with fail
    refine (C3.out _).mono ?_
    rintro e w3 ⟨rfl, rfl⟩
    go_wp2_with fail
    exact HF.out
end Go.Proofs.Ytpmmfalpcooenab.Un

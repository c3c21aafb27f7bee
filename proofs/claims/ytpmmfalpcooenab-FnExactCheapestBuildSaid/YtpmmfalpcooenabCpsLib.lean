/- The cheapest layers: the spec's. -/
import Derived.Test.YtpmmfalpcooenabCplLib
import Derived.Deep.LoopGhost
import Derived.Deep.QuietTactic
import Derived.BigQuiet
import Derived.IntWalk
namespace Go.Proofs.Ytpmmfalpcooenab.Cp
open Go.RowKit Go.Maps Ft Is Ge Qb Ly Kn Bh Fe
open Un (code_spec codeL code_ok)

theorem cc_not {n : Nat} {x : Nat → Int} {np : Nat} {p : Nat → Int} {s : Int} (h : codeL n x s ≠ 0) : cc n x np p s = codeL n x s := by
  unfold cc codeL Ba.argE at *
  cases h1 : tv (LyP n x)
  · rfl
  · rw [h1] at h
    cases h2 : inB s 0 1000
    · rfl
    · rw [h2] at h; simp at h
theorem cc_two {n : Nat} {x : Nat → Int} {np : Nat} {p : Nat → Int} {s : Int} (h : codeL n x s = 0) (h2 : prB n np p = false) : cc n x np p s = 2 := by
  have h1 := tv_iff.2 (code_ok h).1
  unfold cc Ba.argE
  rw [h1, h2, Bool.and_false]
  rfl
theorem cc_zero {n : Nat} {x : Nat → Int} {np : Nat} {p : Nat → Int} {s : Int} (h : codeL n x s = 0) (h2 : prB n np p = true) : cc n x np p s = 0 := by
  have h1 := tv_iff.2 (code_ok h).1
  have h3 : inB s 0 1000 = true := by have := (code_ok h).2; simp [inB]; omega
  unfold cc Ba.argE
  rw [h1, h2, h3]
  rfl
theorem al_next (p : Nat → Int) (k : Nat) : tv (Al 0 1000 (k + 1) p) = (tv (Al 0 1000 k p) && inB (p k) 0 1000) := by
  rw [Bool.eq_iff_iff, Bool.and_eq_true, tv_iff, tv_iff]
  exact ⟨fun h => ⟨fun i hi => h i (by omega), h k (by omega)⟩, fun h j hj => if e : j = k then e ▸ h.2 else h.1 j (by omega)⟩
theorem tri_own {m : Nat} {d : Nat → Int} {pr : Int} {w w' : World} {B : Nat} {v : Value} (h : w'.ownsRow B 2 1 v m (upto d m)) (hB : w.heap.size ≤ B) (hb : Below w.heap.size w w') : TriAt m d pr 0 w (.returned (.tuple #[v, .int .i64 pr, .int .i64 0])) w' := by
  rcases h.2 with ⟨rfl, h0⟩ | ⟨g, cap, cur, rfl, hbg, hh, _⟩
  · subst h0
    exact ⟨none, 0, rfl, Lib.hid fun h => absurd h (by omega), hb⟩
  · exact ⟨_, cap, rfl, Lib.hid fun _ => ⟨g, 0, rfl, by omega, lt_of_heap hh, fun i hi => by
      rw [Nat.zero_add]
      exact (h.cellAt i (by omega)).trans (upto_get d hi), fun i => Ge.blk_free hh i⟩, hb⟩
set_option maxRecDepth 100000 in
set_option maxHeartbeats 8000000 in
theorem spec_ch (A : Option Addr) (n c : Nat) (x : Nat → Int) (Ap : Option Addr) (np cp : Nat) (p : Nat → Int) (s : Int) (hn : n ≤ 1048576) (hnp : np ≤ 1048576) (w : World) (hA : Nums w w.heap.size A n x) (hP : Nums w w.heap.size Ap np p) :
    Calls Try.prog 37 #[.slice A n c, .slice Ap np cp, .int .i64 s] w (TriAt (chL n x np p s).length (bl x (chL n x np p s)) (chP n x np p s) (chC n x np p s) w) := by
  have C := Lib.hid (code_spec A n c x s hn w hA)
  have C5 := Lib.hid (fun v w => in_any v 0 1000 w)
  have HA := Lib.hid hA
  have HPp := Lib.hid hP
  clear hA hP
  obtain ⟨r0, hr0⟩ : ∃ r0 : Bool, ((np : Int) == (n : Int)) = r0 := ⟨_, rfl⟩
  have HD0 : Hid ((decide (np = n) && tv (Al 0 1000 0 p)) = r0) := Lib.hid (by
    have : tv (Al 0 1000 0 p) = true := tv_iff.2 fun i hi => absurd hi (Nat.not_lt_zero _)
    rw [this, Bool.and_true, ← hr0]
    by_cases h : np = n
    · subst h; simp
    · have : ¬ (np : Int) = (n : Int) := by omega
      simp [h, this])
  have HDs : Hid (∀ k, (decide (np = n) && tv (Al 0 1000 (k + 1) p)) = ((decide (np = n) && tv (Al 0 1000 k p)) && inB (p k) 0 1000)) := Lib.hid fun k => by rw [al_next, Bool.and_assoc]
  have HDn : Hid ((decide (np = n) && tv (Al 0 1000 np p)) = prB n np p) := Lib.hid rfl
  generalize hfb : (fun k => decide (np = n) && tv (Al 0 1000 k p)) = fb
  have hfk : ∀ k, (decide (np = n) && tv (Al 0 1000 k p)) = fb k := fun k => by rw [← hfb]
  have HF0 : Hid (fb 0 = r0) := Lib.hid (by rw [← hfk]; exact HD0.out)
  have HFs : Hid (∀ k, fb (k + 1) = (fb k && inB (p k) 0 1000)) := Lib.hid fun k => by rw [← hfk, ← hfk]; exact HDs.out k
  have HFn : Hid (fb np = prB n np p) := Lib.hid (by rw [← hfk]; exact HDn.out)
  clear hfb hfk HD0 HDs HDn
  by_cases h0 : codeL n x s = 0
  · cases hpr : prB n np p with
    | false =>
      have hf := cc_two (x := x) h0 hpr
      have q1 : chL n x np p s = [] := by unfold chL; rw [if_neg (by rw [hf]; decide)]
      have q2 : chC n x np p s = 2 := by unfold chC; rw [if_neg (by rw [hf]; decide), hf]
      have q3 : chP n x np p s = 0 := by unfold chP; rw [if_neg (by rw [hf]; decide)]
      have HP : Hid (∀ w', Below w.heap.size w w' → TriAt (chL n x np p s).length (bl x (chL n x np p s)) (chP n x np p s) (chC n x np p s) w (.returned (.tuple #[.slice none 0 0, .int .i64 0, .int .i64 2])) w') := Lib.hid fun w' hb => by rw [q1, q2, q3]; exact tri_no hb _
      generalize TriAt _ _ _ _ w = Q at HP ⊢
      rw [h0] at C
      rw [hpr] at HFn
      clear h0 hpr hf q1 q2 q3
      go_enter Try.func37, Try.ntmps37
      go_wp2_with fail
      refine C.out.mono ?_
      rintro e w1 ⟨rfl, b1⟩
      have HB1 := Lib.hid b1
      have HA1 := Lib.hid ((HA.out.below b1 (Nat.le_refl _)).more b1.size)
      have HP1 := Lib.hid ((HPp.out.below b1 (Nat.le_refl _)).more b1.size)
      clear b1 C HA HPp
      go_wp2_with fail
      go_loopw [10, 11] (fun f i wr => ∃ (k : Nat) (r : Bool), k ≤ np ∧ i = .int .i64 (k : Int) ∧ f = .bool r ∧ Hid (r = fb k) ∧ Hid (Below w1.heap.size w1 wr)) (fun _ i _ => np - (intOf i).toNat)
      case atStart => exact ⟨0, _, Nat.zero_le _, rfl, rfl, Lib.hid HF0.out.symm, Lib.hid (Below.refl _ _)⟩
      case round =>
        obtain ⟨k, r, hk, rfl, rfl, HR, HB⟩ := hrel
        by_cases hlt : k < np
        · obtain ⟨g, off, rfl, _, hc⟩ := (HP1.out.below HB.out (Nat.le_refl _)) (by omega)
          have x0 := hc k hlt
          have HFk := Lib.hid (HFs.out k)
          have e0 : (0 : Int) ≤ (k : Int) := Int.natCast_nonneg _
          have e1 : (k : Int) < (np : Int) := by omega
          have CI := Lib.hid (fun w => C5.out (p k) w)
          generalize inB (p k) 0 1000 = q at CI HFk
          generalize p k = u at x0 CI
          clear hc
          cases r
          · have HX := Lib.hid (show false = fb (k + 1) by rw [HFk.out, ← HR.out]; rfl)
            go_wp2_with fail
            go_roundw
            case rel => exact ⟨k + 1, false, by omega, by go_num, rfl, HX, HB⟩
            case measure => simp [intOf]; omega
          · have HX := Lib.hid (show q = fb (k + 1) by rw [HFk.out, ← HR.out]; rfl)
            go_wp2_with fail
            refine (CI.out _).mono ?_
            rintro e w2 ⟨rfl, rfl⟩
            go_wp2_with fail
            go_roundw
            case rel => exact ⟨k + 1, q, by omega, by go_num, rfl, HX, HB⟩
            case measure => simp [intOf]; omega
        · obtain rfl : np = k := by omega
          have HRn := Lib.hid (HR.out.trans HFn.out)
          clear HR HF0 HFs HFn
          obtain rfl : r = false := HRn.out
          have HE := Lib.hid (HP.out _ (below_then HB1.out HB.out))
          go_wp2_with fail
          exact bodyPost_ret (v := .tuple #[.slice none 0 0, .int .i64 0, .int .i64 2]) (by simp [results, Try.results37, go_sem]) rfl HE.out
    | true =>
      have hf := cc_zero (x := x) h0 hpr
      obtain ⟨hL, s0, s1⟩ := code_ok h0
      obtain ⟨hnn, hprs⟩ := pr_ok hpr
      obtain rfl : n = np := hnn.symm
      obtain ⟨S, rfl⟩ : ∃ S : Nat, s = S := ⟨s.toNat, by omega⟩
      have P := par2 hL hprs
      rw [h0] at C
      rw [hpr] at HFn
      have L := P.ok
      have HLx := Lib.hid (lay_of hL)
      have HPx := Lib.hid P.pr
      have hn8 := hL.1.2
      have HWx : ∀ i, i < n → wt p i ≤ 2000001 * x i := fun i hi => by
        have h1 := (P.pr i hi).2
        have h2 := (P.lay i hi).1
        show 2000 * p i + 1 ≤ _
        omega
      obtain ⟨i0, hi0, hz0, hz1, hz2⟩ := info_parts info_int
      have HNf := Lib.hid (And.intro hi0 (And.intro hz0 (And.intro hz1 hz2)))
      have HTb : Hid (∀ q : Nat, q ≤ 1000 → -1 ≤ F x (wt p) n (q : Int) ∧ F x (wt p) n (q : Int) ≤ 2000001000) := Lib.hid fun q hq => by have := F_bd L HWx (by decide) (n := (q : Int)) (by omega); omega
      have HT0 : Hid (F x (wt p) n ((0 : Nat) : Int) = 0) := Lib.hid (F_zero L)
      have HG0 : Hid (∀ k : Nat, G x (wt p) n ((k + 1 : Nat) : Int) 0 = -1) := Lib.hid fun k => rfl
      have HGm : Hid (∀ k : Nat, F x (wt p) n ((k + 1 : Nat) : Int) = G x (wt p) n ((k + 1 : Nat) : Int) n) := Lib.hid fun k => F_step L (by omega)
      have HGb : Hid (∀ k : Nat, k ≤ 1000 → ∀ j, j ≤ n → -1 ≤ G x (wt p) n (k : Int) j ∧ G x (wt p) n (k : Int) j ≤ 2000001000) := Lib.hid fun k hk j hj => by have := G_bd L HWx (by decide) (n := (k : Int)) (by omega) hj; omega
      have HGn : Hid (∀ k j : Nat, j < n → ((k + 1 : Nat) : Int) < x j → G x (wt p) n ((k + 1 : Nat) : Int) (j + 1) = G x (wt p) n ((k + 1 : Nat) : Int) j) := Lib.hid fun k j hj h => by
        rw [G_step L hj, F_neg L (by omega), if_neg (by omega)]
      have HGy : Hid (∀ k j q : Nat, j < n → ((k + 1 : Nat) : Int) - x j = (q : Int) → G x (wt p) n ((k + 1 : Nat) : Int) (j + 1) = if 0 ≤ F x (wt p) n (q : Int) ∧ (G x (wt p) n ((k + 1 : Nat) : Int) j < 0 ∨ F x (wt p) n (q : Int) + 2000 * p j + 1 < G x (wt p) n ((k + 1 : Nat) : Int) j) then F x (wt p) n (q : Int) + 2000 * p j + 1 else G x (wt p) n ((k + 1 : Nat) : Int) j) := Lib.hid fun k j q hj h => by
        have e : F x (wt p) n (q : Int) + wt p j = F x (wt p) n (q : Int) + 2000 * p j + 1 := by show _ + (2000 * p j + 1) = _; omega
        rw [G_step L hj, h, e]
      cases ho : co n x p S with
      | none =>
        have h1 : chL n x n p S = [] := by unfold chL; rw [if_pos hf, ho]; rfl
        have h2 : chC n x n p S = 3 := by unfold chC; rw [if_pos hf, ho]; rfl
        have h3 : chP n x n p S = 0 := by unfold chP; rw [if_pos hf, ho]; rfl
        have hTS : Hid (F x (wt p) n (S : Int) < 0) := Lib.hid ((F_neg_iff L).2 ho)
        have HP : Hid (∀ w', Below w.heap.size w w' → TriAt (chL n x n p S).length (bl x (chL n x n p S)) (chP n x n p S) (chC n x n p S) w (.returned (.tuple #[.slice none 0 0, .int .i64 0, .int .i64 3])) w') := Lib.hid fun w' hb => by rw [h1, h2, h3]; exact tri_no hb _
        generalize TriAt _ _ _ _ w = Q at HP ⊢
        obtain rfl : r0 = true := by rw [← hr0]; simp
        clear h0 hpr hf h1 h2 h3 ho hprs P hL
        generalize hTt : (fun q : Nat => F x (wt p) n (q : Int)) = Tt
        have hTk : ∀ q : Nat, F x (wt p) n (q : Int) = Tt q := fun q => by rw [← hTt]
        simp only [hTk] at HTb HT0 HGm HGy hTS
        clear hTk hTt
        have HU0 : Hid (upto Tt (0 + 1) = [.int .i64 0]) := Lib.hid (by rw [upto_snoc, HT0.out]; rfl)
        generalize G x (wt p) n = Gg at HG0 HGm HGb HGn HGy
        clear hi0 hz0 hz1 hz2 HWx L
        go_enter Try.func37, Try.ntmps37
        go_wp2_with fail
        refine C.out.mono ?_
        rintro e w1 ⟨rfl, b1⟩
        have HB1 := Lib.hid b1
        have HA1 := Lib.hid ((HA.out.below b1 (Nat.le_refl _)).more b1.size)
        have HP1 := Lib.hid ((HPp.out.below b1 (Nat.le_refl _)).more b1.size)
        clear b1 C HA HPp
        go_wp2_with fail
        go_loopw [10, 11] (fun f i wr => ∃ (k : Nat) (r : Bool), k ≤ n ∧ i = .int .i64 (k : Int) ∧ f = .bool r ∧ Hid (r = fb k) ∧ Hid (Below w1.heap.size w1 wr)) (fun _ i _ => n - (intOf i).toNat)
        case atStart => exact ⟨0, _, Nat.zero_le _, rfl, rfl, Lib.hid HF0.out.symm, Lib.hid (Below.refl _ _)⟩
        case round =>
          obtain ⟨k, r, hk, rfl, rfl, HR, HB⟩ := hrel
          by_cases hlt : k < n
          · obtain ⟨g, off, rfl, _, hc⟩ := (HP1.out.below HB.out (Nat.le_refl _)) (by omega)
            have x0 := hc k hlt
            have HFk := Lib.hid (HFs.out k)
            have e0 : (0 : Int) ≤ (k : Int) := Int.natCast_nonneg _
            have e1 : (k : Int) < (n : Int) := by omega
            have CI := Lib.hid (fun w => C5.out (p k) w)
            generalize inB (p k) 0 1000 = q at CI HFk
            generalize p k = u at x0 CI
            clear hc
            cases r
            · have HX := Lib.hid (show false = fb (k + 1) by rw [HFk.out, ← HR.out]; rfl)
              go_wp2_with fail
              go_roundw
              case rel => exact ⟨k + 1, false, by omega, by go_num, rfl, HX, HB⟩
              case measure => simp [intOf]; omega
            · have HX := Lib.hid (show q = fb (k + 1) by rw [HFk.out, ← HR.out]; rfl)
              go_wp2_with fail
              refine (CI.out _).mono ?_
              rintro e w2 ⟨rfl, rfl⟩
              go_wp2_with fail
              go_roundw
              case rel => exact ⟨k + 1, q, by omega, by go_num, rfl, HX, HB⟩
              case measure => simp [intOf]; omega
          · obtain rfl : n = k := by omega
            have HRn := Lib.hid (HR.out.trans HFn.out)
            clear HR HF0 HFs HFn
            obtain rfl : r = true := HRn.out
            have HBw := Lib.hid (below_then HB1.out HB.out)
            have HAw := Lib.hid ((HA1.out.below HB.out (Nat.le_refl _)).more HB.out.size)
            have HPw := Lib.hid ((HP1.out.below HB.out (Nat.le_refl _)).more HB.out.size)
            generalize hwa : wr = wa at HBw HAw HPw ⊢
            clear hwa HB HB1 HA1 HP1 HRn
            go_wp2_with fail
            go_loopg [12, 13, 14, 15, 16] S (fun kx o i _ _ _ wr => ∃ (k : Nat) (v : Value), k ≤ S ∧ kx = S - k ∧ v = o ∧ i = .int .i64 ((k : Int) + 1) ∧ Hid (Below wa.heap.size wa wr) ∧ Hid (wr.ownsRow wa.heap.size 2 1 v (k + 1) (upto Tt (k + 1))))
            case atStart => exact ⟨0, _, Nat.zero_le _, rfl, rfl, rfl, Lib.hid (below_box _ _), Lib.hid (by rw [HU0.out]; exact World.ownsRow_lit wa #[.int .i64 0] 1 (Nat.le_refl _) (by simp [maxLen]) (by simp))⟩
            case round =>
              obtain ⟨k, v, hk, rfl, rfl, rfl, HB, HO⟩ := hrel
              have hkk : ((k + 1 : Nat) : Int) = (k : Int) + 1 := by omega
              by_cases hlt : k < S
              · have hle : (k : Int) + 1 ≤ (S : Int) := by omega
                obtain ⟨g, cap, rfl⟩ : ∃ g cap, v = .slice (some ⟨g, 0, none⟩) (k + 1) cap := by
                  rcases HO.out.2 with ⟨_, h0⟩ | ⟨g, cap, cur, rfl, _⟩
                  · omega
                  · exact ⟨g, cap, rfl⟩
                have HGk0 := Lib.hid (HG0.out k)
                have HGkm := Lib.hid (HGm.out k)
                have HGkb := Lib.hid (HGb.out (k + 1) (by omega))
                have HGkn := Lib.hid (HGn.out k)
                have HGky := Lib.hid (HGy.out k)
                generalize hGG : Gg ((k + 1 : Nat) : Int) = GG at HGk0 HGkm HGkb HGkn HGky
                have HGkp : Hid (∀ j q : Nat, j < n → (k : Int) + 1 - x j = (q : Int) → GG (j + 1) = if 0 ≤ Tt q ∧ (GG j < 0 ∨ Tt q + 2000 * p j + 1 < GG j) then Tt q + 2000 * p j + 1 else GG j) := Lib.hid fun j q hj h => HGky.out j q hj (by rw [hkk]; exact h)
                clear hGG HG0 HGm HGb HGn HGy HGky
                go_wp2_with fail
                go_loopg [14, 15, 16] n (fun ky b i _ wy => ∃ j : Nat, j ≤ n ∧ ky = n - j ∧ i = .int .i64 (j : Int) ∧ b = .int .i64 (GG j) ∧ Hid (Below wa.heap.size wa wy) ∧ Hid (wy.ownsRow wa.heap.size 2 1 (.slice (some ⟨g, 0, none⟩) (k + 1) cap) (k + 1) (upto Tt (k + 1))))
                case atStart => exact ⟨0, Nat.zero_le _, rfl, rfl, by rw [HGk0.out], HB, HO⟩
                case round =>
                  clear HB HO
                  obtain ⟨j, hj, rfl, rfl, rfl, HB, HO⟩ := hrel
                  by_cases hjn : j < n
                  · obtain ⟨b, off, rfl, hb, hc⟩ := (HAw.out.below HB.out (Nat.le_refl _)) (by omega)
                    obtain ⟨b2, off2, rfl, hb2, hc2⟩ := (HPw.out.below HB.out (Nat.le_refl _)) (by omega)
                    have x0 := hc j hjn
                    have x1 := hc2 j (by omega)
                    obtain ⟨d1, d2⟩ := HLx.out j hjn
                    obtain ⟨p1, p2⟩ := HPx.out j hjn
                    obtain ⟨g1, g2⟩ := HGkb.out j (by omega)
                    have e0 : (0 : Int) ≤ (j : Int) := Int.natCast_nonneg _
                    have e1 : (j : Int) < (n : Int) := by omega
                    have e2 : (j : Int) < (n : Int) := by omega
                    have HGn := Lib.hid (HGkn.out j hjn)
                    have HGy := Lib.hid (fun q => HGkp.out j q hjn)
                    clear hc hc2 hb hb2
                    by_cases hx : (k : Int) + 1 < x j
                    · have HE := Lib.hid (HGn.out (by omega))
                      generalize x j = u at x0 d1 d2 hx
                      go_wp2_with fail
                      go_roundg (n - (j + 1))
                      case measure => omega
                      case rel => exact ⟨j + 1, by omega, rfl, by go_num, by rw [HE.out], HB, HO⟩
                    · obtain ⟨q, hp⟩ : ∃ q : Nat, (k : Int) + 1 - x j = (q : Int) := ⟨((k : Int) + 1 - x j).toNat, by omega⟩
                      have y0 : wr.cell? ⟨g, q, none⟩ = some (.int .i64 (Tt q)) := (HO.out.cellAt q (by omega)).trans (upto_get Tt (by omega))
                      obtain ⟨f1, f2⟩ := HTb.out q (by omega)
                      have HE := Lib.hid (HGy.out q hp)
                      have hp0 : (0 : Int) ≤ (q : Int) := by omega
                      have hp1 : (q : Int) < ((k + 1 : Nat) : Int) := by omega
                      generalize x j = u at x0 d1 d2 hx hp
                      generalize p j = pj at x1 p1 p2 HE
                      generalize Tt q = t at y0 f1 f2 HE
                      generalize hGj : GG j = gj at g1 g2 HE ⊢
                      by_cases h1 : t < 0
                      · rw [if_neg (by omega)] at HE
                        go_wp2_with fail
                        go_roundg (n - (j + 1))
                        case measure => omega
                        case rel => exact ⟨j + 1, by omega, rfl, by go_num, by rw [HE.out], HB, HO⟩
                      · have hw1 : IntKind.i64.wrap (2000 * pj) = 2000 * pj := IntWalk.i64_in _ (by omega)
                        have hw2 : IntKind.i64.wrap (t + 2000 * pj) = t + 2000 * pj := IntWalk.i64_in _ (by omega)
                        have hw3 : IntKind.i64.wrap (t + 2000 * pj + 1) = t + 2000 * pj + 1 := IntWalk.i64_in _ (by omega)
                        go_upto_region 20 with fail
                        go_quiet (fail)
                        have HB6 := Lib.hid (below_drewN HB.out nq)
                        have HO6 : Hid ((wr.drewN nq).ownsRow wa.heap.size 2 1 (.slice (some ⟨g, 0, none⟩) (k + 1) cap) (k + 1) (upto Tt (k + 1))) := HO
                        generalize wr.drewN nq = wq at HB6 HO6 ⊢
                        clear HB HO x0 x1 y0
                        by_cases h2 : gj < 0
                        · rw [if_pos (by omega)] at HE
                          go_wp2_with fail
                          go_roundg (n - (j + 1))
                          case measure => omega
                          case rel => exact ⟨j + 1, by omega, rfl, by go_num, by rw [HE.out], HB6, HO6⟩
                        · by_cases h3 : t + 2000 * pj + 1 < gj
                          · rw [if_pos (by omega)] at HE
                            go_wp2_with fail
                            go_roundg (n - (j + 1))
                            case measure => omega
                            case rel => exact ⟨j + 1, by omega, rfl, by go_num, by rw [HE.out], HB6, HO6⟩
                          · rw [if_neg (by omega)] at HE
                            go_wp2_with fail
                            go_roundg (n - (j + 1))
                            case measure => omega
                            case rel => exact ⟨j + 1, by omega, rfl, by go_num, by rw [HE.out], HB6, HO6⟩
                  · obtain rfl : j = n := by omega
                    have hzr := HB.out.size
                    have HGm : Hid (upto Tt (k + 1 + 1) = upto Tt (k + 1) ++ [.int .i64 (GG j)]) := Lib.hid (by rw [upto_snoc, HGkm.out])
                    generalize GG j = gj at HGm ⊢
                    go_wp2_with (at_builtin; refine wpList_append_own _ rfl _ _ 22 rfl wa.heap.size 2 i0 _ 1 8 Try.underlying22 HNf.out.1 HNf.out.2.1 HNf.out.2.2.1 HNf.out.2.2.2 rfl (by decide) _ _ _ rfl (HO.out.alloc _) ⟨wr.heap.size, 0, none⟩ 1 1 [.int .i64 gj] rfl rfl ?c1 ?c2 ?c3 ?c4 ?c5 ?_)
                    case c1 => exact cell_one_new _ _ _
                    case c2 => simp [Value.oneCell']
                    case c3 => unfold maxLen; omega
                    case c4 => omega
                    case c5 => first | omega | (simp <;> omega)
                    intro v' w2 hown2 hgrow _
                    have HQ := Lib.hid ((HB.out.alloc hzr _).grown hgrow (by simp; omega) fun g hg => (HO.out.lt g hg).1)
                    have HO2 : Hid (w2.ownsRow wa.heap.size 2 1 v' (k + 1 + 1) (upto Tt (k + 1 + 1))) := Lib.hid (by rw [HGm.out]; exact hown2)
                    clear hown2 hgrow
                    go_wp2_with fail
                    go_roundg (S - (k + 1))
                    case measure => omega
                    case rel => exact ⟨k + 1, _, by omega, rfl, rfl, by go_num, HQ, HO2⟩
              · obtain rfl : k = S := by omega
                clear HG0 HGm HGb HGn HGy
                obtain ⟨g, cap, rfl⟩ : ∃ g cap, v = .slice (some ⟨g, 0, none⟩) (k + 1) cap := by
                  rcases HO.out.2 with ⟨_, h0⟩ | ⟨g, cap, cur, rfl, _⟩
                  · omega
                  · exact ⟨g, cap, rfl⟩
                have hgt : ¬ (k : Int) + 1 ≤ (k : Int) := by omega
                have y0 : wr.cell? ⟨g, k, none⟩ = some (.int .i64 (Tt k)) := (HO.out.cellAt k (by omega)).trans (upto_get Tt (by omega))
                have e0 : (0 : Int) ≤ (k : Int) := Int.natCast_nonneg _
                have e1 : (k : Int) < ((k + 1 : Nat) : Int) := by omega
                have hT := hTS.out
                have HE := Lib.hid (HP.out _ (below_then HBw.out HB.out))
                generalize Tt k = t at y0 hT
                go_wp2_with fail
                exact bodyPost_ret (v := .tuple #[.slice none 0 0, .int .i64 0, .int .i64 3]) (by simp [results, Try.results37, go_sem]) rfl HE.out
      | some l =>
        have h1 : chL n x n p S = l := by unfold chL; rw [if_pos hf, ho]; rfl
        have h2 : chC n x n p S = 0 := by unfold chC; rw [if_pos hf, ho]; rfl
        have h3 : chP n x n p S = sm p l := by unfold chP; rw [if_pos hf, ho]; rfl
        have hcost : F x (wt p) n (S : Int) = 2000 * sm p l + (l.length : Int) := by
          unfold F
          rw [show B x (wt p) n 0 (S : Int) = some l from ho]
          exact sm_mix p l
        obtain ⟨b1, b2, b3⟩ := ok_bd P (lo := (S : Int)) (hi := (S : Int) + 0) (by omega) (B_ok P.ok ho)
        have hTS : Hid (¬ F x (wt p) n (S : Int) < 0 ∧ (F x (wt p) n (S : Int)).tdiv 2000 = sm p l ∧ IntKind.i64.wrap ((F x (wt p) n (S : Int)).tdiv 2000) = sm p l) := Lib.hid (by
          have e : (F x (wt p) n (S : Int)).tdiv 2000 = sm p l := by
            rw [hcost, Int.tdiv_eq_ediv_of_nonneg (by omega)]
            omega
          rw [e]
          exact ⟨by omega, rfl, IntWalk.i64_in _ (by omega)⟩)
        obtain ⟨D, d0, dj, dl⟩ := chain0 L l S ho
        have HD0 := Lib.hid d0
        have HDl := Lib.hid dl
        have HD : Hid (∀ j, j < l.length → l.getD j 0 < n ∧ 0 < D j ∧ D j ≤ S ∧ (D j : Int) - x (l.getD j 0) = (D (j + 1) : Int) ∧ 0 ≤ F x (wt p) n (D (j + 1) : Int) ∧ F x (wt p) n (D (j + 1) : Int) + 2000 * p (l.getD j 0) + 1 = F x (wt p) n (D j : Int) ∧
            ∀ q r : Nat, l.getD j 0 < q → q < n → (D j : Int) - x q = (r : Int) → 0 ≤ F x (wt p) n (r : Int) → F x (wt p) n (r : Int) + 2000 * p q + 1 ≠ F x (wt p) n (D j : Int)) := Lib.hid fun j hj => by
          obtain ⟨a1, a2, a3, a4, a5, a6, a7⟩ := dj j hj
          have e : ∀ i, wt p i = 2000 * p i + 1 := fun _ => rfl
          rw [e] at a6
          refine ⟨a1, a2, a3, a4, a5, by omega, fun q r h1 h2 h3 h4 h5 => ?_⟩
          have := a7 q r h1 h2 h3 h4
          rw [e] at this
          omega
        have HBl : Hid (∀ j, bl x l j = x (l.getD j 0)) := Lib.hid fun j => rfl
        have HP : Hid (∀ v w' B, w'.ownsRow B 2 1 v l.length (upto (bl x l) l.length) → w.heap.size ≤ B → Below w.heap.size w w' → TriAt (chL n x n p S).length (bl x (chL n x n p S)) (chP n x n p S) (chC n x n p S) w (.returned (.tuple #[v, .int .i64 (sm p l), .int .i64 0])) w') := Lib.hid fun v w' B h hB hb => by rw [h1, h2, h3]; exact tri_own h hB hb
        generalize TriAt _ _ _ _ w = Q at HP ⊢
        obtain rfl : r0 = true := by rw [← hr0]; simp
        clear h0 hpr hf h1 h2 h3 ho hprs P hL hcost dj d0 dl
        generalize hTt : (fun q : Nat => F x (wt p) n (q : Int)) = Tt
        have hTk : ∀ q : Nat, F x (wt p) n (q : Int) = Tt q := fun q => by rw [← hTt]
        simp only [hTk] at HTb HT0 HGm HGy hTS HD
        clear hTk hTt
        have HU0 : Hid (upto Tt (0 + 1) = [.int .i64 0]) := Lib.hid (by rw [upto_snoc, HT0.out]; rfl)
        generalize G x (wt p) n = Gg at HG0 HGm HGb HGn HGy
        clear hi0 hz0 hz1 hz2 HWx L
        generalize bl x l = d at *
        generalize hm : l.length = m at *
        generalize l.getD = gt at *
        generalize sm p l = vv at *
        clear hm
        go_enter Try.func37, Try.ntmps37
        go_wp2_with fail
        refine C.out.mono ?_
        rintro e w1 ⟨rfl, b1⟩
        have HB1 := Lib.hid b1
        have HA1 := Lib.hid ((HA.out.below b1 (Nat.le_refl _)).more b1.size)
        have HP1 := Lib.hid ((HPp.out.below b1 (Nat.le_refl _)).more b1.size)
        clear b1 C HA HPp
        go_wp2_with fail
        go_loopw [10, 11] (fun f i wr => ∃ (k : Nat) (r : Bool), k ≤ n ∧ i = .int .i64 (k : Int) ∧ f = .bool r ∧ Hid (r = fb k) ∧ Hid (Below w1.heap.size w1 wr)) (fun _ i _ => n - (intOf i).toNat)
        case atStart => exact ⟨0, _, Nat.zero_le _, rfl, rfl, Lib.hid HF0.out.symm, Lib.hid (Below.refl _ _)⟩
        case round =>
          obtain ⟨k, r, hk, rfl, rfl, HR, HB⟩ := hrel
          by_cases hlt : k < n
          · obtain ⟨g, off, rfl, _, hc⟩ := (HP1.out.below HB.out (Nat.le_refl _)) (by omega)
            have x0 := hc k hlt
            have HFk := Lib.hid (HFs.out k)
            have e0 : (0 : Int) ≤ (k : Int) := Int.natCast_nonneg _
            have e1 : (k : Int) < (n : Int) := by omega
            have CI := Lib.hid (fun w => C5.out (p k) w)
            generalize inB (p k) 0 1000 = q at CI HFk
            generalize p k = u at x0 CI
            clear hc
            cases r
            · have HX := Lib.hid (show false = fb (k + 1) by rw [HFk.out, ← HR.out]; rfl)
              go_wp2_with fail
              go_roundw
              case rel => exact ⟨k + 1, false, by omega, by go_num, rfl, HX, HB⟩
              case measure => simp [intOf]; omega
            · have HX := Lib.hid (show q = fb (k + 1) by rw [HFk.out, ← HR.out]; rfl)
              go_wp2_with fail
              refine (CI.out _).mono ?_
              rintro e w2 ⟨rfl, rfl⟩
              go_wp2_with fail
              go_roundw
              case rel => exact ⟨k + 1, q, by omega, by go_num, rfl, HX, HB⟩
              case measure => simp [intOf]; omega
          · obtain rfl : n = k := by omega
            have HRn := Lib.hid (HR.out.trans HFn.out)
            clear HR HF0 HFs HFn
            obtain rfl : r = true := HRn.out
            have HBw := Lib.hid (below_then HB1.out HB.out)
            have HAw := Lib.hid ((HA1.out.below HB.out (Nat.le_refl _)).more HB.out.size)
            have HPw := Lib.hid ((HP1.out.below HB.out (Nat.le_refl _)).more HB.out.size)
            generalize hwa : wr = wa at HBw HAw HPw ⊢
            clear hwa HB HB1 HA1 HP1 HRn
            go_wp2_with fail
            go_loopg [12, 13, 14, 15, 16] S (fun kx o i _ _ _ wr => ∃ (k : Nat) (v : Value), k ≤ S ∧ kx = S - k ∧ v = o ∧ i = .int .i64 ((k : Int) + 1) ∧ Hid (Below wa.heap.size wa wr) ∧ Hid (wr.ownsRow wa.heap.size 2 1 v (k + 1) (upto Tt (k + 1))))
            case atStart => exact ⟨0, _, Nat.zero_le _, rfl, rfl, rfl, Lib.hid (below_box _ _), Lib.hid (by rw [HU0.out]; exact World.ownsRow_lit wa #[.int .i64 0] 1 (Nat.le_refl _) (by simp [maxLen]) (by simp))⟩
            case round =>
              obtain ⟨k, v, hk, rfl, rfl, rfl, HB, HO⟩ := hrel
              have hkk : ((k + 1 : Nat) : Int) = (k : Int) + 1 := by omega
              by_cases hlt : k < S
              · have hle : (k : Int) + 1 ≤ (S : Int) := by omega
                obtain ⟨g, cap, rfl⟩ : ∃ g cap, v = .slice (some ⟨g, 0, none⟩) (k + 1) cap := by
                  rcases HO.out.2 with ⟨_, h0⟩ | ⟨g, cap, cur, rfl, _⟩
                  · omega
                  · exact ⟨g, cap, rfl⟩
                have HGk0 := Lib.hid (HG0.out k)
                have HGkm := Lib.hid (HGm.out k)
                have HGkb := Lib.hid (HGb.out (k + 1) (by omega))
                have HGkn := Lib.hid (HGn.out k)
                have HGky := Lib.hid (HGy.out k)
                generalize hGG : Gg ((k + 1 : Nat) : Int) = GG at HGk0 HGkm HGkb HGkn HGky
                have HGkp : Hid (∀ j q : Nat, j < n → (k : Int) + 1 - x j = (q : Int) → GG (j + 1) = if 0 ≤ Tt q ∧ (GG j < 0 ∨ Tt q + 2000 * p j + 1 < GG j) then Tt q + 2000 * p j + 1 else GG j) := Lib.hid fun j q hj h => HGky.out j q hj (by rw [hkk]; exact h)
                clear hGG HG0 HGm HGb HGn HGy HGky
                go_wp2_with fail
                go_loopg [14, 15, 16] n (fun ky b i _ wy => ∃ j : Nat, j ≤ n ∧ ky = n - j ∧ i = .int .i64 (j : Int) ∧ b = .int .i64 (GG j) ∧ Hid (Below wa.heap.size wa wy) ∧ Hid (wy.ownsRow wa.heap.size 2 1 (.slice (some ⟨g, 0, none⟩) (k + 1) cap) (k + 1) (upto Tt (k + 1))))
                case atStart => exact ⟨0, Nat.zero_le _, rfl, rfl, by rw [HGk0.out], HB, HO⟩
                case round =>
                  clear HB HO
                  obtain ⟨j, hj, rfl, rfl, rfl, HB, HO⟩ := hrel
                  by_cases hjn : j < n
                  · obtain ⟨b, off, rfl, hb, hc⟩ := (HAw.out.below HB.out (Nat.le_refl _)) (by omega)
                    obtain ⟨b2, off2, rfl, hb2, hc2⟩ := (HPw.out.below HB.out (Nat.le_refl _)) (by omega)
                    have x0 := hc j hjn
                    have x1 := hc2 j (by omega)
                    obtain ⟨d1, d2⟩ := HLx.out j hjn
                    obtain ⟨p1, p2⟩ := HPx.out j hjn
                    obtain ⟨g1, g2⟩ := HGkb.out j (by omega)
                    have e0 : (0 : Int) ≤ (j : Int) := Int.natCast_nonneg _
                    have e1 : (j : Int) < (n : Int) := by omega
                    have e2 : (j : Int) < (n : Int) := by omega
                    have HGn := Lib.hid (HGkn.out j hjn)
                    have HGy := Lib.hid (fun q => HGkp.out j q hjn)
                    clear hc hc2 hb hb2
                    by_cases hx : (k : Int) + 1 < x j
                    · have HE := Lib.hid (HGn.out (by omega))
                      generalize x j = u at x0 d1 d2 hx
                      go_wp2_with fail
                      go_roundg (n - (j + 1))
                      case measure => omega
                      case rel => exact ⟨j + 1, by omega, rfl, by go_num, by rw [HE.out], HB, HO⟩
                    · obtain ⟨q, hp⟩ : ∃ q : Nat, (k : Int) + 1 - x j = (q : Int) := ⟨((k : Int) + 1 - x j).toNat, by omega⟩
                      have y0 : wr.cell? ⟨g, q, none⟩ = some (.int .i64 (Tt q)) := (HO.out.cellAt q (by omega)).trans (upto_get Tt (by omega))
                      obtain ⟨f1, f2⟩ := HTb.out q (by omega)
                      have HE := Lib.hid (HGy.out q hp)
                      have hp0 : (0 : Int) ≤ (q : Int) := by omega
                      have hp1 : (q : Int) < ((k + 1 : Nat) : Int) := by omega
                      generalize x j = u at x0 d1 d2 hx hp
                      generalize p j = pj at x1 p1 p2 HE
                      generalize Tt q = t at y0 f1 f2 HE
                      generalize hGj : GG j = gj at g1 g2 HE ⊢
                      by_cases h1 : t < 0
                      · rw [if_neg (by omega)] at HE
                        go_wp2_with fail
                        go_roundg (n - (j + 1))
                        case measure => omega
                        case rel => exact ⟨j + 1, by omega, rfl, by go_num, by rw [HE.out], HB, HO⟩
                      · have hw1 : IntKind.i64.wrap (2000 * pj) = 2000 * pj := IntWalk.i64_in _ (by omega)
                        have hw2 : IntKind.i64.wrap (t + 2000 * pj) = t + 2000 * pj := IntWalk.i64_in _ (by omega)
                        have hw3 : IntKind.i64.wrap (t + 2000 * pj + 1) = t + 2000 * pj + 1 := IntWalk.i64_in _ (by omega)
                        go_upto_region 20 with fail
                        go_quiet (fail)
                        have HB6 := Lib.hid (below_drewN HB.out nq)
                        have HO6 : Hid ((wr.drewN nq).ownsRow wa.heap.size 2 1 (.slice (some ⟨g, 0, none⟩) (k + 1) cap) (k + 1) (upto Tt (k + 1))) := HO
                        generalize wr.drewN nq = wq at HB6 HO6 ⊢
                        clear HB HO x0 x1 y0
                        by_cases h2 : gj < 0
                        · rw [if_pos (by omega)] at HE
                          go_wp2_with fail
                          go_roundg (n - (j + 1))
                          case measure => omega
                          case rel => exact ⟨j + 1, by omega, rfl, by go_num, by rw [HE.out], HB6, HO6⟩
                        · by_cases h3 : t + 2000 * pj + 1 < gj
                          · rw [if_pos (by omega)] at HE
                            go_wp2_with fail
                            go_roundg (n - (j + 1))
                            case measure => omega
                            case rel => exact ⟨j + 1, by omega, rfl, by go_num, by rw [HE.out], HB6, HO6⟩
                          · rw [if_neg (by omega)] at HE
                            go_wp2_with fail
                            go_roundg (n - (j + 1))
                            case measure => omega
                            case rel => exact ⟨j + 1, by omega, rfl, by go_num, by rw [HE.out], HB6, HO6⟩
                  · obtain rfl : j = n := by omega
                    have hzr := HB.out.size
                    have HGm : Hid (upto Tt (k + 1 + 1) = upto Tt (k + 1) ++ [.int .i64 (GG j)]) := Lib.hid (by rw [upto_snoc, HGkm.out])
                    generalize GG j = gj at HGm ⊢
                    go_wp2_with (at_builtin; refine wpList_append_own _ rfl _ _ 22 rfl wa.heap.size 2 i0 _ 1 8 Try.underlying22 HNf.out.1 HNf.out.2.1 HNf.out.2.2.1 HNf.out.2.2.2 rfl (by decide) _ _ _ rfl (HO.out.alloc _) ⟨wr.heap.size, 0, none⟩ 1 1 [.int .i64 gj] rfl rfl ?c1 ?c2 ?c3 ?c4 ?c5 ?_)
                    case c1 => exact cell_one_new _ _ _
                    case c2 => simp [Value.oneCell']
                    case c3 => unfold maxLen; omega
                    case c4 => omega
                    case c5 => first | omega | (simp <;> omega)
                    intro v' w2 hown2 hgrow _
                    have HQ := Lib.hid ((HB.out.alloc hzr _).grown hgrow (by simp; omega) fun g hg => (HO.out.lt g hg).1)
                    have HO2 : Hid (w2.ownsRow wa.heap.size 2 1 v' (k + 1 + 1) (upto Tt (k + 1 + 1))) := Lib.hid (by rw [HGm.out]; exact hown2)
                    clear hown2 hgrow
                    go_wp2_with fail
                    go_roundg (S - (k + 1))
                    case measure => omega
                    case rel => exact ⟨k + 1, _, by omega, rfl, rfl, by go_num, HQ, HO2⟩
              · obtain rfl : k = S := by omega
                clear HG0 HGm HGb HGn HGy
                obtain ⟨g, cap, rfl⟩ : ∃ g cap, v = .slice (some ⟨g, 0, none⟩) (k + 1) cap := by
                  rcases HO.out.2 with ⟨_, h0⟩ | ⟨g, cap, cur, rfl, _⟩
                  · omega
                  · exact ⟨g, cap, rfl⟩
                have hgt : ¬ (k : Int) + 1 ≤ (k : Int) := by omega
                have y0 : wr.cell? ⟨g, k, none⟩ = some (.int .i64 (Tt k)) := (HO.out.cellAt k (by omega)).trans (upto_get Tt (by omega))
                have e0 : (0 : Int) ≤ (k : Int) := Int.natCast_nonneg _
                have e1 : (k : Int) < ((k + 1 : Nat) : Int) := by omega
                obtain ⟨hT, hq1, hq2⟩ := hTS.out
                have HBb := Lib.hid (below_then HBw.out HB.out)
                have HAb := Lib.hid ((HAw.out.below HB.out (Nat.le_refl _)).more HB.out.size)
                have HPb := Lib.hid ((HPw.out.below HB.out (Nat.le_refl _)).more HB.out.size)
                have HFb : Hid (Nums wr wr.heap.size (some ⟨g, 0, none⟩) (k + 1) Tt) := Lib.hid fun _ => ⟨g, 0, rfl, (HO.out.lt g rfl).2, fun i hi => by rw [Nat.zero_add]; exact (HO.out.cellAt i (by omega)).trans (upto_get Tt hi)⟩
                clear HB HO HAw HPw HBw
                generalize hwb : wr = wb at y0 HBb HAb HPb HFb ⊢
                clear hwb
                generalize hkS : k = S at *
                clear hkS
                have y0' := y0
                go_wp2_with fail
                go_loopg [17, 18, 19, 20] m (fun kx o a _ _ wr => ∃ (j : Nat) (v : Value), j ≤ m ∧ kx = m - j ∧ v = o ∧ a = .int .i64 (D j : Int) ∧ Hid (Below wb.heap.size wb wr) ∧ Hid (wr.ownsRow wb.heap.size 2 1 v j (upto d j)))
                case atStart => exact ⟨0, _, Nat.zero_le _, rfl, rfl, by rw [HD0.out], Lib.hid (below_box _ _), Lib.hid (World.ownsRow_made wb #[] 0 (Nat.le_refl _) (by simp [maxLen]) rfl)⟩
                case round =>
                  obtain ⟨j, v, hj, rfl, rfl, rfl, HB, HO⟩ := hrel
                  by_cases hlt : j < m
                  · obtain ⟨b1, b2, b3, b4, b5, b6, b7⟩ := HD.out j hlt
                    have HU : Hid (upto d (j + 1) = upto d j ++ [.int .i64 (d j)]) := Lib.hid (upto_snoc _ _)
                    have HBj := Lib.hid (HBl.out j)
                    have H7 := Lib.hid b7
                    generalize gt j 0 = i at b1 b4 b6 HBj H7
                    generalize hz' : D j = y at b2 b3 b4 b6 H7 ⊢
                    have hy0 : (0 : Int) < (y : Int) := by omega
                    have hyS : (y : Int) < ((S + 1 : Nat) : Int) := by omega
                    clear b7 hz'
                    go_wp2_with fail
                    go_loopg [17, 18, 19, 20] (n - 1 - i) (fun ky o a q _ wx => ∃ ii : Nat, i ≤ ii ∧ ii < n ∧ ky = ii - i ∧ q = .int .i64 (ii : Int) ∧ a = .int .i64 (y : Int) ∧ o = v ∧ Hid (Below wb.heap.size wb wx) ∧ Hid (wx.ownsRow wb.heap.size 2 1 v j (upto d j)))
                    case atStart => exact ⟨n - 1, by omega, by omega, by omega, by rw [show ((n - 1 : Nat) : Int) = (n : Int) - 1 by omega], rfl, rfl, HB, HO⟩
                    case round =>
                      clear HB HO
                      obtain ⟨ii, hk, hkn, rfl, rfl, rfl, rfl, HB, HO⟩ := hrel
                      have HAr := Lib.hid (HAb.out.below HB.out (Nat.le_refl _))
                      have HPr := Lib.hid (HPb.out.below HB.out (Nat.le_refl _))
                      have HFr := Lib.hid (HFb.out.below HB.out (Nat.le_refl _))
                      have hzr := HB.out.size
                      obtain ⟨b, off, rfl, hb, hc⟩ := HAr.out (by omega)
                      obtain ⟨bq, oq, rfl, hbq, hcq⟩ := HPr.out (by omega)
                      obtain ⟨bf, of, e, hbf, hcf⟩ := HFr.out (by omega)
                      cases e
                      have x0 := hc ii hkn
                      have x1 := hcq ii hkn
                      have ty := hcf y (by omega)
                      rw [Nat.zero_add] at ty
                      obtain ⟨v1, v2⟩ := HLx.out ii hkn
                      obtain ⟨w1', w2'⟩ := HPx.out ii hkn
                      obtain ⟨t1, t2⟩ := HTb.out y (by omega)
                      have e0 : (0 : Int) ≤ (ii : Int) := Int.natCast_nonneg _
                      have e1 : (ii : Int) < (n : Int) := by omega
                      by_cases hki : ii = i
                      · subst hki
                        have tp := hcf (D (j + 1)) (by omega)
                        rw [Nat.zero_add] at tp
                        obtain ⟨t3, t4⟩ := HTb.out (D (j + 1)) (by omega)
                        have HDs : Hid ((D (j + 1) : Int) = (y : Int) - x ii) := Lib.hid b4.symm
                        have hp0 : (0 : Int) ≤ (D (j + 1) : Int) := Int.natCast_nonneg _
                        have hp1 : (D (j + 1) : Int) < ((S + 1 : Nat) : Int) := by omega
                        have hle : x ii ≤ (y : Int) := by omega
                        clear hc hcq hcf H7 hb hbf hbq
                        generalize hDz : D (j + 1) = z at b4 b5 b6 tp t3 t4 HDs hp0 hp1
                        generalize x ii = u at x0 v1 v2 b4 HBj HDs hle
                        generalize p ii = pj at x1 w1' w2' b6
                        generalize hta : Tt y = ta at ty t1 t2 b6
                        generalize htb : Tt z = tb at tp t3 t4 b5 b6
                        rw [show ((z : Nat) : Int) = (y : Int) - u by omega] at hp0 hp1
                        have tp' : wr.cell? ⟨g, ((y : Int) - u).toNat, none⟩ = some (.int .i64 tb) := by rw [show ((y : Int) - u).toNat = z by omega]; exact tp
                        have g1 : decide (u ≤ (y : Int)) = true := decide_eq_true hle
                        have g2 : decide (0 ≤ tb) = true := decide_eq_true b5
                        have g3 : (tb + 2000 * pj + 1 == ta) = true := by simpa using b6
                        have hw1 : IntKind.i64.wrap (2000 * pj) = 2000 * pj := IntWalk.i64_in _ (by omega)
                        have hw2 : IntKind.i64.wrap (tb + 2000 * pj) = tb + 2000 * pj := IntWalk.i64_in _ (by omega)
                        have hw3 : IntKind.i64.wrap (tb + 2000 * pj + 1) = tb + 2000 * pj + 1 := IntWalk.i64_in _ (by omega)
                        go_upto_region 33 with fail
                        go_quiet (fail)
                        have HB6 := Lib.hid (below_drewN HB.out nq)
                        have HO6 : Hid ((wr.drewN nq).ownsRow wb.heap.size 2 1 u17 j (upto d j)) := HO
                        generalize wr.drewN nq = wq at HB6 HO6 ⊢
                        have hz6 := HB6.out.size
                        clear HB HO HAr HFr HPr x0 x1 tp tp' ty
                        go_wp2_with (at_builtin; refine wpList_append_own _ rfl _ _ 22 rfl wb.heap.size 2 i0 _ 1 8 Try.underlying22 HNf.out.1 HNf.out.2.1 HNf.out.2.2.1 HNf.out.2.2.2 rfl (by decide) _ _ _ rfl (HO6.out.alloc _) ⟨wq.heap.size, 0, none⟩ 1 1 [.int .i64 u] rfl rfl ?c1 ?c2 ?c3 ?c4 ?c5 ?_)
                        case c1 => exact cell_one_new _ _ _
                        case c2 => simp [Value.oneCell']
                        case c3 => unfold maxLen; omega
                        case c4 => omega
                        case c5 => first | omega | (simp <;> omega)
                        intro v' w5 hown hgrow _
                        have HB7 := Lib.hid ((HB6.out.alloc hz6 _).grown hgrow (by simp; omega) fun g hg => (HO6.out.lt g hg).1)
                        have HO7 : Hid (w5.ownsRow wb.heap.size 2 1 v' (j + 1) (upto d (j + 1))) := Lib.hid (by rw [HU.out, HBj.out]; exact hown)
                        clear hown hgrow
                        go_wp2_with fail
                        go_roundg (m - (j + 1))
                        case measure => omega
                        case rel => exact ⟨j + 1, _, by omega, rfl, rfl, by rw [hDz, HDs.out], HB7, HO7⟩
                      · have H8 := Lib.hid (fun r => H7.out ii r (by omega) hkn)
                        by_cases h1 : x ii ≤ (y : Int)
                        · obtain ⟨r, hr⟩ : ∃ r : Nat, (y : Int) - x ii = (r : Int) := ⟨((y : Int) - x ii).toNat, by omega⟩
                          have tp := hcf r (by omega)
                          rw [Nat.zero_add] at tp
                          obtain ⟨t3, t4⟩ := HTb.out r (by omega)
                          have H9 := Lib.hid (H8.out r hr)
                          have hp0 : (0 : Int) ≤ (r : Int) := by omega
                          have hp1 : (r : Int) < ((S + 1 : Nat) : Int) := by omega
                          clear hc hcq hcf H7 hb hbf hbq H8 b4 b6 HBj
                          generalize x ii = u at x0 v1 v2 hr h1
                          generalize p ii = pj at x1 w1' w2' H9
                          generalize hta : Tt y = ta at ty t1 t2 H9
                          generalize htb : Tt r = tb at tp t3 t4 H9
                          rw [show ((r : Nat) : Int) = (y : Int) - u by omega] at hp0 hp1
                          have tp' : wr.cell? ⟨g, ((y : Int) - u).toNat, none⟩ = some (.int .i64 tb) := by rw [show ((y : Int) - u).toNat = r by omega]; exact tp
                          have g1 : decide (u ≤ (y : Int)) = true := decide_eq_true h1
                          by_cases h2 : 0 ≤ tb
                          · have g2 : decide (0 ≤ tb) = true := decide_eq_true h2
                            have g3 : (tb + 2000 * pj + 1 == ta) = false := by simpa using H9.out h2
                            have hw1 : IntKind.i64.wrap (2000 * pj) = 2000 * pj := IntWalk.i64_in _ (by omega)
                            have hw2 : IntKind.i64.wrap (tb + 2000 * pj) = tb + 2000 * pj := IntWalk.i64_in _ (by omega)
                            have hw3 : IntKind.i64.wrap (tb + 2000 * pj + 1) = tb + 2000 * pj + 1 := IntWalk.i64_in _ (by omega)
                            go_upto_region 33 with fail
                            go_quiet (fail)
                            have HB6 := Lib.hid (below_drewN HB.out nq)
                            have HO6 : Hid ((wr.drewN nq).ownsRow wb.heap.size 2 1 u17 j (upto d j)) := HO
                            generalize wr.drewN nq = wq at HB6 HO6 ⊢
                            clear HB HO HAr HFr HPr
                            go_wp2_with fail
                            go_roundg (ii - 1 - i)
                            case measure => omega
                            case rel => exact ⟨ii - 1, by omega, by omega, rfl, by rw [show ((ii - 1 : Nat) : Int) = (ii : Int) - 1 by omega], rfl, rfl, HB6, HO6⟩
                          · have g2 : decide (0 ≤ tb) = false := decide_eq_false h2
                            go_upto_region 33 with fail
                            go_quiet (fail)
                            have HB6 := Lib.hid (below_drewN HB.out nq)
                            have HO6 : Hid ((wr.drewN nq).ownsRow wb.heap.size 2 1 u17 j (upto d j)) := HO
                            generalize wr.drewN nq = wq at HB6 HO6 ⊢
                            clear HB HO HAr HFr HPr
                            go_wp2_with fail
                            go_roundg (ii - 1 - i)
                            case measure => omega
                            case rel => exact ⟨ii - 1, by omega, by omega, rfl, by rw [show ((ii - 1 : Nat) : Int) = (ii : Int) - 1 by omega], rfl, rfl, HB6, HO6⟩
                        · have g1 : decide (x ii ≤ (y : Int)) = false := decide_eq_false h1
                          clear hc hcq hcf H7 hb hbf hbq H8 b4 b6 HBj
                          generalize x ii = u at x0 v1 v2 g1
                          go_upto_region 33 with fail
                          go_quiet (fail)
                          have HB6 := Lib.hid (below_drewN HB.out nq)
                          have HO6 : Hid ((wr.drewN nq).ownsRow wb.heap.size 2 1 u17 j (upto d j)) := HO
                          generalize wr.drewN nq = wq at HB6 HO6 ⊢
                          clear HB HO HAr HFr HPr
                          go_wp2_with fail
                          go_roundg (ii - 1 - i)
                          case measure => omega
                          case rel => exact ⟨ii - 1, by omega, by omega, rfl, by rw [show ((ii - 1 : Nat) : Int) = (ii : Int) - 1 by omega], rfl, rfl, HB6, HO6⟩
                  · obtain rfl : j = m := by omega
                    have HBf := Lib.hid (HB.out)
                    have HSz := Lib.hid (HBb.out.size)
                    have HE := Lib.hid (fun q => HP.out _ (wr.drewN q) wb.heap.size HO.out HSz.out (below_drewN (below_then HBb.out HBf.out) q))
                    obtain ⟨bf, of, e, hbf, hcf⟩ := (HFb.out.below HB.out (Nat.le_refl _)) (by omega)
                    cases e
                    have y1 := hcf S (by omega)
                    rw [Nat.zero_add] at y1
                    rw [show ((D j : Nat) : Int) = 0 by rw [HDl.out]; rfl]
                    obtain ⟨t1, t2⟩ := HTb.out S (by omega)
                    have e5 : (0 : Int) ≤ (S : Int) := Int.natCast_nonneg _
                    have e6 : (S : Int) < ((S + 1 : Nat) : Int) := by omega
                    clear hcf y0 y0'
                    generalize Tt S = t at y1 t1 t2 hq1 hq2 hT
                    go_upto_region 36 with fail
                    go_quiet (fail)
                    have HE2 := Lib.hid (HE.out nq)
                    go_wp2_with fail
                    exact bodyPost_ret (v := .tuple #[v, .int .i64 vv, .int .i64 0]) (by simp [results, Try.results37, go_sem]) rfl HE2.out
  · have hf := cc_not (np := np) (p := p) h0
    have q1 : chL n x np p s = [] := by unfold chL; rw [if_neg (by rw [hf]; exact h0)]
    have q2 : chC n x np p s = codeL n x s := by unfold chC; rw [if_neg (by rw [hf]; exact h0), hf]
    have q3 : chP n x np p s = 0 := by unfold chP; rw [if_neg (by rw [hf]; exact h0)]
    have HP : Hid (∀ w', Below w.heap.size w w' → TriAt (chL n x np p s).length (bl x (chL n x np p s)) (chP n x np p s) (chC n x np p s) w (.returned (.tuple #[.slice none 0 0, .int .i64 0, .int .i64 (codeL n x s)])) w') := Lib.hid fun w' hb => by rw [q1, q2, q3]; exact tri_no hb _
    have hne : (codeL n x s != 0) = true := by simpa using h0
    have hne2 : (codeL n x s == 0) = false := by simpa using h0
    generalize TriAt _ _ _ _ w = Q at HP ⊢
    generalize codeL n x s = rc at C HP hne hne2
    clear h0 hf q1 q2 q3
    · skip
      go_enter Try.func37, Try.ntmps37
      go_wp2_with fail
      refine C.out.mono ?_
      rintro e w1 ⟨rfl, b1⟩
      have HB1 := Lib.hid b1
      have HA1 := Lib.hid ((HA.out.below b1 (Nat.le_refl _)).more b1.size)
      have HP1 := Lib.hid ((HPp.out.below b1 (Nat.le_refl _)).more b1.size)
      clear b1 C HA HPp
      go_wp2_with fail
      go_loopw [10, 11] (fun f i wr => ∃ (k : Nat) (r : Bool), k ≤ np ∧ i = .int .i64 (k : Int) ∧ f = .bool r ∧ Hid (r = fb k) ∧ Hid (Below w1.heap.size w1 wr)) (fun _ i _ => np - (intOf i).toNat)
      case atStart => exact ⟨0, _, Nat.zero_le _, rfl, rfl, Lib.hid HF0.out.symm, Lib.hid (Below.refl _ _)⟩
      case round =>
        obtain ⟨k, r, hk, rfl, rfl, HR, HB⟩ := hrel
        by_cases hlt : k < np
        · obtain ⟨g, off, rfl, _, hc⟩ := (HP1.out.below HB.out (Nat.le_refl _)) (by omega)
          have x0 := hc k hlt
          have HFk := Lib.hid (HFs.out k)
          have e0 : (0 : Int) ≤ (k : Int) := Int.natCast_nonneg _
          have e1 : (k : Int) < (np : Int) := by omega
          have CI := Lib.hid (fun w => C5.out (p k) w)
          generalize inB (p k) 0 1000 = q at CI HFk
          generalize p k = u at x0 CI
          clear hc
          cases r
          · have HX := Lib.hid (show false = fb (k + 1) by rw [HFk.out, ← HR.out]; rfl)
            go_wp2_with fail
            go_roundw
            case rel => exact ⟨k + 1, false, by omega, by go_num, rfl, HX, HB⟩
            case measure => simp [intOf]; omega
          · have HX := Lib.hid (show q = fb (k + 1) by rw [HFk.out, ← HR.out]; rfl)
            go_wp2_with fail
            refine (CI.out _).mono ?_
            rintro e w2 ⟨rfl, rfl⟩
            go_wp2_with fail
            go_roundw
            case rel => exact ⟨k + 1, q, by omega, by go_num, rfl, HX, HB⟩
            case measure => simp [intOf]; omega
        · obtain rfl : np = k := by omega
          have HRn := Lib.hid (HR.out.trans HFn.out)
          clear HR HF0 HFs HFn
          have HE := Lib.hid (HP.out _ (below_then HB1.out HB.out))
          go_wp2_with fail
          exact bodyPost_ret (v := .tuple #[.slice none 0 0, .int .i64 0, .int .i64 rc]) (by simp [results, Try.results37, go_sem]) rfl HE.out
end Go.Proofs.Ytpmmfalpcooenab.Cp

/- slices.Reverse of spots; the corners after a motion. -/
import Derived.Test.YtggbdpamjjgakaaMoLib
import Derived.BigRegion
namespace Go.Proofs.Ytggbdpamjjgakaa.Mp
set_option linter.unusedVariables false
open Go.RowKit Ft Is Ge Qb Ol Ot Opl Oq Oi Oj Ok Om Bo Bp Bw Mo

theorem at_drew {w : World} {g n : Nat} {h : Nat → Int} (hA : Ge.At w g n h) : Ge.At w.drew g n h := ⟨hA.1, hA.2.1, hA.2.2⟩
theorem but_drew {g : Nat} {a w : World} (hB : But g a w) : But g a w.drew := ⟨hB.os, hB.tape, hB.output, hB.size, hB.block⟩
set_option maxRecDepth 100000 in
set_option maxHeartbeats 4000000 in
theorem irev (g n c : Nat) (h : Nat → Int) (h1 : 1 ≤ n) (h24 : n ≤ 24) (w : World) (hA : Ge.At w g (n * 2) h) :
    Calls Try.prog 70 #[.slice (some ⟨g, 0, none⟩) n c] w fun e w' => e = .returned (.tuple #[]) ∧ Hid (Ge.At w' g (n * 2) (rv n h)) ∧ But g w w' := by
  have HO : Hid (Ge.At w g (n * 2) (rvp n 0 h)) := Lib.hid (at_ext hA fun k _ => (rvp_0 n h k).symm)
  have e24 : (n : Int) ≤ 24 := by omega
  have e1 : (1 : Int) ≤ (n : Int) := by omega
  clear hA
  go_enter Try.func70, Try.ntmps70
  go_wp2_with fail
  go_loopw [2, 3] (fun i j wr => ∃ k : Nat, k ≤ n ∧ k ≤ n - 1 - k + 1 ∧ i = .int .i64 (k : Int) ∧ j = .int .i64 ((n : Int) - 1 - (k : Int)) ∧ Hid (But g w wr) ∧ Hid (Ge.At wr g (n * 2) (rvp n k h))) (fun i _ _ => n - (intOf i).toNat)
  case atStart => exact ⟨0, Nat.zero_le _, by omega, rfl, by simp, Lib.hid (But.refl _ _), HO⟩
  case round =>
    obtain ⟨k, hk, hk2, rfl, rfl, HB, HA⟩ := hrel
    have f0 : (0 : Int) ≤ (k : Int) := Int.natCast_nonneg _
    by_cases hlt : k + k < n - 1
    · obtain ⟨m, hm⟩ : ∃ m : Nat, m = n - 1 - k := ⟨_, rfl⟩
      have em : (n : Int) - 1 - (k : Int) = (m : Int) := by omega
      rw [em]
      have g1 : (k : Int) < (m : Int) := by omega
      have g2 : (m : Int) < (n : Int) := by omega
      have g3 : (k : Int) < (n : Int) := by omega
      have g4 : (0 : Int) ≤ (m : Int) := by omega
      have a0 := HA.out.2.1 (k * 2) (by omega)
      have a1 := HA.out.2.1 (k * 2 + 1) (by omega)
      have b0 := HA.out.2.1 (m * 2) (by omega)
      have b1 := HA.out.2.1 (m * 2 + 1) (by omega)
      have fz := HA.out.2.2
      have HN := Lib.hid fun (a b c d : Int) ea eb ec ed => at_four (a := a) (b := b) (c := c) (d := d) hlt HA.out ea eb ec ed
      rw [← hm] at HN
      generalize hpa : rvp n k h (k * 2) = pa at a0 HN
      generalize hpb : rvp n k h (k * 2 + 1) = pb at a1 HN
      generalize hpc : rvp n k h (m * 2) = pc at b0 HN
      generalize hpd : rvp n k h (m * 2 + 1) = pd at b1 HN
      have HN := Lib.hid (HN.out _ _ _ _ rfl rfl rfl rfl)
      have hne : ¬ k = m := by omega
      have hl := HA.out.1
      clear hpa hpb hpc hpd hk hm
      go_upto_region 3 with fail
      go_region
      all_goals
        have HBd : Hid (But g w ((((wr.setCell ⟨g, k * 2, none⟩ (.int .i64 pc)).setCell ⟨g, k * 2 + 1, none⟩ (.int .i64 pd)).setCell ⟨g, m * 2, none⟩ (.int .i64 pa)).setCell ⟨g, m * 2 + 1, none⟩ (.int .i64 pb)).drew) := Lib.hid (but_drew ((((HB.out.setCell _ _).setCell _ _).setCell _ _).setCell _ _))
        have HAd : Hid (Ge.At ((((wr.setCell ⟨g, k * 2, none⟩ (.int .i64 pc)).setCell ⟨g, k * 2 + 1, none⟩ (.int .i64 pd)).setCell ⟨g, m * 2, none⟩ (.int .i64 pa)).setCell ⟨g, m * 2 + 1, none⟩ (.int .i64 pb)).drew g (n * 2) (rvp n (k + 1) h)) := Lib.hid (at_drew HN.out)
        clear HN a0 a1 b0 b1 fz HA HB HO
        generalize hwz : World.drew _ = wz at HBd HAd ⊢
        clear hwz
        go_wp2_with fail
        go_roundw
        case rel => exact ⟨k + 1, by omega, by omega, by go_num, by go_num, HBd, HAd⟩
        case measure => simp [intOf]; omega
    · have HE := Lib.hid (at_ext HA.out fun q hq => rvp_end h (by omega) hq)
      have g1 : ¬ (k : Int) < (n : Int) - 1 - (k : Int) := by omega
      have w1 := wr_in (x := (n : Int) - 1 - (k : Int)) (by omega)
      clear HA hk2 hlt
      go_wp2_with fail
      go_end0
      exact ⟨rfl, HE, HB.out⟩
/-- The numbers after a motion. -/
def mp (G : Pt → Pt) (f : Nat → Int) (k : Nat) : Int := if k % 2 = 0 then (G (pt f (k / 2))).1 else (G (pt f (k / 2))).2
theorem mp_at (G : Pt → Pt) (f : Nat → Int) (i : Nat) : mp G f (i * 2) = (G (pt f i)).1 ∧ mp G f (i * 2 + 1) = (G (pt f i)).2 := by
  unfold mp
  rw [if_pos (by omega), if_neg (by omega), show i * 2 / 2 = i by omega, show (i * 2 + 1) / 2 = i by omega]
  exact ⟨rfl, rfl⟩
theorem mp_bd {n : Nat} {G : Pt → Pt} {f : Nat → Int} (h : ∀ i, i < n → (-10000 ≤ (G (pt f i)).1 ∧ (G (pt f i)).1 ≤ 10000) ∧ (-10000 ≤ (G (pt f i)).2 ∧ (G (pt f i)).2 ≤ 10000)) : Bnd n (mp G f) := fun k hk => by
  have := h (k / 2) (by omega)
  unfold mp
  split
  · exact this.1
  · exact this.2
end Go.Proofs.Ytggbdpamjjgakaa.Mp

/- CornersOf: the spec's corners. -/
import Derived.Test.YtpmmfalpcooenabUqLib
import Derived.StillTailTactics
namespace Go.Proofs.Ytpmmfalpcooenab.Ux
set_option linter.unusedVariables false
open Go.RowKit Go.Maps Ft Is Ge Qb Pt Pv Za Mm Zb Zc Zd Vq Sdq Sdu Uf Ug Uh Uk Uc

theorem eg_at {ms : Nat → Nat} : ∀ {n i q : Nat}, i < n → q < ms i → eg ms n (sumN ms i + q) = (i, q)
  | 0, i, q, h, _ => by omega
  | n + 1, i, q, h, hq => by
    unfold eg plc
    rw [List.getD_eq_getElem?_getD]
    by_cases e : i = n
    · subst e
      rw [List.getElem?_append_right (by rw [plc_len]; omega), plc_len, show sumN ms i + q - sumN ms i = q by omega]
      simp [hq]
    · have hl : sumN ms i + q < (plc ms n).length := by
        rw [plc_len]
        have : ∀ p, i < p → sumN ms i + ms i ≤ sumN ms p := fun p => by
          induction p with
          | zero => intro h; omega
          | succ p ih =>
            intro hp
            show _ ≤ sumN ms p + ms p
            by_cases e' : i = p
            · subst e'; omega
            · have := ih (by omega); omega
        have := this n (by omega)
        omega
      rw [List.getElem?_append_left hl]
      have := eg_at (ms := ms) (n := n) (i := i) (q := q) (by omega) hq
      unfold eg at this
      rw [List.getD_eq_getElem?_getD] at this
      exact this
set_option maxRecDepth 100000 in
set_option maxHeartbeats 1000000 in
theorem s_next (g : Nat) (A : Option Addr) (n c : Nat) (N : Nat → ByteArray) (ms : Nat → Nat) (ds : Nat → Nat → Int) (Y : Option Addr) (k sc : Nat) (S : Nat → Int) (o : Int) (i q : Nat) (hi : i < n) (hm : 1 ≤ ms i ∧ ms i ≤ 8) (hq : q < ms i) (w : World) (h : Boxed w g A n c N ms ds Y k sc S o) :
    Calls Try.prog 166 #[.pointer (some ⟨g, 0, none⟩), .int .i64 (i : Int), .int .i64 (q : Int)] w fun e' w' => e' = .returned (.int .i64 (nx (ms i) q : Int)) ∧ w = w' := by
  obtain ⟨As, cs, hR⟩ := h.pat.pcs
  obtain ⟨bp, op, rfl, hbp, hc⟩ := hR.out (by omega)
  have u1 := (hc i hi).2
  obtain ⟨x0, _, _⟩ := blk3 h.blk
  have hn := nx_int (ms i) q
  have n1 : (0 : Int) ≤ (i : Int) := Int.natCast_nonneg _
  have l1 : (i : Int) < (n : Int) := by omega
  generalize nx (ms i) q = r at hn ⊢
  generalize ms i = m at u1 hm hq hn
  generalize cs i = ci at u1
  generalize As i = ai at u1
  have m0 : ¬ (m : Int) = 0 := by omega
  have q0 : (0 : Int) ≤ (q : Int) := Int.natCast_nonneg _
  have hm0 : (0 : Int) ≤ (m : Int) := Int.natCast_nonneg _
  clear h hR hc
  go_enter Try.func166, Try.ntmps166
  go_wp2_with fail
  go_ret
  exact ⟨ret_int hn, rfl⟩
/-- The list of which the first j numbers are laid. -/
def ly (j i : Nat) : Int := if i < j then (i : Int) else 0
theorem ly_set {w : World} {g n j : Nat} (h : At w g n (ly j)) (hj : j < n) : At (w.setCell ⟨g, j, none⟩ (.int .i64 (j : Int))) g n (ly (j + 1)) :=
  ⟨by simpa using h.1, fun i hi => by
    by_cases e : i = j
    · subst e
      rw [World.cell?_setCell_same _ _ _ (h.2.1 i hi)]
      unfold ly
      rw [if_pos (by omega)]
    · rw [World.cell?_setCell_other _ _ _ _ (show (⟨g, j, none⟩ : Addr) ≠ ⟨g, i, none⟩ from fun q => by have := (Addr.mk.inj q).2.1; omega), h.2.1 i hi]
      unfold ly
      by_cases e2 : i < j
      · rw [if_pos e2, if_pos (by omega)]
      · rw [if_neg e2, if_neg (by omega)], fun i => (World.frozen?_setCell _ _ _ _).trans (h.2.2 i)⟩
theorem s_two (ms : Nat → Nat) (S : Nat → Int) (j : Nat) : sX ms S (2 * j) = pc (endA S j) ∧ sY ms S (2 * j) = pc (nxt ms (endB S j)) ∧ sX ms S (2 * j + 1) = pc (nxt ms (endA S j)) ∧ sY ms S (2 * j + 1) = pc (endB S j) := by
  unfold sX sY
  rw [if_pos (by omega), if_pos (by omega), if_neg (by omega), if_neg (by omega), show 2 * j / 2 = j by omega, show (2 * j + 1) / 2 = j by omega]
  exact ⟨rfl, rfl, rfl, rfl⟩
theorem pc_int (x : Nat × Nat) : 8 * (x.1 : Int) + (x.2 : Int) = (pc x : Int) := by unfold pc; omega
end Go.Proofs.Ytpmmfalpcooenab.Ux

/- CornersOf: the program's corners. -/
import Derived.Test.YtpmmfalpcooenabUdLib
import Derived.Test.YtpmmfalpcooenabUkLib
import Derived.StillTailTactics
namespace Go.Proofs.Ytpmmfalpcooenab.Uq
set_option linter.unusedVariables false
open Go.RowKit Go.Maps Ft Is Ge Qb Pt Pv Za Mm Zb Zc Zd Vq Sdq Sdu Uf Ug Uc Ud

theorem info_ed : (Try.prog.info? 171).map (fun i => (i.zero, i.size, i.bytes)) = some (some (.agg #[.int .i64 0, .int .i64 0]), 2, 16) := by kernel_rfl
/-- The cells of places, two a place. -/
def pf (x : Nat → Nat) (m : Nat) : Int := if m % 2 = 0 then (x (m / 2) : Int) / 8 else (x (m / 2) : Int) % 8
theorem pf_two (x : Nat → Nat) (t : Nat) : upto (pf x) ((t + 1) * 2) = upto (pf x) (t * 2) ++ [.int .i64 ((x t : Int) / 8), .int .i64 ((x t : Int) % 8)] := by
  rw [show (t + 1) * 2 = t * 2 + 1 + 1 by omega, upto_snoc, upto_snoc]
  have h1 : pf x (t * 2) = (x t : Int) / 8 := by unfold pf; rw [if_pos (by omega), show t * 2 / 2 = t by omega]
  have h2 : pf x (t * 2 + 1) = (x t : Int) % 8 := by unfold pf; rw [if_neg (by omega), show (t * 2 + 1) / 2 = t by omega]
  rw [h1, h2]
  simp
theorem plr_of {n B : Nat} {x : Nat → Nat} {w : World} {v : Value} (h : w.ownsRow B 171 2 v n (upto (pf x) (n * 2))) : ∃ A cap, v = .slice A n cap ∧ PlR w A n x := by
  rcases h.2 with ⟨rfl, rfl⟩ | ⟨g, cap, cur, rfl, hbg, hh, _⟩
  · exact ⟨none, 0, rfl, fun h => absurd h (by omega)⟩
  · exact ⟨_, cap, rfl, fun _ => ⟨g, 0, rfl, lt_of_heap hh, fun i hi => by
      have h1 := h.cellAt (i * 2) (by omega)
      have h2 := h.cellAt (i * 2 + 1) (by omega)
      rw [upto_get _ (by omega)] at h1 h2
      rw [Nat.zero_add]
      unfold pf at h1 h2
      rw [if_pos (by omega), show i * 2 / 2 = i by omega] at h1
      rw [if_neg (by omega), show (i * 2 + 1) / 2 = i by omega] at h2
      exact ⟨h1, h2⟩⟩⟩
theorem row_but {w w' : World} {base : Nat} {e : TypeId} {size n : Nat} {v : Value} {xs : List Value} (h : w.ownsRow base e size v n xs) {b : Nat} (hg : Bw.But b w w') (hb : b < base) : w'.ownsRow base e size v n xs := by
  rcases h with ⟨h1, h2 | ⟨g, cap, cur, hv, hB, hh, h3⟩⟩
  · exact ⟨h1, .inl h2⟩
  · exact ⟨h1, .inr ⟨g, cap, cur, hv, hB, (hg.block g (lt_of_heap hh) (by omega)).trans hh, h3⟩⟩
theorem g_int {x : Nat × Nat} (h : x.2 < 8) : (x.1 : Int) = (pc x : Int) / 8 ∧ (x.2 : Int) = (pc x : Int) % 8 := by unfold pc; omega
end Go.Proofs.Ytpmmfalpcooenab.Uq

/- sort.Search over a rising condition, and the program's half sizes that are looked for with it. -/
import Derived.Test.YtgclhkiiaclkgaaLhLib
import Derived.Deep.LoopGhost
import Derived.Deep.RegionHeld3
import Derived.Shelf.Lays
namespace Go.Proofs.Ytgclhkiiaclkgaa.Sr
open Go.RowKit Go.Shelf Ba Nh Sc Fr Lh

theorem keep_of {w2 w' : World} {g i : Nat} {v : Value} (hb : Below w2.heap.size w2 w') (hg : g < w2.heap.size) (h : w2.cell? ⟨g, i, none⟩ = some v) : w'.cell? ⟨g, i, none⟩ = some v := (hb.cell (p := ⟨g, i, none⟩) hg).trans h

set_option maxHeartbeats 1000000 in
set_option maxRecDepth 100000 in
/-- sort.Search: of the condition that holds from c on it finds c. -/
theorem search_any (g : Nat) (rs : Array Value) (n c : Nat) (hn : n ≤ 100000) (hc : c ≤ n) (w : World) (eg : ∀ args w, (callFunc g args).run Try.prog w = .ok (.enter g args) w)
    (hf : ∀ (W : World) (i : Nat), i < n → Calls Try.prog g (rs ++ #[.int .i64 i]) W fun e w' => e = .returned (.bool (decide (c ≤ i))) ∧ Below W.heap.size W w') :
    Calls Try.prog 87 #[.int .i64 n, .func (.func g) rs #[]] w fun e w' => e = .returned (.int .i64 (c : Int)) ∧ Below w.heap.size w w' := by
  have HF := Lib.hid hf
  clear hf
  go_enter Try.func87, Try.ntmps87
  go_wp2_with fail
  go_loopg [5, 6] n (fun kx s5 s6 wr => ∃ (lo hi : Nat), s5 = .int .i64 lo ∧ s6 = .int .i64 hi ∧ lo ≤ c ∧ c ≤ hi ∧ hi ≤ n ∧ hi - lo ≤ kx ∧ Hid (Below w.heap.size w wr))
  case atStart => exact ⟨0, n, rfl, rfl, Nat.zero_le _, hc, Nat.le_refl _, by omega, Lib.hid (Below.refl _ _)⟩
  case round =>
    obtain ⟨lo, hi, rfl, rfl, h1, h2, h3, h4, HB⟩ := hrel
    by_cases hlt : lo < hi
    · have hc' := HF.out wr ((lo + hi) / 2) (by omega)
      rw [show (((lo + hi) / 2 : Nat) : Int) = ((lo : Int) + (hi : Int)) / 2 by omega] at hc'
      cases hp : decide (c ≤ (lo + hi) / 2) <;> rw [hp] at hc' <;> simp at hp
      · go_wp2_with (go_at_fn g; refine hc'.mono ?_; rintro e w2 ⟨rfl, b2⟩)
        have HQ := Lib.hid (below_then HB.out b2)
        clear b2 hc'
        go_roundg (hi - ((lo + hi) / 2 + 1))
        case measure => omega
        case rel => exact ⟨(lo + hi) / 2 + 1, hi, by rw [show ((lo : Int) + (hi : Int)) / 2 + 1 = (((lo + hi) / 2 + 1 : Nat) : Int) by omega], rfl, by omega, h2, h3, Nat.le_refl _, HQ⟩
      · go_wp2_with (go_at_fn g; refine hc'.mono ?_; rintro e w2 ⟨rfl, b2⟩)
        have HQ := Lib.hid (below_then HB.out b2)
        clear b2 hc'
        go_roundg ((lo + hi) / 2 - lo)
        case measure => omega
        case rel => exact ⟨lo, (lo + hi) / 2, rfl, by rw [show ((lo : Int) + (hi : Int)) / 2 = (((lo + hi) / 2 : Nat) : Int) by omega], h1, by omega, by omega, Nat.le_refl _, HQ⟩
    · obtain rfl : hi = lo := by omega
      obtain rfl : c = hi := by omega
      go_wp2_with fail
      go_ret
      exact ⟨rfl, HB.out⟩

theorem less_any (a b p q : Int) (h1 : 0 ≤ a * q) (h2 : a * q ≤ 1000000000000) (h3 : 0 ≤ p * b) (h4 : p * b ≤ 1000000000000) (w : World) :
    Calls Try.prog 63 #[.agg #[.int .i64 a, .int .i64 b], .agg #[.int .i64 p, .int .i64 q]] w fun e w' => e = .returned (.bool (decide (a * q < p * b))) ∧ Below w.heap.size w w' := by
  go_enter Try.func63, Try.ntmps63
  go_wp2_with fail
  all_goals (try go_quiet (fail))
  all_goals (try go_wp2_with fail)
  all_goals
    go_ret
    exact ⟨rfl, by repeat (first | exact Below.refl _ _ | refine Below.drewN ?_ _ | refine Below.alloc ?_ (by simp) _)⟩
end Go.Proofs.Ytgclhkiiaclkgaa.Sr

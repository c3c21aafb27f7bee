/- sort.Search over a rising condition that a closure asks. -/
import Derived.Test.YtgclhkiiaclkgaaNhLib
import Derived.Test.YtgclhkiiaclkgaaGeLib
import Derived.Test.YtgclhkiiaclkgaaQbLib
import Derived.Deep.LoopGhost
import Derived.Deep.RegionHeld3
import Derived.Shelf.Lays
namespace Go.Proofs.Ytgclhkiiaclkgaa.Se
open Go.RowKit Go.Shelf Ft Ge Qb

set_option maxHeartbeats 1000000 in
set_option maxRecDepth 100000 in
/-- sort.Search: of the condition that holds from c on it finds c. -/
theorem search_cl (g : Nat) (lb : Array Value) (n c : Nat) (hn : n ≤ 100000) (hc : c ≤ n) (w : World) (eg : ∀ args w, (callFunc g args).run Try.prog w = .ok (.enter g args) w)
    (hf : ∀ (W : World) (i : Nat), i < n → Below w.heap.size w W → Calls Try.prog g (#[.int .i64 i] ++ lb) W fun e w' => e = .returned (.bool (decide (c ≤ i))) ∧ Below W.heap.size W w') :
    Calls Try.prog 87 #[.int .i64 n, .func (.func g) #[] lb] w fun e w' => e = .returned (.int .i64 (c : Int)) ∧ Below w.heap.size w w' := by
  have HF := Lib.hid hf
  clear hf
  go_enter Try.func87, Try.ntmps87
  go_wp2_with fail
  go_loopg [5, 6] n (fun kx s5 s6 wr => ∃ (lo hi : Nat), s5 = .int .i64 lo ∧ s6 = .int .i64 hi ∧ lo ≤ c ∧ c ≤ hi ∧ hi ≤ n ∧ hi - lo ≤ kx ∧ Hid (Below w.heap.size w wr))
  case atStart => exact ⟨0, n, rfl, rfl, Nat.zero_le _, hc, Nat.le_refl _, by omega, Lib.hid (Below.refl _ _)⟩
  case round =>
    obtain ⟨lo, hi, rfl, rfl, h1, h2, h3, h4, HB⟩ := hrel
    by_cases hlt : lo < hi
    · have hc' := HF.out wr ((lo + hi) / 2) (by omega) HB.out
      rw [show (((lo + hi) / 2 : Nat) : Int) = ((lo : Int) + (hi : Int)) / 2 by omega] at hc'
      cases hp : decide (c ≤ (lo + hi) / 2) <;> rw [hp] at hc' <;> simp at hp
      · go_wp2_with (go_at_fn g; refine hc'.mono ?_; rintro e w2 ⟨rfl, b2⟩)
        have HQ := Lib.hid (below_then HB.out b2)
        clear b2 hc'
        go_roundg (hi - ((lo + hi) / 2 + 1))
        case measure => omega
        case rel => exact ⟨(lo + hi) / 2 + 1, hi, by rw [show ((lo : Int) + (hi : Int)) / 2 + 1 = (((lo + hi) / 2 + 1 : Nat) : Int) by omega], rfl, by omega, h2, h3, Nat.le_refl _, HQ⟩
      · go_wp2_with (go_at_fn g; refine hc'.mono ?_; rintro e w2 ⟨rfl, b2⟩)
        have HQ := Lib.hid (below_then HB.out b2)
        clear b2 hc'
        go_roundg ((lo + hi) / 2 - lo)
        case measure => omega
        case rel => exact ⟨lo, (lo + hi) / 2, rfl, by rw [show ((lo : Int) + (hi : Int)) / 2 = (((lo + hi) / 2 : Nat) : Int) by omega], h1, by omega, by omega, Nat.le_refl _, HQ⟩
    · obtain rfl : hi = lo := by omega
      obtain rfl : c = hi := by omega
      go_wp2_with fail
      go_ret
      exact ⟨rfl, HB.out⟩

end Go.Proofs.Ytgclhkiiaclkgaa.Se

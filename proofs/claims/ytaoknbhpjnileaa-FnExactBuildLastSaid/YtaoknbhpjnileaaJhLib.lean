/- Five numbers of two things, and one number written: for the program's 'joined'. -/
import Derived.Test.YtaoknbhpjnileaaGaLib
import Derived.Deep.DeepCutAuto
import Derived.Deep.DeepMust
import Derived.Deep.RegionHeld3
import Derived.Shelf.Lays
namespace Go.Proofs.Ytaoknbhpjnileaa.Jo
open Go.RowKit Go.Shelf Ft Ge Qb La Ga

theorem num_last (s : ByteArray) (x : Nat → Int) (w : World) : Calls Try.prog 77 #[laV s x] w fun e w' => e = .returned (fvV x) ∧ (w.alloc (laC s x 33)).alloc (fvC x 100) = w' := by
  unfold laV fvV laC fvC
  generalize x 0 = a, x 1 = b, x 2 = c, x 3 = d, x 4 = p
  go_enter Try.func77, Try.ntmps77
  go_wp2
  exact bodyPost_ret (v := .agg #[.int .i64 a, .int .i64 b, .int .i64 c, .int .i64 d, .int .i64 p]) (by simp [results, Try.results77, go_sem]) rfl ⟨rfl, rfl⟩
theorem num_grade (g : Nat → Int) (w : World) : Calls Try.prog 82 #[fvV g] w fun e w' => e = .returned (fvV g) ∧ (w.alloc (fvC g 61)).alloc (fvC g 100) = w' := by
  unfold fvV fvC
  generalize g 0 = a, g 1 = b, g 2 = c, g 3 = d, g 4 = p
  go_enter Try.func82, Try.ntmps82
  go_wp2
  exact bodyPost_ret (v := .agg #[.int .i64 a, .int .i64 b, .int .i64 c, .int .i64 d, .int .i64 p]) (by simp [results, Try.results82, go_sem]) rfl ⟨rfl, rfl⟩
theorem method_la (x0 x1 x2 x3 x4 x5 : Value) (w : World) : (method 252 33 (.agg #[x0, x1, x2, x3, x4, x5]) "loop.example/g01043/impl.numbers").run Try.prog w = .ok (77, .agg #[x0, x1, x2, x3, x4, x5]) w := by kernel_rfl
theorem method_gr (x0 x1 x2 x3 x4 : Value) (w : World) : (method 252 61 (.agg #[x0, x1, x2, x3, x4]) "loop.example/g01043/impl.numbers").run Try.prog w = .ok (82, .agg #[x0, x1, x2, x3, x4]) w := by kernel_rfl
theorem keep_of {w2 W : World} {g o : Nat} {v : Value} (hb : Below w2.heap.size w2 W) (hg : g < w2.heap.size) (h : w2.cell? ⟨g, o, none⟩ = some v) : W.cell? ⟨g, o, none⟩ = some v := (hb.cell (p := ⟨g, o, none⟩) hg).trans h
/-- One number written. -/
theorem step_one {a r : Nat → Int} {wr : World} {g k : Nat} (hlt : k < 5) (h : ∀ j, j < 5 → wr.cell? ⟨g, j, none⟩ = some (.int .i64 (if j < k then r j else a j))) (x0 : wr.cell? ⟨g, k, none⟩ = some (.int .i64 (a k))) :
    ∀ j, j < 5 → ((wr.setCell ⟨g, k, none⟩ (.int .i64 (r k))).drew).cell? ⟨g, j, none⟩ = some (.int .i64 (if j < k + 1 then r j else a j)) := by
  intro j hj
  by_cases e : j = k
  · subst e
    rw [if_pos (by omega)]
    exact World.cell?_setCell_same _ _ _ x0
  · have h' := h j hj
    have e' : (if j < k + 1 then r j else a j) = (if j < k then r j else a j) := by
      by_cases hjk : j < k
      · rw [if_pos hjk, if_pos (by omega)]
      · rw [if_neg hjk, if_neg (by omega)]
    rw [e', ← h']
    exact World.cell?_setCell_other _ _ _ _ (show (⟨g, k, none⟩ : Addr) ≠ ⟨g, j, none⟩ from fun q => e (Addr.mk.inj q).2.1.symm)
theorem step_far {f : Nat → Int} {wr : World} {g g' : Nat} (hne : g ≠ g') (k : Nat) (u : Value) (h : ∀ j, j < 5 → wr.cell? ⟨g', j, none⟩ = some (.int .i64 (f j))) :
    ∀ j, j < 5 → ((wr.setCell ⟨g, k, none⟩ u).drew).cell? ⟨g', j, none⟩ = some (.int .i64 (f j)) := fun j hj =>
  (World.cell?_setCell_other _ _ _ _ (show (⟨g, k, none⟩ : Addr) ≠ ⟨g', j, none⟩ from fun q => hne (Addr.mk.inj q).1)).trans (h j hj)

end Go.Proofs.Ytaoknbhpjnileaa.Jo

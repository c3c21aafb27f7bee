/- Functions on two feet: four measures as a list and back, the greater of two numbers. -/
import Derived.Test.YtpmmfalpcooenabFsLib
import Derived.Deep.AppendLies
import Derived.RegionTactic
import Derived.OwnWalk
namespace Go.Proofs.Ytpmmfalpcooenab.Ld
open Go.RowKit Ft Fs

/-- Blocks that are known whole, and what becomes of them. -/
theorem blk_keep {W w1 : World} (hb : Below W.heap.size W w1) {g : Nat} {o : Obj} (h : W.heap[g]? = some o) : w1.heap[g]? = some o := (hb.block g (lt_of_heap h)).trans h
theorem blk4 {w : World} {g : Nat} {t : TypeId} {c0 c1 c2 c3 : Value} (h : w.heap[g]? = some (.cells #[c0, c1, c2, c3] t (0, 0))) :
    w.cell? ⟨g, 0, none⟩ = some c0 ∧ w.cell? ⟨g, 1, none⟩ = some c1 ∧ w.cell? ⟨g, 2, none⟩ = some c2 ∧ w.cell? ⟨g, 3, none⟩ = some c3 :=
  ⟨cell_of_row _ _ _ _ _ _ h, cell_of_row _ _ _ _ _ _ h, cell_of_row _ _ _ _ _ _ h, cell_of_row _ _ _ _ _ _ h⟩
theorem blk_free {w : World} {g : Nat} {t : TypeId} {cs : Array Value} (h : w.heap[g]? = some (.cells cs t (0, 0))) (i : Nat) : w.frozen? ⟨g, i, none⟩ = false := by simp [World.frozen?, h]
theorem three (w : World) (A B Z : Obj) : (((w.alloc A).alloc B).alloc Z).heap[w.heap.size]? = some A ∧ (((w.alloc A).alloc B).alloc Z).heap[w.heap.size + 1]? = some B ∧ (((w.alloc A).alloc B).alloc Z).heap[w.heap.size + 2]? = some Z := by
  refine ⟨?_, ?_, ?_⟩
  · rw [Below.heap_alloc _ _ _ (by simp; omega), Below.heap_alloc _ _ _ (by simp)]; exact heap_alloc_new _ _
  · rw [Below.heap_alloc _ _ _ (by simp)]
    have := heap_alloc_new (w.alloc A) B
    simpa using this
  · have := heap_alloc_new ((w.alloc A).alloc B) Z
    simpa using this
theorem below3 (w : World) (A B Z : Obj) : Below w.heap.size w (((w.alloc A).alloc B).alloc Z) := (((Below.refl _ _).alloc (Nat.le_refl _) _).alloc (by simp) _).alloc (by simp; omega) _

/-- A new list of four numbers. -/
def FourAt (f : Nat → Int) (w : World) (e : Ending) (w' : World) : Prop :=
  ∃ g, e = .returned (.slice (some ⟨g, 0, none⟩) 4 4) ∧ w.heap.size ≤ g ∧ g < w'.heap.size ∧ Below w.heap.size w w' ∧ Hid (∀ j, j < 4 → w'.cell? ⟨g, j, none⟩ = some (.int .i64 (f j)))
theorem four_any (f : Nat → Int) (w : World) : Calls Try.prog 110 #[.agg #[.int .i64 (f 0), .int .i64 (f 1), .int .i64 (f 2), .int .i64 (f 3)]] w (FourAt f w) := by
  have HF : Hid (∀ j, j < 4 → (#[Value.int .i64 (f 0), .int .i64 (f 1), .int .i64 (f 2), .int .i64 (f 3)] : Array Value)[j]? = some (.int .i64 (f j))) := Lib.hid fun j hj => by
    obtain rfl | rfl | rfl | rfl : j = 0 ∨ j = 1 ∨ j = 2 ∨ j = 3 := by omega
    all_goals rfl
  have HP : Hid (∀ (g : Nat) (w' : World), w.heap.size ≤ g → g < w'.heap.size → Below w.heap.size w w' → (∀ j, j < 4 → w'.cell? ⟨g, j, none⟩ = some (.int .i64 (f j))) → FourAt f w (.returned (.slice (some ⟨g, 0, none⟩) 4 4)) w') := Lib.hid fun g w' h1 h2 h3 h4 => ⟨g, rfl, h1, h2, h3, Lib.hid h4⟩
  generalize FourAt f w = Q at HP ⊢
  generalize f 0 = a, f 1 = b, f 2 = c, f 3 = d at HF ⊢
  go_enter Try.func110, Try.ntmps110
  go_wp2_with fail
  exact HP.out _ _ (by simp) (by simp) (by repeat (first | exact Below.refl _ _ | exact below_box _ _ | refine Below.alloc ?_ (by simp <;> omega) _)) (fun j hj => by
    have h := (cell_of_row ((w.alloc (.cells #[.int .i64 a, .int .i64 b, .int .i64 c, .int .i64 d] 64)).alloc (.cells #[.int .i64 a, .int .i64 b, .int .i64 c, .int .i64 d] 2)) _ j _ _ (0, 0) (heap_alloc_new _ _)).trans (HF.out j hj)
    rw [show (w.alloc (.cells #[.int .i64 a, .int .i64 b, .int .i64 c, .int .i64 d] 64)).heap.size = w.heap.size + 1 by simp] at h
    exact h)
theorem max_any (a b : Int) (w : World) : Calls Try.prog 128 #[.int .i64 a, .int .i64 b] w fun e w' => e = .returned (.int .i64 (max a b)) ∧ w = w' := by
  by_cases h : b < a
  · have hm := Lib.hid (show max a b = a by omega)
    go_enter Try.func128, Try.ntmps128
    go_wp2
    go_ret
    exact ⟨by rw [hm.out]; rfl, rfl⟩
  · have hm := Lib.hid (show max a b = b by omega)
    go_enter Try.func128, Try.ntmps128
    go_wp2
    go_ret
    exact ⟨by rw [hm.out]; rfl, rfl⟩
theorem info_int : (Try.prog.info? 2).map (fun i => (i.zero, i.size, i.bytes)) = some (some (.int .i64 0), 1, 8) := by kernel_rfl
/-- The first k of some numbers, as cells. -/
def upto (f : Nat → Int) (k : Nat) : List Value := (List.range k).map fun j => Value.int .i64 (f j)
theorem upto_snoc (f : Nat → Int) (k : Nat) : upto f (k + 1) = upto f k ++ [.int .i64 (f k)] := by simp [upto, List.range_succ]
theorem upto_get (f : Nat → Int) {k j : Nat} (h : j < k) : (upto f k)[j]? = some (.int .i64 (f j)) := by simp [upto, h]
theorem own_ne {w : World} {base : Nat} {e : TypeId} {size n : Nat} {v : Value} {xs : List Value} (h : w.ownsRow base e size v n xs) {b : Nat} (hb : b < base) : v.ownBlock ≠ some b := fun e => by have := (h.lt b e).1; omega

end Go.Proofs.Ytpmmfalpcooenab.Ld

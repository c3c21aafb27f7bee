/- cutStrips: the program's iterator over the edges of a valid list: its contract. -/
import Derived.RangeFuncNested
import Derived.RangeFuncBound
import Derived.RangeFuncCalls
import Derived.RangeFuncLeaves
import Derived.RangeFuncBox
import Derived.Shelf.Abstract
import Derived.Shelf.RegionOpen
import Derived.WalkKit
import Derived.OwnWalkIn
import Derived.TacticsInMore
import Derived.LoopNIn
import Derived.LoopIn
import Derived.Maps.AppendAt
import Derived.Test.YtpmmfalpcooenaaDoorEsLib
import Derived.Test.YtpmmfalpcooenaaDoorOwLib
namespace Go.Proofs.YtpmmfalpcooenaaDoor.It
set_option linter.unusedVariables false
open Go.RowKit Go.Shelf Ft Is Ge Qb Stv Er
attribute [local go_sem] Oper.semAt_some

/-- The numbers of edge k (nothing behind the last one). -/
def s (n : Nat) (f : Nat → Int) (k j : Nat) : Int := if k < n then f (k * 4 + j) else 0
/-- The cut length of edge k. -/
def cl (n : Nat) (f : Nat → Int) (k : Nat) : Int := clI (s n f k 0) (s n f k 1) (s n f k 2) (s n f k 3)
theorem s_in {n : Nat} {f : Nat → Int} (h : StP n f) (k : Nat) : (0 ≤ s n f k 0 ∧ s n f k 0 ≤ 5000) ∧ (0 ≤ s n f k 1 ∧ s n f k 1 ≤ 200) ∧ (0 ≤ s n f k 2 ∧ s n f k 2 ≤ 200) ∧ (0 ≤ s n f k 3 ∧ s n f k 3 ≤ 200) := by
  unfold s
  by_cases hk : k < n
  · simp only [if_pos hk, Nat.add_zero]
    obtain ⟨h0, h1, h2, h3⟩ := st_in h hk
    exact ⟨by omega, h1, h2, h3⟩
  · simp only [if_neg hk]
    omega
theorem cl_in {n : Nat} {f : Nat → Int} (h : StP n f) (k : Nat) : 0 ≤ cl n f k ∧ cl n f k ≤ 5400 := by
  obtain ⟨h0, h1, h2, h3⟩ := s_in h k
  unfold cl clI
  split <;> omega
theorem cut_len (a b c d : Int) (ha : 0 ≤ a ∧ a ≤ 5000) (hc : 0 ≤ c ∧ c ≤ 200) (hd : 0 ≤ d ∧ d ≤ 200) (w : World) :
    Calls Tryd.prog 84 #[.agg #[.int .i64 a, .int .i64 b, .int .i64 c, .int .i64 d]] w fun e w' => e = .returned (.int .i64 (clI a b c d)) ∧ w' = w.alloc (.cells #[.int .i64 a, .int .i64 b, .int .i64 c, .int .i64 d] 54) := by
  unfold clI
  by_cases hb : b = 0
  · subst hb
    go_enter Tryd.func84, Tryd.ntmps84
    go_wp2
    go_ret
    exact ⟨rfl, rfl⟩
  · rw [if_neg hb]
    go_enter Tryd.func84, Tryd.ntmps84
    go_wp2
    go_ret
    exact ⟨rfl, rfl⟩
/-- What the iterator hands to the body. -/
def en (n : Nat) (f : Nat → Int) (k : Nat) : Value := .agg #[.int .i64 (s n f k 0), .int .i64 (s n f k 1), .int .i64 (s n f k 2), .int .i64 (s n f k 3), .int .i64 (cl n f k)]
/-- impl.cutStrips: the list is boxed, the closure captures the box. -/
theorem cut_strips (A : Option Addr) (n c : Nat) (w : World) : Calls Tryd.prog 51 #[.slice A n c] w fun e w' => e = .returned (.func (.func 83) #[] #[.pointer (some ⟨w.heap.size, 0, none⟩)]) ∧ w' = w.alloc (.cells #[.slice A n c] 25) := by
  go_enter Tryd.func51, Tryd.ntmps51
  go_wp2
  go_ret
  exact ⟨rfl, rfl⟩
theorem yield_b {e : Ending} {A B : Prop} (h : (e = .returned (.bool true) ∧ A) ∨ (e = .returned (.bool false) ∧ B)) : ∃ q, e = .returned (.bool q) ∧ ((q = true ∧ A) ∨ (q = false ∧ B)) := by
  rcases h with ⟨h, a⟩ | ⟨h, b⟩
  · exact ⟨true, h, .inl ⟨rfl, a⟩⟩
  · exact ⟨false, h, .inr ⟨rfl, b⟩⟩
theorem j_alloc {β : Type} {B : Nat} {J : β → World → Prop} (h : AbidesFrom B J) {x : β} {W : World} (o : Obj) (hs : J x W) : J x (W.alloc o) := h x W _ none hs (W.grownBy_alloc o none) (fun r e => by cases e)
theorem j_drew {β : Type} {B : Nat} {J : β → World → Prop} (h : AbidesFrom B J) {x : β} {W : World} (hs : J x W) : J x W.drew := h x W _ none hs ⟨rfl, rfl, rfl, Nat.le_refl _, fun i hi _ => rfl⟩ (fun r e => by cases e)
set_option maxRecDepth 100000 in
set_option maxHeartbeats 2000000 in
theorem iter1 (m l Bs n₀ b off n cap : Nat) (f : Nat → Int) (hP : StP n f) (hm : 1 ≤ m) (hb : b < n₀) (J Jx : List Nat → World → Prop) (B : Nat) (hJ : AbidesFrom B J)
    (hY : ∀ pre x W, J pre W → pre.length < n → YieldAt Fence.wide (m - 1) Tryd.prog l #[en n f x] W fun e W' =>
      (e = .returned (.bool true) ∧ J (pre ++ [x]) W' ∧ Below n₀ W W') ∨ (e = .returned (.bool false) ∧ Jx (pre ++ [x]) W'))
    (W : World) (hn₀ : n₀ ≤ W.heap.size) (hBs : W.cell? ⟨Bs, 0, none⟩ = some (.slice (some ⟨b, off, none⟩) n cap)) (hc : ∀ i, i < n * 4 → W.cell? ⟨b, off + i, none⟩ = some (.int .i64 (f i))) (h0 : J [] W) :
    CallsIn Fence.wide m Tryd.prog 83 #[.func (.yield l) #[] #[], .pointer (some ⟨Bs, 0, none⟩)] W fun e W' => (∃ v, e = .returned v) ∧
      ((∃ ys, ys = List.range n ∧ J ys W') ∨ (∃ pre, (∃ k, k ≤ n ∧ pre = List.range k) ∧ Jx pre W')) := by
  have HN : n ≤ 12 := hP.2.2
  refine callsIn_of_wp Tryd.func83 rfl trivial ?_ rfl
  simp only [Tryd.ntmps83, List.size_toArray, List.length_cons, List.length_nil, Nat.reduceAdd, Nat.reduceSub, Array.replicate_succ, Array.replicate_zero, List.push_toArray, List.append_toArray, List.nil_append, List.cons_append]
  gi_wp2
  gi_loopw [7] (fun i wr => ∃ k : Nat, k ≤ n ∧ i = .int .i64 k ∧ J (List.range k) wr ∧ Below n₀ W wr)
    (fun i _ => n - (intOf i).toNat)
  case atStart => exact ⟨0, Nat.zero_le _, rfl, h0, Below.refl _ _⟩
  case round =>
    obtain ⟨k, hk, rfl, hJs, hnx⟩ := hrel
    by_cases hlt : k < n
    · have y : ∀ j, j < 4 → wr.cell? ⟨b, off + k * 4 + j, none⟩ = some (.int .i64 (s n f k j)) := fun j hj => by
        have h1 := (hnx.cell (p := ⟨b, off + (k * 4 + j), none⟩) hb).trans (hc (k * 4 + j) (by omega))
        unfold s
        rw [if_pos hlt, Nat.add_assoc]
        exact h1
      obtain ⟨p0, p1, p2, p3⟩ := s_in hP k
      have CL := fun W => callsIn_wide (n := m - 1) |>.2 (cut_len (s n f k 0) (s n f k 1) (s n f k 2) (s n f k 3) p0 p2 p3 W)
      obtain ⟨Wx, hWx⟩ : ∃ Wx, wr.alloc (.cells #[.int .i64 (s n f k 0), .int .i64 (s n f k 1), .int .i64 (s n f k 2), .int .i64 (s n f k 3)] 54) = Wx := ⟨_, rfl⟩
      obtain ⟨fn, tmps, assign, body, hy, hR⟩ := hY _ k (Wx.alloc (.cells #[.int .i64 (s n f k 0), .int .i64 (s n f k 1), .int .i64 (s n f k 2), .int .i64 (s n f k 3)] 54)).drew (j_drew hJ (j_alloc hJ _ (by rw [← hWx]; exact j_alloc hJ _ hJs))) (by simpa using hlt)
      have y0 := y 0 (by decide)
      have y1 := y 1 (by decide)
      have y2 := y 2 (by decide)
      have y3 := y 3 (by decide)
      have e1 : (k : Int) < (n : Int) := by omega
      have e0 : (0 : Int) ≤ (k : Int) := Int.natCast_nonneg _
      simp only [Nat.add_zero] at y0
      have KX : Wx.heap[wr.heap.size]? = some (.cells #[.int .i64 (s n f k 0), .int .i64 (s n f k 1), .int .i64 (s n f k 2), .int .i64 (s n f k 3)] 54) := by rw [← hWx]; exact blk_new _ _
      have hmx : Tryd.prog.follows .mixedOrders = true := by kernel_rfl
      unfold en cl at hy
      unfold cl at *
      generalize clI (s n f k 0) (s n f k 1) (s n f k 2) (s n f k 3) = cv at *
      generalize s n f k 0 = u0 at *
      generalize s n f k 1 = u1 at *
      generalize s n f k 2 = u2 at *
      generalize s n f k 3 = u3 at *
      clear y p0 p1 p2 p3 hc hk
      have hk1 : k + 1 ≤ n := by omega
      have x0 : Wx.cell? ⟨wr.heap.size, 0, none⟩ = some (.int .i64 u0) := cell_of_row _ _ _ _ _ _ KX
      have x1 : Wx.cell? ⟨wr.heap.size, 1, none⟩ = some (.int .i64 u1) := cell_of_row _ _ _ _ _ _ KX
      have x2 : Wx.cell? ⟨wr.heap.size, 2, none⟩ = some (.int .i64 u2) := cell_of_row _ _ _ _ _ _ KX
      have x3 : Wx.cell? ⟨wr.heap.size, 3, none⟩ = some (.int .i64 u3) := cell_of_row _ _ _ _ _ _ KX
      have z0 : (Wx.alloc (.cells #[.int .i64 u0, .int .i64 u1, .int .i64 u2, .int .i64 u3] 54)).cell? ⟨wr.heap.size, 0, none⟩ = some (.int .i64 u0) := cell_of_row _ _ _ _ _ _ (blk_old _ KX)
      have z1 : (Wx.alloc (.cells #[.int .i64 u0, .int .i64 u1, .int .i64 u2, .int .i64 u3] 54)).cell? ⟨wr.heap.size, 1, none⟩ = some (.int .i64 u1) := cell_of_row _ _ _ _ _ _ (blk_old _ KX)
      have z2 : (Wx.alloc (.cells #[.int .i64 u0, .int .i64 u1, .int .i64 u2, .int .i64 u3] 54)).cell? ⟨wr.heap.size, 2, none⟩ = some (.int .i64 u2) := cell_of_row _ _ _ _ _ _ (blk_old _ KX)
      have z3 : (Wx.alloc (.cells #[.int .i64 u0, .int .i64 u1, .int .i64 u2, .int .i64 u3] 54)).cell? ⟨wr.heap.size, 3, none⟩ = some (.int .i64 u3) := cell_of_row _ _ _ _ _ _ (blk_old _ KX)
      have hlx := lt_of_heap KX
      have hbw : Below n₀ W (Wx.alloc (.cells #[.int .i64 u0, .int .i64 u1, .int .i64 u2, .int .i64 u3] 54)).drew := by
        have hsz := hnx.size
        rw [← hWx]
        exact ((hnx.alloc (by omega) _).alloc (by simp; omega) _).drew
      gi_wp2
      gi_region_with_o (first
        | ((try refine ⟨trivial, ?_⟩); gi_at_call 84; refine (CL _).mono ?_; rintro e w' ⟨rfl, rfl⟩)
        | (refine hR.mono ?_; rintro e W3 h; obtain ⟨q, rfl, hq⟩ := yield_b h))
      all_goals (rcases hq with ⟨rfl, hJ3, hk3⟩ | ⟨rfl, hJx3⟩)
      all_goals gi_wp2
      all_goals first
        | (refine bodyPost_ret (results_none rfl _ _ _) rfl ?_; exact ⟨⟨_, rfl⟩, .inr ⟨_, ⟨k + 1, by omega, (List.range_succ).symm⟩, hJx3⟩⟩)
        | (go_roundw
           case rel => exact ⟨k + 1, by omega, by simp, by rw [List.range_succ]; exact hJ3, hbw.trans hk3⟩
           case measure => simp [intOf]; omega)
    · obtain rfl : k = n := by omega
      gi_wp2
      go_end0
      exact ⟨⟨_, rfl⟩, .inl ⟨_, rfl, hJs⟩⟩
/-- The iterator over a valid list. -/
theorem stops (m : Nat) (hm : 1 ≤ m) (Bs n₀ b off n cap : Nat) (f : Nat → Int) (hP : StP n f) (w : World) (hBs : Bs < w.heap.size) (hn₀ : n₀ ≤ w.heap.size) (hb : b < n₀)
    (hc : w.cell? ⟨Bs, 0, none⟩ = some (.slice (some ⟨b, off, none⟩) n cap)) (hcs : ∀ i, i < n * 4 → w.cell? ⟨b, off + i, none⟩ = some (.int .i64 (f i))) :
    SeqStopsK Fence.wide m Tryd.prog 83 #[.pointer (some ⟨Bs, 0, none⟩)] (fun x : Nat => #[en n f x]) (Below n₀) (fun ys => ys = List.range n) (fun pre => ∃ k, k ≤ n ∧ pre = List.range k) n w := fun l J Jx W hW hJ _ hY h0 =>
  iter1 m l Bs n₀ b off n cap f hP hm hb J Jx W.heap.size hJ hY W (Nat.le_trans hn₀ hW.size) ((hW.cell (p := ⟨Bs, 0, none⟩) hBs).trans hc) (fun i hi => (hW.cell (p := ⟨b, off + i, none⟩) (by show b < _; omega)).trans (hcs i hi)) h0
end Go.Proofs.YtpmmfalpcooenaaDoor.It

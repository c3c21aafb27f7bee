/- Shares of a sum: the program's closure, and sharesOf. -/
import Derived.Test.YtpmmfalpcooenaaDoorC9fLib
import Derived.Test.YtpmmfalpcooenaaDoorOwLib
import Derived.Test.YtpmmfalpcooenaaDoorFgLib
namespace Go.Proofs.YtpmmfalpcooenaaDoor.Shr
set_option linter.unusedVariables false
open Go.RowKit Ft Is Ge Qb Fg Ow
open C9f (sm sm_in)

theorem fl_bd {a : Int} (b : Int) (h1 : -1000000000000000000 ≤ a) (h2 : a ≤ 1000000000000000000) : -1000000000000000001 ≤ fl a b ∧ fl a b ≤ 1000000000000000000 := by
  have h := tdiv_bd b h1 h2
  unfold fl
  split <;> omega
/-- Numbers and a sum. -/
def ShOk (n : Nat) (f : Nat → Int) (sum : Int) : Prop := (1 ≤ n ∧ n ≤ 20) ∧ (∀ i, i < n → 1 ≤ f i ∧ f i ≤ 10000) ∧ 0 ≤ sum ∧ sum ≤ 1000000
theorem sm_bd {n : Nat} {f : Nat → Int} {sum : Int} (h : ShOk n f sum) : ∀ k, k ≤ n → (k : Int) ≤ sm f k ∧ sm f k ≤ 10000 * (k : Int)
  | 0, _ => by simp [sm]
  | k + 1, hk => by
    obtain ⟨a, b⟩ := sm_bd h k (by omega)
    obtain ⟨l1, l2⟩ := h.2.1 k (by omega)
    simp only [sm]
    omega
/-- What the first k numbers get of the sum. -/
def G (f : Nat → Int) (n : Nat) (sum : Int) : Nat → Int
  | 0 => 0
  | k + 1 => fl (2 * (sum * sm f (k + 1)) + sm f n) (2 * sm f n)
/-- A number's share. -/
def gs (f : Nat → Int) (n : Nat) (sum : Int) (k : Nat) : Int := G f n sum (k + 1) - G f n sum k
theorem prod_sum {n : Nat} {f : Nat → Int} {sum : Int} (h : ShOk n f sum) {k : Nat} (hk : k ≤ n) : 0 ≤ sum * sm f k ∧ sum * sm f k ≤ 200000000000 := by
  obtain ⟨a, b⟩ := sm_bd h k hk
  obtain ⟨c, d⟩ := h.2.2
  have h20 := h.1.2
  have e := Int.mul_nonneg (show 0 ≤ sum by omega) (show 0 ≤ sm f k by omega)
  have g := Int.mul_le_mul d (show sm f k ≤ 200000 by omega) (by omega) (by omega)
  omega
theorem G_bd {n : Nat} {f : Nat → Int} {sum : Int} (h : ShOk n f sum) {k : Nat} (hk : k ≤ n) : -1000000000000000001 ≤ G f n sum k ∧ G f n sum k ≤ 1000000000000000000 := by
  cases k with
  | zero => simp [G]
  | succ k =>
    obtain ⟨a, b⟩ := prod_sum h hk
    obtain ⟨c, d⟩ := sm_bd h n (Nat.le_refl _)
    have h20 := h.1.2
    exact fl_bd _ (by omega) (by omega)
theorem gs_pos {n : Nat} {f : Nat → Int} {sum : Int} (h : ShOk n f sum) : 1 ≤ sm f n ∧ sm f n ≤ 200000 := by
  obtain ⟨c, d⟩ := sm_bd h n (Nat.le_refl _)
  have := h.1
  omega
theorem sum_impl9 (A : Option Addr) (n c : Nat) (f : Nat → Int) {sum : Int} (ho : ShOk n f sum) (w : World) (hA : Nums w w.heap.size A n f) : Calls Tryd.prog 69 #[.slice A n c] w fun e w' => e = .returned (.int .i64 (sm f n)) ∧ w = w' :=
  C9f.sum_any A n c f 10000 (by omega) (by have := ho.1; omega) (fun i hi => ⟨by have := ho.2.1 i hi; omega, (ho.2.1 i hi).2⟩) w hA
theorem own_base {w' : World} {b b' : Nat} {e : TypeId} {size n : Nat} {v : Value} {xs : List Value} (h : w'.ownsRow b e size v n xs) (hb : b' ≤ b) : w'.ownsRow b' e size v n xs :=
  ⟨h.1, by
    rcases h.2 with h0 | ⟨g, cap, cur, hv, hbg, r⟩
    · exact .inl h0
    · exact .inr ⟨g, cap, cur, hv, by omega, r⟩⟩
/-- The closure that gives each length its share, and its four variables. -/
def shV (s : Nat) : Value := .func (.func 102) #[] #[.pointer (some ⟨s + 2, 0, none⟩), .pointer (some ⟨s + 1, 0, none⟩), .pointer (some ⟨s, 0, none⟩), .pointer (some ⟨s + 3, 0, none⟩)]
/-- What the closure's variables hold. -/
def Sh (w : World) (s : Nat) (T sum x g : Int) : Prop := w.heap[s]? = some (.cells #[.int .i64 T] 2 (0, 0)) ∧ w.heap[s + 1]? = some (.cells #[.int .i64 sum] 2 (0, 0)) ∧ w.heap[s + 2]? = some (.cells #[.int .i64 x] 2 (0, 0)) ∧ w.heap[s + 3]? = some (.cells #[.int .i64 g] 2 (0, 0))
theorem Sh.keep {w w' : World} {s : Nat} {T sum x g : Int} (h : Sh w s T sum x g) {B : Nat} (hb : Below B w w') (hB : s + 3 < B) : Sh w' s T sum x g :=
  ⟨(hb.block _ (by omega)).trans h.1, (hb.block _ (by omega)).trans h.2.1, (hb.block _ (by omega)).trans h.2.2.1, (hb.block _ (by omega)).trans h.2.2.2⟩
theorem sharer_any (T sum : Int) (w : World) : Calls Tryd.prog 89 #[.int .i64 T, .int .i64 sum] w fun e w' => e = .returned (shV w.heap.size) ∧ Sh w' w.heap.size T sum 0 0 ∧ Below w.heap.size w w' ∧ w'.heap.size = w.heap.size + 4 := by
  have H : Hid (∀ w' : World, w' = (((w.alloc (.cells #[.int .i64 T] 2)).alloc (.cells #[.int .i64 sum] 2)).alloc (.cells #[.int .i64 0] 2)).alloc (.cells #[.int .i64 0] 2) → Sh w' w.heap.size T sum 0 0 ∧ Below w.heap.size w w' ∧ w'.heap.size = w.heap.size + 4) := Lib.hid fun w' e => by
    subst e
    obtain ⟨k0, k1, k2⟩ := three w (.cells #[.int .i64 T] 2) (.cells #[.int .i64 sum] 2) (.cells #[.int .i64 0] 2)
    have k3 := heap_alloc_new (((w.alloc (.cells #[.int .i64 T] 2)).alloc (.cells #[.int .i64 sum] 2)).alloc (.cells #[.int .i64 0] 2)) (.cells #[.int .i64 0] 2)
    rw [show (((w.alloc (.cells #[.int .i64 T] 2)).alloc (.cells #[.int .i64 sum] 2)).alloc (.cells #[.int .i64 0] 2)).heap.size = w.heap.size + 3 by simp] at k3
    exact ⟨⟨blk_keep (below_box _ _) k0, blk_keep (below_box _ _) k1, blk_keep (below_box _ _) k2, k3⟩, below_then (below3 w _ _ _) (below_box _ _), by simp⟩
  unfold shV
  go_enter Tryd.func89, Tryd.ntmps89
  go_wp2_with fail
  go_ret
  exact ⟨by simp, H.out _ rfl⟩
/-- One call of the closure. -/
theorem share_any (s : Nat) (T sum x g u y : Int) (hT : 1 ≤ T ∧ T ≤ 200000) (hx : 0 ≤ x ∧ x ≤ 1000000) (hu : 0 ≤ u ∧ u ≤ 1000000) (hp : 0 ≤ sum * (x + u) ∧ sum * (x + u) ≤ 200000000000) (hg : -1000000000000000001 ≤ g ∧ g ≤ 1000000000000000000)
    (hy : fl (2 * (sum * (x + u)) + T) (2 * T) = y) (hyb : -1000000000000000001 ≤ y ∧ y ≤ 1000000000000000000) (w : World) (h : Sh w s T sum x g) :
    Calls Tryd.prog 102 #[.int .i64 u, .pointer (some ⟨s + 2, 0, none⟩), .pointer (some ⟨s + 1, 0, none⟩), .pointer (some ⟨s, 0, none⟩), .pointer (some ⟨s + 3, 0, none⟩)] w fun e w' => e = .returned (.int .i64 (y - g)) ∧ Sh w' s T sum (x + u) y ∧ w'.heap.size = w.heap.size ∧ (∀ k, k ≠ s + 2 → k ≠ s + 3 → w'.heap[k]? = w.heap[k]?) ∧ w'.os = w.os ∧ w'.tape = w.tape ∧ w'.output = w.output := by
  obtain ⟨h0, h1, h2, h3⟩ := h
  have C : Hid (∀ w, Calls Tryd.prog 60 #[.int .i64 (sum * (x + u)), .int .i64 T] w fun e w' => e = .returned (.int .i64 y) ∧ w = w') := Lib.hid fun w => by
    rw [← hy]
    exact near_impl _ _ (by omega) (by omega) (by omega) (by omega) w
  have H : Hid (∀ (w' : World) (q : Nat), w' = (((w.setCell ⟨s + 2, 0, none⟩ (.int .i64 (x + u))).drewN q).setCell ⟨s + 3, 0, none⟩ (.int .i64 y)) → Sh w' s T sum (x + u) y ∧ w'.heap.size = w.heap.size ∧ (∀ k, k ≠ s + 2 → k ≠ s + 3 → w'.heap[k]? = w.heap[k]?) ∧ w'.os = w.os ∧ w'.tape = w.tape ∧ w'.output = w.output) := Lib.hid fun w' q e => by
    subst e
    have a2 : (w.setCell ⟨s + 2, 0, none⟩ (.int .i64 (x + u))).heap[s + 2]? = some (.cells #[.int .i64 (x + u)] 2 (0, 0)) := by
      have := heap_set h2 0 (.int .i64 (x + u))
      simpa using this
    have a3 : (w.setCell ⟨s + 2, 0, none⟩ (.int .i64 (x + u))).heap[s + 3]? = some (.cells #[.int .i64 g] 2 (0, 0)) := (Below.heap_setCell _ _ _ _ (by simp)).trans h3
    have a0 : (w.setCell ⟨s + 2, 0, none⟩ (.int .i64 (x + u))).heap[s]? = some (.cells #[.int .i64 T] 2 (0, 0)) := (Below.heap_setCell _ _ _ _ (by simp)).trans h0
    have a1 : (w.setCell ⟨s + 2, 0, none⟩ (.int .i64 (x + u))).heap[s + 1]? = some (.cells #[.int .i64 sum] 2 (0, 0)) := (Below.heap_setCell _ _ _ _ (by simp)).trans h1
    have far : ∀ k, k ≠ s + 2 → (w.setCell ⟨s + 2, 0, none⟩ (.int .i64 (x + u))).heap[k]? = w.heap[k]? := fun k hk => Below.heap_setCell _ _ _ _ hk
    have hsz : (w.setCell ⟨s + 2, 0, none⟩ (.int .i64 (x + u))).heap.size = w.heap.size := by simp
    have hos : (w.setCell ⟨s + 2, 0, none⟩ (.int .i64 (x + u))).os = w.os ∧ (w.setCell ⟨s + 2, 0, none⟩ (.int .i64 (x + u))).tape = w.tape ∧ (w.setCell ⟨s + 2, 0, none⟩ (.int .i64 (x + u))).output = w.output := ⟨rfl, rfl, rfl⟩
    generalize w.setCell ⟨s + 2, 0, none⟩ (.int .i64 (x + u)) = v at *
    have b3 : (v.drewN q).heap[s + 3]? = some (.cells #[.int .i64 g] 2 (0, 0)) := a3
    have c3 : ((v.drewN q).setCell ⟨s + 3, 0, none⟩ (.int .i64 y)).heap[s + 3]? = some (.cells #[.int .i64 y] 2 (0, 0)) := by
      have := heap_set b3 0 (.int .i64 y)
      simpa using this
    exact ⟨⟨(Below.heap_setCell _ _ _ _ (by simp)).trans a0, (Below.heap_setCell _ _ _ _ (by simp)).trans a1, (Below.heap_setCell _ _ _ _ (by simp)).trans a2, c3⟩, by simpa using hsz, fun k k2 k3 => (Below.heap_setCell _ _ _ _ k3).trans (far k k2), hos.1, hos.2.1, hos.2.2⟩
  have x0 : w.cell? ⟨s + 2, 0, none⟩ = some (.int .i64 x) := cell_of_row _ _ _ _ _ _ h2
  have x1 : w.cell? ⟨s + 1, 0, none⟩ = some (.int .i64 sum) := cell_of_row _ _ _ _ _ _ h1
  have x2 : w.cell? ⟨s, 0, none⟩ = some (.int .i64 T) := cell_of_row _ _ _ _ _ _ h0
  have x3 : w.cell? ⟨s + 3, 0, none⟩ = some (.int .i64 g) := cell_of_row _ _ _ _ _ _ h3
  have z0 := blk_free h2
  have z1 := blk_free h3
  have hws : IntKind.i64.wrap (x + u) = x + u := IntWalk.i64_in _ (by omega)
  have hwm : IntKind.i64.wrap (sum * (x + u)) = sum * (x + u) := IntWalk.i64_in _ (by omega)
  have hwd : IntKind.i64.wrap (y - g) = y - g := IntWalk.i64_in _ (by omega)
  have hwe : IntKind.i64.wrap (g + (y - g)) = y := by rw [show g + (y - g) = y by omega]; exact IntWalk.i64_in _ (by omega)
  have hee : g + (y - g) = y := by omega
  clear hy h0 h1 h2 h3
  go_enter Tryd.func102, Tryd.ntmps102
  go_wp2_with fail
  all_goals (try go_quiet ((go_at_call 60; refine Calls.quiet_of_same ((C.out _).mono fun _ _ h => ⟨h.1, h.2.symm⟩))))
  all_goals (try go_wp2_with fail)
  all_goals
    go_ret
    refine ⟨rfl, ?_⟩
    first | exact H.out _ _ rfl | (rw [hee]; exact H.out _ _ rfl)
theorem row_far {w w' : World} {base : Nat} {e : TypeId} {size n : Nat} {v : Value} {xs : List Value} (h : w.ownsRow base e size v n xs) (hk : ∀ k, base ≤ k → w'.heap[k]? = w.heap[k]?) : w'.ownsRow base e size v n xs :=
  ⟨h.1, by
    rcases h.2 with h0 | ⟨g, cap, cur, hv, hbg, hh, r⟩
    · exact .inl h0
    · exact .inr ⟨g, cap, cur, hv, hbg, (hk g hbg).trans hh, r⟩⟩
set_option maxRecDepth 100000 in
set_option maxHeartbeats 1000000 in
theorem impl_shares (A : Option Addr) (n c : Nat) (f : Nat → Int) (sum : Int) (ho : ShOk n f sum) (w : World) (hA : Nums w w.heap.size A n f) :
    Calls Tryd.prog 66 #[.slice A n c, .int .i64 sum] w (OneAt n (gs f n sum) w) := by
  obtain ⟨i0, hi0, hz0, hz1, hz2⟩ := info_parts info_int
  have hn20 := ho.1.2
  have HMK : Hid (∀ w : World, (Instr.makeSlice 29 (.int .i64 0) (.int .i64 (n : Int))).run Tryd.prog w = .ok (.slice (some ⟨w.heap.size, 0, none⟩) 0 n) (w.alloc (.cells (Go.madeCells (Value.int .i64 0).cells n) 2))) := Lib.hid fun w => by
    have := run_make w _ _ i0 _ Tryd.underlying29 hi0 hz0 .i64 .i64 0 n (by omega) (by omega) (by rw [hz2]; omega) (by omega)
    rw [hz1] at this
    simpa using this
  have HI := Lib.hid (And.intro hi0 (And.intro hz0 (And.intro hz1 hz2)))
  have HA := Lib.hid hA
  have CS := Lib.hid (sum_impl9 A n c f ho w hA)
  have CH := Lib.hid (sharer_any (sm f n) sum w)
  have HR : Hid (∀ k, k < n → ∀ w', Sh w' w.heap.size (sm f n) sum (sm f k) (G f n sum k) → Calls Tryd.prog 102 #[.int .i64 (f k), .pointer (some ⟨w.heap.size + 2, 0, none⟩), .pointer (some ⟨w.heap.size + 1, 0, none⟩), .pointer (some ⟨w.heap.size, 0, none⟩), .pointer (some ⟨w.heap.size + 3, 0, none⟩)] w' fun e w'' => e = .returned (.int .i64 (G f n sum (k + 1) - G f n sum k)) ∧ Sh w'' w.heap.size (sm f n) sum (sm f (k + 1)) (G f n sum (k + 1)) ∧ w''.heap.size = w'.heap.size ∧ (∀ k, k ≠ w.heap.size + 2 → k ≠ w.heap.size + 3 → w''.heap[k]? = w'.heap[k]?) ∧ w''.os = w'.os ∧ w''.tape = w'.tape ∧ w''.output = w'.output) := Lib.hid fun k hk w' h => by
    obtain ⟨p1, p2⟩ := prod_sum ho (show k + 1 ≤ n by omega)
    obtain ⟨g1, g2⟩ := G_bd ho (show k ≤ n by omega)
    obtain ⟨g3, g4⟩ := G_bd ho (show k + 1 ≤ n by omega)
    obtain ⟨s1, s2⟩ := sm_bd ho k (by omega)
    obtain ⟨f1, f2⟩ := ho.2.1 k hk
    exact share_any w.heap.size (sm f n) sum (sm f k) (G f n sum k) (f k) (G f n sum (k + 1)) (gs_pos ho) ⟨by omega, by omega⟩ ⟨by omega, by omega⟩ ⟨p1, p2⟩ ⟨g1, g2⟩ rfl ⟨g3, g4⟩ w' h
  have HF : Hid (∀ v w' , w'.ownsRow w.heap.size 2 1 v n (upto (gs f n sum) n) → Below w.heap.size w w' → OneAt n (gs f n sum) w (.returned v) w') := Lib.hid fun v w' h hb => one_of_row h (Below.refl _ _) hb
  have HU : Hid (∀ k, upto (gs f n sum) (k + 1) = upto (gs f n sum) k ++ [.int .i64 (G f n sum (k + 1) - G f n sum k)]) := Lib.hid fun k => upto_snoc _ k
  have HU0 : Hid (upto (gs f n sum) 0 = []) := Lib.hid rfl
  have HG0 : Hid (G f n sum 0 = 0) := Lib.hid rfl
  have HSM0 : Hid (sm f 0 = 0) := Lib.hid rfl
  clear hi0 hz0 hz1 hz2 hA ho
  generalize upto (gs f n sum) = UP at HF HU HU0
  generalize OneAt n (gs f n sum) w = Q at HF ⊢
  generalize hGG : G f n sum = GG at *
  clear hGG
  generalize hSS : sm f = SS at *
  clear hSS
  generalize SS n = T at CS CH HR
  go_enter Tryd.func66, Tryd.ntmps66
  go_wp2_with fail
  refine CS.out.mono ?_
  rintro e w' ⟨rfl, rfl⟩
  go_wp2_with fail
  refine CH.out.mono ?_
  rintro e w1 ⟨rfl, hsh, b1, hs1⟩
  unfold shV
  have B1 := Lib.hid b1
  have SH := Lib.hid hsh
  have hmk := HMK.out w1
  clear b1 hsh
  go_wp2_with fail
  clear hmk
  have SH1 := Lib.hid (SH.out.keep (below_box w1 (.cells (Go.madeCells (Value.int .i64 0).cells n) 2)) (by omega))
  go_loopw [6, 8, 18] (fun o _ i wr => ∃ (k : Nat) (v : Value), k ≤ n ∧ v = o ∧ i = .int .i64 k ∧ w.heap.size + 4 ≤ wr.heap.size ∧ Hid (Below w.heap.size w wr) ∧ Hid (Sh wr w.heap.size T sum (SS k) (GG k)) ∧ Hid (wr.ownsRow (w.heap.size + 4) 2 1 v k (UP k))) (fun _ _ i _ => n - (intOf i).toNat)
  case atStart => exact ⟨0, _, Nat.zero_le _, rfl, rfl, by simp; omega, Lib.hid (below_then B1.out (below_box _ _)), Lib.hid (by rw [HSM0.out, HG0.out]; exact SH1.out), Lib.hid (by
    rw [HU0.out, ← hs1]; exact World.ownsRow_made w1 _ n (Nat.le_refl _) (by unfold maxLen; omega) (by first | (rw [size_madeCells]; omega) | (rw [size_madeCells]; simp [Value.cells])))⟩
  case round =>
    obtain ⟨k, v, hk, rfl, rfl, hz, HB, HS, hown⟩ := hrel
    by_cases hlt : k < n
    · obtain ⟨b, off, rfl, hb, hc⟩ := (HA.out.below HB.out (Nat.le_refl _)) (by omega)
      have x0 := hc k hlt
      have CR := Lib.hid (HR.out k hlt wr HS.out)
      have HU := Lib.hid (HU.out k)
      have e0 : (0 : Int) ≤ (k : Int) := Int.natCast_nonneg _
      have e1 : (k : Int) < (n : Int) := by omega
      clear hc hk
      generalize f k = u at x0 CR
      generalize hy : GG (k + 1) - GG k = y at CR HU
      clear hy
      go_wp2_with fail
      refine CR.out.mono ?_
      rintro e wq ⟨rfl, hsq, hzq, hfar, ho1, ho2, ho3⟩
      have SQ := Lib.hid hsq
      have HBq : Hid (Below w.heap.size w wq) := Lib.hid ⟨ho1.trans HB.out.os, ho2.trans HB.out.tape, ho3.trans HB.out.output, by rw [hzq]; omega, fun j hj => (hfar j (by omega) (by omega)).trans (HB.out.block j hj)⟩
      have OQ := Lib.hid (row_far hown.out (fun j hj => hfar j (by omega) (by omega)))
      have hz4 : w.heap.size + 4 ≤ wq.heap.size := by omega
      clear hsq hfar ho1 ho2 ho3 x0 CR hzq
      go_wp2_with (at_builtin; refine wpList_append_own _ rfl _ _ 29 rfl (w.heap.size + 4) 2 i0 _ 1 8 Tryd.underlying29 HI.out.1 HI.out.2.1 HI.out.2.2.1 HI.out.2.2.2 rfl (by decide) _ _ _ rfl (OQ.out.alloc _) ⟨wq.heap.size, 0, none⟩ 1 1 [.int .i64 y] rfl rfl ?c1 ?c2 ?c3 ?c4 ?c5 ?_)
      case c1 => exact cell_one_new _ _ _
      case c2 => simp [Value.oneCell']
      case c3 => unfold maxLen; omega
      case c4 => omega
      case c5 => first | omega | (simp <;> omega)
      intro v' w2 hown2 hgrow _
      have hb2 := ((Below.refl (w.heap.size + 4) wq).alloc hz4 (.cells #[.int .i64 y] 2)).grown hgrow (by simp; omega) fun g hg => (OQ.out.lt g hg).1
      have HQ := Lib.hid (HBq.out.trans (hb2.mono (by omega)))
      have SQ2 := Lib.hid (SQ.out.keep hb2 (by omega))
      have HO2 : Hid (w2.ownsRow (w.heap.size + 4) 2 1 v' (k + 1) (UP (k + 1))) := Lib.hid (by rw [HU.out]; exact hown2)
      have hz2 := hb2.size
      clear hown2 hgrow hb2
      go_wp2_with fail
      go_roundw
      case rel => exact ⟨k + 1, _, by omega, rfl, by go_num, by omega, HQ, SQ2, HO2⟩
      case measure => simp [intOf]; omega
    · obtain rfl : k = n := by omega
      have HC := Lib.hid (HF.out _ _ (own_base hown.out (by omega)) HB.out)
      go_wp2_with fail
      exact HC.out
end Go.Proofs.YtpmmfalpcooenaaDoor.Shr

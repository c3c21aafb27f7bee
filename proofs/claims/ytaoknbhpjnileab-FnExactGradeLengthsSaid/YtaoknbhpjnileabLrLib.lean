/- Lengths that have grown to another sum: the spec's loop and the program's closure. -/
import Derived.Test.YtaoknbhpjnileabLqLib
namespace Go.Proofs.Ytaoknbhpjnileab.Lq
open Go.RowKit Ft Is Ge Qb Fg Gm Le Lc

theorem gs_pos {n : Nat} {f : Nat → Int} {sum : Int} (h : GsOk n f sum) : 1 ≤ sm f n ∧ sm f n ≤ 200000 := by
  obtain ⟨c, d⟩ := sm_bd h.1 n (Nat.le_refl _)
  have := h.1.1
  omega
set_option maxRecDepth 100000 in
theorem spec_grow (A : Option Addr) (n c : Nat) (f : Nat → Int) (sum : Int) (ho : GsOk n f sum) (w : World) (hA : Nums w w.heap.size A n f) :
    Calls Try.prog 90 #[.slice A n c, .int .i64 sum] w (ColAt n (gs f n sum) w) := by
  obtain ⟨i0, hi0, hz0, hz1, hz2⟩ := info_parts info_int
  have HI := Lib.hid (And.intro hi0 (And.intro hz0 (And.intro hz1 hz2)))
  have HA := Lib.hid hA
  have CS := Lib.hid (sum_spec A n c f ho.1 w hA)
  obtain ⟨t1, t2⟩ := gs_pos ho
  have HR : Hid (∀ k, k < n → ∀ w, Calls Try.prog 76 #[.int .i64 (sum * sm f (k + 1)), .int .i64 (sm f n)] w fun e w' => e = .returned (.int .i64 (G f n sum (k + 1))) ∧ w = w') := Lib.hid fun k hk w => by
    obtain ⟨p1, p2⟩ := prod_sum ho (show k + 1 ≤ n by omega)
    exact near_spec _ _ (by omega) (by omega) (by omega) (by omega) w
  have HP : Hid (∀ k, k ≤ n → 0 ≤ sum * sm f k ∧ sum * sm f k ≤ 200000000000) := Lib.hid fun k hk => prod_sum ho hk
  have HG : Hid (∀ k, k ≤ n → -1000000000000000001 ≤ G f n sum k ∧ G f n sum k ≤ 1000000000000000000) := Lib.hid fun k hk => G_bd ho hk
  have HG0 : Hid (G f n sum 0 = 0) := Lib.hid rfl
  have HL := Lib.hid (fun k hk => sm_bd ho.1 k hk)
  have HFF := Lib.hid (fun i hi => len_at ho.1 (i := i) hi)
  have HSM : Hid (∀ k, sm f (k + 1) = sm f k + f k) := Lib.hid fun _ => rfl
  have HSM0 : Hid (sm f 0 = 0) := Lib.hid rfl
  have HF : Hid (∀ v w' , w'.ownsRow w.heap.size 2 1 v n (upto (gs f n sum) n) → Below w.heap.size w w' → ColAt n (gs f n sum) w (.returned v) w') := Lib.hid fun v w' h hb => col_of_row h hb
  have HU : Hid (∀ k, upto (gs f n sum) (k + 1) = upto (gs f n sum) k ++ [.int .i64 (G f n sum (k + 1) - G f n sum k)]) := Lib.hid fun k => upto_snoc _ k
  have HU0 : Hid (upto (gs f n sum) 0 = []) := Lib.hid rfl
  have hn20 := ho.1.1.2
  clear hi0 hz0 hz1 hz2 hA ho
  generalize upto (gs f n sum) = UP at HF HU HU0
  generalize ColAt n (gs f n sum) w = Q at HF ⊢
  generalize hGG : G f n sum = GG at *
  clear hGG
  generalize sm f n = T at CS HR t1 t2
  go_enter Try.func90, Try.ntmps90
  go_wp2_with fail
  refine CS.out.mono ?_
  rintro e w' ⟨rfl, rfl⟩
  go_wp2_with fail
  go_loopw [6, 7, 8, 9] (fun o t dn i wr => ∃ (k : Nat) (v : Value), k ≤ n ∧ v = o ∧ t = .int .i64 (sm f k) ∧ dn = .int .i64 (GG k) ∧ i = .int .i64 k ∧ Below w.heap.size w wr ∧ Hid (wr.ownsRow w.heap.size 2 1 v k (UP k))) (fun _ _ _ i _ => n - (intOf i).toNat)
  case atStart => exact ⟨0, _, Nat.zero_le _, rfl, by rw [HSM0.out], by rw [HG0.out], rfl, below_box _ _, Lib.hid (by rw [HU0.out]; exact World.ownsRow_made w #[] 0 (Nat.le_refl _) (by simp [maxLen]) rfl)⟩
  case round =>
    obtain ⟨k, v, hk, rfl, rfl, rfl, rfl, hbel, hown⟩ := hrel
    have HB := Lib.hid hbel
    by_cases hlt : k < n
    · obtain ⟨b, off, rfl, hb, hc⟩ := (HA.out.below (hbel) (Nat.le_refl _)) (by omega)
      have x0 := hc k hlt
      have CR := Lib.hid (HR.out k hlt)
      obtain ⟨p1, p2⟩ := HP.out (k + 1) (by omega)
      obtain ⟨g1, g2⟩ := HG.out k (by omega)
      obtain ⟨g3, g4⟩ := HG.out (k + 1) (by omega)
      obtain ⟨s1, s2⟩ := HL.out k hk
      obtain ⟨f1, f2⟩ := HFF.out k hlt
      have hs := HSM.out k
      have HU := Lib.hid (HU.out k)
      have hz := HB.out.size
      have e0 : (0 : Int) ≤ (k : Int) := Int.natCast_nonneg _
      have e1 : (k : Int) < (n : Int) := by omega
      rw [hs] at CR p1 p2
      have hws : IntKind.i64.wrap (sm f k + f k) = sm f k + f k := IntWalk.i64_in _ (by omega)
      have hwm : IntKind.i64.wrap (sum * (sm f k + f k)) = sum * (sm f k + f k) := IntWalk.i64_in _ (by omega)
      have hwd : IntKind.i64.wrap (GG (k + 1) - GG k) = GG (k + 1) - GG k := IntWalk.i64_in _ (by omega)
      clear hc hbel hk
      generalize hS1 : sm f (k + 1) = S1 at hs
      generalize sm f k = S at *
      generalize f k = u at *
      generalize hG1 : GG (k + 1) = G1 at *
      generalize GG k = G0 at *
      go_wp2_with fail
      refine (CR.out _).mono ?_
      rintro e w' ⟨rfl, rfl⟩
      go_wp2_with (at_builtin; refine wpList_append_own _ rfl _ _ 26 rfl w.heap.size 2 i0 _ 1 8 Try.underlying26 HI.out.1 HI.out.2.1 HI.out.2.2.1 HI.out.2.2.2 rfl (by decide) _ _ _ rfl (hown.out.alloc _) ⟨wr.heap.size, 0, none⟩ 1 1 [.int .i64 (G1 - G0)] rfl rfl ?c1 ?c2 ?c3 ?c4 ?c5 ?_)
      case c1 => exact cell_one_new _ _ _
      case c2 => simp [Value.oneCell']
      case c3 => unfold maxLen; omega
      case c4 => omega
      case c5 => first | omega | (simp <;> omega)
      intro v' w2 hown2 hgrow _
      have HQ := Lib.hid ((HB.out.alloc hz _).grown hgrow (by simp; omega) fun g hg => (hown.out.lt g hg).1)
      have HO2 : Hid (w2.ownsRow w.heap.size 2 1 v' (k + 1) (UP (k + 1))) := Lib.hid (by rw [HU.out]; exact hown2)
      clear hown2 hgrow
      go_wp2_with fail
      go_roundw
      case rel => exact ⟨k + 1, _, by omega, rfl, by rw [hS1, hs], by rw [hG1], by go_num, HQ.out, HO2⟩
      case measure => simp [intOf]; omega
    · obtain rfl : k = n := by omega
      have HC := Lib.hid (HF.out _ _ hown.out HB.out)
      clear hbel
      go_wp2_with fail
      exact HC.out

/-- The closure that gives each length its share, and its four variables. -/
def shV (s : Nat) : Value := .func (.func 131) #[] #[.pointer (some ⟨s + 2, 0, none⟩), .pointer (some ⟨s + 1, 0, none⟩), .pointer (some ⟨s, 0, none⟩), .pointer (some ⟨s + 3, 0, none⟩)]
/-- What the closure's variables hold. -/
def Sh (w : World) (s : Nat) (T sum x g : Int) : Prop := w.heap[s]? = some (.cells #[.int .i64 T] 2 (0, 0)) ∧ w.heap[s + 1]? = some (.cells #[.int .i64 sum] 2 (0, 0)) ∧ w.heap[s + 2]? = some (.cells #[.int .i64 x] 2 (0, 0)) ∧ w.heap[s + 3]? = some (.cells #[.int .i64 g] 2 (0, 0))
theorem Sh.keep {w w' : World} {s : Nat} {T sum x g : Int} (h : Sh w s T sum x g) {B : Nat} (hb : Below B w w') (hB : s + 3 < B) : Sh w' s T sum x g :=
  ⟨(hb.block _ (by omega)).trans h.1, (hb.block _ (by omega)).trans h.2.1, (hb.block _ (by omega)).trans h.2.2.1, (hb.block _ (by omega)).trans h.2.2.2⟩
theorem sharer_any (T sum : Int) (w : World) : Calls Try.prog 122 #[.int .i64 T, .int .i64 sum] w fun e w' => e = .returned (shV w.heap.size) ∧ Sh w' w.heap.size T sum 0 0 ∧ Below w.heap.size w w' ∧ w'.heap.size = w.heap.size + 4 := by
  have H : Hid (∀ w' : World, w' = (((w.alloc (.cells #[.int .i64 T] 2)).alloc (.cells #[.int .i64 sum] 2)).alloc (.cells #[.int .i64 0] 2)).alloc (.cells #[.int .i64 0] 2) → Sh w' w.heap.size T sum 0 0 ∧ Below w.heap.size w w' ∧ w'.heap.size = w.heap.size + 4) := Lib.hid fun w' e => by
    subst e
    obtain ⟨k0, k1, k2⟩ := three w (.cells #[.int .i64 T] 2) (.cells #[.int .i64 sum] 2) (.cells #[.int .i64 0] 2)
    have k3 := heap_alloc_new (((w.alloc (.cells #[.int .i64 T] 2)).alloc (.cells #[.int .i64 sum] 2)).alloc (.cells #[.int .i64 0] 2)) (.cells #[.int .i64 0] 2)
    rw [show (((w.alloc (.cells #[.int .i64 T] 2)).alloc (.cells #[.int .i64 sum] 2)).alloc (.cells #[.int .i64 0] 2)).heap.size = w.heap.size + 3 by simp] at k3
    exact ⟨⟨blk_keep (below_box _ _) k0, blk_keep (below_box _ _) k1, blk_keep (below_box _ _) k2, k3⟩, below_then (below3 w _ _ _) (below_box _ _), by simp⟩
  unfold shV
  go_enter Try.func122, Try.ntmps122
  go_wp2_with fail
  go_ret
  exact ⟨by simp, H.out _ rfl⟩
/-- One call of the closure. -/
theorem share_any (s : Nat) (T sum x g u y : Int) (hT : 1 ≤ T ∧ T ≤ 200000) (hx : 0 ≤ x ∧ x ≤ 1000000) (hu : 0 ≤ u ∧ u ≤ 1000000) (hp : 0 ≤ sum * (x + u) ∧ sum * (x + u) ≤ 200000000000) (hg : -1000000000000000001 ≤ g ∧ g ≤ 1000000000000000000)
    (hy : fl (2 * (sum * (x + u)) + T) (2 * T) = y) (hyb : -1000000000000000001 ≤ y ∧ y ≤ 1000000000000000000) (w : World) (h : Sh w s T sum x g) :
    Calls Try.prog 131 #[.int .i64 u, .pointer (some ⟨s + 2, 0, none⟩), .pointer (some ⟨s + 1, 0, none⟩), .pointer (some ⟨s, 0, none⟩), .pointer (some ⟨s + 3, 0, none⟩)] w fun e w' => e = .returned (.int .i64 (y - g)) ∧ Sh w' s T sum (x + u) y ∧ w'.heap.size = w.heap.size ∧ (∀ k, k ≠ s + 2 → k ≠ s + 3 → w'.heap[k]? = w.heap[k]?) ∧ w'.os = w.os ∧ w'.tape = w.tape ∧ w'.output = w.output := by
  obtain ⟨h0, h1, h2, h3⟩ := h
  have C : Hid (∀ w, Calls Try.prog 80 #[.int .i64 (sum * (x + u)), .int .i64 T] w fun e w' => e = .returned (.int .i64 y) ∧ w = w') := Lib.hid fun w => by
    rw [← hy]
    exact near_impl _ _ (by omega) (by omega) (by omega) (by omega) w
  have H : Hid (∀ (w' : World) (q : Nat), w' = (((w.setCell ⟨s + 2, 0, none⟩ (.int .i64 (x + u))).drewN q).setCell ⟨s + 3, 0, none⟩ (.int .i64 y)) → Sh w' s T sum (x + u) y ∧ w'.heap.size = w.heap.size ∧ (∀ k, k ≠ s + 2 → k ≠ s + 3 → w'.heap[k]? = w.heap[k]?) ∧ w'.os = w.os ∧ w'.tape = w.tape ∧ w'.output = w.output) := Lib.hid fun w' q e => by
    subst e
    have a2 : (w.setCell ⟨s + 2, 0, none⟩ (.int .i64 (x + u))).heap[s + 2]? = some (.cells #[.int .i64 (x + u)] 2 (0, 0)) := by
      have := heap_set h2 0 (.int .i64 (x + u))
      simpa using this
    have a3 : (w.setCell ⟨s + 2, 0, none⟩ (.int .i64 (x + u))).heap[s + 3]? = some (.cells #[.int .i64 g] 2 (0, 0)) := (Below.heap_setCell _ _ _ _ (by simp)).trans h3
    have a0 : (w.setCell ⟨s + 2, 0, none⟩ (.int .i64 (x + u))).heap[s]? = some (.cells #[.int .i64 T] 2 (0, 0)) := (Below.heap_setCell _ _ _ _ (by simp)).trans h0
    have a1 : (w.setCell ⟨s + 2, 0, none⟩ (.int .i64 (x + u))).heap[s + 1]? = some (.cells #[.int .i64 sum] 2 (0, 0)) := (Below.heap_setCell _ _ _ _ (by simp)).trans h1
    have far : ∀ k, k ≠ s + 2 → (w.setCell ⟨s + 2, 0, none⟩ (.int .i64 (x + u))).heap[k]? = w.heap[k]? := fun k hk => Below.heap_setCell _ _ _ _ hk
    have hsz : (w.setCell ⟨s + 2, 0, none⟩ (.int .i64 (x + u))).heap.size = w.heap.size := by simp
    have hos : (w.setCell ⟨s + 2, 0, none⟩ (.int .i64 (x + u))).os = w.os ∧ (w.setCell ⟨s + 2, 0, none⟩ (.int .i64 (x + u))).tape = w.tape ∧ (w.setCell ⟨s + 2, 0, none⟩ (.int .i64 (x + u))).output = w.output := ⟨rfl, rfl, rfl⟩
    generalize w.setCell ⟨s + 2, 0, none⟩ (.int .i64 (x + u)) = v at *
    have b3 : (v.drewN q).heap[s + 3]? = some (.cells #[.int .i64 g] 2 (0, 0)) := a3
    have c3 : ((v.drewN q).setCell ⟨s + 3, 0, none⟩ (.int .i64 y)).heap[s + 3]? = some (.cells #[.int .i64 y] 2 (0, 0)) := by
      have := heap_set b3 0 (.int .i64 y)
      simpa using this
    exact ⟨⟨(Below.heap_setCell _ _ _ _ (by simp)).trans a0, (Below.heap_setCell _ _ _ _ (by simp)).trans a1, (Below.heap_setCell _ _ _ _ (by simp)).trans a2, c3⟩, by simpa using hsz, fun k k2 k3 => (Below.heap_setCell _ _ _ _ k3).trans (far k k2), hos.1, hos.2.1, hos.2.2⟩
  have x0 : w.cell? ⟨s + 2, 0, none⟩ = some (.int .i64 x) := cell_of_row _ _ _ _ _ _ h2
  have x1 : w.cell? ⟨s + 1, 0, none⟩ = some (.int .i64 sum) := cell_of_row _ _ _ _ _ _ h1
  have x2 : w.cell? ⟨s, 0, none⟩ = some (.int .i64 T) := cell_of_row _ _ _ _ _ _ h0
  have x3 : w.cell? ⟨s + 3, 0, none⟩ = some (.int .i64 g) := cell_of_row _ _ _ _ _ _ h3
  have z0 := blk_free h2
  have z1 := blk_free h3
  have hws : IntKind.i64.wrap (x + u) = x + u := IntWalk.i64_in _ (by omega)
  have hwm : IntKind.i64.wrap (sum * (x + u)) = sum * (x + u) := IntWalk.i64_in _ (by omega)
  have hwd : IntKind.i64.wrap (y - g) = y - g := IntWalk.i64_in _ (by omega)
  have hwe : IntKind.i64.wrap (g + (y - g)) = y := by rw [show g + (y - g) = y by omega]; exact IntWalk.i64_in _ (by omega)
  have hee : g + (y - g) = y := by omega
  clear hy h0 h1 h2 h3
  go_enter Try.func131, Try.ntmps131
  go_wp2_with fail
  all_goals (try go_quiet ((go_at_call 80; refine Calls.quiet_of_same ((C.out _).mono fun _ _ h => ⟨h.1, h.2.symm⟩))))
  all_goals (try go_wp2_with fail)
  all_goals
    go_ret
    refine ⟨rfl, ?_⟩
    first | exact H.out _ _ rfl | (rw [hee]; exact H.out _ _ rfl)
end Go.Proofs.Ytaoknbhpjnileab.Lq

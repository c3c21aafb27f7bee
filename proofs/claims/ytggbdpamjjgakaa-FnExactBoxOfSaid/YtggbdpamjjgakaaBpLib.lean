/- The spec's laying of an outline against both axes. -/
import Derived.Test.YtggbdpamjjgakaaBoLib
import Derived.Test.YtggbdpamjjgakaaOtLib
import Derived.StillTailTactics
namespace Go.Proofs.Ytggbdpamjjgakaa.Bp
set_option linter.unusedVariables false
open Go.RowKit Ft Is Ge Qb Ol Ot Opl Oq Oi Oj Ok Om Bo

def Bnd (n : Nat) (f : Nat → Int) : Prop := ∀ i, i < n * 2 → -10000 ≤ f i ∧ f i ≤ 10000
theorem fo_bd {n : Nat} {f : Nat → Int} (h : Bnd n f) : ∀ k, k < n → (-10000 ≤ (fo mnP f k).1 ∧ (fo mnP f k).1 ≤ 10000) ∧ (-10000 ≤ (fo mnP f k).2 ∧ (fo mnP f k).2 ≤ 10000)
  | 0, h0 => ⟨h (0 * 2) (by omega), h (0 * 2 + 1) (by omega)⟩
  | k + 1, hk => by
    obtain ⟨h1, h2⟩ := fo_bd h k (by omega)
    have h3 := h ((k + 1) * 2) (by omega)
    have h4 := h ((k + 1) * 2 + 1) (by omega)
    show (-10000 ≤ min (fo mnP f k).1 (f ((k + 1) * 2)) ∧ min (fo mnP f k).1 (f ((k + 1) * 2)) ≤ 10000) ∧ (-10000 ≤ min (fo mnP f k).2 (f ((k + 1) * 2 + 1)) ∧ min (fo mnP f k).2 (f ((k + 1) * 2 + 1)) ≤ 10000)
    omega
/-- The numbers of the list that is laid against both axes. -/
def ly (n : Nat) (f : Nat → Int) (k : Nat) : Int := if k % 2 = 0 then f k - (fo mnP f (n - 1)).1 else f k - (fo mnP f (n - 1)).2
theorem ly_at (n : Nat) (f : Nat → Int) (i : Nat) : ly n f (i * 2) = f (i * 2) - (fo mnP f (n - 1)).1 ∧ ly n f (i * 2 + 1) = f (i * 2 + 1) - (fo mnP f (n - 1)).2 := by
  unfold ly
  rw [if_pos (by omega), if_neg (by omega)]
  exact ⟨rfl, rfl⟩
/-- A row of spots of the call's own. -/
def RowAt (n : Nat) (d : Nat → Int) (w : World) (e : Ending) (w' : World) : Prop := ∃ A cap, e = .returned (.slice A n cap) ∧ (n ≤ cap ∧ cap ≤ maxLen) ∧ Hid (Own w' w.heap.size A (n * 2) d) ∧ Below w.heap.size w w'
theorem row_own {n : Nat} {f : Nat → Int} {w w' : World} {v : Value} (h1 : 1 ≤ n) (h : w'.ownsRow w.heap.size 38 2 v n (upto f (n * 2))) (hb : Below w.heap.size w w') : RowAt n f w (.returned v) w' := by
  rcases h.2 with ⟨rfl, h0⟩ | ⟨g, cap, cur, rfl, hbg, hh, hc1, hc2, _⟩
  · omega
  · exact ⟨_, cap, rfl, ⟨hc1, hc2⟩, Lib.hid fun _ => ⟨g, 0, rfl, hbg, lt_of_heap hh, fun i hi => by rw [Nat.zero_add]; exact (h.cellAt i (by omega)).trans (upto_get f hi), fun i => blk_free hh i⟩, hb⟩
theorem own_base {w' : World} {b b' : Nat} {e : TypeId} {size n : Nat} {v : Value} {xs : List Value} (h : w'.ownsRow b e size v n xs) (hb : b' ≤ b) : w'.ownsRow b' e size v n xs :=
  ⟨h.1, by
    rcases h.2 with h0 | ⟨g, cap, cur, hv, hbg, r⟩
    · exact .inl h0
    · exact .inr ⟨g, cap, cur, hv, by omega, r⟩⟩
set_option maxRecDepth 100000 in
set_option maxHeartbeats 4000000 in
theorem slay (A : Option Addr) (n c : Nat) (f : Nat → Int) (h1 : 1 ≤ n) (h24 : n ≤ 24) (hBd : Bnd n f) (w : World) (hA : Nums w w.heap.size A (n * 2) f) :
    Calls Try.prog 68 #[.slice A n c] w (RowAt n (ly n f) w) := by
  obtain ⟨i0, hi0, hz0, hz1, hz2⟩ := info_parts info_sp
  have HI := Lib.hid (And.intro hi0 (And.intro hz0 (And.intro hz1 hz2)))
  obtain ⟨b, off, rfl, hb, hc⟩ := hA (by omega)
  have HC := Lib.hid hc
  have HBd := Lib.hid hBd
  obtain ⟨x0, x1⟩ := nums_two hc (show 0 < n by omega)
  simp only [Nat.zero_mul, Nat.add_zero, Nat.zero_add] at x0 x1
  have HFb := Lib.hid fun k hk => fo_bd hBd k hk
  have HS : Hid (∀ k, fo mnP f (k + 1) = (min (fo mnP f k).1 (f ((k + 1) * 2)), min (fo mnP f k).2 (f ((k + 1) * 2 + 1)))) := Lib.hid fun k => rfl
  have HS0 : Hid (fo mnP f 0 = (f 0, f 1)) := Lib.hid rfl
  have HU : Hid (∀ k, upto (ly n f) ((k + 1) * 2) = upto (ly n f) (k * 2) ++ [.int .i64 (f (k * 2) - (fo mnP f (n - 1)).1), .int .i64 (f (k * 2 + 1) - (fo mnP f (n - 1)).2)]) := Lib.hid fun k => by
    obtain ⟨e0, e1⟩ := ly_at n f k
    rw [upto_two, e0, e1]
  have HU0 : Hid (upto (ly n f) (0 * 2) = []) := Lib.hid rfl
  have HF : Hid (∀ v w', w'.ownsRow w.heap.size 38 2 v n (upto (ly n f) (n * 2)) → Below w.heap.size w w' → RowAt n (ly n f) w (.returned v) w') := Lib.hid fun v w' h hbl => row_own h1 h hbl
  generalize upto (ly n f) = UP at HU HU0 HF
  generalize RowAt n (ly n f) w = Q at HF ⊢
  clear hA hc hi0 hz0 hz1 hz2 hBd
  generalize fo mnP f = F at HFb HS HS0 HU
  generalize hp0 : f 0 = p0 at x0 HS0
  generalize hp1 : f 1 = p1 at x1 HS0
  clear hp0 hp1
  have k3 := Lib.hid (heap_alloc_new w (spC p0 p1 38))
  have B3 := Lib.hid (below_box w (spC p0 p1 38))
  have e6 : (0 : Int) < (n : Int) := by omega
  have e24 : (n : Int) ≤ 24 := by omega
  go_enter Try.func68, Try.ntmps68
  go_upto_region 3 with fail
  generalize hw3 : w.alloc _ = w3 at k3 B3 ⊢
  have hz3 : w3.heap.size = w.heap.size + 1 := by rw [← hw3]; simp
  clear hw3 x0 x1
  have K3 : Hid (w3.heap[w.heap.size]? = some (spC (F 0).1 (F 0).2 38)) := Lib.hid (by rw [HS0.out]; exact k3.out)
  clear k3
  go_loopw [4] (fun i wr => ∃ k : Nat, 1 ≤ k ∧ k ≤ n ∧ i = .int .i64 (k : Int) ∧ Hid (Below w.heap.size w wr) ∧ Hid (wr.heap[w.heap.size]? = some (spC (F (k - 1)).1 (F (k - 1)).2 38))) (fun i _ => n - (intOf i).toNat)
  case atStart => exact ⟨1, by omega, by omega, rfl, B3, K3⟩
  case round =>
    obtain ⟨k, hk1, hk, rfl, HB, HK⟩ := hrel
    have f0 : (0 : Int) ≤ (k : Int) := Int.natCast_nonneg _
    have hsz := HB.out.size
    have hl := lt_of_heap HK.out
    by_cases hlt : k < n
    · have x : ∀ i, i < n * 2 → wr.cell? ⟨b, off + i, none⟩ = some (.int .i64 (f i)) := fun i hi => (HB.out.cell (p := ⟨b, off + i, none⟩) hb).trans (HC.out i hi)
      obtain ⟨a0, a1⟩ := nums_two x hlt
      have HSk : Hid (F (k + 1 - 1) = (min (F (k - 1)).1 (f (k * 2)), min (F (k - 1)).2 (f (k * 2 + 1)))) := Lib.hid (by
        have := HS.out (k - 1)
        rw [show k - 1 + 1 = k by omega] at this
        rw [show k + 1 - 1 = k by omega]
        exact this)
      have M0 := Lib.hid fun w => smin (F (k - 1)).1 (f (k * 2)) w
      have M1 := Lib.hid fun w => smin (F (k - 1)).2 (f (k * 2 + 1)) w
      have g1 : (k : Int) < (n : Int) := by omega
      generalize min (F (k - 1)).1 (f (k * 2)) = m0 at M0 HSk
      generalize min (F (k - 1)).2 (f (k * 2 + 1)) = m1 at M1 HSk
      generalize f (k * 2) = qx at a0 M0
      generalize f (k * 2 + 1) = qy at a1 M1
      generalize (F (k - 1)).1 = s0 at HK M0
      generalize (F (k - 1)).2 = s1 at HK M1
      obtain ⟨y0, y1⟩ := blk2 HK.out
      have fz := blk_free HK.out
      clear x hk
      go_upto_region 5 with fail
      have N0 := Lib.hid fun w => (M0.out w).mono fun e w' (h : e = .returned (.int .i64 m0) ∧ w = w') => (⟨h.1, h.2.symm⟩ : e = .returned (.int .i64 m0) ∧ w' = w)
      have N1 := Lib.hid fun w => (M1.out w).mono fun e w' (h : e = .returned (.int .i64 m1) ∧ w = w') => (⟨h.1, h.2.symm⟩ : e = .returned (.int .i64 m1) ∧ w' = w)
      refine wp_region_still_tail 17 (by kernel_rfl) (by kernel_rfl) ?_
      simp only [List.take_succ_cons, List.take_zero, List.drop_succ_cons, List.drop_zero]
      repeat (first | still_step | still_call (N0.out _) | still_call (N1.out _))
      try refine wpStill_nil ?_
      change wpList _ _ _ _ _ wr.drew
      have HBd := Lib.hid HB.out.drew
      have HKd : Hid (wr.drew.heap[w.heap.size]? = some (spC s0 s1 38)) := Lib.hid HK.out
      clear N0 N1 M0 M1 a0 a1 y0 y1 fz
      generalize wr.drew = wd at HBd HKd ⊢
      obtain ⟨y0, y1⟩ := blk2 HKd.out
      have fz := blk_free HKd.out
      have hl := lt_of_heap HKd.out
      go_wp2_with fail
      have HB8 := Lib.hid ((HBd.out.setCell (p := ⟨w.heap.size, 0, none⟩) (by simp) (.int .i64 m0)).setCell (p := ⟨w.heap.size, 1, none⟩) (by simp) (.int .i64 m1))
      have HK8 : Hid (((wd.setCell ⟨w.heap.size, 0, none⟩ (.int .i64 m0)).setCell ⟨w.heap.size, 1, none⟩ (.int .i64 m1)).heap[w.heap.size]? = some (spC m0 m1 38)) := Lib.hid (heap_set (heap_set HKd.out 0 _) 1 _)
      go_roundw
      case rel => exact ⟨k + 1, by omega, by omega, by go_num, HB8, by rw [HSk.out]; exact HK8⟩
      case measure => simp [intOf]; omega
    · obtain rfl : n = k := by omega
      have g1 : ¬ (n : Int) < (n : Int) := by omega
      have HFn := HFb.out (n - 1) (by omega)
      generalize (F (n - 1)).1 = s0 at HK HFn HU
      generalize (F (n - 1)).2 = s1 at HK HFn HU
      clear hk hk1 hlt HS HS0 HFb K3 B3
      have hKb := HK.out
      generalize hwz : w.heap.size = wz at *
      clear hwz
      have HK := Lib.hid hKb
      clear hKb
      obtain ⟨w1, hw1⟩ : ∃ w1 : World, w1 = wr := ⟨_, rfl⟩
      subst hw1
      have hsz1 := HB.out.size
      go_wp2_with fail
      go_loopw [5, 6] (fun o i wr => ∃ (k : Nat) (v : Value), k ≤ n ∧ v = o ∧ i = .int .i64 (k : Int) ∧ Hid (Below w1.heap.size w1 wr) ∧ Hid (wr.ownsRow w1.heap.size 38 2 v k (UP (k * 2)))) (fun _ i _ => n - (intOf i).toNat)
      case atStart => exact ⟨0, _, Nat.zero_le _, rfl, rfl, Lib.hid (below_box _ _), Lib.hid (by rw [HU0.out]; exact World.ownsRow_made w1 #[] 0 (Nat.le_refl _) (by simp [maxLen]) rfl)⟩
      case round =>
        obtain ⟨k, v, hk, rfl, rfl, HB2, HO⟩ := hrel
        have f0 : (0 : Int) ≤ (k : Int) := Int.natCast_nonneg _
        have hsz := HB2.out.size
        by_cases hlt : k < n
        · have x : ∀ i, i < n * 2 → wr.cell? ⟨b, off + i, none⟩ = some (.int .i64 (f i)) := fun i hi => ((HB.out.trans (HB2.out.mono (by omega))).cell (p := ⟨b, off + i, none⟩) hb).trans (HC.out i hi)
          obtain ⟨a0, a1⟩ := nums_two x hlt
          have q0 := HBd.out (k * 2) (by omega)
          have q1 := HBd.out (k * 2 + 1) (by omega)
          have HUk := Lib.hid (HU.out k)
          obtain ⟨y0, y1⟩ := blk2 (blk_keep HB2.out HK.out)
          have g1 : (k : Int) < (n : Int) := by omega
          generalize f (k * 2) = qx at a0 q0 HUk
          generalize f (k * 2 + 1) = qy at a1 q1 HUk
          have w1' := wr_in (x := qx - s0) (by omega)
          have w2' := wr_in (x := qy - s1) (by omega)
          have nb : some b ≠ v.ownBlock := own_ne' HO.out (.inl (by omega))
          have nz : some wz ≠ v.ownBlock := own_ne' HO.out (.inl hl)
          have hbr : b < wr.heap.size := by omega
          have hzr : wz < wr.heap.size := by omega
          clear x hk
          go_upto_region 10 with fail
          go_region_held3 (fun w' => w'.cell? ⟨b, off + k * 2, none⟩ = some (.int .i64 qx) ∧ w'.cell? ⟨b, off + k * 2 + 1, none⟩ = some (.int .i64 qy) ∧ w'.cell? ⟨wz, 0, none⟩ = some (.int .i64 s0) ∧ w'.cell? ⟨wz, 1, none⟩ = some (.int .i64 s1))
            (first
              | go_keep
              | (go_split_ands
                 refine ⟨?_, ?_, ?_, ?_⟩
                 · (rw [hgrow.cell_far _ (by simp; omega) nb]; assumption)
                 · (rw [hgrow.cell_far _ (by simp; omega) nb]; assumption)
                 · (rw [hgrow.cell_far _ (by simp; omega) nz]; assumption)
                 · (rw [hgrow.cell_far _ (by simp; omega) nz]; assumption)))
            (first
              | (refine step_append_lies _ (by rfl) _ _ _ (by rfl) w1.heap.size 38 i0 _ 2 16 Try.underlying25 HI.out.1 HI.out.2.1 HI.out.2.2.1 HI.out.2.2.2 rfl (by omega) v k (UP (k * 2)) (by rfl) ((HO.out.alloc _).drew)
                  ⟨wr.heap.size, 0, none⟩ 1 1 [.int .i64 (qx - s0), .int .i64 (qy - s1)] (by rfl) (by rfl) (World.news_of_block (cs := #[.int .i64 (qx - s0), .int .i64 (qy - s1)]) (t := 38) (fr := (0, 0)) (heap_alloc_new wr _)) (by simp [Value.oneCell'])
                  (by omega) (by unfold maxLen; omega) (by omega) (by simp; omega) (wr.heap.size + 1) (by simp) ?_; intro gg cap w6 hown1 hgrow hat hlt6))
          all_goals
            have HQ : Hid (Below w1.heap.size w1 w6) := Lib.hid ((((HB2.out.alloc hsz _).drew)).grown hgrow (by simp; omega) fun g hg => (HO.out.lt g hg).1)
            have HO6 : Hid (w6.ownsRow w1.heap.size 38 2 (.slice (some ⟨gg, 0, none⟩) (k + 1) cap) (k + 1) (UP ((k + 1) * 2))) := Lib.hid (by rw [HUk.out]; exact hown1)
            clear hgrow hat hlt6 hown1 a0 a1 y0 y1 nb nz
            go_wp2_with fail
            go_roundw
            case rel => exact ⟨k + 1, _, by omega, rfl, by go_num, HQ, HO6⟩
            case measure => simp [intOf]; omega
        · obtain rfl : n = k := by omega
          have g1 : ¬ (n : Int) < (n : Int) := by omega
          have HW := Lib.hid (HF.out _ _ (own_base HO.out (by omega)) (HB.out.trans (HB2.out.mono (by omega))))
          clear HO hk hlt HF
          go_wp2_with fail
          first | exact HW.out | (go_ret; exact HW.out)
end Go.Proofs.Ytggbdpamjjgakaa.Bp

/- Whether a list is an outline: the program's function. -/
import Derived.Test.YtggbdpamjjgakaaDoorOiLib
import Derived.Test.YtggbdpamjjgakaaDoorBaLib
import Derived.Deep.AppendLies
import Derived.Deep.RegionHeld3
import Derived.OwnWalk
namespace Go.Proofs.YtggbdpamjjgakaaDoor.Oj
set_option linter.unusedVariables false
open Go.RowKit Ft Is Ge Qb Ol Ot Opl Oq Oi

/-- The numbers of the sides of a list. -/
def sd (n : Nat) (f : Nat → Int) (k : Nat) : Int := if k % 4 < 2 then f (k / 4 * 2 + k % 4) else f (nx n (k / 4) * 2 + (k % 4 - 2))
theorem sd_at (n : Nat) (f : Nat → Int) (i : Nat) : sd n f (i * 4) = f (i * 2) ∧ sd n f (i * 4 + 1) = f (i * 2 + 1) ∧ sd n f (i * 4 + 2) = f (nx n i * 2) ∧ sd n f (i * 4 + 3) = f (nx n i * 2 + 1) := by
  have e0 : (i * 4) % 4 = 0 ∧ (i * 4) / 4 = i := by omega
  have e1 : (i * 4 + 1) % 4 = 1 ∧ (i * 4 + 1) / 4 = i := by omega
  have e2 : (i * 4 + 2) % 4 = 2 ∧ (i * 4 + 2) / 4 = i := by omega
  have e3 : (i * 4 + 3) % 4 = 3 ∧ (i * 4 + 3) / 4 = i := by omega
  unfold sd
  rw [e0.1, e0.2, e1.1, e1.2, e2.1, e2.2, e3.1, e3.2]
  simp
theorem upto_four (g : Nat → Int) (k : Nat) : upto g ((k + 1) * 4) = upto g (k * 4) ++ [.int .i64 (g (k * 4)), .int .i64 (g (k * 4 + 1)), .int .i64 (g (k * 4 + 2)), .int .i64 (g (k * 4 + 3))] := by
  rw [show (k + 1) * 4 = k * 4 + 1 + 1 + 1 + 1 by omega, upto_snoc, upto_snoc, upto_snoc, upto_snoc]
  simp
theorem info_sd : (Tryd.prog.info? 58).map (fun i => (i.zero, i.size, i.bytes)) = some (some (.agg #[.int .i64 0, .int .i64 0, .int .i64 0, .int .i64 0]), 4, 32) := by kernel_rfl
theorem own_ne' {w : World} {base : Nat} {e : TypeId} {size n : Nat} {v : Value} {xs : List Value} (h : w.ownsRow base e size v n xs) {b : Nat} (hb : b < base ∨ w.heap.size ≤ b) : some b ≠ v.ownBlock := fun e => by
  have := h.lt b e.symm
  omega
/-- What sidesOf hands back. -/
def SdAt (n : Nat) (f : Nat → Int) (w : World) (e : Ending) (w' : World) : Prop := ∃ B cap, e = .returned (.slice B n cap) ∧ (n ≤ cap ∧ cap ≤ maxLen) ∧ Hid (Own w' w.heap.size B (n * 4) (sd n f)) ∧ Below w.heap.size w w'
set_option maxRecDepth 100000 in
set_option maxHeartbeats 4000000 in
theorem isides (A : Option Addr) (n c : Nat) (f : Nat → Int) (h1 : 1 ≤ n) (h24 : n ≤ 24) (w : World) (hA : Nums w w.heap.size A (n * 2) f) :
    Calls Tryd.prog 20 #[.slice A n c] w (SdAt n f w) := by
  obtain ⟨i0, hi0, hz0, hz1, hz2⟩ := info_parts info_sd
  have HMK : Hid (∀ w : World, (Instr.makeSlice 41 (.int .i64 0) (.int .i64 (n : Int))).run Tryd.prog w = .ok (.slice (some ⟨w.heap.size, 0, none⟩) 0 n) (w.alloc (.cells (Go.madeCells (Value.agg #[.int .i64 0, .int .i64 0, .int .i64 0, .int .i64 0]).cells (n * 4)) 58))) := Lib.hid fun w => by
    have := run_make w _ _ i0 _ Tryd.underlying41 hi0 hz0 .i64 .i64 0 n (by omega) (by omega) (by rw [hz2]; omega) (by omega)
    rw [hz1] at this
    simpa using this
  have HI := Lib.hid (And.intro hi0 (And.intro hz0 (And.intro hz1 hz2)))
  have HA := Lib.hid hA
  have HU : Hid (∀ k, upto (sd n f) ((k + 1) * 4) = upto (sd n f) (k * 4) ++ [.int .i64 (f (k * 2)), .int .i64 (f (k * 2 + 1)), .int .i64 (f (nx n k * 2)), .int .i64 (f (nx n k * 2 + 1))]) := Lib.hid fun k => by
    obtain ⟨e0, e1, e2, e3⟩ := sd_at n f k
    rw [upto_four, e0, e1, e2, e3]
  have HU0 : Hid (upto (sd n f) (0 * 4) = []) := Lib.hid rfl
  have HF : Hid (∀ v w', w'.ownsRow w.heap.size 58 4 v n (upto (sd n f) (n * 4)) → Below w.heap.size w w' → SdAt n f w (.returned v) w') := Lib.hid fun v w' h hbl => by
    rcases h.2 with ⟨rfl, h0⟩ | ⟨g, cap, cur, rfl, hbg, hh, hc1, hc2, _⟩
    · omega
    · exact ⟨_, cap, rfl, ⟨hc1, hc2⟩, Lib.hid fun _ => ⟨g, 0, rfl, hbg, lt_of_heap hh, fun i hi => by rw [Nat.zero_add]; exact (h.cellAt i (by omega)).trans (upto_get (sd n f) hi), fun i => blk_free hh i⟩, hbl⟩
  generalize upto (sd n f) = UP at HU HU0 HF
  generalize SdAt n f w = Q at HF ⊢
  clear hA hi0 hz0 hz1 hz2
  have hmk := HMK.out w
  go_enter Tryd.func20, Tryd.ntmps20
  go_wp2_with fail
  clear hmk
  have B0 := Lib.hid (below_box w (.cells (Go.madeCells (Value.agg #[.int .i64 0, .int .i64 0, .int .i64 0, .int .i64 0]).cells (n * 4)) 58))
  have O0 : Hid ((w.alloc (.cells (Go.madeCells (Value.agg #[.int .i64 0, .int .i64 0, .int .i64 0, .int .i64 0]).cells (n * 4)) 58)).ownsRow w.heap.size 58 4 (.slice (some ⟨w.heap.size, 0, none⟩) 0 n) 0 (UP (0 * 4))) := Lib.hid (by
    rw [HU0.out]
    exact ⟨rfl, .inr ⟨_, n, _, rfl, Nat.le_refl _, heap_alloc_new _ _, by omega, by unfold maxLen; omega, size_madeCells _ _, rfl⟩⟩)
  go_loopw [3, 4, 5, 11] (fun o _ _ i wr => ∃ (k : Nat) (v : Value), k ≤ n ∧ v = o ∧ i = .int .i64 (k : Int) ∧ Hid (Below w.heap.size w wr) ∧ Hid (wr.ownsRow w.heap.size 58 4 v k (UP (k * 4)))) (fun _ _ _ i _ => n - (intOf i).toNat)
  case atStart => exact ⟨0, _, Nat.zero_le _, rfl, rfl, B0, O0⟩
  case round =>
    obtain ⟨k, v, hk, rfl, rfl, HB, HO⟩ := hrel
    have hsz := HB.out.size
    by_cases hlt : k < n
    · obtain ⟨b, off, rfl, hb, hc⟩ := HA.out (by omega)
      have hc' : ∀ i, i < n * 2 → wr.cell? ⟨b, off + i, none⟩ = some (.int .i64 (f i)) := fun i hi => (HB.out.cell (p := ⟨b, off + i, none⟩) hb).trans (hc i hi)
      have hm1 := nx_lt (n := n) (i := k) (by omega)
      obtain ⟨a0, a1⟩ := nums_two hc' hlt
      obtain ⟨b0, b1⟩ := nums_two hc' hm1
      have i1 := nx_int n k
      have HUk := Lib.hid (HU.out k)
      have e0 : (0 : Int) ≤ (k : Int) := Int.natCast_nonneg _
      have e1 : (k : Int) < (n : Int) := by omega
      have e2 : (n : Int) ≤ 24 := by omega
      have e3 : ((n : Int) == 0) = false := by simp; omega
      have e4 : (0 : Int) ≤ (k : Int) + 1 := by omega
      have f1 : ¬ ((n : Int) = 0) := by omega
      have f2 : ¬ (n = 0) := by omega
      have e5 : (0 : Int) ≤ (n : Int) := by omega
      have e6 : (0 : Int) ≤ ((nx n k : Nat) : Int) := by omega
      have e7 : ((nx n k : Nat) : Int) < (n : Int) := by omega
      have e8 := wr_in (x := (k : Int) + 1) (by omega)
      have e9 : Int.tmod ((k : Int) + 1) (n : Int) = ((nx n k : Nat) : Int) := by rw [Int.tmod_eq_emod_of_nonneg e4]; exact i1
      have e10 : IntKind.i64.wrap (Int.tmod ((k : Int) + 1) (n : Int)) = ((nx n k : Nat) : Int) := by rw [e9]; exact wr_in (by omega)
      have hbr : b < wr.heap.size := by omega
      generalize f (k * 2) = px at a0 HUk
      generalize f (k * 2 + 1) = py at a1 HUk
      generalize f (nx n k * 2) = qx at b0 HUk
      generalize f (nx n k * 2 + 1) = qy at b1 HUk
      have k5 := Lib.hid (heap_alloc_new wr (spC px py 31))
      have HB5 := Lib.hid (below_then HB.out (below_box wr (spC px py 31)))
      have HO5 := Lib.hid (Ge.row_below HO.out (below_box wr (spC px py 31)))
      have b0' : (wr.alloc (spC px py 31)).cell? ⟨b, off + nx n k * 2, none⟩ = some (.int .i64 qx) := Lib.cell?_alloc_some _ b0
      have b1' : (wr.alloc (spC px py 31)).cell? ⟨b, off + nx n k * 2 + 1, none⟩ = some (.int .i64 qy) := Lib.cell?_alloc_some _ b1
      clear hc hc' hk
      go_upto_region 5 with fail
      generalize hs5 : wr.heap.size = s5 at k5 hbr ⊢
      generalize hw5 : wr.alloc _ = w5 at k5 HB5 HO5 b0' b1' ⊢
      have hz5 : w5.heap.size = s5 + 1 := by rw [← hw5, ← hs5]; simp
      clear hw5 hs5 a0 a1 b0 b1 HO HB
      obtain ⟨a0, a1⟩ := blk2 k5.out
      have hsz5 := HB5.out.size
      have nb : some b ≠ v.ownBlock := own_ne' HO5.out (.inl hb)
      have n5 : some s5 ≠ v.ownBlock := fun e => by
        have := HO5.out.lt s5 e.symm
        have hfz := k5.out
        rcases HO5.out.2 with ⟨rfl, _⟩ | ⟨g, cap, cur, rfl, hbg, hh, _⟩
        · cases e
        · cases e
          rw [hfz] at hh
          cases hh
      go_region_held3 (fun w' => w'.cell? ⟨s5, 0, none⟩ = some (.int .i64 px) ∧ w'.cell? ⟨s5, 1, none⟩ = some (.int .i64 py) ∧ w'.cell? ⟨b, off + nx n k * 2, none⟩ = some (.int .i64 qx) ∧ w'.cell? ⟨b, off + nx n k * 2 + 1, none⟩ = some (.int .i64 qy))
        (first
          | go_keep
          | (go_split_ands
             refine ⟨?_, ?_, ?_, ?_⟩
             · (rw [hgrow.cell_far _ (by simp; omega) n5]; assumption)
             · (rw [hgrow.cell_far _ (by simp; omega) n5]; assumption)
             · (rw [hgrow.cell_far _ (by simp; omega) nb]; assumption)
             · (rw [hgrow.cell_far _ (by simp; omega) nb]; assumption)))
        (first
          | (refine step_append_lies _ (by rfl) _ _ _ (by rfl) w.heap.size 58 i0 _ 4 32 Tryd.underlying41 HI.out.1 HI.out.2.1 HI.out.2.2.1 HI.out.2.2.2 rfl (by omega) v k (UP (k * 4)) (by rfl) ((HO5.out.alloc _).drew)
              ⟨s5 + 1, 0, none⟩ 1 1 [.int .i64 px, .int .i64 py, .int .i64 qx, .int .i64 qy] (by rfl) (by rfl) (World.news_of_block (cs := #[.int .i64 px, .int .i64 py, .int .i64 qx, .int .i64 qy]) (t := 58) (fr := (0, 0)) (hz5 ▸ heap_alloc_new w5 _)) (by simp [Value.oneCell'])
              (by omega) (by unfold maxLen; omega) (by omega) (by simp; omega) (s5 + 2) (by simp [hz5]) ?_; intro gg cap w6 hown1 hgrow hat hlt6))
      all_goals
        have HQ : Hid (Below w.heap.size w w6) := Lib.hid ((((HB5.out.alloc hsz5 _).drew)).grown hgrow (by simp; omega) fun g hg => (HO5.out.lt g hg).1)
        have HO6 : Hid (w6.ownsRow w.heap.size 58 4 (.slice (some ⟨gg, 0, none⟩) (k + 1) cap) (k + 1) (UP ((k + 1) * 4))) := Lib.hid (by rw [HUk.out]; exact hown1)
        clear hgrow hat hlt6 hown1 a0 a1 b0' b1' nb n5
        go_wp2_with fail
        go_roundw
        case rel => exact ⟨k + 1, _, by omega, rfl, by go_num, HQ, HO6⟩
        case measure => simp [intOf]; omega
    · obtain rfl : n = k := by omega
      have HW := Lib.hid (HF.out _ _ HO.out HB.out)
      have e3 : ¬ (n : Int) < (n : Int) := by omega
      clear HO hk hlt HF
      go_wp2_with fail
      first | exact HW.out | (go_ret; exact HW.out)
end Go.Proofs.YtggbdpamjjgakaaDoor.Oj

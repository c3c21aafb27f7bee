/- What a last lacks: the program's. -/
import Derived.Test.YtaoknbhpjnileaaNeLib
namespace Go.Proofs.Ytaoknbhpjnileaa.Ne
open Go.RowKit Ft Is Ge Qb La Fa Kf

theorem foot_exact (s : ByteArray) (f : Nat → Int) (w : World) : Calls Try.prog 97 #[laV s f] w fun e w' => e = .returned (.agg #[.int .i64 (f 0), .int .i64 (f 1), .int .i64 (f 2), .int .i64 (f 3)]) ∧ (w.alloc (laC s f 33)).alloc (ftC f 35) = w' := by
  go_enter Try.func97, Try.ntmps97
  go_wp2
  exact bodyPost_ret (v := .agg #[.int .i64 (f 0), .int .i64 (f 1), .int .i64 (f 2), .int .i64 (f 3)]) (by simp [results, Try.results97, go_sem]) rfl ⟨rfl, rfl⟩

set_option maxRecDepth 100000 in
set_option maxHeartbeats 16000000 in
theorem need_impl (s : ByteArray) (x a : Nat → Int) (hx : Mild x) (ha : Mild a) (w : World) : Calls Try.prog 61 #[laV s x, ftV a] w (RowAt 3 (nd x a) w) := by
  obtain ⟨i0, hi0, hz0, hz1, hz2⟩ := info_parts info_int
  have HMK : Hid (∀ w : World, (Instr.makeSlice 22 (.int .i64 0) (.int .i64 3)).run Try.prog w = .ok (.slice (some ⟨w.heap.size, 0, none⟩) 0 3) (w.alloc (.cells (Go.madeCells (Value.int .i64 0).cells 3) 2))) := Lib.hid fun w => by
    have := run_make w _ _ i0 _ Try.underlying22 hi0 hz0 .i64 .i64 0 3 (by omega) (by omega) (by rw [hz2]; omega) (by omega)
    rw [hz1] at this
    simpa using this
  have HI := Lib.hid (And.intro hi0 (And.intro hz0 (And.intro hz1 hz2)))
  have MX := Lib.hid hx
  have MA := Lib.hid ha
  have HR : Hid (∀ w' w0 v, Below w.heap.size w w0 → w'.ownsRow w0.heap.size 2 1 v 3 (upto (nd x a) 3) → Below w0.heap.size w0 w' → RowAt 3 (nd x a) w (.returned v) w') := Lib.hid fun w' w0 v h0 h hb => by
    obtain ⟨A, cap, e, ho, hb'⟩ := row_own h hb
    cases e
    exact ⟨A, cap, rfl, Lib.hid fun hp => by
      obtain ⟨b, off, e, h1, h2, h3, h4⟩ := ho.out hp
      exact ⟨b, off, e, by have := h0.size; omega, h2, h3, h4⟩, below_then h0 hb⟩
  have HM : Hid (∀ k, upto (nd x a) (k + 1) = upto (nd x a) k ++ [.int .i64 (max 0 (a (k + 1) - x (k + 1)))]) := Lib.hid fun k => upto_snoc _ k
  have HM0 : Hid (upto (nd x a) 0 = []) := Lib.hid rfl
  obtain ⟨kx, ka⟩ := Ge.two w (laC s x 33) (ftC a 35)
  have HW := Lib.hid (Ge.below2 w (laC s x 33) (ftC a 35))
  have KX := Lib.hid kx
  have KA := Lib.hid ka
  clear kx ka hx ha hi0 hz0 hz1 hz2
  generalize RowAt 3 (nd x a) w = Q at HR ⊢
  generalize upto (nd x a) = M at HM HM0 HR
  unfold laV
  unfold laC at KX HW
  go_enter Try.func61, Try.ntmps61
  go_upto_region 1 with fail
  generalize (w.alloc (.cells #[.string s, .int .i64 (x 0), .int .i64 (x 1), .int .i64 (x 2), .int .i64 (x 3), .int .i64 (x 4)] 33)).alloc (.cells #[.int .i64 (a 0), .int .i64 (a 1), .int .i64 (a 2), .int .i64 (a 3)] 35) = w2 at HW KX KA ⊢
  have lx := Ge.lt_of_heap KX.out
  have la := Ge.lt_of_heap KA.out
  go_cut [5, 6] (fun s6 s7 wx => ∃ g6 g7 : Nat, s6 = .pointer (some ⟨g6, 0, none⟩) ∧ s7 = .pointer (some ⟨g7, 0, none⟩) ∧ Below w2.heap.size w2 wx ∧
    Hid (wx.cell? ⟨g6, 0, none⟩ = some (.int .i64 (x 0)) ∧ wx.cell? ⟨g6, 1, none⟩ = some (.int .i64 (x 1)) ∧ wx.cell? ⟨g6, 2, none⟩ = some (.int .i64 (x 2)) ∧ wx.cell? ⟨g6, 3, none⟩ = some (.int .i64 (x 3))) ∧
    Hid (wx.cell? ⟨g7, 0, none⟩ = some (.int .i64 (a 0)) ∧ wx.cell? ⟨g7, 1, none⟩ = some (.int .i64 (a 1)) ∧ wx.cell? ⟨g7, 2, none⟩ = some (.int .i64 (a 2)) ∧ wx.cell? ⟨g7, 3, none⟩ = some (.int .i64 (a 3))))
  case first =>
    obtain ⟨x0, x1, x2, x3, x4, x5⟩ := blk6 KX.out
    obtain ⟨y0, y1, y2, y3⟩ := Ge.blk4 KA.out
    clear KX KA HW MX MA HR HM HM0 HI
    go_region_held3 (fun w' => w'.cell? ⟨w.heap.size, 0, none⟩ = some (.string s) ∧ w'.cell? ⟨w.heap.size, 1, none⟩ = some (.int .i64 (x 0)) ∧ w'.cell? ⟨w.heap.size, 2, none⟩ = some (.int .i64 (x 1)) ∧ w'.cell? ⟨w.heap.size, 3, none⟩ = some (.int .i64 (x 2)) ∧ w'.cell? ⟨w.heap.size, 4, none⟩ = some (.int .i64 (x 3)) ∧ w'.cell? ⟨w.heap.size, 5, none⟩ = some (.int .i64 (x 4)) ∧
        w'.cell? ⟨w.heap.size + 1, 0, none⟩ = some (.int .i64 (a 0)) ∧ w'.cell? ⟨w.heap.size + 1, 1, none⟩ = some (.int .i64 (a 1)) ∧ w'.cell? ⟨w.heap.size + 1, 2, none⟩ = some (.int .i64 (a 2)) ∧ w'.cell? ⟨w.heap.size + 1, 3, none⟩ = some (.int .i64 (a 3)))
      (first | (refine ⟨?_, ?_, ?_, ?_, ?_, ?_, ?_, ?_, ?_, ?_⟩ <;> (refine keep_of (w2 := w2) ?_ (by omega) (by assumption); (repeat (first | exact Below.refl _ _ | refine Below.drew ?_ | refine Below.alloc ?_ (by simp <;> omega) _ | refine Below.setCell ?_ (by simp <;> omega) _)))))
      (first | (go_at_call 98; refine (measures_exact _ _ _ _ _).mono ?_; rintro e wn ⟨rfl, rfl⟩) | (go_at_call 97; refine (foot_exact _ _ _).mono ?_; rintro e wn ⟨rfl, rfl⟩))
    all_goals
      go_wp2_with fail
      go_meet
      refine ⟨_, _, rfl, rfl, ?_, Lib.hid ?_, Lib.hid ?_⟩
      · repeat (first | exact Below.refl _ _ | refine Below.drew ?_ | refine Below.alloc ?_ (by simp <;> omega) _ | refine Below.setCell ?_ (by simp <;> omega) _)
      · go_simp
      · go_simp
  case rest =>
    obtain ⟨g6, g7, rfl, rfl, hbel, hc6, hc7⟩ := hcut
    have H6 : Hid (∀ j, j < 4 → wc.cell? ⟨g6, j, none⟩ = some (.int .i64 (x j))) := Lib.hid fun j hj => by
      obtain ⟨q0, q1, q2, q3⟩ := hc6.out
      obtain rfl | rfl | rfl | rfl : j = 0 ∨ j = 1 ∨ j = 2 ∨ j = 3 := by omega
      all_goals assumption
    have H7 : Hid (∀ j, j < 4 → wc.cell? ⟨g7, j, none⟩ = some (.int .i64 (a j))) := Lib.hid fun j hj => by
      obtain ⟨q0, q1, q2, q3⟩ := hc7.out
      obtain rfl | rfl | rfl | rfl : j = 0 ∨ j = 1 ∨ j = 2 ∨ j = 3 := by omega
      all_goals assumption
    have l6 := World.block_lt_of_cell? wc _ (H6.out 0 (by omega))
    have l7 := World.block_lt_of_cell? wc _ (H7.out 0 (by omega))
    simp only at l6 l7
    have HBW := Lib.hid (below_then HW.out hbel)
    have hmk := HMK.out wc
    clear hc6 hc7 hbel KA KX HMK
    go_wp2_with fail
    clear hmk
    go_loopw [7, 8] (fun o n wr => ∃ (k : Nat) (v : Value), k ≤ 3 ∧ v = o ∧ n = .int .i64 ((k + 1 : Nat) : Int) ∧ wr.ownsRow wc.heap.size 2 1 v k (M k) ∧ Below wc.heap.size wc wr) (fun _ n _ => 4 - (intOf n).toNat)
    case atStart => exact ⟨0, _, by omega, rfl, rfl, by rw [HM0.out]; exact World.ownsRow_made wc _ 3 (Nat.le_refl _) (by simp [maxLen]) (by first | (rw [size_madeCells]; done) | (rw [size_madeCells]; omega) | (rw [size_madeCells]; simp [Value.cells])), below_box _ _⟩
    case round =>
      obtain ⟨k, v, hk, rfl, rfl, hown, hbel⟩ := hrel
      have HB := Lib.hid hbel
      have hsz := hbel.size
      have hkk : ((k + 1 : Nat) : Int) = (k : Int) + 1 := by omega
      by_cases hlt : k < 3
      · have z0 : wr.cell? ⟨g6, k + 1, none⟩ = some (.int .i64 (x (k + 1))) := (hbel.cell (p := ⟨g6, k + 1, none⟩) l6).trans (H6.out (k + 1) (by omega))
        have z1 : wr.cell? ⟨g7, k + 1, none⟩ = some (.int .i64 (a (k + 1))) := (hbel.cell (p := ⟨g7, k + 1, none⟩) l7).trans (H7.out (k + 1) (by omega))
        have na := lt_own hown l6
        have nb := lt_own hown l7
        have HO := Lib.hid hown
        obtain ⟨m1, m2⟩ := MX.out (k + 1) (by omega)
        obtain ⟨m3, m4⟩ := MA.out (k + 1) (by omega)
        have HMk := Lib.hid (HM.out k)
        have hwr : IntKind.i64.wrap (a (k + 1) - x (k + 1)) = a (k + 1) - x (k + 1) := IntWalk.i64_in _ (by omega)
        generalize x (k + 1) = u at z0 m1 m2 hwr HMk
        generalize a (k + 1) = t at z1 m3 m4 hwr HMk
        rw [show max 0 (t - u) = if u < t then t - u else 0 by split <;> omega] at HMk
        clear hbel hown
        have e0 : (0 : Int) ≤ (k : Int) + 1 := by omega
        have e1 : (k : Int) + 1 < 4 := by omega
        go_wp2_with fail
        go_region_held3 (fun w' => w'.cell? ⟨g6, k + 1, none⟩ = some (.int .i64 u) ∧ w'.cell? ⟨g7, k + 1, none⟩ = some (.int .i64 t))
          (first
            | go_keep
            | (go_split_ands
               refine ⟨?_, ?_⟩
               · (rw [hgrow.cell_far _ (by simp; omega) (Ne.symm na)]; assumption)
               · (rw [hgrow.cell_far _ (by simp; omega) (Ne.symm nb)]; assumption)))
          ((refine step_append_lies _ (by rfl) _ _ _ (by rfl) wc.heap.size 2 i0 _ 1 8 Try.underlying22 HI.out.1 HI.out.2.1 HI.out.2.2.1 HI.out.2.2.2 rfl (by omega) v k (M k) (by rfl) ((HO.out.alloc _).drew)
              ⟨wr.heap.size, 0, none⟩ 1 1 [.int .i64 (if u < t then t - u else 0)] (by rfl) (by rfl) (World.news_of_block (cs := #[.int .i64 (if u < t then t - u else 0)]) (t := 2) (fr := (0, 0)) (heap_alloc_new wr _)) (by simp [Value.oneCell'])
              (by omega) (by unfold maxLen; omega) (by omega) (by simp; omega) (wr.heap.size + 1) (by simp) ?_; intro gg cap w6 hown1 hgrow hat hlt6))
        all_goals
          have HQ : Hid (Below wc.heap.size wc w6) := Lib.hid ((((HB.out.alloc hsz _).drew)).grown hgrow (by simp; omega) fun g hg => (HO.out.lt g hg).1)
          have hown2 : w6.ownsRow wc.heap.size 2 1 (.slice (some ⟨gg, 0, none⟩) (k + 1) cap) (k + 1) (M (k + 1)) := by rw [HMk.out]; exact hown1
          have HO2 := Lib.hid hown2
          clear hgrow hat hlt6 hown1 hown2 z0 z1 na nb
          go_wp2_with fail
          go_roundw
          case rel => exact ⟨k + 1, _, by omega, rfl, by go_num, HO2.out, HQ.out⟩
          case measure => simp [intOf]; omega
      · obtain rfl : k = 3 := by omega
        have HF := Lib.hid (HR.out _ _ _ HBW.out hown hbel)
        clear hbel hown
        go_wp2_with fail
        exact HF.out
end Go.Proofs.Ytaoknbhpjnileaa.Ne

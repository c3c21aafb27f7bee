/- MirrorOutline and TurnOutline: the spec's functions. -/
import Derived.Test.YtggbdpamjjgakaaMrLib
import Derived.BigRegion
namespace Go.Proofs.Ytggbdpamjjgakaa.Msq
set_option linter.unusedVariables false
open Go.RowKit Ft Is Ge Qb Ol Ot Opl Oq Oi Oj Ok Om Bo Bp Bw Mo Mp Mq Mr

theorem fo_min (g : Nat → Int) : ∀ k, ((∀ i, i ≤ k → (fo mnP g k).1 ≤ g (i * 2) ∧ (fo mnP g k).2 ≤ g (i * 2 + 1)) ∧ (∃ i, i ≤ k ∧ (fo mnP g k).1 = g (i * 2)) ∧ ∃ i, i ≤ k ∧ (fo mnP g k).2 = g (i * 2 + 1))
  | 0 => ⟨fun i hi => by obtain rfl : i = 0 := by omega
                         exact ⟨Int.le_refl _, Int.le_refl _⟩, ⟨0, by omega, rfl⟩, ⟨0, by omega, rfl⟩⟩
  | k + 1 => by
    obtain ⟨h1, ⟨i, hi, e1⟩, ⟨j, hj, e2⟩⟩ := fo_min g k
    have s1 : (fo mnP g (k + 1)).1 = min (fo mnP g k).1 (g ((k + 1) * 2)) := rfl
    have s2 : (fo mnP g (k + 1)).2 = min (fo mnP g k).2 (g ((k + 1) * 2 + 1)) := rfl
    refine ⟨fun x hx => ?_, ?_, ?_⟩
    · by_cases e : x = k + 1
      · subst e; rw [s1, s2]; omega
      · have := h1 x (by omega)
        rw [s1, s2]; omega
    · by_cases c : (fo mnP g k).1 ≤ g ((k + 1) * 2)
      · exact ⟨i, by omega, by rw [s1, ← e1]; omega⟩
      · exact ⟨k + 1, by omega, by rw [s1]; omega⟩
    · by_cases c : (fo mnP g k).2 ≤ g ((k + 1) * 2 + 1)
      · exact ⟨j, by omega, by rw [s2, ← e2]; omega⟩
      · exact ⟨k + 1, by omega, by rw [s2]; omega⟩
theorem rv_at {n i : Nat} (g : Nat → Int) (hi : i < n) : rv n g (i * 2) = g ((n - 1 - i) * 2) ∧ rv n g (i * 2 + 1) = g ((n - 1 - i) * 2 + 1) := by
  unfold rv
  rw [show i * 2 / 2 = i by omega, show i * 2 % 2 = 0 by omega, show (i * 2 + 1) / 2 = i by omega, show (i * 2 + 1) % 2 = 1 by omega]
  exact ⟨rfl, rfl⟩
theorem fo_rv {n : Nat} (g : Nat → Int) (hn : 1 ≤ n) : fo mnP (rv n g) (n - 1) = fo mnP g (n - 1) := by
  obtain ⟨a1, ⟨i, hi, a2⟩, ⟨j, hj, a3⟩⟩ := fo_min (rv n g) (n - 1)
  obtain ⟨b1, ⟨x, hx, b2⟩, ⟨y, hy, b3⟩⟩ := fo_min g (n - 1)
  have c1 := b1 (n - 1 - i) (by omega)
  have c2 := b1 (n - 1 - j) (by omega)
  have c3 := a1 (n - 1 - x) (by omega)
  have c4 := a1 (n - 1 - y) (by omega)
  obtain ⟨d1, _⟩ := rv_at g (i := i) (n := n) (by omega)
  obtain ⟨_, d2⟩ := rv_at g (i := j) (n := n) (by omega)
  obtain ⟨d3, _⟩ := rv_at g (i := n - 1 - x) (n := n) (by omega)
  obtain ⟨_, d4⟩ := rv_at g (i := n - 1 - y) (n := n) (by omega)
  rw [show n - 1 - (n - 1 - x) = x by omega] at d3
  rw [show n - 1 - (n - 1 - y) = y by omega] at d4
  generalize fo mnP (rv n g) (n - 1) = p at *
  generalize fo mnP g (n - 1) = q at *
  obtain ⟨p0, p1⟩ := p
  obtain ⟨q0, q1⟩ := q
  simp only at *
  rw [Prod.mk.injEq]
  omega
theorem ly_rv {n : Nat} (g : Nat → Int) {k : Nat} (hk : k < n * 2) : ly n (rv n g) k = rv n (ly n g) k := by
  have e := fo_rv (n := n) g (by omega)
  unfold ly rv at *
  rw [e]
  by_cases h : k % 2 = 0
  · rw [if_pos h]
    simp only
    rw [if_pos (by omega)]
  · rw [if_neg h]
    simp only
    rw [if_neg (by omega)]
theorem mp_rv {n : Nat} (f : Nat → Int) {k : Nat} (hk : k < n * 2) : mp mrG (rv n f) k = rv n (mp mrG f) k := by
  obtain ⟨d1, d2⟩ := rv_at f (i := k / 2) (n := n) (by omega)
  unfold mp
  show (if k % 2 = 0 then (mrG (rv n f (k / 2 * 2), rv n f (k / 2 * 2 + 1))).1 else (mrG (rv n f (k / 2 * 2), rv n f (k / 2 * 2 + 1))).2) = _
  rw [d1, d2]
  unfold rv
  simp only
  rw [show ((n - 1 - k / 2) * 2 + k % 2) % 2 = k % 2 by omega, show ((n - 1 - k / 2) * 2 + k % 2) / 2 = n - 1 - k / 2 by omega]
  rfl
theorem fo_ext {n : Nat} {g h : Nat → Int} (he : ∀ k, k < n * 2 → g k = h k) : ∀ k, k < n → fo mnP g k = fo mnP h k
  | 0, h0 => by
    show (g (0 * 2), g (0 * 2 + 1)) = (h (0 * 2), h (0 * 2 + 1))
    rw [he _ (by omega), he _ (by omega)]
  | k + 1, hk => by
    show mnP (fo mnP g k) (g ((k + 1) * 2), g ((k + 1) * 2 + 1)) = mnP (fo mnP h k) (h ((k + 1) * 2), h ((k + 1) * 2 + 1))
    rw [fo_ext he k (by omega), he _ (by omega), he _ (by omega)]
theorem ly_ext {n : Nat} {g h : Nat → Int} (he : ∀ k, k < n * 2 → g k = h k) {k : Nat} (hk : k < n * 2) : ly n g k = ly n h k := by
  unfold ly
  rw [fo_ext he (n - 1) (by omega), he k hk]
theorem mir_eq {n : Nat} (f : Nat → Int) {k : Nat} (hk : k < n * 2) : ly n (mp mrG (rv n f)) k = mrD n f k := by
  unfold mrD
  rw [← ly_rv _ hk]
  exact ly_ext (fun j hj => mp_rv f hj) hk
theorem own_ext {w : World} {B : Nat} {A : Option Addr} {n : Nat} {f h : Nat → Int} (hA : Own w B A n f) (he : ∀ k, k < n → f k = h k) : Own w B A n h := fun hp => by
  obtain ⟨b, off, e, h1, h2, h3, h4⟩ := hA hp
  exact ⟨b, off, e, h1, h2, fun i hi => by rw [h3 i hi, he i hi], h4⟩
set_option maxRecDepth 100000 in
set_option maxHeartbeats 4000000 in
theorem spec_mr (A : Option Addr) (n c : Nat) (f : Nat → Int) (hn : n ≤ 1048576) (w : World) (hA : Nums w w.heap.size A (n * 2) f) :
    Calls Try.prog 37 #[.slice A n c] w (PrS (mrM n f) (mrD n f) (mrC n f) w) := by
  have C := Lib.hid (sok A n c f hn w hA)
  unfold mrM mrC
  cases ho : outB n f
  · rw [ho] at C
    clear hA
    simp only [Bool.false_eq_true, if_false]
    have HN : Hid (∀ w', Below w.heap.size w w' → PrS 0 (mrD n f) 1 w (.returned (.tuple #[.slice none 0 0, .int .i64 1])) w') := Lib.hid fun w' hb => prs_no hb
    generalize PrS 0 (mrD n f) 1 w = Q at HN ⊢
    go_enter Try.func37, Try.ntmps37
    go_wp2_with fail
    refine C.out.mono ?_
    rintro e w2 ⟨rfl, b2⟩
    go_wp2_with fail
    exact HN.out _ b2
  · obtain ⟨hR, h3, h24⟩ := out_is ho
    rw [ho] at C
    simp only [if_true]
    obtain ⟨i0, hi0, hz0, hz1, hz2⟩ := info_parts info_sp
    have HI := Lib.hid (And.intro hi0 (And.intro hz0 (And.intro hz1 hz2)))
    obtain ⟨b, off, rfl, hb, hc⟩ := hA (by omega)
    have HC := Lib.hid hc
    have HR := Lib.hid hR
    have HBd : Bnd n (mp mrG (rv n f)) := mp_bd fun i hi => by
      obtain ⟨d1, d2⟩ := rv_at f hi
      have := pt_bd hR (i := n - 1 - i) (by omega)
      show (-10000 ≤ -(rv n f (i * 2)) ∧ -(rv n f (i * 2)) ≤ 10000) ∧ (-10000 ≤ rv n f (i * 2 + 1) ∧ rv n f (i * 2 + 1) ≤ 10000)
      rw [d1, d2]
      unfold pt at this
      simp only at this
      omega
    have LY : Hid (∀ w' B c', Nums w' w'.heap.size B (n * 2) (mp mrG (rv n f)) → Calls Try.prog 68 #[.slice B n c'] w' (RowAt n (ly n (mp mrG (rv n f))) w')) := Lib.hid fun w' B c' h => slay B n c' _ (by omega) h24 HBd w' h
    have HY : Hid (∀ B cap (w1 w' : World), w.heap.size ≤ w1.heap.size → Own w' w1.heap.size B (n * 2) (ly n (mp mrG (rv n f))) → Below w.heap.size w w' → PrS n (mrD n f) 0 w (.returned (.tuple #[.slice B n cap, .int .i64 0])) w') := Lib.hid fun B cap w1 w' hs h hbl => ⟨B, cap, rfl, Lib.hid (own_ext (own_later h hs) fun k hk => mir_eq f hk), hbl⟩
    have HU : Hid (∀ k, k < n → upto (mp mrG (rv n f)) ((k + 1) * 2) = upto (mp mrG (rv n f)) (k * 2) ++ [.int .i64 (-(f ((n - 1 - k) * 2))), .int .i64 (f ((n - 1 - k) * 2 + 1))]) := Lib.hid fun k hk => by
      obtain ⟨e0, e1⟩ := mp_at mrG (rv n f) k
      obtain ⟨d1, d2⟩ := rv_at f hk
      rw [upto_two, e0, e1]
      show _ ++ ([Value.int .i64 (-(rv n f (k * 2))), Value.int .i64 (rv n f (k * 2 + 1))] : List Value) = _
      rw [d1, d2]
    have HU0 : Hid (upto (mp mrG (rv n f)) (0 * 2) = []) := Lib.hid rfl
    have HON : Hid (∀ v (w1 w' : World), w'.ownsRow w1.heap.size 38 2 v n (upto (mp mrG (rv n f)) (n * 2)) → ∃ B cap, v = .slice B n cap ∧ Own w' w1.heap.size B (n * 2) (mp mrG (rv n f))) := Lib.hid fun v w1 w' h => own_of_row h
    generalize upto (mp mrG (rv n f)) = UP at HU HU0 HON
    generalize PrS n (mrD n f) 0 w = Q at HY ⊢
    generalize ly n (mp mrG (rv n f)) = L at LY HY
    generalize mp mrG (rv n f) = M at LY HON
    clear hA hc hR HBd hi0 hz0 hz1 hz2
    have e24 : (n : Int) ≤ 24 := by omega
    go_enter Try.func37, Try.ntmps37
    go_wp2_with fail
    refine C.out.mono ?_
    rintro e w1 ⟨rfl, b1⟩
    have B1 := Lib.hid b1
    have hz1 := b1.size
    clear b1 C
    go_wp2_with fail
    go_loopw [4, 5] (fun o i wr => ∃ (k : Nat) (v : Value), k ≤ n ∧ v = o ∧ i = .int .i64 ((n : Int) - 1 - (k : Int)) ∧ Hid (Below w1.heap.size w1 wr) ∧ Hid (wr.ownsRow w1.heap.size 38 2 v k (UP (k * 2)))) (fun _ i _ => (intOf i + 1).toNat)
    case atStart => exact ⟨0, _, Nat.zero_le _, rfl, by simp, Lib.hid (below_box _ _), Lib.hid (by rw [HU0.out]; exact World.ownsRow_made w1 #[] 0 (Nat.le_refl _) (by simp [maxLen]) rfl)⟩
    case round =>
      obtain ⟨k, v, hk, rfl, rfl, HB2, HO⟩ := hrel
      have f0 : (0 : Int) ≤ (k : Int) := Int.natCast_nonneg _
      have hsz := HB2.out.size
      by_cases hlt : k < n
      · obtain ⟨m, hm⟩ : ∃ m : Nat, m = n - 1 - k := ⟨_, rfl⟩
        have em : (n : Int) - 1 - (k : Int) = (m : Int) := by omega
        rw [em]
        have x : ∀ i, i < n * 2 → wr.cell? ⟨b, off + i, none⟩ = some (.int .i64 (f i)) := fun i hi => ((B1.out.trans (HB2.out.mono (by omega))).cell (p := ⟨b, off + i, none⟩) hb).trans (HC.out i hi)
        obtain ⟨a0, a1⟩ := nums_two x (show m < n by omega)
        have HUk := Lib.hid (HU.out k hlt)
        rw [← hm] at HUk
        have q0 := pt_bd HR.out (i := m) (by omega)
        unfold pt at q0
        simp only at q0
        have g1 : (0 : Int) ≤ (m : Int) := by omega
        have g2 : (m : Int) < (n : Int) := by omega
        generalize f (m * 2) = qx at a0 q0 HUk
        generalize f (m * 2 + 1) = qy at a1 q0 HUk
        have w1' := wr_in (x := -qx) (by omega)
        have nb : some b ≠ v.ownBlock := own_ne' HO.out (.inl (by omega))
        have hbr : b < wr.heap.size := by omega
        have hm1 : (m : Int) ≤ (n : Int) - 1 - (k : Int) := by omega
        have hm2 : (n : Int) - 1 - (k : Int) ≤ (m : Int) := by omega
        clear x hm em
        go_upto_region 7 with fail
        go_region_held3 (fun w' => w'.cell? ⟨b, off + m * 2, none⟩ = some (.int .i64 qx) ∧ w'.cell? ⟨b, off + m * 2 + 1, none⟩ = some (.int .i64 qy))
          (first
            | go_keep
            | (go_split_ands
               refine ⟨?_, ?_⟩
               · (rw [hgrow.cell_far _ (by simp; omega) nb]; assumption)
               · (rw [hgrow.cell_far _ (by simp; omega) nb]; assumption)))
          (first
            | (refine step_append_lies _ (by rfl) _ _ _ (by rfl) w1.heap.size 38 i0 _ 2 16 Try.underlying25 HI.out.1 HI.out.2.1 HI.out.2.2.1 HI.out.2.2.2 rfl (by omega) v k (UP (k * 2)) (by rfl) ((HO.out.alloc _).drew)
                ⟨wr.heap.size, 0, none⟩ 1 1 [.int .i64 (-qx), .int .i64 qy] (by rfl) (by rfl) (World.news_of_block (cs := #[.int .i64 (-qx), .int .i64 qy]) (t := 38) (fr := (0, 0)) (heap_alloc_new wr _)) (by simp [Value.oneCell'])
                (by omega) (by unfold maxLen; omega) (by omega) (by simp; omega) (wr.heap.size + 1) (by simp) ?_; intro gg cap w6 hown1 hgrow hat hlt6))
        all_goals
          have HQ : Hid (Below w1.heap.size w1 w6) := Lib.hid ((((HB2.out.alloc hsz _).drew)).grown hgrow (by simp; omega) fun g hg => (HO.out.lt g hg).1)
          have HO6 : Hid (w6.ownsRow w1.heap.size 38 2 (.slice (some ⟨gg, 0, none⟩) (k + 1) cap) (k + 1) (UP ((k + 1) * 2))) := Lib.hid (by rw [HUk.out]; exact hown1)
          clear hgrow hat hlt6 hown1 a0 a1 nb
          go_wp2_with fail
          go_roundw
          case rel => exact ⟨k + 1, _, by omega, rfl, by go_num, HQ, HO6⟩
          case measure => simp [intOf] <;> omega
      · obtain rfl : n = k := by omega
        obtain ⟨B, cap, rfl, hown⟩ := HON.out _ _ _ HO.out
        have HW := Lib.hid hown
        have em : (n : Int) - 1 - (n : Int) = -1 := by omega
        rw [em]
        have CL := Lib.hid (LY.out _ B cap hown.nums)
        clear hown HO hk hlt LY HU HU0 HON
        go_wp2_with fail
        refine CL.out.mono ?_
        rintro e w4 ⟨B', cap', rfl, _, HO4, b4⟩
        have HF := Lib.hid (HY.out B' cap' _ w4 (by omega) HO4.out (below_then (B1.out.trans (HB2.out.mono (by omega))) b4))
        clear HO4 b4 CL HY HW
        go_wp2_with fail
        exact HF.out
end Go.Proofs.Ytggbdpamjjgakaa.Msq

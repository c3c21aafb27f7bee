/- AddLast: the spec's walk. -/
import Derived.Test.YtbdphbjpcecfaaaAdLib
namespace Go.Proofs.Ytbdphbjpcecfaaa.Ad
open Go.RowKit Ft Ge Qb La Ll Lv Pl

/-- What AddLast answers: a code, and the list where the code is 0. -/
noncomputable def adC (n : Nat) (N : Nat → ByteArray) (F : Nat → Nat → Int) (s : ByteArray) (f : Nat → Int) : Int :=
  if tv (LOk n N F) = true then (if laB s f = true then (if thr n N s = true then 4 else (if 30 ≤ n then 5 else 0)) else 2) else 1
noncomputable def adN (n : Nat) (N : Nat → ByteArray) (F : Nat → Nat → Int) (s : ByteArray) (f : Nat → Int) : Nat := if adC n N F s f = 0 then n + 1 else 0
def AdAt (n : Nat) (N : Nat → ByteArray) (F : Nat → Nat → Int) (s : ByteArray) (f : Nat → Int) (w : World) (e : Ending) (w' : World) : Prop :=
  Ks.PairL (adN n N F s f) (iN N s (pl n N s)) (iF F f (pl n N s)) (adC n N F s f) w e w'
theorem ad_not {n : Nat} {N : Nat → ByteArray} {F : Nat → Nat → Int} {s : ByteArray} {f : Nat → Int} {c : Int} (hc : adC n N F s f = c) (h0 : c ≠ 0) {w w' : World} (hb : Below w.heap.size w w') : AdAt n N F s f w (.returned (.tuple #[.slice none 0 0, .int .i64 c])) w' := by
  have hn : adN n N F s f = 0 := by unfold adN; rw [if_neg (by rw [hc]; exact h0)]
  unfold AdAt
  rw [hn, hc]
  exact ⟨none, 0, rfl, Lib.hid fun h => absurd h (by omega), hb⟩
theorem ad_yes {n : Nat} {N : Nat → ByteArray} {F : Nat → Nat → Int} {s : ByteArray} {f : Nat → Int} (hc : adC n N F s f = 0) {w w' : World} {v : Value}
    (h : w'.ownsRow w.heap.size 31 6 v (n + 1) (seg (Ks.lv N F) 0 (pl n N s) ++ [.string s, .int .i64 (f 0), .int .i64 (f 1), .int .i64 (f 2), .int .i64 (f 3), .int .i64 (f 4)] ++ seg (Ks.lv N F) (pl n N s) (n - pl n N s))) (hb : Below w.heap.size w w') : AdAt n N F s f w (.returned (.tuple #[v, .int .i64 0])) w' := by
  have hn : adN n N F s f = n + 1 := by unfold adN; rw [if_pos hc]
  unfold AdAt
  rw [hn, hc]
  exact Ks.pair_of_row (by rw [ins_row (pl_le n N s)]; exact h) hb
/-- A part of a list, as the cells that it holds. -/
theorem seg_cells {w : World} {g n a m : Nat} {V : Nat → Value} (h : ∀ i, i < n * 6 → w.cell? ⟨g, i, none⟩ = some (V i)) (hm : a + m ≤ n) : ∀ j u, (seg V a m)[j]? = some u → w.cell? ((⟨g, a * 6, none⟩ : Addr).add j) = some u := by
  intro j u hu
  rw [seg_get] at hu
  split at hu
  · rename_i hj
    rw [Addr.add_lit, h (a * 6 + j) (by omega)]
    exact hu
  · cases hu
theorem seg_one {V : Nat → Value} {a m n : Nat} (hv : ∀ i, i < n * 6 → (V i).oneCell' = true) (hm : a + m ≤ n) : ∀ u ∈ seg V a m, u.oneCell' = true := by
  intro u hu
  unfold seg at hu
  obtain ⟨j, hj, rfl⟩ := List.mem_map.1 hu
  exact hv _ (by have := List.mem_range.1 hj; omega)
theorem lv_one (N : Nat → ByteArray) (F : Nat → Nat → Int) (i : Nat) : (Ks.lv N F i).oneCell' = true := by
  unfold Ks.lv
  split <;> rfl
theorem own_base {w' : World} {b b' : Nat} {e : TypeId} {size n : Nat} {v : Value} {xs : List Value} (h : w'.ownsRow b e size v n xs) (hb : b' ≤ b) : w'.ownsRow b' e size v n xs :=
  ⟨h.1, by
    rcases h.2 with h0 | ⟨g, cap, cur, hv, hbg, r⟩
    · exact .inl h0
    · exact .inr ⟨g, cap, cur, hv, by omega, r⟩⟩
set_option maxRecDepth 100000 in
set_option maxHeartbeats 4000000 in
theorem spec_add (g n : Nat) (N : Nat → ByteArray) (F : Nat → Nat → Int) (s : ByteArray) (f : Nat → Int) (hs : s.size ≤ maxLen) (hn : n ≤ 1048576) (w : World) (hA : Lasts w w.heap.size (some ⟨g, 0, none⟩) n N F) :
    Calls Try.prog 10 #[.slice (some ⟨g, 0, none⟩) n n, laV s f] w (AdAt n N F s f w) := by
  obtain ⟨i0, hi0, hz0, hz1, hz2⟩ := info_parts Ks.info_la
  have HI := Lib.hid (And.intro hi0 (And.intro hz0 (And.intro hz1 hz2)))
  clear hi0 hz0 hz1 hz2
  have P1 : Hid (¬ LOk n N F → ∀ w', Below w.heap.size w w' → AdAt n N F s f w (.returned (.tuple #[.slice none 0 0, .int .i64 1])) w') := Lib.hid fun h w' hb => ad_not (by simp [adC, tv_no h]) (by omega) hb
  have P2 : Hid (LOk n N F → laB s f = false → ∀ w', Below w.heap.size w w' → AdAt n N F s f w (.returned (.tuple #[.slice none 0 0, .int .i64 2])) w') := Lib.hid fun h h2 w' hb => ad_not (by simp [adC, tv_yes h, h2]) (by omega) hb
  have P3 : Hid (LOk n N F → laB s f = true → thr n N s = true → ∀ w', Below w.heap.size w w' → AdAt n N F s f w (.returned (.tuple #[.slice none 0 0, .int .i64 4])) w') := Lib.hid fun h h2 h3 w' hb => ad_not (by simp [adC, tv_yes h, h2, h3]) (by omega) hb
  have P4 : Hid (LOk n N F → laB s f = true → thr n N s = false → 30 ≤ n → ∀ w', Below w.heap.size w w' → AdAt n N F s f w (.returned (.tuple #[.slice none 0 0, .int .i64 5])) w') := Lib.hid fun h h2 h3 h4 w' hb => ad_not (by simp [adC, tv_yes h, h2, h3, h4]) (by omega) hb
  have P5 : Hid (LOk n N F → laB s f = true → thr n N s = false → ¬ 30 ≤ n → ∀ v w', w'.ownsRow w.heap.size 31 6 v (n + 1) (seg (Ks.lv N F) 0 (pl n N s) ++ [.string s, .int .i64 (f 0), .int .i64 (f 1), .int .i64 (f 2), .int .i64 (f 3), .int .i64 (f 4)] ++ seg (Ks.lv N F) (pl n N s) (n - pl n N s)) → Below w.heap.size w w' → AdAt n N F s f w (.returned (.tuple #[v, .int .i64 0])) w') := Lib.hid fun h h2 h3 h4 v w' hr hb => ad_yes (by simp [adC, tv_yes h, h2, h3, h4]) hr hb
  have HA := Lib.hid hA
  have C1 := Lib.hid (fun w h => spec_ok (some ⟨g, 0, none⟩) n n N F hn w h)
  have C2 := Lib.hid (fun w => one_spec s f hs w)
  have C3 := Lib.hid (fun (h : LOk n N F) w hA => find_any (some ⟨g, 0, none⟩) n n N F s hn h.2.2 w hA)
  have HG := Lib.hid (fun (h : LOk n N F) (ht : thr n N s = false) (i : Nat) (hi : i < n) => gt_two h.2.2 ht hi)
  have hpl := pl_le n N s
  have HV : Hid (∀ w', Below w.heap.size w w' → ∀ i, i < n * 6 → w'.cell? ⟨g, i, none⟩ = some (Ks.lv N F i)) := Lib.hid fun w' hb => lasts_at (hA.below hb (Nat.le_refl _))
  have HN : Hid (∀ w', Below w.heap.size w w' → ∀ i, i < n → w'.cell? ⟨g, i * 6, none⟩ = some (.string (N i))) := Lib.hid fun w' hb i hi => (lasts_at (hA.below hb (Nat.le_refl _)) (i * 6) (by omega)).trans (congrArg some (Ks.lv_0 N F i))
  have kx := heap_alloc_new w (laC s f 31)
  have B0 := Lib.hid (below_box w (laC s f 31))
  clear hA
  generalize AdAt n N F s f w = Q at P1 P2 P3 P4 P5 ⊢
  generalize laB s f = r2 at C2 P2 P3 P4 P5
  generalize thr n N s = r3 at C3 P3 P4 P5 HG
  generalize pl n N s = p at C3 P5 HG hpl
  simp only [laV, laC] at kx B0 C2 ⊢
  generalize hf0 : f 0 = f0, f 1 = f1, f 2 = f2, f 3 = f3, f 4 = f4 at *
  clear hf0
  have KX := Lib.hid kx
  clear kx
  go_enter Try.func10, Try.ntmps10
  go_wp2_with fail
  refine (C1.out _ ((HA.out.below B0.out (Nat.le_refl _)).more B0.out.size)).mono ?_
  rintro e w1 ⟨r1, rfl, hr1, b1⟩
  have B1 := Lib.hid (below_then B0.out b1)
  have KX1 := Lib.hid (Ge.blk_keep b1 KX.out)
  clear b1 C1 B0 KX
  cases r1
  · have HC := Lib.hid (P1.out (fun h => by have := hr1.2 h; cases this) _ B1.out)
    go_wp2_with fail
    exact HC.out
  have ho : LOk n N F := hr1.1 rfl
  have HP2 := Lib.hid (P2.out ho)
  have HP3 := Lib.hid (P3.out ho)
  have HP4 := Lib.hid (P4.out ho)
  have HP5 := Lib.hid (P5.out ho)
  have HC3 := Lib.hid (C3.out ho)
  have HGT := Lib.hid (HG.out ho)
  clear P1 P2 P3 P4 P5 C3 HG hr1 ho
  obtain ⟨x0, x1, x2, x3, x4, x5⟩ := Ge.blk6 KX1.out
  go_wp2_with fail
  refine (C2.out _).mono ?_
  rintro e w2 ⟨rfl, b2⟩
  have B2 := Lib.hid (below_then B1.out b2)
  have KX2 := Lib.hid (Ge.blk_keep b2 KX1.out)
  clear b2 B1 KX1 C2 x0 x1 x2 x3 x4 x5
  cases r2
  · have HC := Lib.hid (HP2.out (by first | rfl | trivial) _ B2.out)
    go_wp2_with fail
    exact HC.out
  obtain ⟨x0, x1, x2, x3, x4, x5⟩ := Ge.blk6 KX2.out
  go_wp2_with fail
  refine (HC3.out _ ((HA.out.below B2.out (Nat.le_refl _)).more B2.out.size)).mono ?_
  rintro e w3 ⟨rfl, b3⟩
  have B3 := Lib.hid (below_then B2.out b3)
  have KX3 := Lib.hid (Ge.blk_keep b3 KX2.out)
  clear b3 B2 KX2 HC3 x0 x1 x2 x3 x4 x5
  cases r3
  rotate_left
  · have HC := Lib.hid (HP3.out (by first | rfl | trivial) (by first | rfl | trivial) _ B3.out)
    have e0 : (0 : Int) ≤ (p : Int) := Int.natCast_nonneg _
    simp only [if_true]
    go_wp2_with fail
    exact HC.out
  simp only [Bool.false_eq_true, if_false]
  by_cases h30 : 30 ≤ n
  · have HC := Lib.hid (HP4.out (by first | rfl | trivial) (by first | rfl | trivial) h30 _ B3.out)
    have e0 : (30 : Int) ≤ (n : Int) := by omega
    go_wp2_with fail
    exact HC.out
  have e30 : ¬ (30 : Int) ≤ (n : Int) := by omega
  have Q5 := Lib.hid (HP5.out (by first | rfl | trivial) (by first | rfl | trivial) h30)
  have HGU := Lib.hid (HGT.out (by first | rfl | trivial))
  clear HP2 HP3 HP4 HP5 HGT
  go_wp2_with fail
  go_loopw [6] (fun k wr => ∃ i : Nat, p ≤ i ∧ i ≤ n ∧ k = .int .i64 (i : Int) ∧ Hid (Below w3.heap.size w3 wr)) (fun k _ => (intOf k).toNat)
  case atStart => exact ⟨n, hpl, Nat.le_refl _, rfl, Lib.hid (Below.refl _ _)⟩
  case round =>
    obtain ⟨i, hpi, hi, rfl, HB⟩ := hrel
    have BB := Lib.hid (below_then B3.out HB.out)
    have KXr := Lib.hid (Ge.blk_keep HB.out KX3.out)
    obtain ⟨x0, x1, x2, x3, x4, x5⟩ := Ge.blk6 KXr.out
    have x0 := bey_cell x0
    have e0 : (0 : Int) ≤ (i : Int) := Int.natCast_nonneg _
    by_cases hz : i = 0
    · subst hz
      obtain rfl : p = 0 := by omega
      go_wp2_with fail
      refine wp_region_below (by kernel_rfl) (by kernel_rfl) ?_
      repeat (go_big_quiet_step (fail))
      refine wpQuiet_nil ?_
      rintro _ ⟨pq, rfl⟩
      have HQ := Lib.hid (below_then HB.out pq.h)
      generalize pq.to = wq at HQ ⊢
      clear x0 x1 x2 x3 x4 x5 KXr BB HB
      have hz0 := HQ.out.size
      have HV0 := Lib.hid (HV.out _ (below_then B3.out HQ.out))
      have KX4 := Lib.hid (Ge.blk_keep HQ.out KX3.out)
      have n0 : (0 : Int) ≤ (n : Int) := Int.natCast_nonneg _
      have np : (0 : Int) ≤ (n : Int) := by omega
      go_wp2_with (at_builtin; refine wpList_append_own _ rfl _ _ 27 rfl wq.heap.size 31 i0 _ 6 56 Try.underlying27 HI.out.1 HI.out.2.1 HI.out.2.2.1 HI.out.2.2.2 rfl (by decide) _ 0 [] rfl (World.ownsRow_made wq #[] 0 (Nat.le_refl _) (by simp [maxLen]) rfl) ⟨g, 0, none⟩ 0 n (seg (Ks.lv N F) 0 0) rfl ?c0 ?c1 ?c2 ?c3 ?c4 ?c5 ?_)
      case c0 => exact seg_len _ _ _
      case c1 => exact fun j u hu => seg_cells (w := wq.alloc (.cells #[] 31)) (a := 0) (fun i hi => (below_box wq _).cell (p := ⟨g, i, none⟩) (World.block_lt_of_cell? _ _ (HV0.out i hi)) |>.trans (HV0.out i hi)) (by omega) j u hu
      case c2 => exact seg_one (n := n) (fun i _ => lv_one N F i) (by omega)
      case c3 => unfold maxLen; omega
      case c4 => omega
      case c5 => first | omega | (simp <;> omega)
      intro v5 w5 hown5 hgrow _
      have HB5 := Lib.hid (((Below.refl wq.heap.size wq).alloc (Nat.le_refl _) _).grown hgrow (by simp <;> omega) fun b hb => (World.ownsRow_made wq #[] 0 (Nat.le_refl _) (by simp [maxLen]) rfl : (wq.alloc (.cells #[] 31)).ownsRow wq.heap.size 31 6 _ 0 []).lt b hb |>.1)
      have HO5 : Hid (w5.ownsRow wq.heap.size 31 6 v5 0 (seg (Ks.lv N F) 0 0)) := Lib.hid hown5
      have KX5 := Lib.hid (Ge.blk_keep HB5.out KX4.out)
      have hz5 := HB5.out.size
      obtain ⟨x0, x1, x2, x3, x4, x5⟩ := Ge.blk6 KX5.out
      clear hown5 hgrow
      go_wp2_with (at_builtin; refine wpList_append_own _ rfl (.tmp 44) (.tmp 46) 27 rfl wq.heap.size 31 i0 _ 6 56 Try.underlying27 HI.out.1 HI.out.2.1 HI.out.2.2.1 HI.out.2.2.2 rfl (by decide) v5 0 _ rfl (HO5.out.alloc _) ⟨w5.heap.size, 0, none⟩ 1 1 [.string s, .int .i64 f0, .int .i64 f1, .int .i64 f2, .int .i64 f3, .int .i64 f4] rfl rfl ?c1 ?c2 ?c3 ?c4 ?c5 ?_)
      case c1 => exact Ks.cells_new6 _ _ _ _ _ _ _ _
      case c2 => simp [Value.oneCell']
      case c3 => unfold maxLen; omega
      case c4 => omega
      case c5 => first | omega | (simp <;> omega)
      intro v6 w6 hown6 hgrow _
      have HB6 := Lib.hid ((HB5.out.alloc hz5 _).grown hgrow (by simp <;> omega) fun b hb => (HO5.out.lt b hb).1)
      have HO6 := Lib.hid hown6
      have HV6 := Lib.hid (HV.out _ (below_then (below_then B3.out HQ.out) HB6.out))
      have hz6 := HB6.out.size
      clear hown6 hgrow x0 x1 x2 x3 x4 x5
      by_cases hpn : 0 < n
      · go_wp2_with (at_builtin; refine wpList_append_own _ rfl (.tmp 48) (.tmp 51) 27 rfl wq.heap.size 31 i0 _ 6 56 Try.underlying27 HI.out.1 HI.out.2.1 HI.out.2.2.1 HI.out.2.2.2 rfl (by decide) v6 _ _ rfl HO6.out ⟨g, 0, none⟩ (n) (n) (seg (Ks.lv N F) (0) (n)) rfl ?c0 ?c1 ?c2 ?c3 ?c4 ?c5 ?_)
        case c0 => exact seg_len _ _ _
        case c1 => exact seg_cells (a := 0) HV6.out (by omega)
        case c2 => exact seg_one (n := n) (fun i _ => lv_one N F i) (by omega)
        case c3 => unfold maxLen; omega
        case c4 => omega
        case c5 => first | omega | (simp <;> omega)
        intro v7 w7 hown7 hgrow _
        have HB7 := Lib.hid (HB6.out.grown hgrow hz6 fun b hb => (HO6.out.lt b hb).1)
        have HC := Lib.hid (Q5.out v7 w7 (own_base (by rw [show n + 1 = (0) + 1 + (n - (0)) by omega]; simpa using hown7) (show w.heap.size ≤ wq.heap.size from (below_then B3.out HQ.out).size)) (below_then (below_then B3.out HQ.out) HB7.out))
        clear hown7 hgrow
        go_wp2_with fail
        exact HC.out
      · obtain rfl : n = 0 := by omega
        go_wp2_with (at_builtin; refine wpList_append_own _ rfl (.tmp 48) (.tmp 51) 27 rfl wq.heap.size 31 i0 _ 6 56 Try.underlying27 HI.out.1 HI.out.2.1 HI.out.2.2.1 HI.out.2.2.2 rfl (by decide) v6 _ _ rfl HO6.out ⟨g, 0, none⟩ (0) (0) (seg (Ks.lv N F) (0) (0)) rfl ?c0 ?c1 ?c2 ?c3 ?c4 ?c5 ?_)
        case c0 => exact seg_len _ _ _
        case c1 => exact seg_cells (a := 0) HV6.out (by omega)
        case c2 => exact seg_one (n := 0) (fun i _ => lv_one N F i) (by omega)
        case c3 => unfold maxLen; omega
        case c4 => omega
        case c5 => first | omega | (simp <;> omega)
        intro v7 w7 hown7 hgrow _
        have HB7 := Lib.hid (HB6.out.grown hgrow hz6 fun b hb => (HO6.out.lt b hb).1)
        have HC := Lib.hid (Q5.out v7 w7 (own_base (by rw [show 0 + 1 = (0) + 1 + (0 - (0)) by omega]; simpa using hown7) (show w.heap.size ≤ wq.heap.size from (below_then B3.out HQ.out).size)) (below_then (below_then B3.out HQ.out) HB7.out))
        clear hown7 hgrow
        go_wp2_with fail
        exact HC.out
    obtain ⟨q, rfl⟩ : ∃ q, i = q + 1 := ⟨i - 1, by omega⟩
    have hgt : (0 : Int) < ((q + 1 : Nat) : Int) := by omega
    have e2 : ((q + 1 : Nat) : Int) - 1 = (q : Int) := by omega
    have y0 := bey_cell (HN.out wr BB.out q (by omega))
    have HL := Lib.hid (HGU.out q (by omega))
    generalize N q = nq at y0 HL
    by_cases hpq : p ≤ q
    · obtain ⟨l1, l2⟩ := HL.out.1 hpq
      go_wp2_with fail
      refine wp_region_below (by kernel_rfl) (by kernel_rfl) ?_
      repeat (go_big_quiet_step (fail))
      refine wpQuiet_nil ?_
      rintro _ ⟨pq, rfl⟩
      have HQ := Lib.hid (below_then HB.out pq.h)
      generalize pq.to = wq at HQ ⊢
      clear x0 x1 x2 x3 x4 x5 y0 KXr BB HB
      go_wp2_with fail
      go_roundw
      case rel => exact ⟨q, hpq, by omega, by go_num, HQ⟩
      case measure => simp [intOf] <;> omega
    · have l1 := HL.out.2 (by omega)
      obtain rfl : p = q + 1 := by omega
      go_wp2_with fail
      refine wp_region_below (by kernel_rfl) (by kernel_rfl) ?_
      repeat (go_big_quiet_step (fail))
      refine wpQuiet_nil ?_
      rintro _ ⟨pq, rfl⟩
      have HQ := Lib.hid (below_then HB.out pq.h)
      generalize pq.to = wq at HQ ⊢
      clear x0 x1 x2 x3 x4 x5 y0 KXr BB HB HL
      have hz0 := HQ.out.size
      have HV0 := Lib.hid (HV.out _ (below_then B3.out HQ.out))
      have KX4 := Lib.hid (Ge.blk_keep HQ.out KX3.out)
      have n0 : (0 : Int) ≤ (n : Int) := Int.natCast_nonneg _
      have np : (q : Int) + 1 ≤ (n : Int) := by omega
      go_wp2_with (at_builtin; refine wpList_append_own _ rfl _ _ 27 rfl wq.heap.size 31 i0 _ 6 56 Try.underlying27 HI.out.1 HI.out.2.1 HI.out.2.2.1 HI.out.2.2.2 rfl (by decide) _ 0 [] rfl (World.ownsRow_made wq #[] 0 (Nat.le_refl _) (by simp [maxLen]) rfl) ⟨g, 0, none⟩ (q + 1) n (seg (Ks.lv N F) 0 (q + 1)) rfl ?c0 ?c1 ?c2 ?c3 ?c4 ?c5 ?_)
      case c0 => exact seg_len _ _ _
      case c1 => exact fun j u hu => seg_cells (w := wq.alloc (.cells #[] 31)) (a := 0) (fun i hi => (below_box wq _).cell (p := ⟨g, i, none⟩) (World.block_lt_of_cell? _ _ (HV0.out i hi)) |>.trans (HV0.out i hi)) (by omega) j u hu
      case c2 => exact seg_one (n := n) (fun i _ => lv_one N F i) (by omega)
      case c3 => unfold maxLen; omega
      case c4 => omega
      case c5 => first | omega | (simp <;> omega)
      intro v5 w5 hown5 hgrow _
      have HB5 := Lib.hid (((Below.refl wq.heap.size wq).alloc (Nat.le_refl _) _).grown hgrow (by simp <;> omega) fun b hb => (World.ownsRow_made wq #[] 0 (Nat.le_refl _) (by simp [maxLen]) rfl : (wq.alloc (.cells #[] 31)).ownsRow wq.heap.size 31 6 _ 0 []).lt b hb |>.1)
      have HO5 : Hid (w5.ownsRow wq.heap.size 31 6 v5 (q + 1) (seg (Ks.lv N F) 0 (q + 1))) := Lib.hid hown5
      have KX5 := Lib.hid (Ge.blk_keep HB5.out KX4.out)
      have hz5 := HB5.out.size
      obtain ⟨x0, x1, x2, x3, x4, x5⟩ := Ge.blk6 KX5.out
      clear hown5 hgrow
      go_wp2_with (at_builtin; refine wpList_append_own _ rfl (.tmp 44) (.tmp 46) 27 rfl wq.heap.size 31 i0 _ 6 56 Try.underlying27 HI.out.1 HI.out.2.1 HI.out.2.2.1 HI.out.2.2.2 rfl (by decide) v5 (q + 1) _ rfl (HO5.out.alloc _) ⟨w5.heap.size, 0, none⟩ 1 1 [.string s, .int .i64 f0, .int .i64 f1, .int .i64 f2, .int .i64 f3, .int .i64 f4] rfl rfl ?c1 ?c2 ?c3 ?c4 ?c5 ?_)
      case c1 => exact Ks.cells_new6 _ _ _ _ _ _ _ _
      case c2 => simp [Value.oneCell']
      case c3 => unfold maxLen; omega
      case c4 => omega
      case c5 => first | omega | (simp <;> omega)
      intro v6 w6 hown6 hgrow _
      have HB6 := Lib.hid ((HB5.out.alloc hz5 _).grown hgrow (by simp <;> omega) fun b hb => (HO5.out.lt b hb).1)
      have HO6 := Lib.hid hown6
      have HV6 := Lib.hid (HV.out _ (below_then (below_then B3.out HQ.out) HB6.out))
      have hz6 := HB6.out.size
      clear hown6 hgrow x0 x1 x2 x3 x4 x5
      by_cases hpn : (q + 1) < n
      · go_wp2_with (at_builtin; refine wpList_append_own _ rfl (.tmp 48) (.tmp 51) 27 rfl wq.heap.size 31 i0 _ 6 56 Try.underlying27 HI.out.1 HI.out.2.1 HI.out.2.2.1 HI.out.2.2.2 rfl (by decide) v6 _ _ rfl HO6.out ⟨g, (q + 1) * 6, none⟩ (n - (q + 1)) (n - (q + 1)) (seg (Ks.lv N F) ((q + 1)) (n - (q + 1))) rfl ?c0 ?c1 ?c2 ?c3 ?c4 ?c5 ?_)
        case c0 => exact seg_len _ _ _
        case c1 => exact seg_cells (a := (q + 1)) HV6.out (by omega)
        case c2 => exact seg_one (n := n) (fun i _ => lv_one N F i) (by omega)
        case c3 => unfold maxLen; omega
        case c4 => omega
        case c5 => first | omega | (simp <;> omega)
        intro v7 w7 hown7 hgrow _
        have HB7 := Lib.hid (HB6.out.grown hgrow hz6 fun b hb => (HO6.out.lt b hb).1)
        have HC := Lib.hid (Q5.out v7 w7 (own_base (by rw [show n + 1 = ((q + 1)) + 1 + (n - ((q + 1))) by omega]; simpa using hown7) (show w.heap.size ≤ wq.heap.size from (below_then B3.out HQ.out).size)) (below_then (below_then B3.out HQ.out) HB7.out))
        clear hown7 hgrow
        go_wp2_with fail
        exact HC.out
      · obtain rfl : n = (q + 1) := by omega
        go_wp2_with (at_builtin; refine wpList_append_own _ rfl (.tmp 48) (.tmp 51) 27 rfl wq.heap.size 31 i0 _ 6 56 Try.underlying27 HI.out.1 HI.out.2.1 HI.out.2.2.1 HI.out.2.2.2 rfl (by decide) v6 _ _ rfl HO6.out ⟨g, 0, none⟩ (0) (0) (seg (Ks.lv N F) ((q + 1)) (0)) rfl ?c0 ?c1 ?c2 ?c3 ?c4 ?c5 ?_)
        case c0 => exact seg_len _ _ _
        case c1 => exact fun j u hu => by rw [seg_get, if_neg (by omega)] at hu; cases hu
        case c2 => exact seg_one (n := (q + 1)) (fun i _ => lv_one N F i) (by omega)
        case c3 => unfold maxLen; omega
        case c4 => omega
        case c5 => first | omega | (simp <;> omega)
        intro v7 w7 hown7 hgrow _
        have HB7 := Lib.hid (HB6.out.grown hgrow hz6 fun b hb => (HO6.out.lt b hb).1)
        have HC := Lib.hid (Q5.out v7 w7 (own_base (by rw [show (q + 1) + 1 = ((q + 1)) + 1 + ((q + 1) - ((q + 1))) by omega]; simpa using hown7) (show w.heap.size ≤ wq.heap.size from (below_then B3.out HQ.out).size)) (below_then (below_then B3.out HQ.out) HB7.out))
        clear hown7 hgrow
        go_wp2_with fail
        exact HC.out
end Go.Proofs.Ytbdphbjpcecfaaa.Ad

/- Both functions GradeLengths. -/
import Derived.Test.YtaoknbhpjnileabLrLib
namespace Go.Proofs.Ytaoknbhpjnileab.Lq
open Go.RowKit Ft Is Ge Qb Fg Gm Le Lc

theorem row_far {w w' : World} {base : Nat} {e : TypeId} {size n : Nat} {v : Value} {xs : List Value} (h : w.ownsRow base e size v n xs) (hk : ∀ k, base ≤ k → w'.heap[k]? = w.heap[k]?) : w'.ownsRow base e size v n xs :=
  ⟨h.1, by
    rcases h.2 with h0 | ⟨g, cap, cur, hv, hbg, hh, r⟩
    · exact .inl h0
    · exact .inr ⟨g, cap, cur, hv, hbg, (hk g hbg).trans hh, r⟩⟩
set_option maxRecDepth 100000 in
set_option maxHeartbeats 1000000 in
theorem impl_shares (A : Option Addr) (n c : Nat) (f : Nat → Int) (sum : Int) (ho : GsOk n f sum) (w : World) (hA : Nums w w.heap.size A n f) :
    Calls Try.prog 93 #[.slice A n c, .int .i64 sum] w (ColAt n (gs f n sum) w) := by
  obtain ⟨i0, hi0, hz0, hz1, hz2⟩ := info_parts info_int
  have hn20 := ho.1.1.2
  have HMK : Hid (∀ w : World, (Instr.makeSlice 26 (.int .i64 0) (.int .i64 (n : Int))).run Try.prog w = .ok (.slice (some ⟨w.heap.size, 0, none⟩) 0 n) (w.alloc (.cells (Go.madeCells (Value.int .i64 0).cells n) 2))) := Lib.hid fun w => by
    have := run_make w _ _ i0 _ Try.underlying26 hi0 hz0 .i64 .i64 0 n (by omega) (by omega) (by rw [hz2]; omega) (by omega)
    rw [hz1] at this
    simpa using this
  have HI := Lib.hid (And.intro hi0 (And.intro hz0 (And.intro hz1 hz2)))
  have HA := Lib.hid hA
  have CS := Lib.hid (sum_impl A n c f ho.1 w hA)
  have CH := Lib.hid (sharer_any (sm f n) sum w)
  have HR : Hid (∀ k, k < n → ∀ w', Sh w' w.heap.size (sm f n) sum (sm f k) (G f n sum k) → Calls Try.prog 131 #[.int .i64 (f k), .pointer (some ⟨w.heap.size + 2, 0, none⟩), .pointer (some ⟨w.heap.size + 1, 0, none⟩), .pointer (some ⟨w.heap.size, 0, none⟩), .pointer (some ⟨w.heap.size + 3, 0, none⟩)] w' fun e w'' => e = .returned (.int .i64 (G f n sum (k + 1) - G f n sum k)) ∧ Sh w'' w.heap.size (sm f n) sum (sm f (k + 1)) (G f n sum (k + 1)) ∧ w''.heap.size = w'.heap.size ∧ (∀ k, k ≠ w.heap.size + 2 → k ≠ w.heap.size + 3 → w''.heap[k]? = w'.heap[k]?) ∧ w''.os = w'.os ∧ w''.tape = w'.tape ∧ w''.output = w'.output) := Lib.hid fun k hk w' h => by
    obtain ⟨p1, p2⟩ := prod_sum ho (show k + 1 ≤ n by omega)
    obtain ⟨g1, g2⟩ := G_bd ho (show k ≤ n by omega)
    obtain ⟨g3, g4⟩ := G_bd ho (show k + 1 ≤ n by omega)
    obtain ⟨s1, s2⟩ := sm_bd ho.1 k (by omega)
    obtain ⟨f1, f2⟩ := len_at ho.1 hk
    exact share_any w.heap.size (sm f n) sum (sm f k) (G f n sum k) (f k) (G f n sum (k + 1)) (gs_pos ho) ⟨by omega, by omega⟩ ⟨by omega, by omega⟩ ⟨p1, p2⟩ ⟨g1, g2⟩ rfl ⟨g3, g4⟩ w' h
  have HF : Hid (∀ v w' , w'.ownsRow w.heap.size 2 1 v n (upto (gs f n sum) n) → Below w.heap.size w w' → ColAt n (gs f n sum) w (.returned v) w') := Lib.hid fun v w' h hb => col_of_row h hb
  have HU : Hid (∀ k, upto (gs f n sum) (k + 1) = upto (gs f n sum) k ++ [.int .i64 (G f n sum (k + 1) - G f n sum k)]) := Lib.hid fun k => upto_snoc _ k
  have HU0 : Hid (upto (gs f n sum) 0 = []) := Lib.hid rfl
  have HG0 : Hid (G f n sum 0 = 0) := Lib.hid rfl
  have HSM0 : Hid (sm f 0 = 0) := Lib.hid rfl
  clear hi0 hz0 hz1 hz2 hA ho
  generalize upto (gs f n sum) = UP at HF HU HU0
  generalize ColAt n (gs f n sum) w = Q at HF ⊢
  generalize hGG : G f n sum = GG at *
  clear hGG
  generalize hSS : sm f = SS at *
  clear hSS
  generalize SS n = T at CS CH HR
  go_enter Try.func93, Try.ntmps93
  go_wp2_with fail
  refine CS.out.mono ?_
  rintro e w' ⟨rfl, rfl⟩
  go_wp2_with fail
  refine CH.out.mono ?_
  rintro e w1 ⟨rfl, hsh, b1, hs1⟩
  unfold shV
  have B1 := Lib.hid b1
  have SH := Lib.hid hsh
  have hmk := HMK.out w1
  clear b1 hsh
  go_wp2_with fail
  clear hmk
  have SH1 := Lib.hid (SH.out.keep (below_box w1 (.cells (Go.madeCells (Value.int .i64 0).cells n) 2)) (by omega))
  go_loopw [6, 8, 18] (fun o _ i wr => ∃ (k : Nat) (v : Value), k ≤ n ∧ v = o ∧ i = .int .i64 k ∧ w.heap.size + 4 ≤ wr.heap.size ∧ Hid (Below w.heap.size w wr) ∧ Hid (Sh wr w.heap.size T sum (SS k) (GG k)) ∧ Hid (wr.ownsRow (w.heap.size + 4) 2 1 v k (UP k))) (fun _ _ i _ => n - (intOf i).toNat)
  case atStart => exact ⟨0, _, Nat.zero_le _, rfl, rfl, by simp; omega, Lib.hid (below_then B1.out (below_box _ _)), Lib.hid (by rw [HSM0.out, HG0.out]; exact SH1.out), Lib.hid (by
    rw [HU0.out, ← hs1]; exact World.ownsRow_made w1 _ n (Nat.le_refl _) (by unfold maxLen; omega) (by first | (rw [size_madeCells]; omega) | (rw [size_madeCells]; simp [Value.cells])))⟩
  case round =>
    obtain ⟨k, v, hk, rfl, rfl, hz, HB, HS, hown⟩ := hrel
    by_cases hlt : k < n
    · obtain ⟨b, off, rfl, hb, hc⟩ := (HA.out.below HB.out (Nat.le_refl _)) (by omega)
      have x0 := hc k hlt
      have CR := Lib.hid (HR.out k hlt wr HS.out)
      have HU := Lib.hid (HU.out k)
      have e0 : (0 : Int) ≤ (k : Int) := Int.natCast_nonneg _
      have e1 : (k : Int) < (n : Int) := by omega
      clear hc hk
      generalize f k = u at x0 CR
      generalize hy : GG (k + 1) - GG k = y at CR HU
      clear hy
      go_wp2_with fail
      refine CR.out.mono ?_
      rintro e wq ⟨rfl, hsq, hzq, hfar, ho1, ho2, ho3⟩
      have SQ := Lib.hid hsq
      have HBq : Hid (Below w.heap.size w wq) := Lib.hid ⟨ho1.trans HB.out.os, ho2.trans HB.out.tape, ho3.trans HB.out.output, by rw [hzq]; omega, fun j hj => (hfar j (by omega) (by omega)).trans (HB.out.block j hj)⟩
      have OQ := Lib.hid (row_far hown.out (fun j hj => hfar j (by omega) (by omega)))
      have hz4 : w.heap.size + 4 ≤ wq.heap.size := by omega
      clear hsq hfar ho1 ho2 ho3 x0 CR hzq
      go_wp2_with (at_builtin; refine wpList_append_own _ rfl _ _ 26 rfl (w.heap.size + 4) 2 i0 _ 1 8 Try.underlying26 HI.out.1 HI.out.2.1 HI.out.2.2.1 HI.out.2.2.2 rfl (by decide) _ _ _ rfl (OQ.out.alloc _) ⟨wq.heap.size, 0, none⟩ 1 1 [.int .i64 y] rfl rfl ?c1 ?c2 ?c3 ?c4 ?c5 ?_)
      case c1 => exact cell_one_new _ _ _
      case c2 => simp [Value.oneCell']
      case c3 => unfold maxLen; omega
      case c4 => omega
      case c5 => first | omega | (simp <;> omega)
      intro v' w2 hown2 hgrow _
      have hb2 := ((Below.refl (w.heap.size + 4) wq).alloc hz4 (.cells #[.int .i64 y] 2)).grown hgrow (by simp; omega) fun g hg => (OQ.out.lt g hg).1
      have HQ := Lib.hid (HBq.out.trans (hb2.mono (by omega)))
      have SQ2 := Lib.hid (SQ.out.keep hb2 (by omega))
      have HO2 : Hid (w2.ownsRow (w.heap.size + 4) 2 1 v' (k + 1) (UP (k + 1))) := Lib.hid (by rw [HU.out]; exact hown2)
      have hz2 := hb2.size
      clear hown2 hgrow hb2
      go_wp2_with fail
      go_roundw
      case rel => exact ⟨k + 1, _, by omega, rfl, by go_num, by omega, HQ, SQ2, HO2⟩
      case measure => simp [intOf]; omega
    · obtain rfl : k = n := by omega
      have HC := Lib.hid (HF.out _ _ (own_base hown.out (by omega)) HB.out)
      go_wp2_with fail
      exact HC.out
/-- Whether lengths and a sum are right. -/
noncomputable def gq (n : Nat) (f : Nat → Int) (sum : Int) : Bool := tv (LenOk n f) && inB sum 1 1000000
theorem gq_iff {n : Nat} {f : Nat → Int} {sum : Int} (h : gq n f sum = true) : GsOk n f sum := by
  simp only [gq, Bool.and_eq_true] at h
  exact ⟨tv_iff.1 h.1, h.2⟩
theorem is_any (sum : Int) (w : World) : Calls Try.prog 92 #[.int .i64 sum] w fun e w' => e = .returned (.bool (inB sum 1 1000000)) ∧ w = w' := by
  go_enter Try.func92, Try.ntmps92
  go_wp2_with (go_at_call 72; refine (La.within_any _ _ _ _).mono ?_; rintro e w' ⟨rfl, rfl⟩)
  go_ret
  exact ⟨rfl, rfl⟩
theorem one_len {n : Nat} {f : Nat → Int} : tv (∀ j, j < 1 → LenOk n f) = tv (LenOk n f) := by
  by_cases h : LenOk n f
  · rw [tv_yes h, tv_yes fun _ _ => h]
  · rw [tv_no h, tv_no fun o => h (o 0 (by omega))]
theorem spec_gl (A : Option Addr) (n c : Nat) (f : Nat → Int) (sum : Int) (hn : n ≤ 1048576) (w : World) (hA : Nums w w.heap.size A n f) :
    Calls Try.prog 45 #[.slice A n c, .int .i64 sum] w (PairAt (if gq n f sum = true then n else 0) (if gq n f sum = true then gs f n sum else fun _ => 0) (if gq n f sum = true then 0 else 2) w) := by
  have C1 := Lib.hid (spec_len A n c f hn w hA)
  have C2 := Lib.hid (fun w => in_any sum 1 1000000 w)
  have C3 : Hid (gq n f sum = true → Calls Try.prog 90 #[.slice A n c, .int .i64 sum] w (ColAt n (gs f n sum) w)) := Lib.hid fun h => spec_grow A n c f sum (gq_iff h) w hA
  generalize hgq : gq n f sum = q at C3 ⊢
  unfold gq at hgq
  generalize tv (LenOk n f) = r1 at C1 hgq
  generalize inB sum 1 1000000 = r2 at C2 hgq
  subst hgq
  clear hA
  have R : r1 = false ∨ (r1 = true ∧ r2 = false) ∨ (r1 = true ∧ r2 = true) := by cases r1 <;> cases r2 <;> simp
  rcases R with rfl | ⟨rfl, rfl⟩ | ⟨rfl, rfl⟩
  all_goals
    go_enter Try.func45, Try.ntmps45
    go_wp2_with fail
    refine C1.out.mono ?_
    rintro e w' ⟨rfl, rfl⟩
  · go_wp2_with fail
    exact bodyPost_ret (v := .tuple #[.slice none 0 0, .int .i64 2]) (by simp [results, Try.results45, go_sem]) rfl ⟨none, 0, rfl, Lib.hid fun h => absurd h (by simp), Below.refl _ _⟩
  · go_wp2_with fail
    refine (C2.out _).mono ?_
    rintro e w' ⟨rfl, rfl⟩
    go_wp2_with fail
    exact bodyPost_ret (v := .tuple #[.slice none 0 0, .int .i64 2]) (by simp [results, Try.results45, go_sem]) rfl ⟨none, 0, rfl, Lib.hid fun h => absurd h (by simp), Below.refl _ _⟩
  · go_wp2_with fail
    refine (C2.out _).mono ?_
    rintro e w' ⟨rfl, rfl⟩
    go_wp2_with fail
    refine (C3.out (by first | rfl | trivial)).mono ?_
    rintro e w1 ⟨A', cap, rfl, ho, hb⟩
    have HB := Lib.hid hb
    clear hb
    go_wp2_with fail
    exact bodyPost_ret (v := .tuple #[.slice A' n cap, .int .i64 0]) (by simp [results, Try.results45, go_sem]) rfl ⟨A', cap, rfl, ho, HB.out⟩
theorem impl_gl (A : Option Addr) (n c : Nat) (f : Nat → Int) (sum : Int) (hn : n ≤ 1048576) (w : World) (hA : Nums w w.heap.size A n f) :
    Calls Try.prog 46 #[.slice A n c, .int .i64 sum] w (PairAt (if gq n f sum = true then n else 0) (if gq n f sum = true then gs f n sum else fun _ => 0) (if gq n f sum = true then 0 else 2) w) := by
  have HA := Lib.hid hA
  have C1 := Lib.hid (are_any w.heap.size 1 1 (fun _ => A) (fun _ => n) (fun _ => c) (fun _ => f) (by omega) (w.alloc (.cells #[.slice A n c] 26)) (fun _ _ => hn) (fun j hj => by
    obtain rfl : j = 0 := by omega
    exact cell_of_row _ _ _ _ _ _ (heap_alloc_new w _)) (fun _ _ => (hA.below (below_box w _) (Nat.le_refl _)).more (by simp)))
  rw [one_len] at C1
  have C2 := Lib.hid (fun w => is_any sum w)
  have B0 := Lib.hid (below_box w (.cells #[.slice A n c] 26))
  have C3 : Hid (gq n f sum = true → ∀ w, Nums w w.heap.size A n f → Calls Try.prog 93 #[.slice A n c, .int .i64 sum] w (ColAt n (gs f n sum) w)) := Lib.hid fun h w hA => impl_shares A n c f sum (gq_iff h) w hA
  generalize hgq : gq n f sum = q at C3 ⊢
  unfold gq at hgq
  generalize tv (LenOk n f) = r1 at C1 hgq
  generalize inB sum 1 1000000 = r2 at C2 hgq
  subst hgq
  clear hA
  have R : r1 = false ∨ (r1 = true ∧ r2 = false) ∨ (r1 = true ∧ r2 = true) := by cases r1 <;> cases r2 <;> simp
  rcases R with rfl | ⟨rfl, rfl⟩ | ⟨rfl, rfl⟩
  all_goals
    go_enter Try.func46, Try.ntmps46
    go_wp2_with fail
    refine C1.out.mono ?_
    rintro e w' ⟨rfl, rfl⟩
  · go_wp2_with fail
    exact bodyPost_ret (v := .tuple #[.slice none 0 0, .int .i64 2]) (by simp [results, Try.results46, go_sem]) rfl ⟨none, 0, rfl, Lib.hid fun h => absurd h (by simp), B0.out⟩
  · go_wp2_with fail
    refine (C2.out _).mono ?_
    rintro e w' ⟨rfl, rfl⟩
    go_wp2_with fail
    exact bodyPost_ret (v := .tuple #[.slice none 0 0, .int .i64 2]) (by simp [results, Try.results46, go_sem]) rfl ⟨none, 0, rfl, Lib.hid fun h => absurd h (by simp), B0.out⟩
  · go_wp2_with fail
    refine (C2.out _).mono ?_
    rintro e w' ⟨rfl, rfl⟩
    go_wp2_with fail
    refine (C3.out (by first | rfl | trivial) _ ((HA.out.below B0.out (Nat.le_refl _)).more B0.out.size)).mono ?_
    rintro e w1 ⟨A', cap, rfl, ho, hb⟩
    have HB := Lib.hid (below_then B0.out hb)
    have HO := Lib.hid (own_later ho.out B0.out.size)
    clear hb ho
    go_wp2_with fail
    exact bodyPost_ret (v := .tuple #[.slice A' n cap, .int .i64 0]) (by simp [results, Try.results46, go_sem]) rfl ⟨A', cap, rfl, HO, HB.out⟩
end Go.Proofs.Ytaoknbhpjnileab.Lq

/- The best build, as a list: the program's. -/
import Derived.Test.YtpmmfalpcooenabBiLib
namespace Go.Proofs.Ytpmmfalpcooenab.Bh
open Go.RowKit Go.Maps Ft Is Ge Qb Ly Kn Mm Bg
open Bw (But)

/-- What the maker of the beginning function leaves. -/
def Mk (A Ap : Option Addr) (n c cp : Nat) (x p : Nat → Int) (sl : Int) (w : World) (e : Ending) (w' : World) : Prop :=
  ∃ gs gm gl gb gp b : Nat, e = .returned (.func (.func 120) #[] #[.pointer (some ⟨gs, 0, none⟩), .pointer (some ⟨gm, 0, none⟩), .pointer (some ⟨gl, 0, none⟩), .pointer (some ⟨gb, 0, none⟩), .pointer (some ⟨gp, 0, none⟩)]) ∧ BInv w w'.heap.size gs gm gl gb gp b A Ap n c cp x p sl w'
set_option maxRecDepth 100000 in
set_option maxHeartbeats 1000000 in
theorem make_any (A Ap : Option Addr) (n c cp : Nat) (x p : Nat → Int) (sl : Int) (w : World) (hA : Nums w w.heap.size A n x) (hP : Nums w w.heap.size Ap n p) :
    Calls Try.prog 84 #[.slice A n c, .slice Ap n cp, .int .i64 sl] w (Mk A Ap n c cp x p sl w) := by
  have hmm := @run_makeMap Try.prog
  have HA := Lib.hid hA
  have HPP := Lib.hid hP
  clear hA hP
  have HP : Hid (∀ gs gm gl gb gp b w', BInv w w'.heap.size gs gm gl gb gp b A Ap n c cp x p sl w' → Mk A Ap n c cp x p sl w (.returned (.func (.func 120) #[] #[.pointer (some ⟨gs, 0, none⟩), .pointer (some ⟨gm, 0, none⟩), .pointer (some ⟨gl, 0, none⟩), .pointer (some ⟨gb, 0, none⟩), .pointer (some ⟨gp, 0, none⟩)])) w') := Lib.hid fun _ _ _ _ _ _ _ h => ⟨_, _, _, _, _, _, rfl, h⟩
  generalize Mk A Ap n c cp x p sl w = Q at HP ⊢
  obtain ⟨kl, kp, ks⟩ := Ge.three w (.cells #[.slice A n c] 22) (.cells #[.slice Ap n cp] 22) (.cells #[.int .i64 sl] 2)
  have b3 := Ge.below3 w (.cells #[.slice A n c] 22) (.cells #[.slice Ap n cp] 22) (.cells #[.int .i64 sl] 2)
  go_enter Try.func84, Try.ntmps84
  go_upto_region 1 with fail
  generalize hw3 : ((w.alloc _).alloc _).alloc _ = w3 at kl kp ks b3 ⊢
  clear hw3
  have hs3 := b3.size
  have l1 := lt_of_heap kl
  have l2 := lt_of_heap kp
  have l3 := lt_of_heap ks
  have hM0 := MapIs.made w3 Try.prog 2
  obtain ⟨m1, m2⟩ := Ge.two (w3.alloc (.map #[] 0)) (.cells #[.map (some w3.heap.size)] 146) (.cells #[Value.nilFunc] 105)
  have e1 : (w3.alloc (.map #[] 0)).heap.size = w3.heap.size + 1 := by simp
  have hM := (hM0.of_block (w' := ((w3.alloc (.map #[] 0)).alloc (.cells #[.map (some w3.heap.size)] 146)).alloc (.cells #[Value.nilFunc] 105)) (by
    rw [Below.heap_alloc _ _ _ (by simp; omega), Below.heap_alloc _ _ _ (by simp)]))
  rw [e1] at m1 m2
  have hl := Ge.blk_old (.cells #[Value.nilFunc] 105) (Ge.blk_old (.cells #[.map (some w3.heap.size)] 146) (Ge.blk_old (.map #[] 0) kl))
  have hp := Ge.blk_old (.cells #[Value.nilFunc] 105) (Ge.blk_old (.cells #[.map (some w3.heap.size)] 146) (Ge.blk_old (.map #[] 0) kp))
  have hs := Ge.blk_old (.cells #[Value.nilFunc] 105) (Ge.blk_old (.cells #[.map (some w3.heap.size)] 146) (Ge.blk_old (.map #[] 0) ks))
  have hB : Below w.heap.size w (((w3.alloc (.map #[] 0)).alloc (.cells #[.map (some w3.heap.size)] 146)).alloc (.cells #[Value.nilFunc] 105)) := by
    repeat (first | exact b3 | refine Below.alloc ?_ (by first | omega | (simp <;> omega)) _)
  have KL := Lib.hid hl
  have KP := Lib.hid hp
  have KS := Lib.hid hs
  have KM := Lib.hid m1
  have KC := Lib.hid m2
  have HM := Lib.hid hM
  have HB := Lib.hid hB
  clear m1 m2 hl hp hs hM hM0 hB e1 kl kp ks b3
  go_upto_region 3 with fail
  generalize hw4 : ((w3.alloc _).alloc _).alloc _ = w4 at KM KC KL KP KS HM HB ⊢
  clear hw4
  have lc := lt_of_heap KC.out
  have c0 := Ba.blk1 KC.out
  have f0 := Ba.blk_free KC.out 0
  have HBs := HB.out.setCell (p := ⟨w3.heap.size + 1 + 1, 0, none⟩) (by simp; omega) (.func (.func 120) #[] #[.pointer (some ⟨w.heap.size + 2, 0, none⟩), .pointer (some ⟨w3.heap.size + 1, 0, none⟩), .pointer (some ⟨w.heap.size, 0, none⟩), .pointer (some ⟨w3.heap.size + 1 + 1, 0, none⟩), .pointer (some ⟨w.heap.size + 1, 0, none⟩)])
  have HI : Hid (∀ W, W = (w4.setCell ⟨w3.heap.size + 1 + 1, 0, none⟩ (.func (.func 120) #[] #[.pointer (some ⟨w.heap.size + 2, 0, none⟩), .pointer (some ⟨w3.heap.size + 1, 0, none⟩), .pointer (some ⟨w.heap.size, 0, none⟩), .pointer (some ⟨w3.heap.size + 1 + 1, 0, none⟩), .pointer (some ⟨w.heap.size + 1, 0, none⟩)])) → BInv w W.heap.size (w.heap.size + 2) (w3.heap.size + 1) (w.heap.size) (w3.heap.size + 1 + 1) (w.heap.size + 1) w3.heap.size A Ap n c cp x p sl W) := Lib.hid fun W hW => by
    subst hW
    have hz : (w4.setCell ⟨w3.heap.size + 1 + 1, 0, none⟩ (.func (.func 120) #[] #[.pointer (some ⟨w.heap.size + 2, 0, none⟩), .pointer (some ⟨w3.heap.size + 1, 0, none⟩), .pointer (some ⟨w.heap.size, 0, none⟩), .pointer (some ⟨w3.heap.size + 1 + 1, 0, none⟩), .pointer (some ⟨w.heap.size + 1, 0, none⟩)])).heap.size = w4.heap.size := by simp
    rw [hz]
    exact
    { below := HBs
      bL := HB.out.size
      LW := by rw [hz]; exact Nat.le_refl _
      hs := by rw [Below.heap_setCell _ _ _ _ (by simp; omega)]; exact KS.out
      hm := by rw [Below.heap_setCell _ _ _ _ (by simp)]; exact KM.out
      hl := by rw [Below.heap_setCell _ _ _ _ (by simp; omega)]; exact KL.out
      hb := by rw [Ge.heap_set KC.out]; rfl
      hp := by rw [Below.heap_setCell _ _ _ _ (by simp; omega)]; exact KP.out
      lts := by omega
      ltm := by omega
      ltl := by omega
      ltb := by omega
      ltp := by omega
      ltq := by omega
      bB := hs3
      nums := HA.out.below HBs (Nat.le_refl _)
      prc := HPP.out.below HBs (Nat.le_refl _)
      map := ⟨_, HM.out.of_block (Below.heap_setCell _ _ _ _ (by simp; omega)), fun l v h => by cases h⟩ }
  have HF := Lib.hid (HP.out _ _ _ _ _ _ _ (HI.out _ rfl))
  go_upto_region 4 with fail
  generalize hw5 : w4.setCell _ _ = w5 at HI HF ⊢
  have z0 := Ba.blk1 (HI.out w5 rfl).hb
  clear KM KC KL KP KS HM HB HBs c0 hw5 HI
  go_wp2_with fail
  exact HF.out

/-- What the maker without prices leaves. -/
def Fw (A : Option Addr) (n c : Nat) (x : Nat → Int) (sl : Int) (w : World) (e : Ending) (w' : World) : Prop :=
  ∃ (w1 : World) (Ap : Option Addr) (gs gm gl gb gp b : Nat), e = .returned (.func (.func 120) #[] #[.pointer (some ⟨gs, 0, none⟩), .pointer (some ⟨gm, 0, none⟩), .pointer (some ⟨gl, 0, none⟩), .pointer (some ⟨gb, 0, none⟩), .pointer (some ⟨gp, 0, none⟩)]) ∧ Below w.heap.size w w1 ∧ BInv w1 w'.heap.size gs gm gl gb gp b A Ap n c n x (fun _ => 0) sl w'
set_option maxRecDepth 100000 in
theorem fewest_any (A : Option Addr) (n c : Nat) (x : Nat → Int) (sl : Int) (hn : n ≤ 8) (w : World) (hA : Nums w w.heap.size A n x) :
    Calls Try.prog 80 #[.slice A n c, .int .i64 sl] w (Fw A n c x sl w) := by
  obtain ⟨i0, hi0, hz0, hz1, hz2⟩ := info_parts info_int
  have hmk : (Instr.makeSlice 22 (.int .i64 (n : Int)) (.int .i64 (n : Int))).run Try.prog w = _ := run_make w _ _ i0 _ Try.underlying22 hi0 hz0 .i64 .i64 n n (by omega) (by omega) (by rw [hz2]; omega) (by omega)
  rw [hz1] at hmk
  simp only [Int.toNat_natCast, Nat.mul_one] at hmk
  have HN : Hid (Nums (w.alloc (.cells (Go.madeCells #[Value.int .i64 0] n) 2)) (w.alloc (.cells (Go.madeCells #[Value.int .i64 0] n) 2)).heap.size (some ⟨w.heap.size, 0, none⟩) n (fun _ => 0)) := Lib.hid fun _ => ⟨w.heap.size, 0, rfl, by simp, fun i hi => (cell_of_row _ _ _ _ _ _ (heap_alloc_new w _)).trans (by simp [Go.madeCells, hi, Nat.mod_one])⟩
  have HB := Lib.hid (below_box w (.cells (Go.madeCells #[Value.int .i64 0] n) 2))
  have CM := Lib.hid (fun w' Ap h1 h2 => make_any A Ap n c n x (fun _ => 0) sl w' h1 h2)
  have HA := Lib.hid hA
  have HP : Hid (∀ w1 Ap gs gm gl gb gp b w', Below w.heap.size w w1 → BInv w1 w'.heap.size gs gm gl gb gp b A Ap n c n x (fun _ => 0) sl w' → Fw A n c x sl w (.returned (.func (.func 120) #[] #[.pointer (some ⟨gs, 0, none⟩), .pointer (some ⟨gm, 0, none⟩), .pointer (some ⟨gl, 0, none⟩), .pointer (some ⟨gb, 0, none⟩), .pointer (some ⟨gp, 0, none⟩)])) w') := Lib.hid fun _ _ _ _ _ _ _ _ _ h1 h2 => ⟨_, _, _, _, _, _, _, _, rfl, h1, h2⟩
  generalize Fw A n c x sl w = Q at HP ⊢
  clear hA hi0 hz0 hz1 hz2
  go_enter Try.func80, Try.ntmps80
  go_wp2_with fail
  clear hmk
  generalize w.alloc _ = w1 at HB HN ⊢
  refine (CM.out _ _ ((HA.out.below HB.out (Nat.le_refl _)).more HB.out.size) HN.out).mono ?_
  rintro e w2 ⟨gs, gm, gl, gb, gp, b, rfl, hI⟩
  have HF := Lib.hid (HP.out _ _ _ _ _ _ _ _ _ HB.out hI)
  clear hI
  go_wp2_with fail
  exact HF.out

/-- The layers of a build. -/
def bl (x : Nat → Int) (l : List Nat) (j : Nat) : Int := x (l.getD j 0)
/-- What is left of low, layer by layer. -/
theorem chain {x p : Nat → Int} {n : Nat} (P : Par x p n) {sl : Int} : ∀ (l : List Nat) (low : Int), B x (wt p) n sl low = some l → -200 ≤ low →
    ∃ D : Nat → Int, D 0 = low ∧ (∀ j, j < l.length → 0 < D j ∧ D j ≤ low ∧ 1 ≤ bl x l j ∧ bl x l j ≤ 200 ∧ D (j + 1) = D j - bl x l j ∧ ∃ o1 o2, bgA x p (B x (wt p) n sl (D j)) = #[.int .i64 o1, .int .i64 o2, .int .i64 (bl x l j), .bool true]) ∧ D l.length ≤ 0 ∧ -200 ≤ D l.length
  | [], low, h, h0 => by
    refine ⟨fun _ => low, rfl, fun j hj => absurd hj (Nat.not_lt_zero _), ?_, h0⟩
    by_cases q : 0 < low
    · exact absurd h (B_nil P.ok q)
    · show low ≤ 0
      omega
  | i :: r, low, h, h0 => by
    have hlow : 0 < low := by
      by_cases q : 0 < low
      · exact q
      · rw [B_low P.ok (by omega)] at h
        split at h <;> cases h
    obtain ⟨hi, ht⟩ := B_tail P.ok h
    have hx := P.lay i hi
    obtain ⟨D, d0, dj, d1, d2⟩ := chain P r (low - x i) ht (by omega)
    refine ⟨fun j => match j with | 0 => low | j + 1 => D j, rfl, fun j hj => ?_, d1, d2⟩
    cases j with
    | zero => exact ⟨hlow, Int.le_refl _, hx.1, hx.2, d0, _, _, by show bgA x p (B x (wt p) n sl low) = _; rw [h]; rfl⟩
    | succ j =>
      obtain ⟨a1, a2, a3, a4, a5, o1, o2, a6⟩ := dj j (by simpa using hj)
      exact ⟨a1, by show D j ≤ low; omega, a3, a4, a5, o1, o2, a6⟩
theorem row_but {w w' : World} {base b : Nat} {e : TypeId} {size n : Nat} {v : Value} {xs : List Value} (h : w.ownsRow base e size v n xs) (hg : But b w w') (hb : b < base) : w'.ownsRow base e size v n xs :=
  ⟨h.1, by
    rcases h.2 with h0 | ⟨g, cap, cur, hv, hbg, hh, r⟩
    · exact .inl h0
    · exact .inr ⟨g, cap, cur, hv, hbg, blk_but hg hh (by omega), r⟩⟩
theorem but_mid {b : Nat} {w W W' : World} (h : But b w W) (hb : Below w.heap.size W W') : But b w W' :=
  ⟨hb.os.trans h.os, hb.tape.trans h.tape, hb.output.trans h.output, Nat.le_trans h.size hb.size, fun k hk hn => (hb.block k hk).trans (h.block k hk hn)⟩
/-- No build. -/
theorem none_any (w0 : World) (L gs gm gl gb gp b : Nat) (A Ap : Option Addr) (n c cp : Nat) (x p : Nat → Int) (sl : Int) (P : Par x p n) (hsl : 0 ≤ sl ∧ sl ≤ 1000) (low : Int) (h0 : 0 ≤ low) (h1 : low + sl ≤ 1000) (hB : B x (wt p) n sl low = none) (w : World) (hI : BInv w0 L gs gm gl gb gp b A Ap n c cp x p sl w) :
    Calls Try.prog 79 #[.func (.func 120) #[] #[.pointer (some ⟨gs, 0, none⟩), .pointer (some ⟨gm, 0, none⟩), .pointer (some ⟨gl, 0, none⟩), .pointer (some ⟨gb, 0, none⟩), .pointer (some ⟨gp, 0, none⟩)], .int .i64 low] w fun e w' => e = .returned (.tuple #[.slice none 0 0, .bool false]) ∧ BInv w0 L gs gm gl gb gp b A Ap n c cp x p sl w' ∧ But b w w' := by
  have CB := begin_any w0 L gs gm gl gb gp b A Ap n c cp x p sl P hsl low.toNat low (Nat.le_refl _) (by omega) (by omega) h1 w hI
  rw [hB] at CB
  have CB : Hid (Calls Try.prog 120 _ w fun e w' => e = .returned (.agg #[.int .i64 0, .int .i64 0, .int .i64 0, .bool false]) ∧ BInv w0 L gs gm gl gb gp b A Ap n c cp x p sl w' ∧ But b w w') := Lib.hid CB
  clear hI
  go_enter Try.func79, Try.ntmps79
  go_wp2_with fail
  refine CB.out.mono ?_
  rintro e w2 ⟨rfl, hI2, hT2⟩
  have B3 := below_box w2 (.cells #[.int .i64 0, .int .i64 0, .int .i64 0, .bool false] 115)
  have HI3 := Lib.hid (hI2.touch (B3.mono hI2.LW))
  have HT3 := Lib.hid (but_below hT2 B3)
  have K3 := heap_alloc_new w2 (.cells #[.int .i64 0, .int .i64 0, .int .i64 0, .bool false] 115)
  clear hI2 hT2 B3
  go_upto_region 2 with fail
  generalize hw3 : w2.alloc _ = w3 at K3 HI3 HT3 ⊢
  clear hw3
  obtain ⟨r0, r1, r2, r3⟩ := blk4 K3
  go_wp2_with fail
  exact bodyPost_ret (v := .tuple #[.slice none 0 0, .bool false]) (by simp [results, Try.results79, go_sem]) rfl ⟨rfl, HI3.out, HT3.out⟩
end Go.Proofs.Ytpmmfalpcooenab.Bh

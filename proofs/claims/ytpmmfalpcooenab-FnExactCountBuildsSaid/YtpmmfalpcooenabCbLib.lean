/- How many builds have a sum: the program's. -/
import Derived.Test.YtpmmfalpcooenabTkLib
import Derived.Deep.DeepCutAuto
import Derived.Laws.EntriesVeiled
namespace Go.Proofs.Ytpmmfalpcooenab.Cb
open Go.RowKit Go.Maps Ft Is Ge Qb Ly Kc Mm Tk
open Un (codeL code_ok sum_any)

/-- The answer. -/
noncomputable def cbV (n : Nat) (d : Nat → Int) (s : Int) : Int := if codeL n d s = 0 then (if 1000000000000 < cn d n s then 0 else cn d n s) else 0
noncomputable def cbC (n : Nat) (d : Nat → Int) (s : Int) : Int := if codeL n d s = 0 then (if 1000000000000 < cn d n s then 5 else 0) else codeL n d s

/-- What the maker of the counting function leaves. -/
def Made (A : Option Addr) (n c : Nat) (d : Nat → Int) (w : World) (e : Ending) (w' : World) : Prop :=
  ∃ gm gc gl b : Nat, e = .returned (.func (.func 119) #[] #[.pointer (some ⟨gm, 0, none⟩), .pointer (some ⟨gc, 0, none⟩), .pointer (some ⟨gl, 0, none⟩)]) ∧ Inv w w.heap.size gm gc gl b A n c d w' ∧ ∀ q o, A = some ⟨q, o, none⟩ → q ≠ b
set_option maxRecDepth 100000 in
theorem make_any (A : Option Addr) (n c : Nat) (d : Nat → Int) (w : World) (hA : Nums w w.heap.size A n d) (hA0 : 0 < n) : Calls Try.prog 82 #[.slice A n c] w (Made A n c d w) := by
  have hmm := @run_makeMap Try.prog
  have HA := Lib.hid hA
  clear hA
  have HP : Hid (∀ gm gc gl b w', Inv w w.heap.size gm gc gl b A n c d w' → (∀ q o, A = some ⟨q, o, none⟩ → q ≠ b) → Made A n c d w (.returned (.func (.func 119) #[] #[.pointer (some ⟨gm, 0, none⟩), .pointer (some ⟨gc, 0, none⟩), .pointer (some ⟨gl, 0, none⟩)])) w') := Lib.hid fun gm gc gl b w' h1 h2 => ⟨gm, gc, gl, b, rfl, h1, h2⟩
  generalize Made A n c d w = Q at HP ⊢
  have k0 := heap_alloc_new w (.cells #[.slice A n c] 22)
  have hM0 := MapIs.made (w.alloc (.cells #[.slice A n c] 22)) Try.prog 145
  obtain ⟨m1, m2⟩ := Ge.two ((w.alloc (.cells #[.slice A n c] 22)).alloc (.map #[] 0)) (.cells #[.map (some (w.heap.size + 1))] 142) (.cells #[Value.nilFunc] 107)
  have hB : Below w.heap.size w ((((w.alloc (.cells #[.slice A n c] 22)).alloc (.map #[] 0)).alloc (.cells #[.map (some (w.heap.size + 1))] 142)).alloc (.cells #[Value.nilFunc] 107)) := by
    repeat (first | exact Below.refl _ _ | refine Below.alloc ?_ (by simp <;> omega) _)
  have hL := Ge.blk_old (.cells #[Value.nilFunc] 107) (Ge.blk_old (.cells #[.map (some (w.heap.size + 1))] 142) (Ge.blk_old (.map #[] 0) k0))
  have hM := ((hM0.of_block (w' := (((w.alloc (.cells #[.slice A n c] 22)).alloc (.map #[] 0)).alloc (.cells #[.map (some (w.heap.size + 1))] 142)).alloc (.cells #[Value.nilFunc] 107)) (by
    rw [Below.heap_alloc _ _ _ (by simp), Below.heap_alloc _ _ _ (by simp)])))
  have e1 : (w.alloc (.cells #[.slice A n c] 22)).heap.size = w.heap.size + 1 := by simp
  have e2 : ((w.alloc (.cells #[.slice A n c] 22)).alloc (.map #[] 0)).heap.size = w.heap.size + 1 + 1 := by simp
  rw [e1] at hM
  rw [e2] at m1 m2
  have KM := Lib.hid m1
  have KC := Lib.hid m2
  have KL := Lib.hid hL
  have HM := Lib.hid hM
  have HB := Lib.hid hB
  clear m1 m2 hL hM hM0 k0 hB e1 e2
  go_enter Try.func82, Try.ntmps82
  go_upto_region 3 with fail
  generalize hw4 : (((w.alloc _).alloc _).alloc _).alloc _ = w4 at KM KC KL HM HB ⊢
  have hs := HB.out.size
  have lc := lt_of_heap KC.out
  have c0 := Ba.blk1 KC.out
  have f0 := Ba.blk_free KC.out 0
  have HBs := HB.out.setCell (p := ⟨w.heap.size + 1 + 1 + 1, 0, none⟩) (by simp; omega) (.func (.func 119) #[] #[.pointer (some ⟨w.heap.size + 1 + 1, 0, none⟩), .pointer (some ⟨w.heap.size + 1 + 1 + 1, 0, none⟩), .pointer (some ⟨w.heap.size, 0, none⟩)])
  have HI : Hid (Inv w w.heap.size (w.heap.size + 1 + 1) (w.heap.size + 1 + 1 + 1) w.heap.size (w.heap.size + 1) A n c d (w4.setCell ⟨w.heap.size + 1 + 1 + 1, 0, none⟩ (.func (.func 119) #[] #[.pointer (some ⟨w.heap.size + 1 + 1, 0, none⟩), .pointer (some ⟨w.heap.size + 1 + 1 + 1, 0, none⟩), .pointer (some ⟨w.heap.size, 0, none⟩)]))) := Lib.hid
    { below := HBs
      hm := by rw [Below.heap_setCell _ _ _ _ (by simp)]; exact KM.out
      hc := by rw [Ge.heap_set KC.out]; rfl
      hl := by rw [Below.heap_setCell _ _ _ _ (by simp; omega)]; exact KL.out
      nums := (HA.out.below HBs (Nat.le_refl _)).more HBs.size
      map := ⟨_, HM.out.of_block (Below.heap_setCell _ _ _ _ (by simp)), fun l v h => by cases h⟩
      bB := by omega
      bW := Nat.le_refl _ }
  have HF := Lib.hid (HP.out _ _ _ _ _ HI.out (fun q o e => by
    obtain ⟨q', off, e', hq, _⟩ := HA.out hA0
    rw [e] at e'
    cases e'
    omega))
  go_upto_region 4 with fail
  generalize hw5 : w4.setCell _ _ = w5 at HI HF ⊢
  have z0 := Ba.blk1 HI.out.hc
  clear KM KC KL HM HB c0 f0 hw5
  go_wp2_with fail
  exact HF.out
set_option maxRecDepth 100000 in
theorem impl_cb (A : Option Addr) (n c : Nat) (d : Nat → Int) (s : Int) (hn : n ≤ 1048576) (w : World) (hA : Nums w w.heap.size A n d) :
    Calls Try.prog 34 #[.slice A n c, .int .i64 s] w fun e w' => e = .returned (.tuple #[.int .i64 (cbV n d s), .int .i64 (cbC n d s)]) ∧ Below w.heap.size w w' := by
  have C1 := Lib.hid (impl_valid A n c d hn w hA)
  have C2 := Lib.hid (fun w => sum_any s w)
  have C3 := Lib.hid (fun w => Ba.arg_any (tv (LyP n d)) (inB s 0 1000) w)
  have HC : Hid (codeL n d s = Ba.argE (tv (LyP n d)) (inB s 0 1000)) := Lib.hid rfl
  have HA := Lib.hid hA
  by_cases h0 : codeL n d s = 0
  · obtain ⟨hL, hs0, hs1⟩ := code_ok h0
    have hn8 := hL.1
    have CM := Lib.hid (fun w h => make_any A n c d w h (by omega))
    have CC := Lib.hid (fun w0 B gm gc gl b hb w hI => cnt_any w0 B gm gc gl b A n c d (by omega) (lay_of hL) hb (n + s.toNat) n s (Nat.le_refl _) (Nat.le_refl _) hs1 (by omega) w hI)
    obtain ⟨u1, u2⟩ := cn_small (x := d) (k := n) (s := s) (by omega) hs1 (fun i hi => (lay_of hL i hi).1)
    have HV : Hid (cbV n d s = if 1000000000000 < cn d n s then 0 else cn d n s) := Lib.hid (by unfold cbV; rw [if_pos h0])
    have HW : Hid (cbC n d s = if 1000000000000 < cn d n s then 5 else 0) := Lib.hid (by unfold cbC; rw [if_pos h0])
    have hv : Ba.argE (tv (LyP n d)) (inB s 0 1000) = 0 := HC.out.symm.trans h0
    rw [hv] at C3
    generalize cbV n d s = q1 at HV ⊢
    generalize cbC n d s = q2 at HW ⊢
    generalize cn d n s = t at CC u1 u2 HV HW
    generalize tv (LyP n d) = r1 at C1 C3
    generalize inB s 0 1000 = r2 at C2 C3
    clear hA hL hv HC h0
    go_enter Try.func34, Try.ntmps34
    go_wp2_with fail
    refine C1.out.mono ?_
    rintro e w1 ⟨rfl, b1⟩
    have HB1 := Lib.hid b1
    have HA1 := Lib.hid ((HA.out.below b1 (Nat.le_refl _)).more b1.size)
    clear C1 b1 HA
    go_wp2_with fail
    refine (C2.out _).mono ?_
    rintro e w2 ⟨rfl, rfl⟩
    go_wp2_with fail
    refine (C3.out _).mono ?_
    rintro e w3 ⟨rfl, rfl⟩
    go_wp2_with fail
    refine (CM.out _ HA1.out).mono ?_
    rintro e w4 ⟨gm, gc, gl, b, rfl, hI, hb⟩
    have HI := Lib.hid hI
    have HCC := Lib.hid (CC.out _ _ gm gc gl b hb _ hI)
    clear hI hb CC CM C2 C3
    go_wp2_with fail
    refine HCC.out.mono ?_
    rintro e w5 ⟨rfl, hI5⟩
    have HB5 := Lib.hid (below_then HB1.out hI5.below)
    clear hI5 HCC HI
    by_cases h : 1000000000000 < t
    · have HQ := Lib.hid (show q1 = 0 by rw [HV.out, if_pos h])
      have HR := Lib.hid (show q2 = 5 by rw [HW.out, if_pos h])
      go_wp2_with fail
      exact bodyPost_ret (v := .tuple #[.int .i64 0, .int .i64 5]) (by simp [results, Try.results34, go_sem]) rfl ⟨by rw [HQ.out, HR.out], HB5.out⟩
    · have HQ := Lib.hid (show q1 = t by rw [HV.out, if_neg h])
      have HR := Lib.hid (show q2 = 0 by rw [HW.out, if_neg h])
      go_wp2_with fail
      exact bodyPost_ret (v := .tuple #[.int .i64 t, .int .i64 0]) (by simp [results, Try.results34, go_sem]) rfl ⟨by rw [HQ.out, HR.out], HB5.out⟩
  · have HV : Hid (cbV n d s = 0) := Lib.hid (by unfold cbV; rw [if_neg h0])
    have HW : Hid (cbC n d s = codeL n d s) := Lib.hid (by unfold cbC; rw [if_neg h0])
    have hne : (codeL n d s != 0) = true := by simpa using h0
    rw [← HC.out] at C3
    generalize cbV n d s = q1 at HV ⊢
    generalize cbC n d s = q2 at HW ⊢
    generalize codeL n d s = r at C3 hne HW
    generalize tv (LyP n d) = r1 at C1 C3
    generalize inB s 0 1000 = r2 at C2 C3
    clear hA h0 HC
    go_enter Try.func34, Try.ntmps34
    go_wp2_with fail
    refine C1.out.mono ?_
    rintro e w1 ⟨rfl, b1⟩
    have HB1 := Lib.hid b1
    clear b1
    go_wp2_with fail
    refine (C2.out _).mono ?_
    rintro e w2 ⟨rfl, rfl⟩
    go_wp2_with fail
    refine (C3.out _).mono ?_
    rintro e w3 ⟨rfl, rfl⟩
    go_wp2_with fail
    exact bodyPost_ret (v := .tuple #[.int .i64 0, .int .i64 r]) (by simp [results, Try.results34, go_sem]) rfl ⟨by rw [HV.out, HW.out], HB1.out⟩
end Go.Proofs.Ytpmmfalpcooenab.Cb

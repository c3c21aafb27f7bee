/- Blocks on a roll: the program's first fault, sound nests; RowsFault, HeightOfRows, WasteOfRows, HeightBound. -/
import Derived.Test.YtgclhkiiaclkgabPeLib
namespace Go.Proofs.Ytgclhkiiaclkgab.Pf
set_option linter.unusedVariables false
open Go.RowKit Is Ge Qb Jr Js Jt Ju Jw Jx Pa P5 Pb Pc Pd Pe
open Go.Proofs.Ytgclhkiiaclkgab.Ba (inB below_then below_box)

theorem rs_all (p : Nat → Int) (m : Nat) (hm : m ≤ 9) (k : Nat) : rs p k m < 512 := rs_lt p k hm
set_option maxRecDepth 100000 in
set_option maxHeartbeats 2000000 in
theorem ifirst (A : Option Addr) (n c : Nat) (g : Nat → Int) (roll : Int) (F : Nat → Nat) (hB : BlP roll n g) (hF : ∀ k, F k < 512) (w : World) (hA : Nums w w.heap.size A (n * 2) g) :
    Calls Try.prog 61 #[fnV A n c roll F] w fun e w' => e = .returned (.int .i64 (fx (fun k => decide (roll < ws g (F k) n)))) ∧ Below w.heap.size w w' := by
  have HA := Lib.hid hA
  have BX := Lib.hid (Bx.of w (fnO A n c roll F))
  have CI : Hid (∀ W : World, Bx w W (fnO A n c roll F) → Calls Try.prog 85 #[.slice (some ⟨w.heap.size, 2, none⟩) 9 9, .func (.func 86) #[neV A n c roll] #[]] W fun e w' => e = .returned (.int .i64 (fx (fun k => decide (roll < ws g (F k) n)))) ∧ Below W.heap.size W w') := Lib.hid fun W hW => by
    obtain ⟨z0, z1, z2, z3, z4, z5, z6, z7, z8, z9, z10⟩ := blk11 hW.box
    refine idx_m 86 (neV A n c roll) w.heap.size 2 F _ W (Go.Proofs.enters_of Try.func86 (by kernel_rfl) rfl) (Ge.lt_of_heap hW.box) (fun k hk => ?_) fun W2 k hk hb => ifault A n c g roll (F k) hB (hF k) W2 ((hA.below (below_then hW.bel hb) (Nat.le_refl _)).more (below_then hW.bel hb).size)
    rcases nine hk with rfl | rfl | rfl | rfl | rfl | rfl | rfl | rfl | rfl <;> assumption
  have RB : Hid (∃ q : Int, fx (fun k => decide (roll < ws g (F k) n)) = q ∧ -1 ≤ q ∧ q ≤ 8) := Lib.hid ⟨_, rfl, by unfold fx; split <;> omega, by unfold fx; split <;> omega⟩
  obtain ⟨q, hq, q1, q2⟩ := RB.out
  rw [hq] at CI ⊢
  clear hq RB hA
  go_enter Try.func61, Try.ntmps61
  go_upto_region 1 with fail
  generalize hw9 : World.alloc _ _ = w0 at BX ⊢
  clear hw9
  have C1 := Lib.hid (fun p : Beyond w0 => CI.out p.to (BX.out.below p.h))
  obtain ⟨z0, z1, _⟩ := blk11 BX.out.box
  have z0' := bey_cell z0
  have z1' := bey_cell z1
  clear z0 z1 CI
  refine wp_region_below (by kernel_rfl) (by kernel_rfl) ?_
  repeat (go_big_quiet_step ((go_at_call 85; with_reducible exact bey_of _ (C1.out _))))
  refine wpQuiet_nil ?_
  rintro _ ⟨pq, rfl⟩
  have HQ := Lib.hid (below_then BX.out.bel pq.h)
  generalize pq.to = wq at HQ ⊢
  by_cases h : q < 0
  · have e : q = -1 := by omega
    subst e
    go_wp2_with fail
    go_ret
    exact ⟨rfl, HQ.out⟩
  · go_wp2_with fail
    go_ret
    exact ⟨rfl, HQ.out⟩
theorem fault_is {roll : Int} {n : Nat} {g : Nat → Int} {m : Nat} {p : Nat → Int} (h : m = n) : fx (fun k => decide (roll < ws g (rs p k m) n)) = fa roll (wd g p m) 9 := by
  subst h
  rw [← fx_fa]
  congr 1
  funext k
  rw [ws_rs g p k m (Nat.le_refl m)]
theorem length_is {n : Nat} {g : Nat → Int} {m : Nat} {p : Nat → Int} (h : m = n) : hi (fun k => hs g (rs p k m) n) 9 = hi (ht g p m) 9 := by
  subst h
  congr 1
  funext k
  exact hs_rs g p k m (Nat.le_refl m)
theorem fa_in (roll : Int) (f : Nat → Int) : fa roll f 9 = -1 ∨ 0 ≤ fa roll f 9 := by
  rw [← fx_fa]
  unfold fx
  split
  · right; omega
  · left; rfl
theorem rf_cases (roll : Int) (n : Nat) (g : Nat → Int) (m : Nat) (p : Nat → Int) : (roC roll n g m p ≠ 0 → rfC roll n g m p = roC roll n g m p) ∧ (roC roll n g m p = 0 → fa roll (wd g p m) 9 = -1 → rfC roll n g m p = 0) ∧ (roC roll n g m p = 0 → 0 ≤ fa roll (wd g p m) 9 → rfC roll n g m p = 6) := by
  refine ⟨fun h => ?_, fun h h1 => ?_, fun h h1 => ?_⟩
  · unfold rfC; rw [if_neg fun e => h e.1]
  · unfold rfC; rw [if_neg (by omega), h]
  · unfold rfC; rw [if_pos ⟨h, h1⟩]
set_option maxRecDepth 100000 in
set_option maxHeartbeats 2000000 in
theorem isound (A : Option Addr) (n c : Nat) (g : Nat → Int) (roll : Int) (P : Option Addr) (m pc : Nat) (p : Nat → Int) (hn : n ≤ 1048576) (hm : m ≤ 1048576) (w : World) (hA : Nums w w.heap.size A (n * 2) g) (hR : Nums w w.heap.size P m p) :
    Calls Try.prog 64 #[.slice A n c, .int .i64 roll, .slice P m pc] w fun e w' => e = .returned (.tuple #[if rfC roll n g m p = 0 then fnV A n c roll (fun k => rs p k m) else fnV none 0 0 0 (fun _ => 0), .int .i64 (rfC roll n g m p)]) ∧ Below w.heap.size w w' := by
  have HA := Lib.hid hA
  have HR := Lib.hid hR
  have BX := Lib.hid (Bx.of w (fnO none 0 0 0 (fun _ => 0)))
  have CN := Lib.hid (fun w h h2 => ifilled A n c g roll P m pc p hn hm w h h2)
  have CF : Hid (roC roll n g m p = 0 → ∀ w, Nums w w.heap.size A (n * 2) g → Calls Try.prog 61 #[fnV A n c roll (fun k => rs p k m)] w fun e w' => e = .returned (.int .i64 (fa roll (wd g p m) 9)) ∧ Below w.heap.size w w') := Lib.hid fun h w hw => by
    obtain ⟨h1, h2, h3⟩ := ro_ok h
    rw [← fault_is h3]
    exact ifirst A n c g roll _ h1 (fun k => rs_all p m (by have := h1.1.2; omega) k) w hw
  obtain ⟨v0, v1, v2⟩ := rf_cases roll n g m p
  have V0 := Lib.hid v0
  have V1 := Lib.hid v1
  have V2 := Lib.hid v2
  have FI := fa_in roll (wd g p m)
  clear hA hR v0 v1 v2
  generalize rfC roll n g m p = C2 at V0 V1 V2 ⊢
  generalize roC roll n g m p = C at CN CF V0 V1 V2
  generalize fa roll (wd g p m) 9 = q at CF FI V1 V2
  obtain ⟨F, hF⟩ : ∃ F : Nat → Nat, (fun k => rs p k m) = F := ⟨_, rfl⟩
  rw [hF] at CN CF ⊢
  clear hF
  by_cases h0 : C = 0
  rotate_left
  · obtain rfl := V0.out h0
    have hne : (C2 != 0) = true := by simpa using h0
    clear V0 V1 V2 CF
    rw [if_neg h0]
    rw [if_neg h0] at CN
    go_enter Try.func64, Try.ntmps64
    go_upto_region 1 with fail
    generalize hw9 : World.alloc _ _ = w0 at BX ⊢
    clear hw9
    go_wp2_with fail
    refine (CN.out _ ((HA.out.below BX.out.bel (Nat.le_refl _)).more BX.out.bel.size) ((HR.out.below BX.out.bel (Nat.le_refl _)).more BX.out.bel.size)).mono ?_
    rintro e w1 ⟨rfl, b1⟩
    have BX1 := Lib.hid ((BX.out.below b1).below (below_box w1 (fnO none 0 0 0 (fun _ => 0))))
    clear b1 BX CN HA HR
    go_upto_region 2 with fail
    generalize hw9 : World.alloc _ _ = w2 at BX1 ⊢
    clear hw9
    have hfr := blk_free BX1.out.box
    obtain ⟨z0, z1, z2, z3, z4, z5, z6, z7, z8, z9, z10⟩ := blk11 BX1.out.box
    have HQ := Lib.hid BX1.out.bel
    clear BX1
    go_wp2_with fail
    refine bodyPost_ret (v := .tuple #[fnV none 0 0 0 (fun _ => 0), .int .i64 C2]) (by simp [results, Try.results64, go_sem, z0, z1, z2, z3, z4, z5, z6, z7, z8, z9, z10]) rfl ⟨rfl, ?_⟩
    with_reducible exact below11 HQ.out (Nat.le_refl _) _ _ _ _ _ _ _ _ _ _ _
  subst h0
  have CF1 := Lib.hid (CF.out rfl)
  rw [if_pos rfl] at CN
  rcases FI with h1 | h1
  · obtain rfl := V1.out rfl h1
    subst h1
    clear V0 V1 V2 CF
    rw [if_pos rfl]
    go_enter Try.func64, Try.ntmps64
    go_upto_region 1 with fail
    generalize hw9 : World.alloc _ _ = w0 at BX ⊢
    clear hw9
    go_wp2_with fail
    refine (CN.out _ ((HA.out.below BX.out.bel (Nat.le_refl _)).more BX.out.bel.size) ((HR.out.below BX.out.bel (Nat.le_refl _)).more BX.out.bel.size)).mono ?_
    rintro e w1 ⟨rfl, b1⟩
    have BX1 := Lib.hid ((BX.out.below b1).below (below_box w1 (fnO A n c roll F)))
    have KN := Lib.hid (heap_alloc_new w1 (fnO A n c roll F))
    clear b1 BX CN HR
    go_upto_region 2 with fail
    generalize hw9 : World.alloc _ _ = w2 at BX1 KN ⊢
    clear hw9
    generalize w1.heap.size = gn at *
    obtain ⟨y0, y1, y2, y3, y4, y5, y6, y7, y8, y9, y10⟩ := blk11 KN.out
    go_wp2_with fail
    refine (CF1.out _ ((HA.out.below BX1.out.bel (Nat.le_refl _)).more BX1.out.bel.size)).mono ?_
    rintro e w3 ⟨rfl, b3⟩
    have BX3 := Lib.hid (BX1.out.below b3)
    have KN3 := Lib.hid (Ge.blk_keep b3 KN.out)
    clear b3 BX1 KN HA CF1 y0 y1 y2 y3 y4 y5 y6 y7 y8 y9 y10
    have hfr := blk_free BX3.out.box
    obtain ⟨z0, z1, z2, z3, z4, z5, z6, z7, z8, z9, z10⟩ := blk11 BX3.out.box
    obtain ⟨y0, y1, y2, y3, y4, y5, y6, y7, y8, y9, y10⟩ := blk11 KN3.out
    have HQ := Lib.hid BX3.out.bel
    clear BX3
    go_wp2_with fail
    refine bodyPost_ret (v := .tuple #[fnV A n c roll F, .int .i64 0]) (by simp [results, Try.results64, go_sem, z0, z1, z2, z3, z4, z5, z6, z7, z8, z9, z10]) rfl ⟨rfl, ?_⟩
    with_reducible exact below11 HQ.out (Nat.le_refl _) _ _ _ _ _ _ _ _ _ _ _
  · obtain rfl := V2.out rfl h1
    have hne : (q != -1) = true := by simp; omega
    have hne2 : ¬ q = -1 := by omega
    clear V0 V1 V2 CF
    rw [if_neg (show ¬ (6 : Int) = 0 by omega)]
    go_enter Try.func64, Try.ntmps64
    go_upto_region 1 with fail
    generalize hw9 : World.alloc _ _ = w0 at BX ⊢
    clear hw9
    go_wp2_with fail
    refine (CN.out _ ((HA.out.below BX.out.bel (Nat.le_refl _)).more BX.out.bel.size) ((HR.out.below BX.out.bel (Nat.le_refl _)).more BX.out.bel.size)).mono ?_
    rintro e w1 ⟨rfl, b1⟩
    have BX1 := Lib.hid ((BX.out.below b1).below (below_box w1 (fnO A n c roll F)))
    have KN := Lib.hid (heap_alloc_new w1 (fnO A n c roll F))
    clear b1 BX CN HR
    go_upto_region 2 with fail
    generalize hw9 : World.alloc _ _ = w2 at BX1 KN ⊢
    clear hw9
    generalize w1.heap.size = gn at *
    obtain ⟨y0, y1, y2, y3, y4, y5, y6, y7, y8, y9, y10⟩ := blk11 KN.out
    go_wp2_with fail
    refine (CF1.out _ ((HA.out.below BX1.out.bel (Nat.le_refl _)).more BX1.out.bel.size)).mono ?_
    rintro e w3 ⟨rfl, b3⟩
    have BX3 := Lib.hid (BX1.out.below b3)
    clear b3 BX1 KN HA CF1 y0 y1 y2 y3 y4 y5 y6 y7 y8 y9 y10
    have hfr := blk_free BX3.out.box
    obtain ⟨z0, z1, z2, z3, z4, z5, z6, z7, z8, z9, z10⟩ := blk11 BX3.out.box
    have HQ := Lib.hid BX3.out.bel
    clear BX3
    go_wp2_with fail
    refine bodyPost_ret (v := .tuple #[fnV none 0 0 0 (fun _ => 0), .int .i64 6]) (by simp [results, Try.results64, go_sem, z0, z1, z2, z3, z4, z5, z6, z7, z8, z9, z10]) rfl ⟨rfl, ?_⟩
    with_reducible exact below11 HQ.out (Nat.le_refl _) _ _ _ _ _ _ _ _ _ _ _
set_option maxRecDepth 100000 in
set_option maxHeartbeats 2000000 in
theorem impl_rf (A : Option Addr) (n c : Nat) (g : Nat → Int) (roll : Int) (P : Option Addr) (m pc : Nat) (p : Nat → Int) (hn : n ≤ 1048576) (hm : m ≤ 1048576) (w : World) (hA : Nums w w.heap.size A (n * 2) g) (hR : Nums w w.heap.size P m p) :
    Calls Try.prog 24 #[.slice A n c, .int .i64 roll, .slice P m pc] w (IAt (rfV roll n g m p) (roC roll n g m p) w) := by
  have HA := Lib.hid hA
  have HR := Lib.hid hR
  have CN := Lib.hid (ifilled A n c g roll P m pc p hn hm w hA hR)
  have CF : Hid (roC roll n g m p = 0 → ∀ w, Nums w w.heap.size A (n * 2) g → Calls Try.prog 61 #[fnV A n c roll (fun k => rs p k m)] w fun e w' => e = .returned (.int .i64 (fa roll (wd g p m) 9)) ∧ Below w.heap.size w w') := Lib.hid fun h w hw => by
    obtain ⟨h1, h2, h3⟩ := ro_ok h
    rw [← fault_is h3]
    exact ifirst A n c g roll _ h1 (fun k => rs_all p m (by have := h1.1.2; omega) k) w hw
  have V0 : Hid (¬ roC roll n g m p = 0 → rfV roll n g m p = 0) := Lib.hid fun h => if_neg h
  have V1 : Hid (roC roll n g m p = 0 → rfV roll n g m p = fa roll (wd g p m) 9) := Lib.hid fun h => if_pos h
  generalize fa roll (wd g p m) 9 = q at CF V1
  clear hA hR
  unfold IAt
  generalize rfV roll n g m p = rv at V0 V1 ⊢
  generalize roC roll n g m p = C at CN CF V0 V1 ⊢
  obtain ⟨F, hF⟩ : ∃ F : Nat → Nat, (fun k => rs p k m) = F := ⟨_, rfl⟩
  rw [hF] at CN CF
  clear hF
  by_cases h0 : C = 0
  rotate_left
  · obtain rfl := V0.out h0
    have hne : (C != 0) = true := by simpa using h0
    clear V0 V1 CF
    rw [if_neg h0] at CN
    go_enter Try.func24, Try.ntmps24
    go_wp2_with fail
    refine CN.out.mono ?_
    rintro e w1 ⟨rfl, b1⟩
    have HQ := Lib.hid (below_then b1 (below_box w1 (fnO none 0 0 0 (fun _ => 0))))
    clear b1 CN HA HR
    go_wp2_with fail
    exact bodyPost_ret (v := .tuple #[.int .i64 0, .int .i64 C]) (by simp [results, Try.results24, go_sem]) rfl ⟨rfl, HQ.out⟩
  subst h0
  obtain rfl := V1.out rfl
  have CF1 := Lib.hid (CF.out rfl)
  rw [if_pos rfl] at CN
  clear V0 V1 CF
  go_enter Try.func24, Try.ntmps24
  go_wp2_with fail
  refine CN.out.mono ?_
  rintro e w1 ⟨rfl, b1⟩
  have HB := Lib.hid (below_then b1 (below_box w1 (fnO A n c roll F)))
  have KN := Lib.hid (heap_alloc_new w1 (fnO A n c roll F))
  clear b1 CN HR
  go_upto_region 2 with fail
  generalize hw9 : World.alloc _ _ = w2 at HB KN ⊢
  clear hw9
  generalize w1.heap.size = gn at *
  obtain ⟨y0, y1, y2, y3, y4, y5, y6, y7, y8, y9, y10⟩ := blk11 KN.out
  go_wp2_with fail
  refine (CF1.out _ ((HA.out.below HB.out (Nat.le_refl _)).more HB.out.size)).mono ?_
  rintro e w3 ⟨rfl, b3⟩
  have HQ := Lib.hid (below_then HB.out b3)
  clear b3 HB KN CF1 HA y0 y1 y2 y3 y4 y5 y6 y7 y8 y9 y10
  go_wp2_with fail
  exact bodyPost_ret (v := .tuple #[.int .i64 _, .int .i64 0]) (by simp [results, Try.results24, go_sem]) rfl ⟨rfl, HQ.out⟩
set_option maxRecDepth 100000 in
set_option maxHeartbeats 2000000 in
theorem impl_hr (A : Option Addr) (n c : Nat) (g : Nat → Int) (roll : Int) (P : Option Addr) (m pc : Nat) (p : Nat → Int) (hn : n ≤ 1048576) (hm : m ≤ 1048576) (w : World) (hA : Nums w w.heap.size A (n * 2) g) (hR : Nums w w.heap.size P m p) :
    Calls Try.prog 27 #[.slice A n c, .int .i64 roll, .slice P m pc] w (IAt (hrV roll n g m p) (rfC roll n g m p) w) := by
  have HA := Lib.hid hA
  have HR := Lib.hid hR
  have CN := Lib.hid (isound A n c g roll P m pc p hn hm w hA hR)
  have CF : Hid (rfC roll n g m p = 0 → ∀ w, Nums w w.heap.size A (n * 2) g → Calls Try.prog 65 #[neV A n c roll, flV (fun k => rs p k m)] w fun e w' => e = .returned (.int .i64 (hi (ht g p m) 9)) ∧ Below w.heap.size w w') := Lib.hid fun h w hw => by
    obtain ⟨h1, h2, h3⟩ := ro_ok (rf_ro h)
    rw [← length_is h3]
    exact ilength A n c g roll _ h1 (fun k => rs_all p m (by have := h1.1.2; omega) k) w hw
  have V0 : Hid (¬ rfC roll n g m p = 0 → hrV roll n g m p = 0) := Lib.hid fun h => if_neg h
  have V1 : Hid (rfC roll n g m p = 0 → hrV roll n g m p = hi (ht g p m) 9) := Lib.hid fun h => if_pos h
  generalize hi (ht g p m) 9 = q at CF V1
  clear hA hR
  unfold IAt
  generalize hrV roll n g m p = rv at V0 V1 ⊢
  generalize rfC roll n g m p = C at CN CF V0 V1 ⊢
  obtain ⟨F, hF⟩ : ∃ F : Nat → Nat, (fun k => rs p k m) = F := ⟨_, rfl⟩
  rw [hF] at CN CF
  clear hF
  by_cases h0 : C = 0
  rotate_left
  · obtain rfl := V0.out h0
    have hne : (C != 0) = true := by simpa using h0
    clear V0 V1 CF
    rw [if_neg h0] at CN
    go_enter Try.func27, Try.ntmps27
    go_wp2_with fail
    refine CN.out.mono ?_
    rintro e w1 ⟨rfl, b1⟩
    have HQ := Lib.hid (below_then b1 (below_box w1 (fnO none 0 0 0 (fun _ => 0))))
    clear b1 CN HA HR
    go_wp2_with fail
    exact bodyPost_ret (v := .tuple #[.int .i64 0, .int .i64 C]) (by simp [results, Try.results27, go_sem]) rfl ⟨rfl, HQ.out⟩
  subst h0
  obtain rfl := V1.out rfl
  have CF1 := Lib.hid (CF.out rfl)
  rw [if_pos rfl] at CN
  clear V0 V1 CF
  go_enter Try.func27, Try.ntmps27
  go_wp2_with fail
  refine CN.out.mono ?_
  rintro e w1 ⟨rfl, b1⟩
  have HB := Lib.hid (below_then b1 (below_box w1 (fnO A n c roll F)))
  have KN := Lib.hid (heap_alloc_new w1 (fnO A n c roll F))
  clear b1 CN HR
  go_upto_region 2 with fail
  generalize hw9 : World.alloc _ _ = w2 at HB KN ⊢
  clear hw9
  generalize w1.heap.size = gn at *
  obtain ⟨y0, y1, y2, y3, y4, y5, y6, y7, y8, y9, y10⟩ := blk11 KN.out
  go_wp2_with fail
  refine (CF1.out _ ((HA.out.below HB.out (Nat.le_refl _)).more HB.out.size)).mono ?_
  rintro e w3 ⟨rfl, b3⟩
  have HQ := Lib.hid (below_then HB.out b3)
  clear b3 HB KN CF1 HA y0 y1 y2 y3 y4 y5 y6 y7 y8 y9 y10
  go_wp2_with fail
  exact bodyPost_ret (v := .tuple #[.int .i64 _, .int .i64 0]) (by simp [results, Try.results27, go_sem]) rfl ⟨rfl, HQ.out⟩
end Go.Proofs.Ytgclhkiiaclkgab.Pf

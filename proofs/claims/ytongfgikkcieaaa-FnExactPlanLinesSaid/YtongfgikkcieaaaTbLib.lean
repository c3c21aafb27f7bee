/- Hides: the program's MirrorHide; slices.Reverse of bytes. -/
import Derived.Test.YtongfgikkcieaaaT5Lib
import Derived.Test.YtongfgikkcieaaaH9Lib
import Derived.BigRegion
namespace Go.Proofs.Ytongfgikkcieaaa.Tb
set_option linter.unusedVariables false
open Go.RowKit Ft Is Ge Qb Hd Ts Tx H2 H7 H9 T5
open Go.Proofs.Ytongfgikkcieaaa.Nm (byt byt_of)

/-- Numbers, the other way round as far as they have been exchanged. -/
def rvq (n i : Nat) (h : Nat → Int) (k : Nat) : Int := if k < i ∨ n - 1 - k < i then h (n - 1 - k) else h k
theorem rvq_0 (n : Nat) (h : Nat → Int) (k : Nat) : rvq n 0 h k = h k := by unfold rvq; rw [if_neg (by omega)]
theorem rvq_end {n i : Nat} (h : Nat → Int) (hi : n - 1 ≤ i + i) {k : Nat} (hk : k < n) : rvq n i h k = h (n - 1 - k) := by
  unfold rvq
  split
  · rfl
  · have : n - 1 - k = k := by omega
    rw [this]
theorem rvq_step {n i m : Nat} {h : Nat → Int} (hm : i + m + 1 = n) (hi : i < m) {x : Nat} (hx : x < n) : rvq n (i + 1) h x = if x = m then rvq n i h i else if x = i then rvq n i h m else rvq n i h x := by
  unfold rvq
  by_cases e1 : x = m
  · subst e1
    rw [if_pos rfl, if_pos (by omega), if_neg (by omega)]
    congr 1
    omega
  · rw [if_neg e1]
    by_cases e2 : x = i
    · subst e2
      rw [if_pos rfl, if_pos (by omega), if_neg (by omega)]
      congr 1
      omega
    · rw [if_neg e2]
      by_cases e3 : x < i ∨ n - 1 - x < i
      · rw [if_pos e3, if_pos (by omega)]
      · rw [if_neg e3, if_neg (by omega)]
theorem line_drew {w : World} {g n : Nat} {h : Nat → Int} (H : LineAt w g n h) : LineAt w.drew g n h := ⟨H.1, H.2⟩
set_option maxRecDepth 100000 in
set_option maxHeartbeats 1000000 in
theorem irevb (B g n c : Nat) (h : Nat → Int) (h1 : 1 ≤ n) (h6 : n ≤ 64) (hB : B ≤ g) (w : World) (hs : B ≤ w.heap.size) (hA : LineAt w g n h) :
    Calls Try.prog 86 #[.slice (some ⟨g, 0, none⟩) n c] w fun e w' => e = .returned (.tuple #[]) ∧ Hid (LineAt w' g n (fun x => h (n - 1 - x))) ∧ Below B w w' := by
  have HO : Hid (LineAt w g n (rvq n 0 h)) := Lib.hid (hA.congr fun k _ => (rvq_0 n h k).symm)
  have e24 : (n : Int) ≤ 64 := by omega
  have e1 : (1 : Int) ≤ (n : Int) := by omega
  have HB0 := Lib.hid (Below.refl B w)
  clear hA
  go_enter Try.func86, Try.ntmps86
  go_wp2_with fail
  go_loopw [2, 3] (fun i j wr => ∃ k : Nat, k ≤ n ∧ k ≤ n - 1 - k + 1 ∧ i = .int .i64 (k : Int) ∧ j = .int .i64 ((n : Int) - 1 - (k : Int)) ∧ Hid (Below B w wr) ∧ Hid (LineAt wr g n (rvq n k h))) (fun i _ _ => n - (intOf i).toNat)
  case atStart => exact ⟨0, Nat.zero_le _, by omega, rfl, by simp, HB0, HO⟩
  case round =>
    obtain ⟨k, hk, hk2, rfl, rfl, HB, HA⟩ := hrel
    have f0 : (0 : Int) ≤ (k : Int) := Int.natCast_nonneg _
    by_cases hlt : k + k < n - 1
    · obtain ⟨m, hm⟩ : ∃ m : Nat, m = n - 1 - k := ⟨_, rfl⟩
      have em : (n : Int) - 1 - (k : Int) = (m : Int) := by omega
      rw [em]
      have g1 : (k : Int) < (m : Int) := by omega
      have g2 : (m : Int) < (n : Int) := by omega
      have g3 : (k : Int) < (n : Int) := by omega
      have g4 : (0 : Int) ≤ (m : Int) := by omega
      have hkn : k < n := by omega
      have hmn : m < n := by omega
      obtain ⟨a0, a1⟩ := HA.out.2 k hkn
      obtain ⟨b0, b1⟩ := HA.out.2 m hmn
      have ST : Hid (∀ x, x < n → (if x = m then rvq n k h k else if x = k then rvq n k h m else rvq n k h x) = rvq n (k + 1) h x) := Lib.hid fun x hx => (rvq_step (by omega) (by omega) hx).symm
      have hp1 := (HA.out.put hkn (rvq n k h m)).put hmn (rvq n k h k)
      have HN : Hid (LineAt ((wr.setCell ⟨g, k, none⟩ (.int .u8 (rvq n k h m))).setCell ⟨g, m, none⟩ (.int .u8 (rvq n k h k))).drew g n (rvq n (k + 1) h)) := Lib.hid (line_drew (hp1.congr ST.out))
      have HBN := Lib.hid (((HB.out.setCell (p := ⟨g, k, none⟩) hB (.int .u8 (rvq n k h m))).setCell (p := ⟨g, m, none⟩) hB (.int .u8 (rvq n k h k))).drew)
      generalize rvq n k h k = pa at a0 HN HBN
      generalize rvq n k h m = pb at b0 HN HBN
      have hne : ¬ k = m := by omega
      have hne2 : ¬ m = k := by omega
      have hk21 : k + 1 ≤ n := by omega
      have hk22 : k + 1 ≤ n - 1 - (k + 1) + 1 := by omega
      have hms : n - (k + 1) < n - k := by omega
      have HMS := Lib.hid hms
      have HEM : Hid ((m : Int) - 1 = (n : Int) - 1 - ((k + 1 : Nat) : Int)) := Lib.hid (by omega)
      have hl := HA.out.1
      clear hp1 ST hm em hk hk2 HA HB HO hms
      go_upto_region 3 with fail
      go_region
      all_goals
        clear a0 b0 a1 b1
        generalize hwz : World.drew _ = wz at HN HBN ⊢
        clear hwz
        go_wp2_with fail
        go_roundw
        case rel => exact ⟨k + 1, hk21, hk22, by go_num, by first | (rw [← HEM.out]) | (rw [← HEM.out]; go_num), HBN, HN⟩
        case measure => simp [intOf]; omega
    · have HE := Lib.hid (HA.out.congr (k := fun x => h (n - 1 - x)) fun q hq => rvq_end h (by omega) hq)
      have g1 : ¬ (k : Int) < (n : Int) - 1 - (k : Int) := by omega
      have w1 : IntKind.i64.wrap ((n : Int) - 1 - (k : Int)) = (n : Int) - 1 - (k : Int) := IntWalk.i64_in _ (by omega)
      clear HA hk2 hlt
      go_wp2_with fail
      go_end0
      exact ⟨rfl, HE, HB.out⟩
theorem line_bytes {w : World} {g : Nat} {s : ByteArray} (H : LineAt w g s.size (fun x => byt s (s.size - 1 - x))) : Dc.BytesAt w g (rvL s) := fun j hj => by
  have hj2 : j < s.size := by rw [rv_len] at hj; exact hj
  rw [(H.2 j hj2).1]
  congr 2
  have h1 := rv_at hj2
  rw [List.getElem?_eq_getElem hj] at h1
  rw [Option.some.inj h1]
  exact byt_of _ _ (by omega)
theorem mh_small (n : Nat) (f : Nat → ByteArray) : mhN n f ≤ 1048576 := by
  unfold mhN
  split
  · rename_i h
    have := (tv_iff.1 h).2
    omega
  · omega
set_option maxRecDepth 100000 in
set_option maxHeartbeats 2000000 in
theorem impl_mh (A : Option Addr) (n c : Nat) (f : Nat → ByteArray) (hn : n ≤ 1048576) (hs : ∀ i, i < n → (f i).size ≤ 1048576) (hcap : n ≤ c) (w : World) (hA : Txts w w.heap.size A n f) :
    Calls Try.prog 48 #[.slice A n c] w (PairT (mhN n f) (fun i => rvS (f i)) (mhC n f) w) := by
  have HA := Lib.hid hA
  have C0 := Lib.hid (impl_vh A n c f hn hs hcap w hA)
  have V0 : Hid (tv (HideP n f) = false → ∀ W, Below w.heap.size w W → PairT (mhN n f) (fun i => rvS (f i)) (mhC n f) w (.returned (.tuple #[.slice none 0 0, .int .i64 1])) W) := Lib.hid fun h W hb => by
    unfold mhN mhC; rw [h]; exact pairT_no hb _
  have V1 : Hid (tv (HideP n f) = true → ∀ w1 w' v, w'.ownsRow w1.heap.size 9 1 v n (uptoT (fun i => rvS (f i)) n) → Below w.heap.size w w1 → Below w1.heap.size w1 w' → PairT (mhN n f) (fun i => rvS (f i)) (mhC n f) w (.returned (.tuple #[v, .int .i64 0])) w') := Lib.hid fun h w1 w' v h1 h2 h3 => by
    unfold mhN mhC; rw [h]; exact pairT_of_row h1 h2 h3
  have HH : Hid (tv (HideP n f) = true → HideP n f) := Lib.hid fun h => tv_iff.1 h
  obtain ⟨j0, hj0, hy0, hy1, hy2⟩ := info_parts info_str
  have HJn := Lib.hid (And.intro hj0 (And.intro hy0 (And.intro hy1 hy2)))
  have HMK : Hid (∀ w : World, (Instr.makeSlice 22 (.int .i64 0) (.int .i64 (n : Int))).run Try.prog w = .ok (.slice (some ⟨w.heap.size, 0, none⟩) 0 n) (w.alloc (.cells (Go.madeCells (Value.string ⟨#[]⟩).cells (n * 1)) 9))) := Lib.hid fun w => by
    have := run_make w _ _ j0 _ Try.underlying22 hj0 hy0 .i64 .i64 0 n (by omega) (by omega) (by rw [hy2]; omega) (by omega)
    rw [hy1] at this
    simpa using this
  have HU : Hid (∀ k, uptoT (fun i => rvS (f i)) (k + 1) = uptoT (fun i => rvS (f i)) k ++ [.string ⟨(rvL (f k)).toArray⟩]) := Lib.hid fun k => uptoT_snoc _ _
  have HU0 : Hid (uptoT (fun i => rvS (f i)) 0 = []) := Lib.hid rfl
  have CVS := Lib.hid (fun (w : World) (s : ByteArray) => Go.run_bytes_of_string w 9 65 5 s Try.underlying9 Try.underlying65 Try.underlying5)
  clear hA hj0 hy0 hy1 hy2
  generalize PairT (mhN n f) (fun i => rvS (f i)) (mhC n f) w = Q at V0 V1 ⊢
  generalize uptoT (fun i => rvS (f i)) = UP at V1 HU HU0
  generalize tv (HideP n f) = r0 at C0 V0 V1 HH
  go_enter Try.func48, Try.ntmps48
  go_wp2_with fail
  refine C0.out.mono ?_
  rintro e w1 ⟨rfl, b1⟩
  have HB1 := Lib.hid b1
  clear b1 C0
  cases r0
  · have HF := Lib.hid (V0.out rfl _ HB1.out)
    clear V0 V1
    go_wp2_with fail
    exact HF.out
  have hh := HH.out (by first | rfl | trivial)
  have VV := Lib.hid (V1.out (by first | rfl | trivial))
  have hn6 := hh.2
  have HR := Lib.hid (fun k (hk : k < n) => (hh.1 k hk).2.1)
  have hmk := HMK.out w1
  clear V0 V1 HH hh
  go_wp2_with fail
  clear hmk HMK
  have O0 : Hid ((w1.alloc (.cells (Go.madeCells #[Value.string ⟨#[]⟩] n) 9)).ownsRow w1.heap.size 9 1 (.slice (some ⟨w1.heap.size, 0, none⟩) 0 n) 0 (UP 0)) := Lib.hid (by
    rw [HU0.out]
    exact ⟨rfl, .inr ⟨_, n, _, rfl, Nat.le_refl _, heap_alloc_new _ _, by omega, by unfold maxLen; omega, by rw [size_madeCells]; omega, rfl⟩⟩)
  have B0 := Lib.hid (below_box w1 (.cells (Go.madeCells #[Value.string ⟨#[]⟩] n) 9))
  go_loopw [4, 16] (fun o y wr => ∃ (k : Nat) (v : Value), k ≤ n ∧ v = o ∧ y = .int .i64 (k : Int) ∧ Hid (Below w1.heap.size w1 wr) ∧ Hid (wr.ownsRow w1.heap.size 9 1 v k (UP k))) (fun _ y _ => n - (intOf y).toNat)
  case atStart => exact ⟨0, _, Nat.zero_le _, rfl, rfl, B0, O0⟩
  case round =>
    obtain ⟨k, v, hk, rfl, rfl, HW, HO⟩ := hrel
    rename World => wo
    have e0 : (0 : Int) ≤ (k : Int) := Int.natCast_nonneg _
    by_cases hlt : k < n
    · have e1 : (k : Int) < (n : Int) := by omega
      obtain ⟨b, off, rfl, hbo, hc'⟩ := (HA.out.below (below_then HB1.out HW.out) (Nat.le_refl _)) (by omega)
      have x0 := hc' k hlt
      have hsz := HR.out k hlt
      have HUk := Lib.hid (HU.out k)
      have hk1 : k + 1 ≤ n := by omega
      have CV := CVS.out wo (f k)
      have hcap := grownCap_ge wo (f k).size 0 5
      have HL0 := Lib.hid (line_new wo (f k) _ hcap)
      have HBL : Hid (∀ o, Below wo.heap.size wo ((wo.alloc o).drew)) := Lib.hid fun o => ((Below.refl wo.heap.size wo).alloc (Nat.le_refl _) o).drew
      have HBS : Hid (∀ o, wo.heap.size ≤ ((wo.alloc o).drew).heap.size) := Lib.hid fun o => by show wo.heap.size ≤ (wo.alloc o).heap.size; simp
      generalize f k = s at x0 hsz HUk CV hcap HL0
      generalize grownCap wo s.size 0 5 = cap at CV hcap HL0
      clear hc' hbo hk
      go_upto_region 8 with fail
      clear CV x0
      generalize hwl : World.drew _ = wl at HL0 ⊢
      have HBW0 : Hid (Below wo.heap.size wo wl) := Lib.hid (by rw [← hwl]; exact HBL.out _)
      have hsw : wo.heap.size ≤ wl.heap.size := HBW0.out.size
      have RV := Lib.hid (irevb wo.heap.size wo.heap.size s.size cap (byt s) hsz.1 (by omega) (Nat.le_refl _) wl hsw HL0.out)
      clear hwl HL0 HBL HBS hcap hsw
      go_wp2_with fail
      refine RV.out.mono ?_
      rintro e w5 ⟨rfl, HL, b5⟩
      have HV := Lib.hid (HBW0.out.trans b5)
      have HRL := rv_len s
      have CV0 := Dc.conv_bytes w5 wo.heap.size cap (rvL s) (line_bytes HL.out)
      rw [HRL] at CV0
      have HBW := Lib.hid (below_then HW.out HV.out)
      have HOW := Lib.hid (row_below HO.out HV.out)
      have hzw := HBW.out.size
      generalize rvL s = L at CV0 HUk
      clear HRL HL b5 RV HBW0
      go_wp2_with (at_builtin; refine wpList_append_own _ rfl _ _ 22 rfl w1.heap.size 9 j0 _ 1 16 Try.underlying22 HJn.out.1 HJn.out.2.1 HJn.out.2.2.1 HJn.out.2.2.2 rfl (by decide) _ _ _ rfl (HOW.out.alloc _) ⟨w5.heap.size, 0, none⟩ 1 1 [.string ⟨L.toArray⟩] rfl rfl ?d1 ?d2 ?d3 ?d4 ?d5 ?_)
      try case d1 => exact Ow.cell_new _ _ _
      case d2 => simp [Value.oneCell']
      case d3 => unfold maxLen; omega
      case d4 => omega
      case d5 => first | omega | (simp <;> omega)
      intro v' w6 hown2 hgrow _
      have HQ := Lib.hid ((HBW.out.alloc hzw _).grown hgrow (by simp; omega) fun g hg => (HOW.out.lt g hg).1)
      have HO6 : Hid (w6.ownsRow w1.heap.size 9 1 v' (k + 1) (UP (k + 1))) := Lib.hid (by rw [HUk.out]; exact hown2)
      clear hown2 hgrow
      go_wp2_with fail
      go_roundw
      case rel => exact ⟨k + 1, _, hk1, rfl, by go_num, HQ, HO6⟩
      case measure => simp [intOf]; omega
    · obtain rfl : k = n := by omega
      have e1 : ¬ (k : Int) < (k : Int) := by omega
      have HF := Lib.hid (VV.out w1 wo v HO.out HB1.out HW.out)
      clear VV HU
      go_wp2_with fail
      exact HF.out
end Go.Proofs.Ytongfgikkcieaaa.Tb

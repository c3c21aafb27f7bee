/- The walk of the law of ReadOutline. -/
import Derived.Test.YtggbdpamjjgakabDoorRpLib
import Derived.Deep.RegionHeld3
import Derived.Deep.DeepCutAuto
namespace Go.Proofs.YtggbdpamjjgakabDoor.Rol
open Go.RowKit Go.Proofs.YtggbdpamjjgakabDoor.Ft Is Ge Qb
set_option linter.unusedVariables false
set_option maxRecDepth 100000 in
set_option maxHeartbeats 8000000 in
theorem core (s : ByteArray) (hs : s.size ≤ 1048576) (w : World) (hV : Ri.Vars w) (hM : Rw.MaxAt w) :
    Calls Tryd.prog 3 #[.string s] w fun e w' => e = .returned (.bool true) ∧ Below w.heap.size w w' := by
  have CS := Lib.hid fun w => Ro.spec_ro s hs w
  have CI := Lib.hid fun w' hb => Rp.impl_ro s hs w' (hV.below hb) (hM.below hb)
  have hz : (s.size : Int) ≤ 1048576 := by omega
  have hb_m : Ro.K s.data.toList ≤ 1048577 := by
    unfold Ro.K
    split
    · have := St.spl_len 32 s.data.toList
      have h3 : s.data.toList.length = s.size := by simp
      omega
    · omega
  have hb_m : Ro.K s.data.toList ≤ 1048576 := by
    unfold Ro.K
    split
    · rename_i h
      unfold Ro.B at h
      have := (Ge.tv_iff.1 (Bool.and_eq_true_iff.1 h).2).2.1.2
      omega
    · omega
  unfold Ro.Post at CS CI
  generalize Ro.K s.data.toList = m at CS CI hb_m
  generalize Ro.F s.data.toList = d at CS CI
  generalize Ro.B s.data.toList = cd at CS CI
  have ne_cd : (cd != cd) = false := by simp
  have EQ_m := Lib.hid (fun A1 A2 c1 c2 w h1 h2 => Ot.eq_spots A1 A2 m c1 c2 d hb_m w h1 h2)
  have MK_m := Lib.hid (fun A c B w (hB : B ≤ w.heap.size) h => Ot.mark_spots A m c 1 d hb_m (by omega) (by omega) B w h)
  have HE_m := Lib.hid (fun A c w h => Ot.held_same2 A m c 1 hb_m (by omega) (by omega) w h)
  have hM_m : 0 ≤ mk 1 (m * 2) := by unfold mk; omega
  generalize mk 1 (m * 2) = M_m at MK_m HE_m hM_m
  have hM0 : ¬ M_m < 0 := by omega
  have neM_m : (M_m != M_m) = false := by simp
  clear hV hM hs
  go_enter Tryd.func3, Tryd.ntmps3
  go_wp2_with fail
  refine (CS.out _).mono ?_
  rintro e w1 ⟨AW, cW, rfl, HW, b1⟩
  have B_1 := Lib.hid b1
  have W_1 := Lib.hid HW.out.nums
  have s_1 := b1.size
  clear HW b1 CS
  go_wp2_with fail
  refine (CI.out _ B_1.out).mono ?_
  rintro e w2 ⟨AG, cG, rfl, HG, b2⟩
  have B_2 := Lib.hid (Ba.below_then B_1.out b2)
  have W_2 := Lib.hid (W_1.out.below b2 (by omega))
  have s_2 := b2.size
  have hg1 : w1.heap.size ≤ w2.heap.size := b2.size
  clear b2 B_1 W_1
  go_wp2_with fail
  refine (EQ_m.out _ _ _ _ _ HG.out.nums (W_2.out.more (by omega))).mono ?_
  rintro e w3 ⟨rfl, b3⟩
  have B_3 := Lib.hid (Ba.below_then B_2.out b3)
  have W_3 := Lib.hid (W_2.out.below b3 (by omega))
  have G_3 := Lib.hid (HG.out.below b3)
  have s_3 := b3.size
  clear b3 B_2 W_2 HG
  go_wp2_with fail
  refine (MK_m.out _ _ w1.heap.size _ (by omega) G_3.out).mono ?_
  rintro e w4 ⟨rfl, h4, b4⟩
  have B_4 := Lib.hid (B_3.out.trans (b4.mono (by omega)))
  have W_4 := Lib.hid (W_3.out.below b4 (by omega))
  have G_4 := Lib.hid h4
  have s_4 := b4.size
  clear b4 B_3 W_3 G_3 h4
  go_wp2_with fail
  refine (HE_m.out _ _ _ G_4.out.nums).mono ?_
  rintro e w5 ⟨rfl, b5⟩
  have B_5 := Lib.hid (Ba.below_then B_4.out b5)
  have W_5 := Lib.hid (W_4.out.below b5 (by omega))
  have G_5 := Lib.hid (G_4.out.below b5)
  have s_5 := b5.size
  clear b5 B_4 W_4 G_4
  go_wp2_with fail
  refine (CI.out _ B_5.out).mono ?_
  rintro e w6 ⟨AO, cO, rfl, HO, b6⟩
  have B_6 := Lib.hid (Ba.below_then B_5.out b6)
  have W_6 := Lib.hid (W_5.out.below b6 (by omega))
  have G_6 := Lib.hid (G_5.out.below b6)
  have s_6 := b6.size
  clear b6 B_5 W_5 G_5
  go_wp2_with fail
  refine (EQ_m.out _ _ _ _ _ HO.out.nums (W_6.out.more (by omega))).mono ?_
  rintro e w7 ⟨rfl, b7⟩
  have B_7 := Lib.hid (Ba.below_then B_6.out b7)
  have G_7 := Lib.hid (G_6.out.below b7)
  have s_7 := b7.size
  clear b7 B_6 W_6 G_6 HO
  go_wp2_with fail
  refine (HE_m.out _ _ _ G_7.out.nums).mono ?_
  rintro e w8 ⟨rfl, b8⟩
  have B_8 := Lib.hid (Ba.below_then B_7.out b8)
  clear b8 B_7 G_7
  go_wp2_with fail
  go_ret
  exact ⟨rfl, B_8.out⟩
theorem law (s : ByteArray) (w : World) (hV : Ri.Vars w) (hM : Rw.MaxAt w) (hm : s.size ≤ maxLen) :
    Calls Tryd.prog 3 #[.string s] w fun e w' => e = .returned (.bool true) ∧ Below w.heap.size w w' := by
  by_cases hs : s.size ≤ 1048576
  · exact core s hs w hV hM
  · have h1 : (1048576 : Int) < (s.size : Int) := by omega
    go_enter Tryd.func3, Tryd.ntmps3
    go_wp2_with fail
    go_ret
    exact ⟨rfl, Below.refl _ _⟩
end Go.Proofs.YtggbdpamjjgakabDoor.Rol

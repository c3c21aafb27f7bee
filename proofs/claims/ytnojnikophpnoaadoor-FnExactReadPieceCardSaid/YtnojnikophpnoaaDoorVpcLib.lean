/- A piece that is valid: the program's. -/
import Derived.Test.YtnojnikophpnoaaDoorPvLib
import Derived.Test.YtnojnikophpnoaaDoorAwLib
namespace Go.Proofs.YtnojnikophpnoaaDoor.Vpc
set_option linter.unusedVariables false
open Go.RowKit Ft Is Ge Qb Pt Pv

/-- A piece that is valid: the program's. -/
theorem nm_impl (s : ByteArray) (hs : s.size ≤ maxLen) (w : World) : Calls Tryd.prog 31 #[.string s] w fun e w' => e = .returned (.bool (tv (Nm.IsNm s))) ∧ Below w.heap.size w w' :=
  (Nm.impl_is s w hs).mono fun _ _ t => tells_tv t
set_option maxHeartbeats 1000000 in
theorem valid_piece (s : ByteArray) (A : Option Addr) (m c : Nat) (d : Nat → Int) (hs : s.size ≤ maxLen) (hm : m ≤ 1048576) (w : World) (hA : Nums w w.heap.size A m d) :
    Calls Tryd.prog 18 #[pcV s A m c] w fun e w' => e = .returned (.bool (tv (PcP s m d))) ∧ Below w.heap.size w w' := by
  have HB := Lib.hid (below_box w (.cells #[.string s, .slice A m c] 27))
  have KB := Lib.hid (heap_alloc_new w (.cells #[.string s, .slice A m c] 27))
  have CN := Lib.hid (fun w => nm_impl s hs w)
  have CW := Lib.hid (fun w => Ba.within_any (m : Int) 3 8 w)
  have CA : Hid (∀ w', Below w.heap.size w w' → Calls Tryd.prog 33 #[.slice A m c, .int .i64 1, .int .i64 10000] w' fun e w2 => e = .returned (.bool (tv (Ly.Al 1 10000 m d))) ∧ w' = w2) := Lib.hid fun w' hb => Ly.are_any 1 10000 A m c d hm w' ((hA.below hb (Nat.le_refl _)).more hb.size)
  have HE : Hid (tv (PcP s m d) = (tv (Nm.IsNm s) && (Ba.inB (m : Int) 3 8 && tv (Ly.Al 1 10000 m d)))) := Lib.hid (by
    by_cases q1 : Nm.IsNm s
    · by_cases q2 : 3 ≤ m ∧ m ≤ 8
      · rw [tv_yes q1, Ba.in_yes (by omega) (by omega)]
        by_cases q3 : Ly.Al 1 10000 m d
        · rw [tv_yes q3, tv_yes ⟨q1, q2, q3⟩]; rfl
        · rw [tv_no q3, tv_no fun z => q3 z.2.2]; rfl
      · rw [tv_no (P := PcP s m d) fun z => q2 z.2.1, show Ba.inB (m : Int) 3 8 = false by unfold Ba.inB; simp; omega, tv_yes q1]; rfl
    · rw [tv_no q1, tv_no fun z => q1 z.1]; rfl)
  clear hA
  unfold pcV
  generalize tv (PcP s m d) = r at HE ⊢
  generalize tv (Nm.IsNm s) = r1 at CN HE
  generalize Ba.inB (m : Int) 3 8 = r2 at CW HE
  generalize tv (Ly.Al 1 10000 m d) = r3 at CA HE
  cases r1
  · go_enter Tryd.func18, Tryd.ntmps18
    go_wp2_with fail
    refine (CN.out _).mono ?_
    rintro e w1 ⟨rfl, b1⟩
    have B1 := Lib.hid (below_then HB.out b1)
    clear b1
    go_wp2_with fail
    go_ret
    exact ⟨Ft.ret_bool HE.out.symm, B1.out⟩
  · go_enter Tryd.func18, Tryd.ntmps18
    go_wp2_with fail
    refine (CN.out _).mono ?_
    rintro e w1 ⟨rfl, b1⟩
    have B1 := Lib.hid (below_then HB.out b1)
    obtain ⟨x0, x1⟩ := blk2 (blk_keep b1 KB.out)
    clear b1
    go_wp2_with fail
    refine (CW.out _).mono ?_
    rintro e w' ⟨rfl, rfl⟩
    cases r2
    · go_wp2_with fail
      go_ret
      exact ⟨Ft.ret_bool HE.out.symm, B1.out⟩
    · go_wp2_with fail
      refine (CA.out _ B1.out).mono ?_
      rintro e w' ⟨rfl, rfl⟩
      go_wp2_with fail
      go_ret
      exact ⟨Ft.ret_bool (by rw [HE.out]; simp), B1.out⟩
end Go.Proofs.YtnojnikophpnoaaDoor.Vpc

/- CornersOf: both functions; what toldOf hands on of a number. -/
import Derived.Test.YtnojnikophpnoaaUxLib
namespace Go.Proofs.Ytnojnikophpnoaa.Uy
set_option linter.unusedVariables false
open Go.RowKit Go.Maps Ft Is Ge Qb Pt Pv Za Mm Zb Zc Zd Vq Sdq Sdu Uf Ug Uh Uk Uc Uq Ux

/-- A number and a code. -/
def IntAt (x c : Int) (w : World) (e : Ending) (w' : World) : Prop := e = .returned (.tuple #[.int .i64 x, .int .i64 c]) ∧ Below w.heap.size w w'
noncomputable def vX (n : Nat) (N : Nat → ByteArray) (ms : Nat → Nat) (ds : Nat → Nat → Int) (k : Nat) (S : Nat → Int) (o : Int) (x : Int) : Int := if tv (PatP n N ms ds k S o) = true then x else 0
set_option maxHeartbeats 2000000 in
theorem told_int (F : FuncId) (eF : ∀ args w, (callFunc F args).run Try.prog w = .ok (.enter F args) w) (A : Option Addr) (n c : Nat) (N : Nat → ByteArray) (ms : Nat → Nat) (ds : Nat → Nat → Int) (Y : Option Addr) (k sc : Nat) (S : Nat → Int) (o : Int) (x : Int) (hz : Small n N ms k) (hw : ∀ i, i < k * 4 → (Lit.int .i64 (S i)).wf = true) (w : World) (h : PatR w A n N ms ds Y k S)
    (hF : PatP n N ms ds k S o → ∀ B W ea el ec bm P g, PatR W A n N ms ds Y k S → Surf B n ms ds (plc ms n) (plc ms n) (mate S k) (.slice ea el ec) bm P g W → Calls Try.prog F #[sfV A n c Y k sc o (.slice ea el ec) bm] W fun e w' => e = .returned (.int .i64 x) ∧ Below W.heap.size W w') :
    Calls Try.prog 78 #[paV A n c Y k sc o, .func (.func F) #[] #[]] w (IntAt (vX n N ms ds k S o x) (vC n N ms ds k S o) w) := by
  have HB := Lib.hid (below_box w (.cells #[.slice A n c, .slice Y k sc, .int .i64 o] 31))
  have C := Lib.hid ((surface_of A n c N ms ds Y k sc S o hz hw _ (h.below HB.out)).mono fun _ _ h => SfAt.cases h)
  have HR := Lib.hid h
  have HF := Lib.hid hF
  have HT : Hid (tv (PatP n N ms ds k S o) = true → PatP n N ms ds k S o) := Lib.hid fun h => tv_iff.1 h
  have QN : Hid (tv (PatP n N ms ds k S o) = false → ∀ W, Below w.heap.size w W → IntAt (vX n N ms ds k S o x) (vC n N ms ds k S o) w (.returned (.tuple #[.int .i64 0, .int .i64 1])) W) := Lib.hid fun e W h => by
    unfold vX vC; rw [e]; exact ⟨rfl, h⟩
  have QY : Hid (tv (PatP n N ms ds k S o) = true → ∀ W, Below w.heap.size w W → IntAt (vX n N ms ds k S o x) (vC n N ms ds k S o) w (.returned (.tuple #[.int .i64 x, .int .i64 0])) W) := Lib.hid fun e W h2 => by
    unfold vX vC; rw [e]; exact ⟨rfl, h2⟩
  clear h hF
  generalize IntAt (vX n N ms ds k S o x) (vC n N ms ds k S o) w = Q at QN QY ⊢
  unfold paV
  unfold paV sfZ sfV at C
  unfold sfV at HF
  generalize tv (PatP n N ms ds k S o) = r at C HT QN QY
  go_enter Try.func78, Try.ntmps78
  go_wp2_with fail
  refine C.out.mono ?_
  rintro e w1 ⟨b1, ⟨rfl, rfl⟩ | ⟨rfl, ea, el, ec, bm, P, g, rfl, HS⟩⟩
  · have HQ := Lib.hid (below_then HB.out b1)
    have HA := Lib.hid (QN.out rfl _ (HQ.out.alloc HQ.out.size (suC (.slice none 0 0) (.slice none 0 0) (.int .i64 0) (.slice none 0 0) (.map none))))
    clear b1 C HF HT QN QY
    go_wp2_with fail
    exact HA.out
  · have HQ := Lib.hid (below_then HB.out b1)
    have BX := Lib.hid (below_box w1 (suC (.slice A n c) (.slice Y k sc) (.int .i64 o) (.slice ea el ec) (.map (some bm))))
    have HQ2 := Lib.hid (below_then HQ.out BX.out)
    have CF := Lib.hid (HF.out (HT.out rfl) _ _ ea el ec bm P g (HR.out.below HQ2.out) (HS.out.below BX.out))
    have QYY := Lib.hid (QY.out rfl)
    clear b1 C HF HT HS QN QY
    go_wp2_with fail
    refine CF.out.mono ?_
    rintro e w2 ⟨rfl, b2⟩
    have HE := Lib.hid (QYY.out w2 (below_then HQ2.out b2))
    clear b2 QYY
    go_wp2_with fail
    exact HE.out
set_option maxRecDepth 100000 in
set_option maxHeartbeats 2000000 in
theorem spec_co (A : Option Addr) (n c : Nat) (N : Nat → ByteArray) (ms : Nat → Nat) (ds : Nat → Nat → Int) (Y : Option Addr) (k sc : Nat) (S : Nat → Int) (o : Int) (hz : Small n N ms k) (w : World) (h : PatR w A n N ms ds Y k S) :
    Calls Try.prog 39 #[paV A n c Y k sc o] w (IntAt (vX n N ms ds k S o (coN ms n S k : Int)) (vC n N ms ds k S o) w) := by
  have HB := Lib.hid (below_box w (.cells #[.slice A n c, .slice Y k sc, .int .i64 o] 31))
  have HX := Lib.hid (Boxed.mk (c := c) (sc := sc) (o := o) (heap_alloc_new w (.cells #[.slice A n c, .slice Y k sc, .int .i64 o] 31)) (h.below HB.out))
  have C := Lib.hid (ok w.heap.size A n c N ms ds Y k sc S o hz _ HX.out)
  unfold paV vX vC
  by_cases hP : PatP n N ms ds k S o
  · rw [tv_yes hP] at C ⊢
    simp only [if_true]
    have CP := Lib.hid (fun W hW => s_corners w.heap.size A n c N ms ds Y k sc S o hz hP W hW)
    clear h hz hP
    generalize (coN ms n S k : Int) = D at CP ⊢
    have HF : Hid (∀ W, Below w.heap.size w W → IntAt D 0 w (.returned (.tuple #[.int .i64 D, .int .i64 0])) W) := Lib.hid fun W h => ⟨rfl, h⟩
    generalize IntAt D 0 w = Q at HF ⊢
    go_enter Try.func39, Try.ntmps39
    go_wp2_with fail
    refine C.out.mono ?_
    rintro e w1 ⟨rfl, b1⟩
    have HX1 := Lib.hid (HX.out.below b1)
    have HB1 := Lib.hid (below_then HB.out b1)
    have C2 := Lib.hid (CP.out w1 HX1.out)
    clear b1 C HX HB
    go_wp2_with fail
    refine C2.out.mono ?_
    rintro e w2 ⟨rfl, hb2⟩
    have HZ := Lib.hid (HF.out _ (below_then HB1.out hb2))
    clear hb2 HF
    go_wp2_with fail
    exact HZ.out
  · rw [tv_no hP] at C ⊢
    simp only [Bool.false_eq_true, if_false]
    clear h hz hP
    have HF : Hid (∀ W, Below w.heap.size w W → IntAt 0 1 w (.returned (.tuple #[.int .i64 0, .int .i64 1])) W) := Lib.hid fun W h => ⟨rfl, h⟩
    generalize IntAt 0 1 w = Q at HF ⊢
    go_enter Try.func39, Try.ntmps39
    go_wp2_with fail
    refine C.out.mono ?_
    rintro e w1 ⟨rfl, b1⟩
    have HZ := Lib.hid (HF.out _ (below_then HB.out b1))
    clear b1 HF
    go_wp2_with fail
    exact HZ.out
theorem impl_co (A : Option Addr) (n c : Nat) (N : Nat → ByteArray) (ms : Nat → Nat) (ds : Nat → Nat → Int) (Y : Option Addr) (k sc : Nat) (S : Nat → Int) (o : Int) (hz : Small n N ms k) (hw : ∀ i, i < k * 4 → (Lit.int .i64 (S i)).wf = true) (w : World) (h : PatR w A n N ms ds Y k S) :
    Calls Try.prog 40 #[paV A n c Y k sc o] w (IntAt (vX n N ms ds k S o (coN ms n S k : Int)) (vC n N ms ds k S o) w) := by
  have HB := Lib.hid (below_box w (.cells #[.slice A n c, .slice Y k sc, .int .i64 o] 31))
  have C := Lib.hid (told_int 79 (Go.Proofs.enters_of Try.func79 (by kernel_rfl) rfl) A n c N ms ds Y k sc S o (coN ms n S k : Int) hz hw _ (h.below HB.out) fun hP B W ea el ec bm P g h1 h2 => corners A n c N ms ds Y k sc S o hz hP B W ea el ec bm P g h1 h2)
  clear h
  unfold IntAt at C
  generalize vX n N ms ds k S o (coN ms n S k : Int) = m at C ⊢
  generalize vC n N ms ds k S o = cd at C ⊢
  have HF : Hid (∀ W, Below w.heap.size w W → IntAt m cd w (.returned (.tuple #[.int .i64 m, .int .i64 cd])) W) := Lib.hid fun W h => ⟨rfl, h⟩
  generalize IntAt m cd w = Q at HF ⊢
  unfold paV
  unfold paV at C
  go_enter Try.func40, Try.ntmps40
  go_wp2_with fail
  refine C.out.mono ?_
  rintro e w1 ⟨rfl, b1⟩
  have HE := Lib.hid (HF.out _ (below_then HB.out b1))
  clear b1 HF
  go_wp2_with fail
  exact HE.out
end Go.Proofs.Ytnojnikophpnoaa.Uy

/- Whether a call's arguments are valid; MayFit and FitCost: the program's. -/
import Derived.Test.YtaoknbhpjnileabCrLib
import Derived.Test.YtaoknbhpjnileabFsLib
namespace Go.Proofs.Ytaoknbhpjnileab.Co
open Go.RowKit Ft Is Fi La Fa Ge
open Ll (Lasts)
open Lv (LOk)

/-- What a call's arguments are worth. -/
noncomputable def feC (n : Nat) (N : Nat → ByteArray) (F : Nat → Nat → Int) (mn mx gi : Int) (m : Nat) (p : Nat → Int) (k : Nat) (E : Nat → Nat → Int) : Int := if tv (LOk n N F) && (tv (Fs.Okay k E) && tv (FitOk mn mx gi m p)) then 0 else 1
theorem fs_tv {P : Prop} {w w' : World} {e : Ending} (t : Fs.Tells P w e w') : e = .returned (.bool (tv P)) ∧ Below w.heap.size w w' := tells_tv t
theorem lv_tv {P : Prop} {w w' : World} {e : Ending} (t : Ge.Tells P w e w') : e = .returned (.bool (tv P)) ∧ Below w.heap.size w w' := tells_tv t
set_option maxRecDepth 100000 in
set_option maxHeartbeats 4000000 in
theorem err_any (A1 : Option Addr) (n c1 : Nat) (N : Nat → ByteArray) (F : Nat → Nat → Int) (mn mx gi : Int) (A : Option Addr) (m c : Nat) (p : Nat → Int) (A2 : Option Addr) (k c2 : Nat) (E : Nat → Nat → Int) (hn : n ≤ 1048576) (hm : m ≤ 1048576) (hk : k ≤ 1048576) (w : World)
    (h1 : Lasts w w.heap.size A1 n N F) (hA : Nums w w.heap.size A m p) (h2 : Fs.Ints w w.heap.size 4 A2 k E) :
    Calls Try.prog 59 #[.slice A1 n c1, fitV mn mx gi A m c, .slice A2 k c2] w fun e w' => e = .returned (.int .i64 (feC n N F mn mx gi m p k E)) ∧ Below w.heap.size w w' := by
  have C1 := Lib.hid (fun w h => (Lv.impl_ok A1 n c1 N F hn w h).mono fun _ _ t => lv_tv t)
  have C2 := Lib.hid (fun w h => (Fs.impl_ok A2 k c2 E hk w h).mono fun _ _ t => fs_tv t)
  have C3 := Lib.hid (fun w h => (impl_fit mn mx gi A m c p hm w h).mono fun _ _ t => lv_tv t)
  have H1 := Lib.hid h1
  have H2 := Lib.hid h2
  have HA := Lib.hid hA
  have K := Lib.hid (heap_alloc_new w (fiC mn mx gi A m c 37))
  have HB := Lib.hid (below_box w (fiC mn mx gi A m c 37))
  have HF : Hid (feC n N F mn mx gi m p k E = if tv (LOk n N F) && (tv (Fs.Okay k E) && tv (FitOk mn mx gi m p)) then 0 else 1) := Lib.hid rfl
  clear h1 h2 hA
  generalize feC n N F mn mx gi m p k E = R at HF ⊢
  generalize tv (LOk n N F) = r1 at C1 HF
  generalize tv (Fs.Okay k E) = r2 at C2 HF
  generalize tv (FitOk mn mx gi m p) = r3 at C3 HF
  have RR : r1 = false ∨ (r1 = true ∧ r2 = false) ∨ (r1 = true ∧ r2 = true) := by cases r1 <;> cases r2 <;> simp
  rcases RR with rfl | ⟨rfl, rfl⟩ | ⟨rfl, rfl⟩
  all_goals
    go_enter Try.func59, Try.ntmps59
    go_wp2_with fail
    generalize w.alloc (fiC mn mx gi A m c 37) = w0 at HB K ⊢
    refine (C1.out _ ((H1.out.below HB.out (Nat.le_refl _)).more HB.out.size)).mono ?_
    rintro e w1 ⟨rfl, b1⟩
    have HB1 := Lib.hid (below_then HB.out b1)
    have K1 := Lib.hid (Ge.blk_keep b1 K.out)
    clear b1 HB K
    go_wp2_with fail
  · go_ret
    exact ⟨by rw [HF.out]; rfl, HB1.out⟩
  all_goals
    refine (C2.out _ ((H2.out.below HB1.out (Nat.le_refl _)).more HB1.out.size)).mono ?_
    rintro e w2 ⟨rfl, b2⟩
    have HB2 := Lib.hid (below_then HB1.out b2)
    have K2 := Lib.hid (Ge.blk_keep b2 K1.out)
    clear b2 HB1 K1
    obtain ⟨x0, x1, x2, x3⟩ := Ge.blk4 K2.out
    go_wp2_with fail
  · go_ret
    exact ⟨by rw [HF.out]; rfl, HB2.out⟩
  refine (C3.out _ ((HA.out.below HB2.out (Nat.le_refl _)).more HB2.out.size)).mono ?_
  rintro e w3 ⟨rfl, b3⟩
  have HB3 := Lib.hid (below_then HB2.out b3)
  clear b3
  cases r3
  all_goals
    go_wp2_with fail
    go_ret
    exact ⟨by rw [HF.out]; rfl, HB3.out⟩

theorem one_last {W : World} {g : Nat} {s : ByteArray} {x : Nat → Int} {t : TypeId} (h : W.heap[g]? = some (laC s x t)) (hs : s.size ≤ maxLen) : Lasts W W.heap.size (some ⟨g, 0, none⟩) 1 (fun _ => s) (fun _ => x) :=
  ⟨by simp [maxLen], fun _ _ => hs, fun _ => ⟨g, 0, rfl, Ge.lt_of_heap h, fun i hi => by
    obtain rfl : i = 0 := by omega
    obtain ⟨x0, x1, x2, x3, x4, x5⟩ := Ge.blk6 h
    refine ⟨x0, fun j hj => ?_⟩
    obtain rfl | rfl | rfl | rfl | rfl : j = 0 ∨ j = 1 ∨ j = 2 ∨ j = 3 ∨ j = 4 := by omega
    · exact x1
    · exact x2
    · exact x3
    · exact x4
    · exact x5⟩⟩
theorem one_foot {W : World} {g : Nat} {a : Nat → Int} {t : TypeId} (h : W.heap[g]? = some (ftC a t)) (ha : ∀ j, j < 4 → (Lit.int .i64 (a j)).wf = true) : Fs.Ints W W.heap.size 4 (some ⟨g, 0, none⟩) 1 (fun _ => a) :=
  ⟨by simp [maxLen], fun _ _ j hj => ha j hj, fun _ => ⟨g, 0, rfl, Ge.lt_of_heap h, fun i hi j hj => by
    obtain rfl : i = 0 := by omega
    obtain ⟨x0, x1, x2, x3⟩ := Ge.blk4 h
    obtain rfl | rfl | rfl | rfl : j = 0 ∨ j = 1 ∨ j = 2 ∨ j = 3 := by omega
    · exact x0
    · exact x1
    · exact x2
    · exact x3⟩⟩
theorem fe_one (s : ByteArray) (x a : Nat → Int) (mn mx gi : Int) (n : Nat) (p : Nat → Int) : feC 1 (fun _ => s) (fun _ => x) mn mx gi n p 1 (fun _ => a) = if okB s x a mn mx gi n p then 0 else 1 := by
  have h1 : tv (LOk 1 (fun _ => s) (fun _ => x)) = laB s x := by
    rw [Bool.eq_iff_iff, tv_iff]
    exact ⟨fun h => h.2.1 0 (by omega), fun h => ⟨by omega, fun _ _ => h, fun i hi => by omega⟩⟩
  have h2 : tv (Fs.Okay 1 (fun _ => a)) = ftB (a 0) (a 1) (a 2) (a 3) := by
    rw [Bool.eq_iff_iff, tv_iff]
    exact ⟨fun h => h.2 0 (by omega), fun h => ⟨by omega, fun _ _ => h⟩⟩
  unfold feC okB
  rw [h1, h2]
theorem ct_rf {mn mx gi : Int} {p x a : Nat → Int} (h : rf mn mx gi x a) : ct mn mx gi p x a = -1 := if_pos h
theorem ct_not {mn mx gi : Int} {p x a : Nat → Int} (h : ¬ rf mn mx gi x a) : ct mn mx gi p x a = ps p (df mn x a) 4 := if_neg h
theorem ct_nn {mn mx gi : Int} {p x a : Nat → Int} (hp : ∀ k, k < 4 → 0 ≤ p k ∧ p k ≤ 100) (h : ¬ rf mn mx gi x a) : 0 ≤ ct mn mx gi p x a := by
  rw [ct_not h]
  have hr := Classical.not_not.1 h
  have hd : ∀ k, k < 4 → 0 ≤ p k * df mn x a k := fun k hk => Int.mul_nonneg (hp k hk).1 (by
    by_cases e : k = 0
    · subst e
      show 0 ≤ x 0 - a 0 - mn
      have := hr.1
      omega
    · rw [show df mn x a k = gap (x k) (a k) from if_neg e]
      exact gap_nn _ _)
  have h0 := hd 0 (by omega)
  have h1 := hd 1 (by omega)
  have h2 := hd 2 (by omega)
  have h3 := hd 3 (by omega)
  simp only [ps]
  omega
theorem five (w : World) (A B C D E : Obj) : (((((w.alloc A).alloc B).alloc C).alloc D).alloc E).heap[w.heap.size]? = some A ∧ (((((w.alloc A).alloc B).alloc C).alloc D).alloc E).heap[w.heap.size + 1]? = some B ∧ (((((w.alloc A).alloc B).alloc C).alloc D).alloc E).heap[w.heap.size + 1 + 1]? = some C ∧
    (((((w.alloc A).alloc B).alloc C).alloc D).alloc E).heap[w.heap.size + 1 + 1 + 1]? = some D ∧ (((((w.alloc A).alloc B).alloc C).alloc D).alloc E).heap[w.heap.size + 1 + 1 + 1 + 1]? = some E := by
  obtain ⟨k0, k1, k2⟩ := three w A B C
  have l0 := Ge.lt_of_heap k0
  have l1 := Ge.lt_of_heap k1
  have l2 := Ge.lt_of_heap k2
  have hz : (((w.alloc A).alloc B).alloc C).heap.size = w.heap.size + 1 + 1 + 1 := by simp
  generalize ((w.alloc A).alloc B).alloc C = v at *
  obtain ⟨k3, k4⟩ := two v D E
  rw [hz] at k3 k4
  have hb : Below v.heap.size v ((v.alloc D).alloc E) := ((Below.refl _ _).alloc (Nat.le_refl _) _).alloc (by simp) _
  exact ⟨Ge.blk_keep hb k0, Ge.blk_keep hb k1, Ge.blk_keep hb k2, k3, k4⟩
theorem below5 (w : World) (A B C D E : Obj) : Below w.heap.size w (((((w.alloc A).alloc B).alloc C).alloc D).alloc E) :=
  below_then (below3 w A B C) (((Below.refl _ _).alloc (Nat.le_refl _) _).alloc (by simp) _)

set_option maxRecDepth 100000 in
set_option maxHeartbeats 4000000 in
theorem impl_MayFit (HG : GapsSaid) (s : ByteArray) (x a : Nat → Int) (mn mx gi : Int) (A : Option Addr) (n c : Nat) (p : Nat → Int) (hs : s.size ≤ maxLen) (hn : n ≤ 1048576) (hw : ∀ j, j < 4 → (Lit.int .i64 (a j)).wf = true) (w : World) (hA : Nums w w.heap.size A n p) :
    Calls Try.prog 19 #[laV s x, ftV a, fitV mn mx gi A n c] w (TwoMayFit (mayV s x a mn mx gi n p) (mayC s x a mn mx gi n p) w) := by
  obtain ⟨kx, ka, kf, k3, k4⟩ := five w (laC s x 33) (ftC a 35) (fiC mn mx gi A n c 37) (laC s x 33) (ftC a 35)
  have HW := Lib.hid (below5 w (laC s x 33) (ftC a 35) (fiC mn mx gi A n c 37) (laC s x 33) (ftC a 35))
  have KX := Lib.hid kx
  have KA := Lib.hid ka
  have KF := Lib.hid kf
  have HL := Lib.hid (one_last k3 hs)
  have HF := Lib.hid (one_foot k4 hw)
  have HA := Lib.hid ((hA.below HW.out (Nat.le_refl _)).more HW.out.size)
  have HA0 := Lib.hid hA
  clear kx ka kf k3 k4 hA hw
  have CE := Lib.hid (fun A1 c1 A2 c2 w h1 hA h2 => err_any A1 1 c1 (fun _ => s) (fun _ => x) mn mx gi A n c p A2 1 c2 (fun _ => a) (by omega) hn (by omega) w h1 hA h2)
  rw [fe_one] at CE
  have HV : Hid (mayV s x a mn mx gi n p = (okB s x a mn mx gi n p && decide (0 ≤ ct mn mx gi p x a))) := Lib.hid rfl
  have HC : Hid (mayC s x a mn mx gi n p = (if okB s x a mn mx gi n p then 0 else 1)) := Lib.hid rfl
  have HO : Hid (okB s x a mn mx gi n p = (laB s x && (ftB (a 0) (a 1) (a 2) (a 3) && tv (FitOk mn mx gi n p)))) := Lib.hid rfl
  generalize mayV s x a mn mx gi n p = V at HV ⊢
  generalize mayC s x a mn mx gi n p = CC at HC ⊢
  generalize okB s x a mn mx gi n p = ok at HO HV HC CE
  cases ok
  · have HVN : Hid (V = false) := Lib.hid (by rw [HV.out]; simp)
    have HCN : Hid (CC = 1) := Lib.hid (by rw [HC.out]; simp)
    clear HV HC HO HG
    go_enter Try.func19, Try.ntmps19
    go_wp2_with fail
    generalize ((((w.alloc (laC s x 33)).alloc (ftC a 35)).alloc (fiC mn mx gi A n c 37)).alloc (laC s x 33)).alloc (ftC a 35) = w0 at HW KX KA KF HL HF HA ⊢
    refine (CE.out _ _ _ _ _ HL.out HA.out HF.out).mono ?_
    rintro e w1 ⟨rfl, b1⟩
    have HB1 := Lib.hid (below_then HW.out b1)
    clear b1
    go_wp2_with fail
    exact bodyPost_ret (v := .tuple #[.bool false, .int .i64 1]) (by simp [results, Try.results19, go_sem]) rfl ⟨by rw [HVN.out, HCN.out], HB1.out⟩
  · have hall := HO.out.symm
    simp only [Bool.and_eq_true] at hall
    obtain ⟨l1, l2, l3⟩ := hall
    obtain ⟨rfl, f1, f2, f3, f4⟩ := fit_in (tv_iff.1 l3)
    have MX := mild_of_la l1
    have MA := mild_of_ft l2
    have R := Lib.hid (fun w => refused_any HG s x a mn mx gi A c MX MA w)
    have CY := Lib.hid (fun h w hA => cost_any HG s x a mn mx gi A c p MX MA f1 f2 f3 f4 h w hA)
    have H1 : Hid (tv (rf mn mx gi x a) = true → rf mn mx gi x a) := Lib.hid tv_iff.1
    have H2 : Hid (tv (rf mn mx gi x a) = false → ¬ rf mn mx gi x a) := Lib.hid fun h e => by rw [tv_yes e] at h; cases h
    have T1 : Hid (rf mn mx gi x a → ct mn mx gi p x a = -1) := Lib.hid ct_rf
    have T2 : Hid (¬ rf mn mx gi x a → ct mn mx gi p x a = ps p (df mn x a) 4 ∧ 0 ≤ ct mn mx gi p x a) := Lib.hid fun h => ⟨ct_not h, ct_nn f4 h⟩
    clear l1 l2 l3 HO HG f1 f2 f3 f4 MX MA
    generalize ct mn mx gi p x a = ctv at HV HC T1 T2
    generalize tv (rf mn mx gi x a) = r at R H1 H2
    go_enter Try.func19, Try.ntmps19
    go_wp2_with fail
    generalize ((((w.alloc (laC s x 33)).alloc (ftC a 35)).alloc (fiC mn mx gi A 4 c 37)).alloc (laC s x 33)).alloc (ftC a 35) = w0 at HW KX KA KF HL HF HA ⊢
    refine (CE.out _ _ _ _ _ HL.out HA.out HF.out).mono ?_
    rintro e w1 ⟨rfl, b1⟩
    have HB1 := Lib.hid (below_then HW.out b1)
    have KX1 := Lib.hid (Ge.blk_keep b1 KX.out)
    have KA1 := Lib.hid (Ge.blk_keep b1 KA.out)
    have KF1 := Lib.hid (Ge.blk_keep b1 KF.out)
    clear b1 KX KA KF HW HL HF HA
    obtain ⟨x0, x1, x2, x3, x4, x5⟩ := Ge.blk6 KX1.out
    obtain ⟨y0, y1, y2, y3⟩ := Ge.blk4 KA1.out
    obtain ⟨z0, z1, z2, z3⟩ := Ge.blk4 KF1.out
    have hlt1 := Ge.lt_of_heap KA1.out
    go_wp2_with fail
    refine (R.out _).mono ?_
    rintro e w2 ⟨rfl, b2⟩
    have HB2 := Lib.hid (below_then HB1.out b2)
    clear b2
    cases r
    · have HV' : Hid (V = true) := Lib.hid (by rw [HV.out]; simp; exact (T2.out (H2.out rfl)).2)
      have HC' : Hid (CC = 0) := Lib.hid (by rw [HC.out]; rfl)
      go_wp2_with fail
      exact bodyPost_ret (v := .tuple #[.bool true, .int .i64 0]) (by simp [results, Try.results19, go_sem]) rfl ⟨by rw [HV'.out, HC'.out], HB2.out⟩
    · have HV' : Hid (V = false) := Lib.hid (by rw [HV.out, T1.out (H1.out rfl)]; rfl)
      have HC' : Hid (CC = 0) := Lib.hid (by rw [HC.out]; rfl)
      go_wp2_with fail
      exact bodyPost_ret (v := .tuple #[.bool false, .int .i64 0]) (by simp [results, Try.results19, go_sem]) rfl ⟨by rw [HV'.out, HC'.out], HB2.out⟩

set_option maxRecDepth 100000 in
set_option maxHeartbeats 4000000 in
theorem impl_FitCost (HG : GapsSaid) (s : ByteArray) (x a : Nat → Int) (mn mx gi : Int) (A : Option Addr) (n c : Nat) (p : Nat → Int) (hs : s.size ≤ maxLen) (hn : n ≤ 1048576) (hw : ∀ j, j < 4 → (Lit.int .i64 (a j)).wf = true) (w : World) (hA : Nums w w.heap.size A n p) :
    Calls Try.prog 22 #[laV s x, ftV a, fitV mn mx gi A n c] w (TwoFitCost (costV s x a mn mx gi n p) (costC s x a mn mx gi n p) w) := by
  obtain ⟨kx, ka, kf, k3, k4⟩ := five w (laC s x 33) (ftC a 35) (fiC mn mx gi A n c 37) (laC s x 33) (ftC a 35)
  have HW := Lib.hid (below5 w (laC s x 33) (ftC a 35) (fiC mn mx gi A n c 37) (laC s x 33) (ftC a 35))
  have KX := Lib.hid kx
  have KA := Lib.hid ka
  have KF := Lib.hid kf
  have HL := Lib.hid (one_last k3 hs)
  have HF := Lib.hid (one_foot k4 hw)
  have HA := Lib.hid ((hA.below HW.out (Nat.le_refl _)).more HW.out.size)
  have HA0 := Lib.hid hA
  clear kx ka kf k3 k4 hA hw
  have CE := Lib.hid (fun A1 c1 A2 c2 w h1 hA h2 => err_any A1 1 c1 (fun _ => s) (fun _ => x) mn mx gi A n c p A2 1 c2 (fun _ => a) (by omega) hn (by omega) w h1 hA h2)
  rw [fe_one] at CE
  have HV : Hid (costV s x a mn mx gi n p = (if okB s x a mn mx gi n p && decide (0 ≤ ct mn mx gi p x a) then ct mn mx gi p x a else 0)) := Lib.hid rfl
  have HC : Hid (costC s x a mn mx gi n p = (if okB s x a mn mx gi n p then (if 0 ≤ ct mn mx gi p x a then 0 else 10) else 1)) := Lib.hid rfl
  have HO : Hid (okB s x a mn mx gi n p = (laB s x && (ftB (a 0) (a 1) (a 2) (a 3) && tv (FitOk mn mx gi n p)))) := Lib.hid rfl
  generalize costV s x a mn mx gi n p = V at HV ⊢
  generalize costC s x a mn mx gi n p = CC at HC ⊢
  generalize okB s x a mn mx gi n p = ok at HO HV HC CE
  cases ok
  · have HVN : Hid (V = 0) := Lib.hid (by rw [HV.out]; simp)
    have HCN : Hid (CC = 1) := Lib.hid (by rw [HC.out]; simp)
    clear HV HC HO HG
    go_enter Try.func22, Try.ntmps22
    go_wp2_with fail
    generalize ((((w.alloc (laC s x 33)).alloc (ftC a 35)).alloc (fiC mn mx gi A n c 37)).alloc (laC s x 33)).alloc (ftC a 35) = w0 at HW KX KA KF HL HF HA ⊢
    refine (CE.out _ _ _ _ _ HL.out HA.out HF.out).mono ?_
    rintro e w1 ⟨rfl, b1⟩
    have HB1 := Lib.hid (below_then HW.out b1)
    clear b1
    go_wp2_with fail
    exact bodyPost_ret (v := .tuple #[.int .i64 0, .int .i64 1]) (by simp [results, Try.results22, go_sem]) rfl ⟨by rw [HVN.out, HCN.out], HB1.out⟩
  · have hall := HO.out.symm
    simp only [Bool.and_eq_true] at hall
    obtain ⟨l1, l2, l3⟩ := hall
    obtain ⟨rfl, f1, f2, f3, f4⟩ := fit_in (tv_iff.1 l3)
    have MX := mild_of_la l1
    have MA := mild_of_ft l2
    have R := Lib.hid (fun w => refused_any HG s x a mn mx gi A c MX MA w)
    have CY := Lib.hid (fun h w hA => cost_any HG s x a mn mx gi A c p MX MA f1 f2 f3 f4 h w hA)
    have H1 : Hid (tv (rf mn mx gi x a) = true → rf mn mx gi x a) := Lib.hid tv_iff.1
    have H2 : Hid (tv (rf mn mx gi x a) = false → ¬ rf mn mx gi x a) := Lib.hid fun h e => by rw [tv_yes e] at h; cases h
    have T1 : Hid (rf mn mx gi x a → ct mn mx gi p x a = -1) := Lib.hid ct_rf
    have T2 : Hid (¬ rf mn mx gi x a → ct mn mx gi p x a = ps p (df mn x a) 4 ∧ 0 ≤ ct mn mx gi p x a) := Lib.hid fun h => ⟨ct_not h, ct_nn f4 h⟩
    clear l1 l2 l3 HO HG f1 f2 f3 f4 MX MA
    generalize ct mn mx gi p x a = ctv at HV HC T1 T2
    generalize tv (rf mn mx gi x a) = r at R H1 H2
    go_enter Try.func22, Try.ntmps22
    go_wp2_with fail
    generalize ((((w.alloc (laC s x 33)).alloc (ftC a 35)).alloc (fiC mn mx gi A 4 c 37)).alloc (laC s x 33)).alloc (ftC a 35) = w0 at HW KX KA KF HL HF HA ⊢
    refine (CE.out _ _ _ _ _ HL.out HA.out HF.out).mono ?_
    rintro e w1 ⟨rfl, b1⟩
    have HB1 := Lib.hid (below_then HW.out b1)
    have KX1 := Lib.hid (Ge.blk_keep b1 KX.out)
    have KA1 := Lib.hid (Ge.blk_keep b1 KA.out)
    have KF1 := Lib.hid (Ge.blk_keep b1 KF.out)
    clear b1 KX KA KF HW HL HF HA
    obtain ⟨x0, x1, x2, x3, x4, x5⟩ := Ge.blk6 KX1.out
    obtain ⟨y0, y1, y2, y3⟩ := Ge.blk4 KA1.out
    obtain ⟨z0, z1, z2, z3⟩ := Ge.blk4 KF1.out
    have hlt1 := Ge.lt_of_heap KA1.out
    go_wp2_with fail
    have HB2 := Lib.hid (below_then HB1.out (below_box w1 (ftgC s x mn mx gi A c 88)))
    have KA2 := Lib.hid (Ge.blk_keep (below_box w1 (ftgC s x mn mx gi A c 88)) KA1.out)
    have KG2 := Lib.hid (heap_alloc_new w1 (ftgC s x mn mx gi A c 88))
    generalize w1.alloc (ftgC s x mn mx gi A c 88) = w2 at HB2 KA2 KG2 ⊢
    refine (R.out _).mono ?_
    rintro e w3 ⟨rfl, b3⟩
    have HB3 := Lib.hid (below_then HB2.out b3)
    have KA3 := Lib.hid (Ge.blk_keep b3 KA2.out)
    have KG3 := Lib.hid (Ge.blk_keep b3 KG2.out)
    clear b3 KA2 KG2 HB2 hlt1 x0 x1 x2 x3 x4 x5 y0 y1 y2 y3 z0 z1 z2 z3
    generalize w1.heap.size = g at KG3 ⊢
    cases r
    · obtain ⟨t1, t2⟩ := T2.out (H2.out rfl)
      have HV' : Hid (V = ps p (df mn x a) 4) := Lib.hid (by rw [HV.out, ← t1]; simp; omega)
      have HC' : Hid (CC = 0) := Lib.hid (by rw [HC.out]; simp; omega)
      have CZ := Lib.hid (CY.out (H2.out rfl))
      generalize ps p (df mn x a) 4 = S at HV' CZ
      obtain ⟨x0, x1, x2, x3, x4, x5, x6, x7, x8, x9⟩ := ten KG3.out
      obtain ⟨y0, y1, y2, y3⟩ := Ge.blk4 KA3.out
      go_wp2_with fail
      refine (CZ.out _ ((HA0.out.below HB3.out (Nat.le_refl _)).more HB3.out.size)).mono ?_
      rintro e w4 ⟨rfl, b4⟩
      have HB4 := Lib.hid (below_then HB3.out b4)
      clear b4
      go_wp2_with fail
      exact bodyPost_ret (v := .tuple #[.int .i64 S, .int .i64 0]) (by simp [results, Try.results22, go_sem]) rfl ⟨by rw [HV'.out, HC'.out], HB4.out⟩
    · have t1 := T1.out (H1.out rfl)
      have HV' : Hid (V = 0) := Lib.hid (by rw [HV.out, t1]; rfl)
      have HC' : Hid (CC = 10) := Lib.hid (by rw [HC.out, t1]; rfl)
      go_wp2_with fail
      exact bodyPost_ret (v := .tuple #[.int .i64 0, .int .i64 10]) (by simp [results, Try.results22, go_sem]) rfl ⟨by rw [HV'.out, HC'.out], HB3.out⟩
end Go.Proofs.Ytaoknbhpjnileab.Co

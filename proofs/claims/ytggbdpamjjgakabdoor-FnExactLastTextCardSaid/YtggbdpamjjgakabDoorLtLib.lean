/- LastText: both functions, the walk of the law. -/
import Derived.Test.YtggbdpamjjgakabDoorFwLib
import Derived.Test.YtggbdpamjjgakabDoorLaLib
namespace Go.Proofs.YtggbdpamjjgakabDoor.Lx
open Go.RowKit Ba Go.Lib Dc Ds Tb Fx Fw Bu La Qb
set_option linter.unusedVariables false

/-- The text of a last that is valid. -/
def tx (s : ByteArray) (f : Nat → Int) : ByteArray := s ++ ⟨#[32]⟩ ++ ⟨(ftL (f 0) (f 1) (f 2) (f 3)).toArray⟩ ++ ⟨#[32, 112, 105, 116, 99, 104, 32]⟩ ++ ⟨(itoa (f 4)).toArray⟩
noncomputable def ltT (s : ByteArray) (f : Nat → Int) : ByteArray := if laB s f then tx s f else ⟨#[]⟩
theorem parts {s : ByteArray} {f : Nat → Int} (h : laB s f = true) : Ft.ftB (f 0) (f 1) (f 2) (f 3) = true ∧ 0 ≤ f 4 ∧ f 4 ≤ 1000 := by
  unfold laB at h
  simp only [Bool.and_eq_true, Ft.inB, decide_eq_true_eq] at h
  exact ⟨h.2.1, h.2.2⟩
theorem ft_len {l b i h : Int} (r : Ft.ftB l b i h = true) : (ftL l b i h).length ≤ 100 := by
  have h := Stx.tx_len (sp := [47]) (f := Ft.nth l b i h) (n := 4) rfl (fun k _ => by have := nth_in r k; omega) 4 (by omega)
  rw [foot_tx] at h
  omega

set_option maxRecDepth 100000 in
set_option maxHeartbeats 2000000 in
theorem spec_tx (s : ByteArray) (f : Nat → Int) (hs : s.size ≤ 1048576) (h : laB s f = true) (w : World) : Calls Tryd.prog 49 #[laV s f] w fun e w' => e = .returned (.string (tx s f)) ∧ Below w.heap.size w w' := by
  obtain ⟨hf, h0, h1⟩ := parts h
  have CF := Lib.hid fun w => foot_spec s f w
  have CT := Lib.hid fun w => text_any (f 0) (f 1) (f 2) (f 3) hf w
  have CD := Lib.hid fun w => dec_any (f 4) (by omega) (by omega) w
  have z0 : (⟨(itoa (f 4)).toArray⟩ : ByteArray).size ≤ 21 := itoa_length_le (f 4) (by omega) (by omega)
  have z1 : (⟨(ftL (f 0) (f 1) (f 2) (f 3)).toArray⟩ : ByteArray).size ≤ 100 := ft_len hf
  unfold tx
  generalize (⟨(itoa (f 4)).toArray⟩ : ByteArray) = t0 at CD z0 ⊢
  generalize (⟨(ftL (f 0) (f 1) (f 2) (f 3)).toArray⟩ : ByteArray) = t1 at CT z1 ⊢
  have n0 : ¬ 9223372036854775807 < s.size + 1 := by omega
  have m0 : ¬ 9223372036854775807 ≤ s.size := by omega
  have n1 : ¬ 9223372036854775807 < s.size + 1 + t1.size := by omega
  have n2 : ¬ 9223372036854775807 < s.size + 1 + t1.size + 7 := by omega
  have n3 : ¬ 9223372036854775807 < s.size + 1 + t1.size + 7 + t0.size := by omega
  clear h hf h0 h1
  have K := heap_alloc_new w (laC s f 41)
  have HB := Lib.hid (below_box w (laC s f 41))
  go_enter Tryd.func49, Tryd.ntmps49
  go_wp2_with fail
  generalize w.alloc (laC s f 41) = W at K HB ⊢
  obtain ⟨x0, x1, x2, x3, x4, x5⟩ := Ge.blk6 K
  have x0 := bey_cell x0
  have x1 := bey_cell x1
  have x2 := bey_cell x2
  have x3 := bey_cell x3
  have x4 := bey_cell x4
  have x5 := bey_cell x5
  refine wp_region_below (by kernel_rfl) (by kernel_rfl) ?_
  repeat (go_big_quiet_step ((first | (go_at_call 73; exact bey_of _ (CF.out _)) | (go_at_call 42; exact bey_of _ (CT.out _)) | (go_at_call 61; exact bey_of _ (CD.out _)))))
  refine wpQuiet_nil ?_
  rintro _ ⟨pq, rfl⟩
  have HQ := Lib.hid (below_then HB.out pq.h)
  generalize pq.to = wq at HQ ⊢
  go_wp2_with fail
  go_ret
  exact ⟨rfl, HQ.out⟩
theorem spec_text (s : ByteArray) (f : Nat → Int) (hs : s.size ≤ 1048576) (hm : s.size ≤ maxLen) (w : World) : Calls Tryd.prog 22 #[laV s f] w fun e w' => e = .returned (.string (ltT s f)) ∧ Below w.heap.size w w' := by
  have C := Lib.hid fun w => one_spec s f hm w
  have T := Lib.hid fun h w => spec_tx s f hs h w
  have H0 : Hid (laB s f = false → ltT s f = ⟨#[]⟩) := Lib.hid fun h => by unfold ltT; rw [h]; rfl
  have H1 : Hid (laB s f = true → ltT s f = tx s f) := Lib.hid fun h => by unfold ltT; rw [h]; rfl
  have K := heap_alloc_new w (laC s f 41)
  have HB := Lib.hid (below_box w (laC s f 41))
  generalize ltT s f = R at H0 H1 ⊢
  generalize laB s f = r at C T H0 H1
  cases r
  · have HE := Lib.hid (H0.out rfl)
    clear T H0 H1 K
    go_enter Tryd.func22, Tryd.ntmps22
    go_wp2_with fail
    refine (C.out _).mono ?_
    rintro e w1 ⟨rfl, b1⟩
    have HB1 := Lib.hid (below_then HB.out b1)
    clear b1
    go_wp2_with fail
    go_ret
    exact ⟨ret_str HE.out.symm, HB1.out⟩
  · have HE := Lib.hid (H1.out rfl)
    have T1 := Lib.hid fun w => T.out rfl w
    clear H0 H1 T
    generalize tx s f = t at HE T1
    go_enter Tryd.func22, Tryd.ntmps22
    go_wp2_with fail
    generalize w.alloc (laC s f 41) = W at K HB ⊢
    refine (C.out _).mono ?_
    rintro e w1 ⟨rfl, b1⟩
    have HB1 := Lib.hid (below_then HB.out b1)
    have K1 := Ge.blk_keep b1 K
    clear b1 K HB
    obtain ⟨x0, x1, x2, x3, x4, x5⟩ := Ge.blk6 K1
    go_wp2_with fail
    refine (T1.out _).mono ?_
    rintro e w2 ⟨rfl, b2⟩
    have HB2 := Lib.hid (below_then HB1.out b2)
    clear b2
    go_wp2_with fail
    go_ret
    exact ⟨ret_str HE.out.symm, HB2.out⟩

set_option maxRecDepth 100000 in
set_option maxHeartbeats 2000000 in
theorem impl_last (s : ByteArray) (f : Nat → Int) (hs : s.size ≤ 1048576) (hm : s.size ≤ maxLen) (w : World) (ht : Tab w) : Calls Tryd.prog 24 #[laV s f] w fun e w' => e = .returned (.string (ltT s f)) ∧ Below w.heap.size w w' := by
  have C := Lib.hid fun w => one_impl s f hm w
  have K := heap_alloc_new w (laC s f 41)
  have HB := Lib.hid (below_box w (laC s f 41))
  cases r : laB s f
  · have HE : Hid (ltT s f = ⟨#[]⟩) := Lib.hid (by unfold ltT; rw [r]; rfl)
    rw [r] at C
    clear K r ht
    go_enter Tryd.func24, Tryd.ntmps24
    go_wp2_with fail
    refine (C.out _).mono ?_
    rintro e w1 ⟨rfl, b1⟩
    have HB1 := Lib.hid (below_then HB.out b1)
    clear b1
    go_wp2_with fail
    go_ret
    exact ⟨ret_str HE.out.symm, HB1.out⟩
  · have HE : Hid (ltT s f = tx s f) := Lib.hid (by unfold ltT; rw [r]; rfl)
    obtain ⟨hf, h0, h1⟩ := parts r
    have HT := Lib.hid ht
    have CF := Lib.hid fun w => foot_impl s f w
    have CT := Lib.hid fun w ht => impl_text (f 0) (f 1) (f 2) (f 3) w ht
    rw [show ftT (f 0) (f 1) (f 2) (f 3) = ⟨(ftL (f 0) (f 1) (f 2) (f 3)).toArray⟩ by unfold ftT; rw [hf]; rfl] at CT
    have CD := Lib.hid fun w ht => idec (f 4) (by omega) (by omega) w ht
    have z0 : (⟨(itoa (f 4)).toArray⟩ : ByteArray).size ≤ 21 := itoa_length_le (f 4) (by omega) (by omega)
    have z1 : (⟨(ftL (f 0) (f 1) (f 2) (f 3)).toArray⟩ : ByteArray).size ≤ 100 := ft_len hf
    unfold tx at HE
    generalize (⟨(itoa (f 4)).toArray⟩ : ByteArray) = t0 at CD z0 HE
    generalize (⟨(ftL (f 0) (f 1) (f 2) (f 3)).toArray⟩ : ByteArray) = t1 at CT z1 HE
    have n0 : ¬ 9223372036854775807 < s.size + 1 := by omega
    have m0 : ¬ 9223372036854775807 ≤ s.size := by omega
    have n1 : ¬ 9223372036854775807 < s.size + 1 + t1.size := by omega
    have n2 : ¬ 9223372036854775807 < s.size + 1 + t1.size + 7 := by omega
    have n3 : ¬ 9223372036854775807 < s.size + 1 + t1.size + 7 + t0.size := by omega
    rw [r] at C
    clear r hf h0 h1 ht
    go_enter Tryd.func24, Tryd.ntmps24
    go_wp2_with fail
    generalize w.alloc (laC s f 41) = W at K HB ⊢
    refine (C.out _).mono ?_
    rintro e w1 ⟨rfl, b1⟩
    have HB1 := Lib.hid (below_then HB.out b1)
    have K1 := Ge.blk_keep b1 K
    clear b1 K HB
    obtain ⟨x0, x1, x2, x3, x4, x5⟩ := Ge.blk6 K1
    have x0 := bey_cell x0
    have x1 := bey_cell x1
    have x2 := bey_cell x2
    have x3 := bey_cell x3
    have x4 := bey_cell x4
    have x5 := bey_cell x5
    have CT1 := Lib.hid fun (p : Beyond w1) => CT.out p.to (HT.out.below (below_then HB1.out p.h))
    have CD1 := Lib.hid fun (p : Beyond w1) => CD.out p.to (HT.out.below (below_then HB1.out p.h))
    clear CT CD
    go_wp2_with fail
    refine wp_region_below (by kernel_rfl) (by kernel_rfl) ?_
    repeat (go_big_quiet_step ((first | (go_at_call 51; exact bey_of _ (CF.out _)) | (go_at_call 17; exact bey_of _ (CT1.out _)) | (go_at_call 52; exact bey_of _ (CD1.out _)))))
    refine wpQuiet_nil ?_
    rintro _ ⟨pq, rfl⟩
    have HQ := Lib.hid (below_then HB1.out pq.h)
    generalize pq.to = wq at HQ ⊢
    go_wp2_with fail
    go_ret
    exact ⟨ret_str HE.out.symm, HQ.out⟩

/-- Five numbers. -/
def five (l b i h p : Int) : Nat → Int
  | 0 => l
  | 1 => b
  | 2 => i
  | 3 => h
  | _ => p
/-- The law. -/
theorem law (s : ByteArray) (l b i h p : Int) (w : World) (ht : Tab w) (hm : s.size ≤ maxLen) (_ : (Lit.int .i64 l).wf = true) (_ : (Lit.int .i64 b).wf = true) (_ : (Lit.int .i64 i).wf = true) (_ : (Lit.int .i64 h).wf = true) (_ : (Lit.int .i64 p).wf = true) :
    Calls Tryd.prog 6 #[.agg #[.string s, .int .i64 l, .int .i64 b, .int .i64 i, .int .i64 h, .int .i64 p]] w fun e w' => e = .returned (.bool true) ∧ Below w.heap.size w w' := by
  show Calls Tryd.prog 6 #[laV s (five l b i h p)] w _
  generalize five l b i h p = f
  by_cases hbig : 1048576 < s.size
  · have C := Lib.hid (fun w => sz_last_big s f 1048576 (by omega) hm (by omega) (by omega) w)
    clear ht
    go_enter Tryd.func6, Tryd.ntmps6
    go_wp2_with fail
    refine (C.out _).mono ?_
    rintro e w1 ⟨rfl, b1⟩
    have HB := Lib.hid (below_then (below_box _ _) b1)
    clear b1
    go_wp2_with fail
    go_ret
    exact ⟨rfl, HB.out⟩
  have hs : s.size ≤ 1048576 := by omega
  have C := Lib.hid (fun w => sz_last s f 1048576 (by omega) (by omega) w)
  have hle : ¬ (1048576 : Int) - s.size < 0 := by omega
  generalize (1048576 : Int) - s.size = r at C hle
  have S := Lib.hid fun w => spec_text s f hs hm w
  have I := Lib.hid fun w ht => impl_last s f hs hm w ht
  have T := Lib.hid fun w => to_last s f w
  have HT := Lib.hid ht
  have K := heap_alloc_new w (laC s f 38)
  have HB := Lib.hid (below_box w (laC s f 38))
  generalize ltT s f = t at S I
  clear ht hbig
  go_enter Tryd.func6, Tryd.ntmps6
  go_wp2_with fail
  generalize w.alloc (laC s f 38) = W at K HB ⊢
  refine (C.out _).mono ?_
  rintro e w1 ⟨rfl, b1⟩
  have HB1 := Lib.hid (below_then HB.out b1)
  have K1 := Lib.hid (Ge.blk_keep b1 K)
  clear b1 K HB
  obtain ⟨x0, x1, x2, x3, x4, x5⟩ := Ge.blk6 K1.out
  go_wp2_with fail
  refine (T.out _).mono ?_
  rintro e w2 ⟨rfl, b2⟩
  have HB2 := Lib.hid (below_then HB1.out b2)
  have K2 := Lib.hid (Ge.blk_keep b2 K1.out)
  clear b2 K1 HB1 x0 x1 x2 x3 x4 x5
  go_wp2_with fail
  refine (S.out _).mono ?_
  rintro e w3 ⟨rfl, b3⟩
  have HB3 := Lib.hid (below_then HB2.out b3)
  have K3 := Lib.hid (Ge.blk_keep b3 K2.out)
  clear b3 K2 HB2
  obtain ⟨x0, x1, x2, x3, x4, x5⟩ := Ge.blk6 K3.out
  go_wp2_with fail
  refine (T.out _).mono ?_
  rintro e w4 ⟨rfl, b4⟩
  have HB4 := Lib.hid (below_then HB3.out b4)
  clear b4 K3 HB3 x0 x1 x2 x3 x4 x5
  go_wp2_with fail
  refine (I.out _ (HT.out.below HB4.out)).mono ?_
  rintro e w5 ⟨rfl, b5⟩
  have HB5 := Lib.hid (below_then HB4.out b5)
  clear b5
  go_wp2_with fail
  go_ret
  exact ⟨rfl, HB5.out⟩
end Go.Proofs.YtggbdpamjjgakabDoor.Lx

/- OpeningsOf: both functions. -/
import Derived.Test.YtnojnikophpnoaaVjLib
namespace Go.Proofs.Ytnojnikophpnoaa.Vk
set_option linter.unusedVariables false
open Go.RowKit Go.Maps Ft Is Ge Qb Pt Pv Za Mm Zb Zc Zd Vq Sdq Sdu Uf Ug Uh Uk Uc Vo Vc Vg Vh Vj

theorem vm_o (n : Nat) (N : Nat → ByteArray) (ms : Nat → Nat) (ds : Nat → Nat → Int) (k : Nat) (S : Nat → Int) (o : Int) : vM n N ms ds k S o (st ms ds S k (ol ms n S k (sumN ms n))).2.length ≤ 1048576 := by
  unfold vM
  split
  · rename_i q
    obtain ⟨p1, p2, _⟩ := pat_in (tv_iff.1 q)
    have h1 := sum_le (ms := ms) (p := n) (fun i hi => (p2 i hi).2)
    have h2 := st_len ms ds S k (ol ms n S k (sumN ms n))
    rw [ol_len] at h2
    have h3 := cc_le (opB ms n S k) (sumN ms n)
    omega
  · omega
theorem pair_of_one {n : Nat} {f : Nat → Int} {w w1 w' : World} {A : Option Addr} {cap : Nat} (h : Own w' w1.heap.size A n f) (h0 : Below w.heap.size w w1) (hb : Below w1.heap.size w1 w') : PairAt n f 0 w (.returned (.tuple #[.slice A n cap, .int .i64 0])) w' :=
  ⟨A, cap, rfl, Lib.hid (Bw.own_later h h0.size), below_then h0 hb⟩
set_option maxRecDepth 100000 in
set_option maxHeartbeats 2000000 in
theorem spec_op (A : Option Addr) (n c : Nat) (N : Nat → ByteArray) (ms : Nat → Nat) (ds : Nat → Nat → Int) (Y : Option Addr) (k sc : Nat) (S : Nat → Int) (o : Int) (hz : Small n N ms k) (w : World) (h : PatR w A n N ms ds Y k S) :
    Calls Try.prog 37 #[paV A n c Y k sc o] w (PairAt (vM n N ms ds k S o (st ms ds S k (ol ms n S k (sumN ms n))).2.length) (opD ms ds S k n) (vC n N ms ds k S o) w) := by
  have HB := Lib.hid (below_box w (.cells #[.slice A n c, .slice Y k sc, .int .i64 o] 31))
  have HX := Lib.hid (Boxed.mk (c := c) (sc := sc) (o := o) (heap_alloc_new w (.cells #[.slice A n c, .slice Y k sc, .int .i64 o] 31)) (h.below HB.out))
  have C := Lib.hid (ok w.heap.size A n c N ms ds Y k sc S o hz _ HX.out)
  unfold paV vM vC
  by_cases hP : PatP n N ms ds k S o
  · rw [tv_yes hP] at C ⊢
    simp only [if_true]
    have CP := Lib.hid (fun W hW => s_openings w.heap.size A n c N ms ds Y k sc S o hz hP W hW)
    have HF : Hid (∀ A' cap w1 w', Own w' w1.heap.size A' (st ms ds S k (ol ms n S k (sumN ms n))).2.length (opD ms ds S k n) → Below w.heap.size w w1 → Below w1.heap.size w1 w' → PairAt (st ms ds S k (ol ms n S k (sumN ms n))).2.length (opD ms ds S k n) 0 w (.returned (.tuple #[.slice A' (st ms ds S k (ol ms n S k (sumN ms n))).2.length cap, .int .i64 0])) w') := Lib.hid fun A' cap w1 w' h1 h2 h3 => pair_of_one h1 h2 h3
    clear h hz hP
    unfold OneAt at CP
    generalize (st ms ds S k (ol ms n S k (sumN ms n))).2.length = ln at CP HF ⊢
    generalize PairAt ln (opD ms ds S k n) 0 w = Q at HF ⊢
    generalize opD ms ds S k n = D at CP HF
    go_enter Try.func37, Try.ntmps37
    go_wp2_with fail
    refine C.out.mono ?_
    rintro e w1 ⟨rfl, b1⟩
    have HX1 := Lib.hid (HX.out.below b1)
    have HB1 := Lib.hid (below_then HB.out b1)
    have C2 := Lib.hid (CP.out w1 HX1.out)
    clear b1 C HX HB
    go_wp2_with fail
    refine C2.out.mono ?_
    rintro e w2 ⟨A2, cap2, rfl, ho2, hb2⟩
    have HZ := Lib.hid (HF.out A2 cap2 w1 w2 ho2.out HB1.out hb2)
    clear ho2 hb2
    go_wp2_with fail
    exact HZ.out
  · rw [tv_no hP] at C ⊢
    simp only [Bool.false_eq_true, if_false]
    clear h hz hP
    generalize opD ms ds S k n = D
    have QN : Hid (∀ W, Below w.heap.size w W → PairAt 0 D 1 w (.returned (.tuple #[.slice none 0 0, .int .i64 1])) W) := Lib.hid fun W h => pair_no (c := 1) h D
    generalize PairAt 0 D 1 w = Q at QN ⊢
    go_enter Try.func37, Try.ntmps37
    go_wp2_with fail
    refine C.out.mono ?_
    rintro e w1 ⟨rfl, b1⟩
    have HZ := Lib.hid (QN.out _ (below_then HB.out b1))
    clear b1 QN
    go_wp2_with fail
    exact HZ.out
theorem impl_op (A : Option Addr) (n c : Nat) (N : Nat → ByteArray) (ms : Nat → Nat) (ds : Nat → Nat → Int) (Y : Option Addr) (k sc : Nat) (S : Nat → Int) (o : Int) (hz : Small n N ms k) (hw : ∀ i, i < k * 4 → (Lit.int .i64 (S i)).wf = true) (w : World) (h : PatR w A n N ms ds Y k S) :
    Calls Try.prog 38 #[paV A n c Y k sc o] w (PairAt (vM n N ms ds k S o (st ms ds S k (ol ms n S k (sumN ms n))).2.length) (opD ms ds S k n) (vC n N ms ds k S o) w) := by
  have HB := Lib.hid (below_box w (.cells #[.slice A n c, .slice Y k sc, .int .i64 o] 31))
  have C := Lib.hid (told_ints 76 (Go.Proofs.enters_of Try.func76 (by kernel_rfl) rfl) A n c N ms ds Y k sc S o (st ms ds S k (ol ms n S k (sumN ms n))).2.length (opD ms ds S k n) hz hw _ (h.below HB.out) fun hP B W ea el ec bm P g h1 h2 => openings A n c N ms ds Y k sc S o hz hP B W ea el ec bm P g h1 h2)
  have HZ : Hid (∀ W A' cap, Own W (w.alloc (.cells #[.slice A n c, .slice Y k sc, .int .i64 o] 31)).heap.size A' (vM n N ms ds k S o (st ms ds S k (ol ms n S k (sumN ms n))).2.length) (opD ms ds S k n) → Below (w.alloc (.cells #[.slice A n c, .slice Y k sc, .int .i64 o] 31)).heap.size (w.alloc (.cells #[.slice A n c, .slice Y k sc, .int .i64 o] 31)) W → PairAt (vM n N ms ds k S o (st ms ds S k (ol ms n S k (sumN ms n))).2.length) (opD ms ds S k n) (vC n N ms ds k S o) w (.returned (.tuple #[.slice A' (vM n N ms ds k S o (st ms ds S k (ol ms n S k (sumN ms n))).2.length) cap, .int .i64 (vC n N ms ds k S o)])) W) := Lib.hid fun W A' cap h1 h2 => ⟨A', cap, rfl, Lib.hid (Bw.own_later h1 HB.out.size), below_then HB.out h2⟩
  clear h
  generalize PairAt (vM n N ms ds k S o (st ms ds S k (ol ms n S k (sumN ms n))).2.length) (opD ms ds S k n) (vC n N ms ds k S o) w = Q at HZ ⊢
  unfold PairAt at C
  generalize vM n N ms ds k S o (st ms ds S k (ol ms n S k (sumN ms n))).2.length = m at C HZ
  generalize vC n N ms ds k S o = cd at C HZ
  unfold paV
  unfold paV at C
  go_enter Try.func38, Try.ntmps38
  go_wp2_with fail
  refine C.out.mono ?_
  rintro e w1 ⟨A1, cap, rfl, HO, b1⟩
  have HE := Lib.hid (HZ.out w1 A1 cap HO.out b1)
  clear b1 HO
  go_wp2_with fail
  exact HE.out
end Go.Proofs.Ytnojnikophpnoaa.Vk

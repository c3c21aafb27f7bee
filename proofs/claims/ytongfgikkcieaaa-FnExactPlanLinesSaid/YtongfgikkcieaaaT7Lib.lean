/- Hides: the program's layoutOf. -/
import Derived.Test.YtongfgikkcieaaaT6Lib
import Derived.Test.YtongfgikkcieaaaH6Lib
import Derived.Test.YtongfgikkcieaaaAwLib
namespace Go.Proofs.Ytongfgikkcieaaa.T7
set_option linter.unusedVariables false
open Go.RowKit Ft Is Ge Qb Hd Ts H2 H5 H6 T1 T2 T3 T4 T5 T6
open Go.Proofs.Ytongfgikkcieaaa.Nm (byt byt_of)

abbrev lyV (n C : Int) (s : ByteArray) (a b c d : Nat) (P : Value) (u : Nat) (fa : Int) : Value := .agg #[.int .i64 n, .int .i64 C, .string s, .int .u64 (a : Int), .int .u64 (b : Int), .int .u64 (c : Int), .int .u64 (d : Int), P, .int .u64 (u : Int), .int .i64 fa]
abbrev lyC (n C : Int) (s : ByteArray) (a b c d : Nat) (P : Value) (u : Nat) (fa : Int) : Obj := .cells #[.int .i64 n, .int .i64 C, .string s, .int .u64 (a : Int), .int .u64 (b : Int), .int .u64 (c : Int), .int .u64 (d : Int), P, .int .u64 (u : Int), .int .i64 fa] 95 (0, 0)
abbrev lyZ : Value := lyV 0 0 ⟨#[]⟩ 0 0 0 0 (.slice none 0 0) 0 0
abbrev lyZo : Obj := lyC 0 0 ⟨#[]⟩ 0 0 0 0 (.slice none 0 0) 0 0
theorem blk10 {w : World} {g : Nat} {t : TypeId} {c0 c1 c2 c3 c4 c5 c6 c7 c8 c9 : Value} (h : w.heap[g]? = some (.cells #[c0, c1, c2, c3, c4, c5, c6, c7, c8, c9] t (0, 0))) :
    w.cell? ⟨g, 0, none⟩ = some c0 ∧ w.cell? ⟨g, 1, none⟩ = some c1 ∧ w.cell? ⟨g, 2, none⟩ = some c2 ∧ w.cell? ⟨g, 3, none⟩ = some c3 ∧ w.cell? ⟨g, 4, none⟩ = some c4 ∧ w.cell? ⟨g, 5, none⟩ = some c5 ∧ w.cell? ⟨g, 6, none⟩ = some c6 ∧ w.cell? ⟨g, 7, none⟩ = some c7 ∧ w.cell? ⟨g, 8, none⟩ = some c8 ∧ w.cell? ⟨g, 9, none⟩ = some c9 :=
  ⟨by rw [cell_of_row _ _ 0 _ _ _ h]; rfl, by rw [cell_of_row _ _ 1 _ _ _ h]; rfl, by rw [cell_of_row _ _ 2 _ _ _ h]; rfl, by rw [cell_of_row _ _ 3 _ _ _ h]; rfl, by rw [cell_of_row _ _ 4 _ _ _ h]; rfl, by rw [cell_of_row _ _ 5 _ _ _ h]; rfl, by rw [cell_of_row _ _ 6 _ _ _ h]; rfl, by rw [cell_of_row _ _ 7 _ _ _ h]; rfl, by rw [cell_of_row _ _ 8 _ _ _ h]; rfl, by rw [cell_of_row _ _ 9 _ _ _ h]; rfl⟩
/-- Ten cells of a block of the call's own, written. -/
def set10 (w0 : World) (g : Nat) (v0 v1 v2 v3 v4 v5 v6 v7 v8 v9 : Value) : World := (((((((((w0.setCell ⟨g, 0, none⟩ v0).setCell ⟨g, 1, none⟩ v1).setCell ⟨g, 2, none⟩ v2).setCell ⟨g, 3, none⟩ v3).setCell ⟨g, 4, none⟩ v4).setCell ⟨g, 5, none⟩ v5).setCell ⟨g, 6, none⟩ v6).setCell ⟨g, 7, none⟩ v7).setCell ⟨g, 8, none⟩ v8).setCell ⟨g, 9, none⟩ v9
theorem below10 {w w0 : World} (h : Below w.heap.size w w0) {g : Nat} (hg : w.heap.size ≤ g) (v0 v1 v2 v3 v4 v5 v6 v7 v8 v9 : Value) : Below w.heap.size w (set10 w0 g v0 v1 v2 v3 v4 v5 v6 v7 v8 v9) :=
  ((below7 h hg v0 v1 v2 v3 v4 v5 v6).setCell (p := ⟨g, 7, none⟩) hg v7 |>.setCell (p := ⟨g, 8, none⟩) hg v8).setCell (p := ⟨g, 9, none⟩) hg v9
theorem heap10 {w0 : World} {g b : Nat} (hb : b ≠ g) (v0 v1 v2 v3 v4 v5 v6 v7 v8 v9 : Value) : (set10 w0 g v0 v1 v2 v3 v4 v5 v6 v7 v8 v9).heap[b]? = w0.heap[b]? := by
  unfold set10
  rw [Below.heap_setCell _ _ _ _ hb, Below.heap_setCell _ _ _ _ hb, Below.heap_setCell _ _ _ _ hb, Below.heap_setCell _ _ _ _ hb, Below.heap_setCell _ _ _ _ hb, Below.heap_setCell _ _ _ _ hb, Below.heap_setCell _ _ _ _ hb, Below.heap_setCell _ _ _ _ hb, Below.heap_setCell _ _ _ _ hb, Below.heap_setCell _ _ _ _ hb]
/-- A row of sets of fields. -/
def arr (k : Nat) (h : Nat → Nat) : Array Value := ((List.range k).map fun j => Value.int .u64 (h j : Int)).toArray
theorem arr_get {k j : Nat} (h : Nat → Nat) (hj : j < k) : (arr k h)[j]? = some (.int .u64 (h j : Int)) := by
  unfold arr
  simp [hj]
theorem arr_set {k i : Nat} (h : Nat → Nat) (hi : i < k) (v : Nat) : (arr k h).setIfInBounds i (.int .u64 (v : Int)) = arr k (fun j => if j = i then v else h j) := by
  apply Array.ext_getElem?
  intro j
  rw [Array.getElem?_setIfInBounds]
  have hs : (arr k h).size = k := by simp [arr]
  by_cases hj : j < k
  · rw [arr_get _ hj, arr_get _ hj]
    by_cases e : i = j
    · subst e; simp [hs, hi]
    · have e2 : ¬ j = i := fun q => e q.symm
      simp [e, e2]
  · have h1 : (arr k h)[j]? = none := Array.getElem?_eq_none (by omega)
    have hs2 : (arr k (fun j => if j = i then v else h j)).size = k := by simp [arr]
    rw [h1, Array.getElem?_eq_none (by omega)]
    have e : ¬ i = j := by omega
    simp [e]
abbrev pcO (k : Nat) (h : Nat → Nat) : Obj := .cells (arr k h) 71 (0, 0)
/-- What a layout is: told, and where its fields lie. -/
def LyAt (n : Nat) (f : Nat → ByteArray) (k : Nat) (g : Nat → Int) (m : Nat) (p : Nat → Int) (w : World) (e : Ending) (w' : World) : Prop :=
  (¬ plC n f k g m p = 0 ∧ e = .returned (.tuple #[lyZ, .int .i64 (plC n f k g m p)]) ∧ Below w.heap.size w w') ∨
  (plC n f k g m p = 0 ∧ ∃ P u, e = .returned (.tuple #[lyV n (f 0).size (jnS f n) (gdN n (f 0).size (qf f) 0) (gdN n (f 0).size (qf f) 1) (gdN n (f 0).size (qf f) 2) (gdN n (f 0).size (qf f) 3) (.slice (some ⟨P, 0, none⟩) k k) u (flI n f g p m), .int .i64 0]) ∧ Below w.heap.size w w' ∧ w.heap.size ≤ P ∧
    (flI n f g p m = -1 → u = usN (f 0).size g p k ∧ w'.heap[P]? = some (pcO k (foP (f 0).size g p))))
open Classical in
theorem plc_val (n : Nat) (f : Nat → ByteArray) (k : Nat) (g : Nat → Int) (m : Nat) (p : Nat → Int) : plC n f k g m p = Ba.argE (tv (HideP n f) && tv (CutsP k g)) (decide (m = k) && tv (FieldsP n (f 0).size m p)) := by
  unfold plC
  by_cases h1 : HideP n f
  · by_cases h2 : CutsP k g
    · rw [if_neg (fun e => e ⟨h1, h2⟩), tv_yes h1, tv_yes h2]
      by_cases h3 : FieldsP n (f 0).size m p
      · rw [tv_yes h3]
        by_cases h4 : m = k
        · rw [if_pos ⟨h3, h4⟩, decide_eq_true h4]; rfl
        · rw [if_neg (fun e => h4 e.2), decide_eq_false h4]; rfl
      · rw [if_neg (fun e => h3 e.1), tv_no h3, Bool.and_false]; rfl
    · rw [if_pos (fun e => h2 e.2), tv_no h2, Bool.and_false]; rfl
  · rw [if_pos (fun e => h1 e.1), tv_no h1, Bool.false_and]; rfl
theorem fields_al {n C m : Nat} {p : Nat → Int} {S : ByteArray} (h : S.size = n * C) : FieldsP n C m p ↔ Ly.Al (-1) ((S.size : Int) - 1) m p := by
  unfold FieldsP Ly.Al
  rw [h, Int.natCast_mul]
  exact Iff.rfl
theorem arg_ne {a b : Bool} (h : ¬ Ba.argE a b = 0) : (Ba.argE a b != 0) = true := by simpa using h

set_option maxRecDepth 100000 in
set_option maxHeartbeats 4000000 in
theorem lay_bad (A : Option Addr) (n c : Nat) (f : Nat → ByteArray) (G : Option Addr) (k gc : Nat) (g : Nat → Int) (P : Option Addr) (m pc : Nat) (p : Nat → Int) (hn : n ≤ 1048576) (hs : ∀ i, i < n → (f i).size ≤ 1048576) (hk : k ≤ 1048576) (hm : m ≤ 1048576) (hcap : n ≤ c) (w : World) (h : H6.Ask w A n f G k g P m p) (hbad : ¬ plC n f k g m p = 0) :
    Calls Try.prog 76 #[.slice A n c, .slice G k gc, .slice P m pc] w (LyAt n f k g m p w) := by
  have CW := Lib.hid (fun W (hb : Below w.heap.size w W) => ihide A n c f hn hs hcap W ((h.rows.below hb (Nat.le_refl _)).more hb.size))
  unfold HoAt at CW
  have HV : Hid (∀ W, Below w.heap.size w W → LyAt n f k g m p w (.returned (.tuple #[lyZ, .int .i64 (plC n f k g m p)])) W) := Lib.hid fun W hb => .inl ⟨hbad, rfl, hb⟩
  generalize LyAt n f k g m p w = POST at HV ⊢
  have VC := Lib.hid (fun W (hb : Below w.heap.size w W) => impl_vc G k gc g hk W ((h.cuts.below hb (Nat.le_refl _)).more hb.size))
  have hlen : tv (HideP n f) = true → (jnS f n).size = n * (f 0).size := fun e => jn_size (hide_al (tv_iff.1 e)).1
  have AL := Lib.hid (fun hi W (hb : Below w.heap.size w W) => Ly.are_any (-1) hi P m pc p hm W ((h.plan.below hb (Nat.le_refl _)).more hb.size))
  have HX := plc_val n f k g m p
  rw [HX] at HV hbad
  have BX := Lib.hid (below_box w lyZo)
  have KX := Lib.hid (heap_alloc_new w lyZo)
  clear h hn hs HX
  by_cases hok : tv (HideP n f) = true
  · have hal := hide_al (tv_iff.1 hok)
    have hsz36 : (jnS f n).size ≤ 36 := by rw [hlen hok]; exact size_36 hal.2.1.2 hal.2.2.2
    have HFP := fields_al (n := n) (C := (f 0).size) (m := m) (p := p) (hlen hok)
    have AL2 := Lib.hid (fun W hb => AL.out (((jnS f n).size : Int) - 1) W hb)
    have hb1 : tv (FieldsP n (f 0).size m p) = tv (Ly.Al (-1) (((jnS f n).size : Int) - 1) m p) := by
      by_cases q : FieldsP n (f 0).size m p
      · rw [tv_yes q, tv_yes (HFP.1 q)]
      · rw [tv_no q, tv_no fun e => q (HFP.2 e)]
    rw [hb1] at HV hbad
    rw [hv_yes (tv_iff.1 hok), hok] at CW
    rw [hok] at HV hbad
    clear AL HFP hb1 hlen hok hal
    generalize tv (Ly.Al (-1) (((jnS f n).size : Int) - 1) m p) = r1 at HV hbad AL2
    generalize tv (CutsP k g) = r0 at HV hbad VC
    generalize gdN n (f 0).size (qf f) 0 = g0 at CW
    generalize gdN n (f 0).size (qf f) 1 = g1 at CW
    generalize gdN n (f 0).size (qf f) 2 = g2 at CW
    generalize gdN n (f 0).size (qf f) 3 = g3 at CW
    generalize jnS f n = S at CW AL2 hsz36
    generalize (f 0).size = D at CW
    have IS := Lib.hid (fun w => isize n D S g0 g1 g2 g3 w)
    have HBX := Lib.hid (fun w => below_box w (bx0 n D S g0 g1 g2 g3))
    by_cases hmk : m = k
    · subst hmk
      have e1 : decide (m = m) = true := by simp
      rw [e1, Bool.true_and, Bool.true_and] at HV hbad
      have CA := Lib.hid (fun w => Ba.arg_any r0 r1 w)
      generalize Ba.argE r0 r1 = cd at HV hbad CA
      have hcd : (cd != 0) = true := by simpa using hbad
      go_enter Try.func76, Try.ntmps76
      go_upto_region 1 with fail
      generalize hw0 : w.alloc _ = w0 at BX KX ⊢
      clear hw0
      have C0 := Lib.hid (CW.out w0 BX.out)
      go_wp2_with fail
      refine C0.out.mono ?_
      rintro e w1 ⟨rfl, b1⟩
      have HB := Lib.hid (below_then BX.out (below_then b1 (HBX.out w1)))
      have KX1 := Lib.hid (blk_old (bx0 n D S g0 g1 g2 g3) (blk_keep b1 KX.out))
      clear b1 C0 HBX
      have VC1 := Lib.hid (VC.out _ HB.out)
      have AL3 := Lib.hid (fun W (hb : Below w.heap.size w W) => AL2.out W hb)
      go_wp2_with fail
      refine (IS.out _).mono ?_
      rintro e w2 ⟨rfl, b2⟩
      have HB2 := Lib.hid (below_then HB.out b2)
      have KX2 := Lib.hid (blk_keep b2 KX1.out)
      clear b2 IS
      have AL4 := Lib.hid (AL3.out _ HB2.out)
      go_wp2_with fail
      refine AL4.out.mono ?_
      rintro e w' ⟨rfl, rfl⟩
      go_wp2_with fail
      refine (VC.out _ HB2.out).mono ?_
      rintro e w3 ⟨rfl, b3⟩
      have HB3 := Lib.hid (below_then HB2.out b3)
      have KX3 := Lib.hid (blk_keep b3 KX2.out)
      clear b3
      go_wp2_with fail
      refine (CA.out _).mono ?_
      rintro e w' ⟨rfl, rfl⟩
      obtain ⟨z0, z1, z2, z3, z4, z5, z6, z7, z8, z9⟩ := blk10 KX3.out
      have hfr := free_row KX3.out
      go_wp2_with fail
      refine bodyPost_ret (v := .tuple #[lyZ, .int .i64 cd]) (by simp [results, Try.results76, go_sem, z0, z1, z2, z3, z4, z5, z6, z7, z8, z9]) rfl (HV.out _ ?_)
      exact below10 HB3.out (Nat.le_refl _) _ _ _ _ _ _ _ _ _ _
    · have e1 : decide (m = k) = false := by simp [hmk]
      have e2 : ((m : Int) == (k : Int)) = false := by simp; omega
      rw [e1, Bool.true_and, Bool.false_and] at HV hbad
      have CA := Lib.hid (fun w => Ba.arg_any r0 false w)
      generalize Ba.argE r0 false = cd at HV hbad CA
      have hcd : (cd != 0) = true := by simpa using hbad
      go_enter Try.func76, Try.ntmps76
      go_upto_region 1 with fail
      generalize hw0 : w.alloc _ = w0 at BX KX ⊢
      clear hw0
      have C0 := Lib.hid (CW.out w0 BX.out)
      go_wp2_with fail
      refine C0.out.mono ?_
      rintro e w1 ⟨rfl, b1⟩
      have HB := Lib.hid (below_then BX.out (below_then b1 (HBX.out w1)))
      have KX1 := Lib.hid (blk_old (bx0 n D S g0 g1 g2 g3) (blk_keep b1 KX.out))
      clear b1 C0 HBX
      have VC1 := Lib.hid (VC.out _ HB.out)
      go_wp2_with fail
      refine (VC.out _ HB.out).mono ?_
      rintro e w3 ⟨rfl, b3⟩
      have HB3 := Lib.hid (below_then HB.out b3)
      have KX3 := Lib.hid (blk_keep b3 KX1.out)
      clear b3
      go_wp2_with fail
      refine (CA.out _).mono ?_
      rintro e w' ⟨rfl, rfl⟩
      obtain ⟨z0, z1, z2, z3, z4, z5, z6, z7, z8, z9⟩ := blk10 KX3.out
      have hfr := free_row KX3.out
      go_wp2_with fail
      refine bodyPost_ret (v := .tuple #[lyZ, .int .i64 cd]) (by simp [results, Try.results76, go_sem, z0, z1, z2, z3, z4, z5, z6, z7, z8, z9]) rfl (HV.out _ ?_)
      exact below10 HB3.out (Nat.le_refl _) _ _ _ _ _ _ _ _ _ _
  · have hok : tv (HideP n f) = false := by simpa using hok
    have AL2 := Lib.hid (fun W hb => AL.out (-1) W hb)
    rw [hv_no hok, hok] at CW
    rw [hok, Bool.false_and] at HV hbad
    clear AL hlen hok
    have hcd : (Ba.argE false (decide (m = k) && tv (FieldsP n (f 0).size m p))) = 1 := rfl
    rw [hcd] at HV
    generalize tv (Ly.Al (-1) (-1) m p) = r1 at AL2
    have IS := Lib.hid (fun w => isize 0 0 ⟨#[]⟩ 0 0 0 0 w)
    have HBX := Lib.hid (fun w => below_box w (bx0 0 0 ⟨#[]⟩ 0 0 0 0))
    clear hcd hbad
    by_cases hmk : m = k
    · subst hmk
      have CA := Lib.hid (fun w => Ba.arg_inv r1 w)
      go_enter Try.func76, Try.ntmps76
      go_upto_region 1 with fail
      generalize hw0 : w.alloc _ = w0 at BX KX ⊢
      clear hw0
      have C0 := Lib.hid (CW.out w0 BX.out)
      go_wp2_with fail
      refine C0.out.mono ?_
      rintro e w1 ⟨rfl, b1⟩
      have HB := Lib.hid (below_then BX.out (below_then b1 (HBX.out w1)))
      have KX1 := Lib.hid (blk_old (bx0 0 0 ⟨#[]⟩ 0 0 0 0) (blk_keep b1 KX.out))
      clear b1 C0 HBX
      have AL3 := Lib.hid (fun W (hb : Below w.heap.size w W) => AL2.out W hb)
      go_wp2_with fail
      refine (IS.out _).mono ?_
      rintro e w2 ⟨rfl, b2⟩
      have HB2 := Lib.hid (below_then HB.out b2)
      have KX2 := Lib.hid (blk_keep b2 KX1.out)
      clear b2 IS
      have AL4 := Lib.hid (AL3.out _ HB2.out)
      go_wp2_with fail
      refine AL4.out.mono ?_
      rintro e w' ⟨rfl, rfl⟩
      go_wp2_with fail
      refine (CA.out _).mono ?_
      rintro e w' ⟨rfl, rfl⟩
      obtain ⟨z0, z1, z2, z3, z4, z5, z6, z7, z8, z9⟩ := blk10 KX2.out
      have hfr := free_row KX2.out
      go_wp2_with fail
      refine bodyPost_ret (v := .tuple #[lyZ, .int .i64 1]) (by simp [results, Try.results76, go_sem, z0, z1, z2, z3, z4, z5, z6, z7, z8, z9]) rfl (HV.out _ ?_)
      exact below10 HB2.out (Nat.le_refl _) _ _ _ _ _ _ _ _ _ _
    · have e2 : ((m : Int) == (k : Int)) = false := by simp; omega
      have CA := Lib.hid (fun w => Ba.arg_inv false w)
      go_enter Try.func76, Try.ntmps76
      go_upto_region 1 with fail
      generalize hw0 : w.alloc _ = w0 at BX KX ⊢
      clear hw0
      have C0 := Lib.hid (CW.out w0 BX.out)
      go_wp2_with fail
      refine C0.out.mono ?_
      rintro e w1 ⟨rfl, b1⟩
      have HB := Lib.hid (below_then BX.out (below_then b1 (HBX.out w1)))
      have KX1 := Lib.hid (blk_old (bx0 0 0 ⟨#[]⟩ 0 0 0 0) (blk_keep b1 KX.out))
      clear b1 C0 HBX
      go_wp2_with fail
      refine (CA.out _).mono ?_
      rintro e w' ⟨rfl, rfl⟩
      generalize hw2 : w1.alloc _ = w2 at HB KX1 ⊢
      clear hw2
      obtain ⟨z0, z1, z2, z3, z4, z5, z6, z7, z8, z9⟩ := blk10 KX1.out
      have hfr := free_row KX1.out
      go_wp2_with fail
      refine bodyPost_ret (v := .tuple #[lyZ, .int .i64 1]) (by simp [results, Try.results76, go_sem, z0, z1, z2, z3, z4, z5, z6, z7, z8, z9]) rfl (HV.out _ ?_)
      exact below10 HB.out (Nat.le_refl _) _ _ _ _ _ _ _ _ _ _
end Go.Proofs.Ytongfgikkcieaaa.T7

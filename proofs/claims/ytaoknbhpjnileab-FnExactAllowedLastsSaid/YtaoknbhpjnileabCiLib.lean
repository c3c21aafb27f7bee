/- The program's choices, and their places. -/
import Derived.Test.YtaoknbhpjnileabChLib
import Derived.Test.YtaoknbhpjnileabLdLib
import Derived.Deep.DeepCutAuto
import Derived.Deep.DeepMust
namespace Go.Proofs.Ytaoknbhpjnileab.Ch
open Go.RowKit Ft Is Ge Qb Fa Fi La Ll Lv Co

theorem info_choice : (Try.prog.info? 135).map (fun i => (i.zero, i.size, i.bytes)) = some (some (.agg #[.int .i64 0, .int .i64 0]), 2, 16) := by kernel_rfl
theorem cells_new2 (w : World) (a b : Value) (t : TypeId) : ∀ j u, [a, b][j]? = some u → (w.alloc (.cells #[a, b] t)).cell? ((⟨w.heap.size, 0, none⟩ : Addr).add j) = some u := by
  intro j u hu
  rw [Addr.add_lit, Nat.zero_add, cell_of_row _ _ _ _ _ (0, 0) (heap_alloc_new _ _)]
  simpa using hu
theorem blk2 {w : World} {g : Nat} {t : TypeId} {c0 c1 : Value} (h : w.heap[g]? = some (.cells #[c0, c1] t (0, 0))) : w.cell? ⟨g, 0, none⟩ = some c0 ∧ w.cell? ⟨g, 1, none⟩ = some c1 :=
  ⟨cell_of_row _ _ _ _ _ _ h, cell_of_row _ _ _ _ _ _ h⟩
theorem keep_cell {w w' : World} {g o : Nat} {v : Value} (hb : Below w.heap.size w w') (h : w.cell? ⟨g, o, none⟩ = some v) : w'.cell? ⟨g, o, none⟩ = some v := (hb.cell (p := ⟨g, o, none⟩) (World.block_lt_of_cell? w _ h)).trans h
theorem own_base {w' : World} {b b' : Nat} {e : TypeId} {size n : Nat} {v : Value} {xs : List Value} (h : w'.ownsRow b e size v n xs) (hb : b' ≤ b) : w'.ownsRow b' e size v n xs :=
  ⟨h.1, by
    rcases h.2 with h0 | ⟨g, cap, cur, hv, hbg, r⟩
    · exact .inl h0
    · exact .inr ⟨g, cap, cur, hv, by omega, r⟩⟩
/-- All that a last, a fit and some feet must keep to be tried. -/
structure Fine (n : Nat) (F : Nat → Nat → Int) (mn mx gi : Int) (p : Nat → Int) (k : Nat) (E : Nat → Nat → Int) : Prop where
  last : ∀ i, i < n → Mild (F i)
  foot : ∀ j, j < k → Mild (E j)
  two : k ≤ 2
  lo : 0 ≤ mn
  hi : mx ≤ 500
  girth : gi ≤ 500
  price : ∀ k, k < 4 → 0 ≤ p k ∧ p k ≤ 100
theorem cost_in {n : Nat} {F : Nat → Nat → Int} {mn mx gi : Int} {p : Nat → Int} {k : Nat} {E : Nat → Nat → Int} (h : Fine n F mn mx gi p k E) {i : Nat} (hr : rk mn mx gi (F i) E k = false) {j : Nat} (hj : j < k) : 0 ≤ ps p (df mn (F i) (E j)) 4 ∧ ps p (df mn (F i) (E j)) 4 ≤ 200000 := by
  have hd : ∀ m, m < 4 → 0 ≤ df mn (F i) (E j) m ∧ df mn (F i) (E j) m ≤ 500 := fun m hm => by
    have hr' := Classical.not_not.1 (rk_no hr hj)
    obtain ⟨q1, q2, q3, q4, q5⟩ := hr'
    have n1 := gap_nn (F i 1) (E j 1)
    have n2 := gap_nn (F i 2) (E j 2)
    have n3 := gap_nn (F i 3) (E j 3)
    have hh := h.hi
    have hg := h.girth
    obtain rfl | rfl | rfl | rfl : m = 0 ∨ m = 1 ∨ m = 2 ∨ m = 3 := by omega
    · show 0 ≤ F i 0 - E j 0 - mn ∧ F i 0 - E j 0 - mn ≤ 500
      have := h.lo
      omega
    · show 0 ≤ gap (F i 1) (E j 1) ∧ gap (F i 1) (E j 1) ≤ 500
      omega
    · show 0 ≤ gap (F i 2) (E j 2) ∧ gap (F i 2) (E j 2) ≤ 500
      omega
    · show 0 ≤ gap (F i 3) (E j 3) ∧ gap (F i 3) (E j 3) ≤ 500
      omega
  have := ps_bd (p := p) (d := df mn (F i) (E j)) (u := 100) (v := 500) (by omega) (n := 4) (fun m hm => ⟨(h.price m hm).1, (h.price m hm).2, (hd m hm).1, (hd m hm).2⟩) 4 (by omega)
  omega
theorem ck_in {n : Nat} {F : Nat → Nat → Int} {mn mx gi : Int} {p : Nat → Int} {k : Nat} {E : Nat → Nat → Int} (h : Fine n F mn mx gi p k E) {i : Nat} (hr : rk mn mx gi (F i) E k = false) : ∀ j, j ≤ k → 0 ≤ ck p mn (F i) E j ∧ ck p mn (F i) E j ≤ j * 200000
  | 0, _ => by simp [ck]
  | j + 1, hj => by
    have h1 := ck_in h hr j (by omega)
    have h2 := cost_in h hr (j := j) (by omega)
    show 0 ≤ ck p mn (F i) E j + ps p (df mn (F i) (E j)) 4 ∧ ck p mn (F i) E j + ps p (df mn (F i) (E j)) 4 ≤ _
    omega
/-- Which lasts are allowed. -/
noncomputable def al (mn mx gi : Int) (F : Nat → Nat → Int) (E : Nat → Nat → Int) (k i : Nat) : Bool := !rk mn mx gi (F i) E k

set_option maxRecDepth 100000 in
set_option maxHeartbeats 8000000 in
theorem choices_any (HG : GapsSaid) (A1 : Option Addr) (n c1 : Nat) (N : Nat → ByteArray) (F : Nat → Nat → Int) (mn mx gi : Int) (A : Option Addr) (c : Nat) (p : Nat → Int) (AF : Option Addr) (k cf : Nat) (E : Nat → Nat → Int) (hn : n ≤ 30) (hfine : Fine n F mn mx gi p k E) (w : World)
    (h1 : Lasts w w.heap.size A1 n N F) (hA : Nums w w.heap.size A 4 p) (h2 : Fs.Ints w w.heap.size 4 AF k E) :
    Calls Try.prog 64 #[.slice A1 n c1, fitV mn mx gi A 4 c, .slice AF k cf] w fun e w' => ∃ v, e = .returned v ∧ Hid (w'.ownsRow w.heap.size 135 2 v (fl (al mn mx gi F E k) n).length (cc (fun i => ck p mn (F i) E k) (fl (al mn mx gi F E k) n))) ∧ Below w.heap.size w w' := by
  obtain ⟨i0, hi0, hz0, hz1, hz2⟩ := info_parts info_choice
  have HI := Lib.hid (And.intro hi0 (And.intro hz0 (And.intro hz1 hz2)))
  have hmf : ∀ (fn : Fn) (first cap : Array Value) (w : World), (Instr.makeFunc fn first cap).run Try.prog w = .ok (.func fn first cap) w := fun _ _ _ _ => rfl
  have hk2 := hfine.two
  have HL := Lib.hid h1
  have HA := Lib.hid hA
  have HF := Lib.hid h2
  have FN := Lib.hid hfine
  have CC := Lib.hid (fun i (hi : i < n) w h => contains_any HG (N i) (F i) mn mx gi A c (hfine.last i hi) AF k cf E hfine.foot (by omega) w h)
  have CS := Lib.hid (fun i (hi : i < n) (hr : rk mn mx gi (F i) E k = false) j (hj : j < k) w hA => cost_any HG (N i) (F i) (E j) mn mx gi A c p (hfine.last i hi) (hfine.foot j hj) hfine.lo hfine.hi hfine.girth hfine.price (rk_no hr hj) w hA)
  have CI := Lib.hid (fun i (hr : rk mn mx gi (F i) E k = false) j (hj : j ≤ k) => ck_in hfine hr j hj)
  have CP := Lib.hid (fun i (hr : rk mn mx gi (F i) E k = false) j (hj : j < k) => cost_in hfine hr hj)
  have HAL : Hid (∀ i, al mn mx gi F E k i = !rk mn mx gi (F i) E k) := Lib.hid fun i => rfl
  generalize al mn mx gi F E k = q at HAL ⊢
  have KF := Lib.hid (heap_alloc_new w (fiC mn mx gi A 4 c 37))
  have HB0 := Lib.hid (below_box w (fiC mn mx gi A 4 c 37))
  clear h1 hA h2 hfine hi0 hz0 hz1 hz2 HG
  go_enter Try.func64, Try.ntmps64
  go_upto_region 1 with fail
  generalize hw0 : w.alloc _ = w0 at KF HB0 ⊢
  clear hw0
  go_wp2_with fail
  go_loopw [7, 8, 9, 10, 11, 13, 16, 32] (fun o _ _ _ _ _ i _ wr => ∃ (m : Nat) (v : Value), m ≤ n ∧ v = o ∧ i = .int .i64 m ∧ Hid (Below w0.heap.size w0 wr) ∧ Hid (wr.ownsRow w0.heap.size 135 2 v (fl q m).length (cc (fun i => ck p mn (F i) E k) (fl q m)))) (fun _ _ _ _ _ _ i _ _ => n - (intOf i).toNat)
  case atStart => exact ⟨0, _, Nat.zero_le _, rfl, rfl, Lib.hid (Below.refl _ _), Lib.hid (World.ownsRow_nil _ _ _ _)⟩
  case round =>
    obtain ⟨m, v, hm, rfl, rfl, HB, HO⟩ := hrel
    by_cases hlt : m < n
    · have HBw := Lib.hid (below_then HB0.out HB.out)
      obtain ⟨b, off, rfl, hb, hc⟩ := (HL.out.below HBw.out (Nat.le_refl _)).2.2 (by omega)
      obtain ⟨x0, x1, x2, x3, x4, x5⟩ := Lasts.cells hc hlt
      obtain ⟨y0, y1, y2, y3⟩ := Ge.blk4 (Ge.blk_keep HB.out KF.out)
      have lf := lt_of_heap (Ge.blk_keep HB.out KF.out)
      have e0 : (0 : Int) ≤ (m : Int) := Int.natCast_nonneg _
      have e1 : (m : Int) < (n : Int) := by omega
      have C := Lib.hid (CC.out m hlt)
      have S := Lib.hid (CS.out m hlt)
      have I := Lib.hid (CI.out m)
      have P := Lib.hid (CP.out m)
      have HQ := Lib.hid (HAL.out m)
      obtain ⟨kl, kt⟩ := Ge.two wr (laC (N m) (F m) 33) (ftgC (N m) (F m) mn mx gi A c 88)
      have KT := Lib.hid kt
      have HBa := Lib.hid (Ge.below2 wr (laC (N m) (F m) 33) (ftgC (N m) (F m) mn mx gi A c 88))
      clear hc hb kl kt CC CS CI CP HAL
      go_upto_region 6 with fail
      generalize hwa : (wr.alloc _).alloc _ = wa at KT HBa ⊢
      clear hwa
      clear x0 x1 x2 x3 x4 x5 y0 y1 y2 y3
      obtain ⟨x0, x1, x2, x3, x4, x5, x6, x7, x8, x9⟩ := ten KT.out
      have HBwa := Lib.hid (below_then HBw.out HBa.out)
      go_wp2_with fail
      refine (C.out _ ((HF.out.below HBwa.out (Nat.le_refl _)).more HBwa.out.size)).mono ?_
      rintro e w1 ⟨rfl, b1⟩
      have HB1 := Lib.hid (below_then HBwa.out b1)
      have HB10 := Lib.hid (HB.out.trans ((below_then HBa.out b1).mono HB.out.size))
      have HO1 := Lib.hid (Ge.row_below HO.out (below_then HBa.out b1))
      have KT1 := Lib.hid (Ge.blk_keep b1 KT.out)
      clear b1 KT HBa HBwa C HBw HO
      clear x0 x1 x2 x3 x4 x5 x6 x7 x8 x9
      generalize rk mn mx gi (F m) E k = r at S I P HQ
      cases r
      rotate_left
      · have HO2 : Hid (w1.ownsRow w0.heap.size 135 2 v (fl q (m + 1)).length (cc (fun i => ck p mn (F i) E k) (fl q (m + 1)))) := Lib.hid (by rw [fl_no HQ.out]; exact HO1.out)
        go_wp2_with fail
        go_roundw
        case rel => exact ⟨m + 1, _, by omega, rfl, by go_num, HB10, HO2⟩
        case measure => simp [intOf]; omega
      · have SY := Lib.hid fun j hj => S.out rfl j hj
        have IY := Lib.hid fun j hj => I.out rfl j hj
        have PY := Lib.hid fun j hj => P.out rfl j hj
        clear S I P
        have KC := Lib.hid (heap_alloc_new w1 (.cells #[.int .i64 (m : Int), .int .i64 0] 135))
        have HBc := Lib.hid (below_box w1 (.cells #[.int .i64 (m : Int), .int .i64 0] 135))
        go_upto_region 8 with fail
        generalize hw2 : w1.alloc _ = w2 at KC HBc ⊢
        clear hw2
        go_wp2_with fail
        go_loopw [13, 32] (fun _ i wr => ∃ j : Nat, j ≤ k ∧ i = .int .i64 j ∧ Hid (Below w1.heap.size w1 wr) ∧ Hid (wr.heap[w1.heap.size]? = some (.cells #[.int .i64 (m : Int), .int .i64 (ck p mn (F m) E j)] 135 (0, 0)))) (fun _ i _ => k - (intOf i).toNat)
        case atStart => exact ⟨0, Nat.zero_le _, rfl, HBc, KC⟩
        case round =>
          obtain ⟨j, hj, rfl, HBr, KX⟩ := hrel
          by_cases hlj : j < k
          · have HB1x := Lib.hid (below_then HB1.out HBr.out)
            obtain ⟨bf, of, rfl, hbf, hcf⟩ := (HF.out.below HB1x.out (Nat.le_refl _)).2.2 (by omega)
            obtain ⟨y0, y1, y2, y3⟩ := Fs.Ints.cells4 hcf hlj
            have e2 : (0 : Int) ≤ (j : Int) := Int.natCast_nonneg _
            have e3 : (j : Int) < (k : Int) := by omega
            have SJ := Lib.hid (SY.out j hlj)
            obtain ⟨i1, i2⟩ := IY.out j (by omega)
            obtain ⟨p1, p2⟩ := PY.out j hlj
            have HK : Hid (ck p mn (F m) E (j + 1) = ck p mn (F m) E j + ps p (df mn (F m) (E j)) 4) := Lib.hid rfl
            have KF := Lib.hid (heap_alloc_new wr (ftC (E j) 35))
            have HBf := Lib.hid (below_box wr (ftC (E j) 35))
            clear hcf hbf
            go_upto_region 11 with fail
            generalize hwf : wr.alloc _ = wf at KF HBf ⊢
            clear hwf y0 y1 y2 y3
            have HBwf := Lib.hid (below_then HB1x.out HBf.out)
            have HB1f := Lib.hid (below_then HBr.out HBf.out)
            have KXf := Lib.hid (Ge.blk_keep HBf.out KX.out)
            have KTf := Lib.hid (Ge.blk_keep HBf.out (Ge.blk_keep HBr.out KT1.out))
            have HAt : Hid (∀ W, Below wf.heap.size wf W → Nums W W.heap.size A 4 p) := Lib.hid fun W h => (HA.out.below (below_then HBwf.out h) (Nat.le_refl _)).more (below_then HBwf.out h).size
            obtain ⟨x0, x1, x2, x3, x4, x5, x6, x7, x8, x9⟩ := ten KTf.out
            obtain ⟨y0, y1, y2, y3⟩ := Ge.blk4 KF.out
            obtain ⟨z0, z1⟩ := blk2 KXf.out
            have lx := lt_of_heap KXf.out
            have lt := lt_of_heap KTf.out
            have ly := lt_of_heap KF.out
            generalize hS2 : ck p mn (F m) E (j + 1) = S2 at HK
            have HS2 := Lib.hid hS2
            clear hS2
            generalize ck p mn (F m) E j = S1 at HK i1 i2 z1 KXf
            generalize ps p (df mn (F m) (E j)) 4 = S0 at HK p1 p2 SJ
            have hws : IntKind.i64.wrap (S1 + S0) = S1 + S0 := IntWalk.i64_in _ (by omega)
            have SD := Lib.hid (SJ.out wf.drew (HAt.out _ (Below.refl _ _).drew))
            clear SJ HAt
            go_region_with (go_at_call 61; refine SD.out.mono ?_; rintro e w5 ⟨rfl, b5⟩; have b5 := below_then (Below.refl wf.heap.size wf).drew b5; have k5 := Ge.blk_keep b5 KXf.out; have z15 := (blk2 k5).2; have fr5 := Ge.blk_free k5 1; have l5 := lt_of_heap k5)
            all_goals
              try simp only [List.getElem_toArray, List.getElem_cons_succ, List.getElem_cons_zero, Act.put, List.setIfInBounds_toArray, List.set_cons_succ, List.set_cons_zero]
              have HBq := Lib.hid ((below_then HB1f.out b5).setCell (p := ⟨w1.heap.size, 1, none⟩) (Nat.le_refl _) (.int .i64 (S1 + S0)))
              have KQ := Lib.hid (Ge.heap_set k5 1 (.int .i64 (S1 + S0)))
              go_wp2_with fail
              go_roundw
              case rel => exact ⟨j + 1, by omega, by go_num, HBq, Lib.hid (by rw [HS2.out, HK.out]; exact KQ.out)⟩
              case measure => simp [intOf]; omega
          · obtain rfl : j = k := by omega
            have HYr := Lib.hid (HB10.out.trans (HBr.out.mono HB10.out.size))
            have HOr := Lib.hid (Ge.row_below HO1.out HBr.out)
            have hqm : q m = true := HQ.out
            obtain ⟨z0, z1⟩ := blk2 KX.out
            have hz := HYr.out.size
            have hle := fl_le q m
            have NC := Lib.hid (cells_new2 wr (.int .i64 (m : Int)) (.int .i64 (ck p mn (F m) E j)) 135)
            go_wp2_with (at_builtin; refine wpList_append_own _ rfl _ _ 92 rfl w0.heap.size 135 i0 _ 2 16 Try.underlying92 HI.out.1 HI.out.2.1 HI.out.2.2.1 HI.out.2.2.2 rfl (by decide) _ _ _ rfl (HOr.out.alloc _) ⟨wr.heap.size, 0, none⟩ 1 1 [.int .i64 (m : Int), .int .i64 (ck p mn (F m) E j)] rfl rfl ?c1 ?c2 ?c3 ?c4 ?c5 ?_)
            case c1 => exact NC.out
            case c2 => simp [Value.oneCell']
            case c3 => unfold maxLen; omega
            case c4 => omega
            case c5 => first | omega | (simp <;> omega)
            intro v' w7 hown7 hgrow _
            have HB7 := Lib.hid ((HYr.out.alloc hz _).grown hgrow (by simp <;> omega) fun g hg => (HOr.out.lt g hg).1)
            have HO7 : Hid (w7.ownsRow w0.heap.size 135 2 v' (fl q (m + 1)).length (cc (fun i => ck p mn (F i) E j) (fl q (m + 1)))) := Lib.hid (by rw [fl_yes hqm, cc_snoc, List.length_append]; exact hown7)
            clear hown7 hgrow
            go_wp2_with fail
            go_roundw
            case rel => exact ⟨m + 1, _, by omega, rfl, by go_num, HB7, HO7⟩
            case measure => simp [intOf]; omega
    · obtain rfl : m = n := by omega
      have HF1 := Lib.hid (below_then HB0.out HB.out)
      have HF2 := Lib.hid (own_base HO.out HB0.out.size)
      go_wp2_with fail
      go_ret
      exact ⟨v, rfl, HF2, HF1.out⟩
end Go.Proofs.Ytaoknbhpjnileab.Ch

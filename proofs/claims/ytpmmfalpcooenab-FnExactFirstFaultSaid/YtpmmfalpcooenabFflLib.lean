/- FirstFault, IsSound: both functions. -/
import Derived.Test.YtpmmfalpcooenabVjLib
import Derived.Test.YtpmmfalpcooenabFstLib
namespace Go.Proofs.Ytpmmfalpcooenab.Ffl
set_option linter.unusedVariables false
open Go.RowKit Go.Maps Ft Is Ge Qb Pt Pv Za Mm Zb Zc Zd Vq Sdq Sdu Uf Ug Uh Uk Uc Vo Vc Vg Vh Vj Fst

/-- A seam's difference is too great. -/
def sB (most : Int) (D : Nat → Int) (j : Nat) : Bool := decide (most < D j)
/-- A piece does not hang on the first one. -/
def pB (P : Nat → Int) (i : Nat) : Bool := decide (¬ P i = 0)
/-- Which fault is the first one. -/
def ffK (k n : Nat) (D P : Nat → Int) (q op most : Int) : Int := match fst (sB most D) k with
  | some _ => 1
  | none => match fst (pB P) n with
    | some _ => 2
    | none => if q = op then 0 else 3
def ffI (k n : Nat) (D P : Nat → Int) (q op most : Int) : Int := match fst (sB most D) k with
  | some j => (j : Int)
  | none => match fst (pB P) n with
    | some i => (i : Int)
    | none => if q = op then 0 else q
theorem ff_seam {k n : Nat} {D P : Nat → Int} {q op most : Int} {j : Nat} (h : ∀ i, i < j → sB most D i = false) (hj : sB most D j = true) (hk : j < k) : ffK k n D P q op most = 1 ∧ ffI k n D P q op most = (j : Int) := by
  unfold ffK ffI; rw [fst_at h hj hk]; exact ⟨rfl, rfl⟩
theorem ff_part {k n : Nat} {D P : Nat → Int} {q op most : Int} {i : Nat} (h0 : ∀ j, j < k → sB most D j = false) (h : ∀ i', i' < i → pB P i' = false) (hi : pB P i = true) (hn : i < n) : ffK k n D P q op most = 2 ∧ ffI k n D P q op most = (i : Int) := by
  unfold ffK ffI; rw [fst_no h0, fst_at h hi hn]; exact ⟨rfl, rfl⟩
theorem ff_open {k n : Nat} {D P : Nat → Int} {q op most : Int} (h0 : ∀ j, j < k → sB most D j = false) (h : ∀ i, i < n → pB P i = false) (hq : ¬ q = op) : ffK k n D P q op most = 3 ∧ ffI k n D P q op most = q := by
  unfold ffK ffI; rw [fst_no h0, fst_no h]; simp [hq]
theorem ff_none {k n : Nat} {D P : Nat → Int} {q op most : Int} (h0 : ∀ j, j < k → sB most D j = false) (h : ∀ i, i < n → pB P i = false) (hq : q = op) : ffK k n D P q op most = 0 ∧ ffI k n D P q op most = 0 := by
  unfold ffK ffI; rw [fst_no h0, fst_no h]; simp [hq]
/-- How many openings there are. -/
noncomputable def opN (n : Nat) (ms : Nat → Nat) (ds : Nat → Nat → Int) (k : Nat) (S : Nat → Int) : Nat := (st ms ds S k (ol ms n S k (sumN ms n))).2.length
theorem opn_le {n : Nat} {N : Nat → ByteArray} {ms : Nat → Nat} {ds : Nat → Nat → Int} {k : Nat} {S : Nat → Int} {o : Int} (h : PatP n N ms ds k S o) : opN n ms ds k S ≤ 80 := by
  obtain ⟨p1, p2, _⟩ := pat_in h
  have h1 := sum_le (ms := ms) (p := n) (fun i hi => (p2 i hi).2)
  have h2 := st_len ms ds S k (ol ms n S k (sumN ms n))
  rw [ol_len] at h2
  have h3 := cc_le (opB ms n S k) (sumN ms n)
  unfold opN
  omega
/-- The fault of a valid pattern, and its place. -/
noncomputable def fK (n : Nat) (ms : Nat → Nat) (ds : Nat → Nat → Int) (k : Nat) (S : Nat → Int) (o most : Int) : Int := ffK k n (dfD ds S) (ptD S k) (opN n ms ds k S : Int) o most
noncomputable def fI (n : Nat) (ms : Nat → Nat) (ds : Nat → Nat → Int) (k : Nat) (S : Nat → Int) (o most : Int) : Int := ffI k n (dfD ds S) (ptD S k) (opN n ms ds k S : Int) o most
theorem fI_zero {n : Nat} {ms : Nat → Nat} {ds : Nat → Nat → Int} {k : Nat} {S : Nat → Int} {o most : Int} (h : fK n ms ds k S o most = 0) : fI n ms ds k S o most = 0 := by
  unfold fK ffK at h
  unfold fI ffI
  split at h
  · cases h
  split at h
  · cases h
  split at h
  · rename_i e
    simp [*]
  · cases h
/-- The code of the arguments. -/
noncomputable def aC (n : Nat) (N : Nat → ByteArray) (ms : Nat → Nat) (ds : Nat → Nat → Int) (k : Nat) (S : Nat → Int) (o most : Int) : Int := Ba.argE (tv (PatP n N ms ds k S o)) (Ba.inB most 0 10000)
noncomputable def rK (n : Nat) (N : Nat → ByteArray) (ms : Nat → Nat) (ds : Nat → Nat → Int) (k : Nat) (S : Nat → Int) (o most : Int) : Int := if aC n N ms ds k S o most = 0 then fK n ms ds k S o most else 0
noncomputable def rI (n : Nat) (N : Nat → ByteArray) (ms : Nat → Nat) (ds : Nat → Nat → Int) (k : Nat) (S : Nat → Int) (o most : Int) : Int := if aC n N ms ds k S o most = 0 then fI n ms ds k S o most else 0
noncomputable def rC (n : Nat) (N : Nat → ByteArray) (ms : Nat → Nat) (ds : Nat → Nat → Int) (k : Nat) (S : Nat → Int) (o most : Int) : Int := if aC n N ms ds k S o most = 0 then (if fK n ms ds k S o most = 0 then 3 else 0) else aC n N ms ds k S o most
noncomputable def sdB (n : Nat) (N : Nat → ByteArray) (ms : Nat → Nat) (ds : Nat → Nat → Int) (k : Nat) (S : Nat → Int) (o most : Int) : Bool := decide (aC n N ms ds k S o most = 0 ∧ fK n ms ds k S o most = 0)
/-- Three numbers. -/
def TriAt (x y c : Int) (w : World) (e : Ending) (w' : World) : Prop := e = .returned (.tuple #[.int .i64 x, .int .i64 y, .int .i64 c]) ∧ Below w.heap.size w w'
def SouAt (r : Bool) (c : Int) (w : World) (e : Ending) (w' : World) : Prop := e = .returned (.tuple #[.bool r, .int .i64 c]) ∧ Below w.heap.size w w'
def DuoAt (x y : Int) (w : World) (e : Ending) (w' : World) : Prop := e = .returned (.tuple #[.int .i64 x, .int .i64 y]) ∧ Below w.heap.size w w'
theorem s_code (g : Nat) (A : Option Addr) (n c : Nat) (N : Nat → ByteArray) (ms : Nat → Nat) (ds : Nat → Nat → Int) (Y : Option Addr) (k sc : Nat) (S : Nat → Int) (o most : Int) (hz : Small n N ms k) (w : World) (h : Boxed w g A n c N ms ds Y k sc S o) :
    Calls Try.prog 98 #[.pointer (some ⟨g, 0, none⟩), .int .i64 most] w fun e' w' => e' = .returned (.int .i64 (aC n N ms ds k S o most)) ∧ Below w.heap.size w w' := by
  have C := Lib.hid (ok g A n c N ms ds Y k sc S o hz w h)
  have CI := Lib.hid (fun w => Ba.in_any most 0 10000 w)
  clear h hz
  unfold aC
  generalize tv (PatP n N ms ds k S o) = r at C ⊢
  generalize Ba.inB most 0 10000 = q at CI ⊢
  go_enter Try.func98, Try.ntmps98
  go_wp2_with fail
  refine C.out.mono ?_
  rintro e w1 ⟨rfl, b1⟩
  cases r
  · go_wp2_with fail
    go_ret
    exact ⟨rfl, b1⟩
  go_wp2_with fail
  refine (CI.out _).mono ?_
  rintro e w2 ⟨rfl, rfl⟩
  cases q
  · go_wp2_with fail
    go_ret
    exact ⟨rfl, b1⟩
  · go_wp2_with fail
    go_ret
    exact ⟨rfl, b1⟩
set_option maxRecDepth 100000 in
set_option maxHeartbeats 2000000 in
theorem s_fault (g : Nat) (A : Option Addr) (n c : Nat) (N : Nat → ByteArray) (ms : Nat → Nat) (ds : Nat → Nat → Int) (Y : Option Addr) (k sc : Nat) (S : Nat → Int) (o most : Int) (hz : Small n N ms k) (hP : PatP n N ms ds k S o) (w : World) (h : Boxed w g A n c N ms ds Y k sc S o) :
    Calls Try.prog 99 #[.pointer (some ⟨g, 0, none⟩), .int .i64 most] w (DuoAt (fK n ms ds k S o most) (fI n ms ds k S o most) w) := by
  obtain ⟨_, hkk, _⟩ := hz.at
  have hon := opn_le hP
  have hn10 := (pat_in hP).1
  have HX := Lib.hid h
  have CD : Hid (∀ j, j < k → ∀ W, Boxed W g A n c N ms ds Y k sc S o → Calls Try.prog 132 #[.pointer (some ⟨g, 0, none⟩), seV (S (j * 4)) (S (j * 4 + 1)) (S (j * 4 + 2)) (S (j * 4 + 3))] W fun e' w' => e' = .returned (.int .i64 (dfD ds S j)) ∧ Below W.heap.size W w') := Lib.hid fun j hj W hW => s_diff g A n c N ms ds Y k sc S o hz hP j hj W hW
  have CP := Lib.hid (fun W hW => s_parts g A n c N ms ds Y k sc S o hz hP W hW)
  have CO : Hid (∀ W, Boxed W g A n c N ms ds Y k sc S o → Calls Try.prog 134 #[.pointer (some ⟨g, 0, none⟩)] W (OneAt (opN n ms ds k S) (opD ms ds S k n) W)) := Lib.hid (fun W hW => s_openings g A n c N ms ds Y k sc S o hz hP W hW)
  have F1 : Hid (∀ j, j < k → (∀ i, i < j → sB most (dfD ds S) i = false) → sB most (dfD ds S) j = true → ∀ W, Below w.heap.size w W → DuoAt (fK n ms ds k S o most) (fI n ms ds k S o most) w (.returned (.tuple #[.int .i64 1, .int .i64 (j : Int)])) W) := Lib.hid fun j hj h1 h2 W hb => by
    obtain ⟨e1, e2⟩ := ff_seam (n := n) (P := ptD S k) (q := (opN n ms ds k S : Int)) (op := o) h1 h2 hj
    unfold fK fI; rw [e1, e2]; exact ⟨rfl, hb⟩
  have F2 : Hid ((∀ j, j < k → sB most (dfD ds S) j = false) → ∀ i, i < n → (∀ i', i' < i → pB (ptD S k) i' = false) → pB (ptD S k) i = true → ∀ W, Below w.heap.size w W → DuoAt (fK n ms ds k S o most) (fI n ms ds k S o most) w (.returned (.tuple #[.int .i64 2, .int .i64 (i : Int)])) W) := Lib.hid fun h0 i hi h1 h2 W hb => by
    obtain ⟨e1, e2⟩ := ff_part (q := (opN n ms ds k S : Int)) (op := o) h0 h1 h2 hi
    unfold fK fI; rw [e1, e2]; exact ⟨rfl, hb⟩
  have F3 : Hid ((∀ j, j < k → sB most (dfD ds S) j = false) → (∀ i, i < n → pB (ptD S k) i = false) → ¬ (opN n ms ds k S : Int) = o → ∀ W, Below w.heap.size w W → DuoAt (fK n ms ds k S o most) (fI n ms ds k S o most) w (.returned (.tuple #[.int .i64 3, .int .i64 (opN n ms ds k S : Int)])) W) := Lib.hid fun h0 h1 hq W hb => by
    obtain ⟨e1, e2⟩ := ff_open h0 h1 hq
    unfold fK fI; rw [e1, e2]; exact ⟨rfl, hb⟩
  have F0 : Hid ((∀ j, j < k → sB most (dfD ds S) j = false) → (∀ i, i < n → pB (ptD S k) i = false) → (opN n ms ds k S : Int) = o → ∀ W, Below w.heap.size w W → DuoAt (fK n ms ds k S o most) (fI n ms ds k S o most) w (.returned (.tuple #[.int .i64 0, .int .i64 0])) W) := Lib.hid fun h0 h1 hq W hb => by
    obtain ⟨e1, e2⟩ := ff_none h0 h1 hq
    unfold fK fI; rw [e1, e2]; exact ⟨rfl, hb⟩
  clear h hz hP
  generalize DuoAt (fK n ms ds k S o most) (fI n ms ds k S o most) w = Q at F1 F2 F3 F0 ⊢
  generalize opN n ms ds k S = q at CO F3 F0 hon
  generalize opD ms ds S k n = od at CO
  generalize dfD ds S = D at CD F1 F2 F3 F0
  generalize ptD S k = PT at CP F2 F3 F0
  go_enter Try.func99, Try.ntmps99
  go_wp2_with fail
  go_loopw [6] (fun i wr => ∃ j : Nat, j ≤ k ∧ i = .int .i64 (j : Int) ∧ Hid (Below w.heap.size w wr) ∧ Hid (∀ i, i < j → sB most D i = false)) (fun i _ => k - (intOf i).toNat)
  case atStart => exact ⟨0, Nat.zero_le _, rfl, Lib.hid (Below.refl _ _), Lib.hid fun i hi => by omega⟩
  case round =>
    obtain ⟨j, hj, rfl, HW, HD⟩ := hrel
    have e0 : (0 : Int) ≤ (j : Int) := Int.natCast_nonneg _
    have HXr := Lib.hid (HX.out.below HW.out)
    obtain ⟨x0, x1, x2⟩ := blk3 HXr.out.blk
    by_cases hlt : j < k
    · obtain ⟨b1, o1, rfl, hb1, hc1⟩ := HXr.out.pat.seams (by omega)
      obtain ⟨u0, u1, u2, u3⟩ := four_cells hc1 hlt
      have e1 : (j : Int) < (k : Int) := by omega
      have CJ := Lib.hid (CD.out j hlt wr HXr.out)
      unfold seV at CJ
      have FJ := Lib.hid (fun h W hb => F1.out j hlt HD.out h W hb)
      have SJ := Lib.hid (fun h => step_no HD.out (k := j) h)
      have hj1 : j + 1 ≤ k := by omega
      generalize S (j * 4) = p0, S (j * 4 + 1) = p1, S (j * 4 + 2) = p2, S (j * 4 + 3) = p3 at u0 u1 u2 u3 CJ
      clear hc1 hj
      go_wp2_with fail
      refine CJ.out.mono ?_
      rintro e w2 ⟨rfl, b2⟩
      have HW2 := Lib.hid (below_then HW.out b2)
      clear b2 x0 x1 x2 u0 u1 u2 u3 CJ
      by_cases hm : most < D j
      · have HZ := Lib.hid (FJ.out (decide_eq_true hm) w2 HW2.out)
        clear FJ SJ F1 F2 F3 F0
        go_wp2_with fail
        exact HZ.out
      · have HS := Lib.hid (SJ.out (decide_eq_false hm))
        have hm' : ¬ most < D j := hm
        clear FJ SJ
        go_wp2_with fail
        go_roundw
        case rel => exact ⟨j + 1, hj1, by go_num, HW2, HS⟩
        case measure => simp [intOf]; omega
    · obtain rfl : j = k := by omega
      have e1 : ¬ (j : Int) < (j : Int) := by omega
      have G2 := Lib.hid (fun i hi h1 h2 W hb => F2.out HD.out i hi h1 h2 W hb)
      have G3 := Lib.hid (fun h1 hq W hb => F3.out HD.out h1 hq W hb)
      have G0 := Lib.hid (fun h1 hq W hb => F0.out HD.out h1 hq W hb)
      have CPr := Lib.hid (CP.out wr HXr.out)
      clear F1 F2 F3 F0 HD CD CP hj
      go_wp2_with fail
      refine CPr.out.mono ?_
      rintro e w2 ⟨A2, cap, rfl, HO, b2⟩
      have HW2 := Lib.hid (below_then HW.out b2)
      have HXw := Lib.hid (HXr.out.below b2)
      have HN := Lib.hid HO.out.nums
      clear b2 CPr HO HW HXr x0 x1 x2 HX
      go_wp2_with fail
      go_loop [8] (fun i => ∃ m : Nat, m ≤ n ∧ i = .int .i64 (m : Int) ∧ Hid (∀ i, i < m → pB PT i = false)) (fun i => n - (intOf i).toNat)
      case atStart => exact ⟨0, Nat.zero_le _, rfl, Lib.hid fun i hi => by omega⟩
      case round =>
        obtain ⟨m, hm, rfl, HE⟩ := hrel
        have f0 : (0 : Int) ≤ (m : Int) := Int.natCast_nonneg _
        by_cases hlt : m < n
        · obtain ⟨b1, o1, rfl, hb1, hc1⟩ := HN.out (by omega)
          have y0 : w2.cell? ⟨b1, o1 + m, none⟩ = some (.int .i64 (PT m)) := hc1 m hlt
          have f1 : (m : Int) < (n : Int) := by omega
          have hm1 : m + 1 ≤ n := by omega
          have GJ := Lib.hid (fun h W hb => G2.out m hlt HE.out h W hb)
          have SJ := Lib.hid (fun h => step_no HE.out (k := m) h)
          clear hc1 hm
          by_cases hz : PT m = 0
          · have HS := Lib.hid (SJ.out (decide_eq_false (not_not_intro hz)))
            rw [hz] at y0
            clear GJ SJ
            go_wp2_with fail
            go_round
            case rel => exact ⟨m + 1, hm1, by go_num, HS⟩
            case measure => simp [intOf]; omega
          · have HZ := Lib.hid (GJ.out (decide_eq_true hz) w2 HW2.out)
            have hz2 : (PT m != 0) = true := by simpa using hz
            clear GJ SJ
            go_wp2_with fail
            exact HZ.out
        · obtain rfl : m = n := by omega
          have f1 : ¬ (m : Int) < (m : Int) := by omega
          have COr := Lib.hid (CO.out w2 HXw.out)
          clear G2 CO hm
          go_wp2_with fail
          refine COr.out.mono ?_
          rintro e w3 ⟨A3, cap3, rfl, _, b3⟩
          have HW3 := Lib.hid (below_then HW2.out b3)
          have HX3 := Lib.hid (HXw.out.below b3)
          obtain ⟨x0, x1, x2⟩ := blk3 HX3.out.blk
          clear b3 COr
          by_cases hq : (q : Int) = o
          · have HZ := Lib.hid (G0.out HE.out hq w3 HW3.out)
            subst hq
            clear G0 G3
            go_wp2_with fail
            exact HZ.out
          · have HZ := Lib.hid (G3.out HE.out hq w3 HW3.out)
            have hq2 : ((q : Int) != o) = true := by simpa using hq
            clear G0 G3
            go_wp2_with fail
            exact HZ.out
theorem patc (w : World) (A : Option Addr) (n c : Nat) (N : Nat → ByteArray) (ms : Nat → Nat) (ds : Nat → Nat → Int) (Y : Option Addr) (k sc : Nat) (S : Nat → Int) (o : Int) (h : PatR w A n N ms ds Y k S) : Boxed (w.alloc (.cells #[.slice A n c, .slice Y k sc, .int .i64 o] 79)) w.heap.size A n c N ms ds Y k sc S o :=
  Boxed.mk (heap_alloc_new w _) (h.below (below_box w _))
set_option maxHeartbeats 2000000 in
theorem spec_ff (A : Option Addr) (n c : Nat) (N : Nat → ByteArray) (ms : Nat → Nat) (ds : Nat → Nat → Int) (Y : Option Addr) (k sc : Nat) (S : Nat → Int) (o most : Int) (hz : Small n N ms k) (w : World) (h : PatR w A n N ms ds Y k S) :
    Calls Try.prog 51 #[paV A n c Y k sc o, .int .i64 most] w (TriAt (rK n N ms ds k S o most) (rI n N ms ds k S o most) (rC n N ms ds k S o most) w) := by
  have HB := Lib.hid (below_box w (.cells #[.slice A n c, .slice Y k sc, .int .i64 o] 79))
  have HX := Lib.hid (patc w A n c N ms ds Y k sc S o h)
  have C := Lib.hid (s_code w.heap.size A n c N ms ds Y k sc S o most hz _ HX.out)
  have CF : Hid (aC n N ms ds k S o most = 0 → ∀ W, Boxed W w.heap.size A n c N ms ds Y k sc S o → Calls Try.prog 99 #[.pointer (some ⟨w.heap.size, 0, none⟩), .int .i64 most] W (DuoAt (fK n ms ds k S o most) (fI n ms ds k S o most) W)) := Lib.hid fun h0 W hW => by
    have hP : PatP n N ms ds k S o := by
      unfold aC Ba.argE at h0
      cases hr : tv (PatP n N ms ds k S o)
      · rw [hr] at h0; simp at h0
      · exact tv_iff.1 hr
    exact s_fault w.heap.size A n c N ms ds Y k sc S o most hz hP W hW
  have QN : Hid (¬ aC n N ms ds k S o most = 0 → ∀ W, Below w.heap.size w W → TriAt (rK n N ms ds k S o most) (rI n N ms ds k S o most) (rC n N ms ds k S o most) w (.returned (.tuple #[.int .i64 0, .int .i64 0, .int .i64 (aC n N ms ds k S o most)])) W) := Lib.hid fun h0 W hb => by
    unfold rK rI rC; rw [if_neg h0, if_neg h0, if_neg h0]; exact ⟨rfl, hb⟩
  have QZ : Hid (aC n N ms ds k S o most = 0 → fK n ms ds k S o most = 0 → ∀ W, Below w.heap.size w W → TriAt (rK n N ms ds k S o most) (rI n N ms ds k S o most) (rC n N ms ds k S o most) w (.returned (.tuple #[.int .i64 0, .int .i64 0, .int .i64 3])) W) := Lib.hid fun h0 h1 W hb => by
    have h2 : fI n ms ds k S o most = 0 := fI_zero h1
    unfold rK rI rC; rw [if_pos h0, if_pos h0, if_pos h0, if_pos h1, h1, h2]; exact ⟨rfl, hb⟩
  have QY : Hid (aC n N ms ds k S o most = 0 → ¬ fK n ms ds k S o most = 0 → ∀ W, Below w.heap.size w W → TriAt (rK n N ms ds k S o most) (rI n N ms ds k S o most) (rC n N ms ds k S o most) w (.returned (.tuple #[.int .i64 (fK n ms ds k S o most), .int .i64 (fI n ms ds k S o most), .int .i64 0])) W) := Lib.hid fun h0 h1 W hb => by
    unfold rK rI rC; rw [if_pos h0, if_pos h0, if_pos h0, if_neg h1]; exact ⟨rfl, hb⟩
  clear h hz
  generalize TriAt (rK n N ms ds k S o most) (rI n N ms ds k S o most) (rC n N ms ds k S o most) w = Q at QN QZ QY ⊢
  generalize aC n N ms ds k S o most = cd at C CF QN QZ QY
  generalize fK n ms ds k S o most = x at CF QZ QY
  generalize fI n ms ds k S o most = y at CF QZ QY
  unfold paV
  go_enter Try.func51, Try.ntmps51
  go_wp2_with fail
  refine C.out.mono ?_
  rintro e w1 ⟨rfl, b1⟩
  have HB1 := Lib.hid (below_then HB.out b1)
  have HX1 := Lib.hid (HX.out.below b1)
  clear b1 C HB HX
  by_cases h0 : cd = 0
  rotate_left
  · have HZ := Lib.hid (QN.out h0 w1 HB1.out)
    have h0' : (cd != 0) = true := by simpa using h0
    clear QN QZ QY CF
    go_wp2_with fail
    exact bodyPost_ret (v := .tuple #[.int .i64 0, .int .i64 0, .int .i64 cd]) (by simp [results, Try.results51, go_sem]) rfl HZ.out
  · subst h0
    have CFr := Lib.hid (CF.out (by first | rfl | trivial) w1 HX1.out)
    clear QN CF
    go_wp2_with fail
    refine CFr.out.mono ?_
    rintro e w2 ⟨rfl, b2⟩
    have HB2 := Lib.hid (below_then HB1.out b2)
    clear b2 CFr
    by_cases h1 : x = 0
    · subst h1
      have HZ := Lib.hid (QZ.out (by first | rfl | trivial) (by first | rfl | trivial) w2 HB2.out)
      clear QZ QY
      go_wp2_with fail
      exact bodyPost_ret (v := .tuple #[.int .i64 0, .int .i64 0, .int .i64 3]) (by simp [results, Try.results51, go_sem]) rfl HZ.out
    · have HZ := Lib.hid (QY.out (by first | rfl | trivial) h1 w2 HB2.out)
      have h1' : (x == 0) = false := by simpa using h1
      clear QZ QY
      go_wp2_with fail
      exact bodyPost_ret (v := .tuple #[.int .i64 x, .int .i64 y, .int .i64 0]) (by simp [results, Try.results51, go_sem]) rfl HZ.out
set_option maxHeartbeats 2000000 in
theorem spec_so (A : Option Addr) (n c : Nat) (N : Nat → ByteArray) (ms : Nat → Nat) (ds : Nat → Nat → Int) (Y : Option Addr) (k sc : Nat) (S : Nat → Int) (o most : Int) (hz : Small n N ms k) (w : World) (h : PatR w A n N ms ds Y k S) :
    Calls Try.prog 55 #[paV A n c Y k sc o, .int .i64 most] w (SouAt (sdB n N ms ds k S o most) (aC n N ms ds k S o most) w) := by
  have HB := Lib.hid (below_box w (.cells #[.slice A n c, .slice Y k sc, .int .i64 o] 79))
  have HX := Lib.hid (patc w A n c N ms ds Y k sc S o h)
  have C := Lib.hid (s_code w.heap.size A n c N ms ds Y k sc S o most hz _ HX.out)
  have CF : Hid (aC n N ms ds k S o most = 0 → ∀ W, Boxed W w.heap.size A n c N ms ds Y k sc S o → Calls Try.prog 99 #[.pointer (some ⟨w.heap.size, 0, none⟩), .int .i64 most] W (DuoAt (fK n ms ds k S o most) (fI n ms ds k S o most) W)) := Lib.hid fun h0 W hW => by
    have hP : PatP n N ms ds k S o := by
      unfold aC Ba.argE at h0
      cases hr : tv (PatP n N ms ds k S o)
      · rw [hr] at h0; simp at h0
      · exact tv_iff.1 hr
    exact s_fault w.heap.size A n c N ms ds Y k sc S o most hz hP W hW
  have QN : Hid (¬ aC n N ms ds k S o most = 0 → ∀ W, Below w.heap.size w W → SouAt (sdB n N ms ds k S o most) (aC n N ms ds k S o most) w (.returned (.tuple #[.bool false, .int .i64 (aC n N ms ds k S o most)])) W) := Lib.hid fun h0 W hb => by
    unfold sdB; rw [decide_eq_false fun e => h0 e.1]; exact ⟨rfl, hb⟩
  have QY : Hid (aC n N ms ds k S o most = 0 → ∀ W, Below w.heap.size w W → SouAt (sdB n N ms ds k S o most) (aC n N ms ds k S o most) w (.returned (.tuple #[.bool (fK n ms ds k S o most == 0), .int .i64 0])) W) := Lib.hid fun h0 W hb => by
    have e : sdB n N ms ds k S o most = (fK n ms ds k S o most == 0) := by
      unfold sdB
      by_cases h1 : fK n ms ds k S o most = 0
      · rw [decide_eq_true ⟨h0, h1⟩]; simp [h1]
      · rw [decide_eq_false fun e => h1 e.2]; simp [h1]
    rw [e, h0]; exact ⟨rfl, hb⟩
  clear h hz
  generalize SouAt (sdB n N ms ds k S o most) (aC n N ms ds k S o most) w = Q at QN QY ⊢
  generalize aC n N ms ds k S o most = cd at C CF QN QY
  generalize fK n ms ds k S o most = x at CF QY
  generalize fI n ms ds k S o most = y at CF
  unfold paV
  go_enter Try.func55, Try.ntmps55
  go_wp2_with fail
  refine C.out.mono ?_
  rintro e w1 ⟨rfl, b1⟩
  have HB1 := Lib.hid (below_then HB.out b1)
  have HX1 := Lib.hid (HX.out.below b1)
  clear b1 C HB HX
  by_cases h0 : cd = 0
  rotate_left
  · have HZ := Lib.hid (QN.out h0 w1 HB1.out)
    have h0' : (cd != 0) = true := by simpa using h0
    clear QN QY CF
    go_wp2_with fail
    exact HZ.out
  · subst h0
    have CFr := Lib.hid (CF.out (by first | rfl | trivial) w1 HX1.out)
    clear QN CF
    go_wp2_with fail
    refine CFr.out.mono ?_
    rintro e w2 ⟨rfl, b2⟩
    have HZ := Lib.hid (QY.out (by first | rfl | trivial) w2 (below_then HB1.out b2))
    clear b2 CFr QY
    go_wp2_with fail
    exact HZ.out
set_option maxRecDepth 100000 in
set_option maxHeartbeats 4000000 in
theorem impl_ff (A : Option Addr) (n c : Nat) (N : Nat → ByteArray) (ms : Nat → Nat) (ds : Nat → Nat → Int) (Y : Option Addr) (k sc : Nat) (S : Nat → Int) (o most : Int) (hz : Small n N ms k) (hw : ∀ i, i < k * 4 → (Lit.int .i64 (S i)).wf = true) (w : World) (h : PatR w A n N ms ds Y k S) :
    Calls Try.prog 53 #[paV A n c Y k sc o, .int .i64 most] w (TriAt (rK n N ms ds k S o most) (rI n N ms ds k S o most) (rC n N ms ds k S o most) w) := by
  obtain ⟨hnn, hkk, _⟩ := hz.at
  have HB := Lib.hid (below_box w (.cells #[.slice A n c, .slice Y k sc, .int .i64 o] 79))
  have HX := Lib.hid (patc w A n c N ms ds Y k sc S o h)
  have C := Lib.hid ((surface_of A n c N ms ds Y k sc S o hz hw _ (h.below HB.out)).mono fun _ _ h => SfAt.cases h)
  have CW := Lib.hid (fun w => Ba.within_any most 0 10000 w)
  have CA := Lib.hid (fun r w => Ba.arg_any r (Ba.inB most 0 10000) w)
  have HT : Hid (tv (PatP n N ms ds k S o) = true → PatP n N ms ds k S o) := Lib.hid fun h => tv_iff.1 h
  have QN : Hid (∀ r, tv (PatP n N ms ds k S o) = r → ¬ Ba.argE r (Ba.inB most 0 10000) = 0 → ∀ W, Below w.heap.size w W → TriAt (rK n N ms ds k S o most) (rI n N ms ds k S o most) (rC n N ms ds k S o most) w (.returned (.tuple #[.int .i64 0, .int .i64 0, .int .i64 (Ba.argE r (Ba.inB most 0 10000))])) W) := Lib.hid fun r hr h0 W hb => by
    subst hr
    unfold rK rI rC aC; rw [if_neg h0, if_neg h0, if_neg h0]; exact ⟨rfl, hb⟩
  have QY : Hid (tv (PatP n N ms ds k S o) = true → Ba.inB most 0 10000 = true → ∀ x y cc, fK n ms ds k S o most = x → fI n ms ds k S o most = y → cc = (if x = 0 then 3 else 0) → ∀ W, Below w.heap.size w W → TriAt (rK n N ms ds k S o most) (rI n N ms ds k S o most) (rC n N ms ds k S o most) w (.returned (.tuple #[.int .i64 x, .int .i64 y, .int .i64 cc])) W) := Lib.hid fun h1 h2 x y cc hx hy hc W hb => by
    have h0 : aC n N ms ds k S o most = 0 := by unfold aC; rw [h1, h2]; rfl
    unfold rK rI rC; rw [if_pos h0, if_pos h0, if_pos h0, hx, hy, hc]; exact ⟨rfl, hb⟩
  have CD := Lib.hid (fun hP B W ea el ec bm P g h1 h2 => differences A n c N ms ds Y k sc S o hz hw hP B W ea el ec bm P g h1 h2)
  have CP := Lib.hid (fun hP W ea el ec bm h1 => parts A n c N ms ds Y k sc S o hz hP W ea el ec bm h1)
  have CO : Hid (PatP n N ms ds k S o → ∀ (B : Nat) (W : World) (ea : Option Addr) (el ec bm : Nat) (P : Nat × Nat → Nat) (g : Lit → Option Value), PatR W A n N ms ds Y k S → Surf B n ms ds (plc ms n) (plc ms n) (mate S k) (.slice ea el ec) bm P g W → Calls Try.prog 105 #[sfV A n c Y k sc o (.slice ea el ec) bm] W (OneAt (opN n ms ds k S) (opD ms ds S k n) W)) := Lib.hid (fun hP B W ea el ec bm P g h1 h2 => openings A n c N ms ds Y k sc S o hz hP B W ea el ec bm P g h1 h2)
  have HL : Hid (PatP n N ms ds k S o → opN n ms ds k S ≤ 80) := Lib.hid opn_le
  have F1 : Hid (∀ j, j < k → (∀ i, i < j → sB most (dfD ds S) i = false) → sB most (dfD ds S) j = true → fK n ms ds k S o most = 1 ∧ fI n ms ds k S o most = (j : Int)) := Lib.hid fun j hj h1 h2 => ff_seam h1 h2 hj
  have F2 : Hid ((∀ j, j < k → sB most (dfD ds S) j = false) → ∀ i, i < n → (∀ i', i' < i → pB (ptD S k) i' = false) → pB (ptD S k) i = true → fK n ms ds k S o most = 2 ∧ fI n ms ds k S o most = (i : Int)) := Lib.hid fun h0 i hi h1 h2 => ff_part h0 h1 h2 hi
  have F3 : Hid ((∀ j, j < k → sB most (dfD ds S) j = false) → (∀ i, i < n → pB (ptD S k) i = false) → ¬ (opN n ms ds k S : Int) = o → fK n ms ds k S o most = 3 ∧ fI n ms ds k S o most = (opN n ms ds k S : Int)) := Lib.hid fun h0 h1 hq => ff_open h0 h1 hq
  have F0 : Hid ((∀ j, j < k → sB most (dfD ds S) j = false) → (∀ i, i < n → pB (ptD S k) i = false) → (opN n ms ds k S : Int) = o → fK n ms ds k S o most = 0 ∧ fI n ms ds k S o most = 0) := Lib.hid fun h0 h1 hq => ff_none h0 h1 hq
  clear h hz hw
  generalize TriAt (rK n N ms ds k S o most) (rI n N ms ds k S o most) (rC n N ms ds k S o most) w = Q at QN QY ⊢
  generalize Ba.inB most 0 10000 = q0 at CW CA QN QY
  generalize fK n ms ds k S o most = x at QY F1 F2 F3 F0
  generalize fI n ms ds k S o most = y at QY F1 F2 F3 F0
  generalize opN n ms ds k S = q at CO F3 F0 HL
  generalize opD ms ds S k n = od at CO
  generalize dfD ds S = D at CD F1 F2 F3 F0
  generalize ptD S k = PT at CP F2 F3 F0
  unfold paV
  unfold paV sfZ sfV at C
  unfold sfV at CD CP CO
  generalize tv (PatP n N ms ds k S o) = r at C HT QN QY
  go_enter Try.func53, Try.ntmps53
  go_wp2_with fail
  refine C.out.mono ?_
  rintro e w1 ⟨b1, ⟨rfl, rfl⟩ | ⟨rfl, ea, el, ec, bm, P, g, rfl, HS⟩⟩
  · have HQ := Lib.hid (below_then HB.out b1)
    have CAr := Lib.hid (fun w => CA.out false w)
    have HZ := Lib.hid (QN.out false rfl (by cases q0 <;> decide) _ (HQ.out.alloc HQ.out.size (suC (.slice none 0 0) (.slice none 0 0) (.int .i64 0) (.slice none 0 0) (.map none))))
    rw [show Ba.argE false q0 = 1 from by cases q0 <;> rfl] at CAr HZ
    clear b1 C HT QN QY CD CP CO HL F1 F2 F3 F0 CA HX HB
    go_wp2_with fail
    refine (CW.out _).mono ?_
    rintro e w2 ⟨rfl, rfl⟩
    go_wp2_with fail
    refine (CAr.out _).mono ?_
    rintro e w2 ⟨rfl, rfl⟩
    go_wp2_with fail
    exact bodyPost_ret (v := .tuple #[.int .i64 0, .int .i64 0, .int .i64 1]) (by simp [results, Try.results53, go_sem]) rfl HZ.out
  · have hP := HT.out (by first | rfl | trivial)
    have CD := Lib.hid (CD.out hP)
    have CP := Lib.hid (CP.out hP)
    have CO := Lib.hid (CO.out hP)
    have hq80 := HL.out hP
    have HQ := Lib.hid (below_then HB.out b1)
    have BX := Lib.hid (below_box w1 (suC (.slice A n c) (.slice Y k sc) (.int .i64 o) (.slice ea el ec) (.map (some bm))))
    have KX := Lib.hid (heap_alloc_new w1 (suC (.slice A n c) (.slice Y k sc) (.int .i64 o) (.slice ea el ec) (.map (some bm))))
    have HQ2 := Lib.hid (below_then HQ.out BX.out)
    have HX2 := Lib.hid ((HX.out.below b1).below BX.out)
    have HS2 := Lib.hid (HS.out.below BX.out)
    have CAr := Lib.hid (fun w => CA.out true w)
    obtain ⟨w2, hw2⟩ : ∃ w2, w1.alloc (suC (.slice A n c) (.slice Y k sc) (.int .i64 o) (.slice ea el ec) (.map (some bm))) = w2 := ⟨_, rfl⟩
    rw [hw2] at BX KX HQ2 HX2 HS2
    clear b1 C HT HL CA HX HB HS BX
    go_wp2_with (rw [hw2])
    refine (CW.out _).mono ?_
    rintro e w3 ⟨rfl, hw3⟩
    subst hw3
    clear CW
    go_wp2_with fail
    refine (CAr.out _).mono ?_
    rintro e w3 ⟨rfl, hw3⟩
    subst hw3
    clear CAr
    cases q0
    · have HZ := Lib.hid (QN.out true rfl (by decide) _ HQ2.out)
      rw [show Ba.argE true false = 2 from rfl] at HZ
      rw [show Ba.argE true false = 2 from rfl]
      clear QN QY CD CP CO F1 F2 F3 F0 KX HX2 HS2
      go_wp2_with fail
      exact bodyPost_ret (v := .tuple #[.int .i64 0, .int .i64 0, .int .i64 2]) (by simp [results, Try.results53, go_sem]) rfl HZ.out
    rw [show Ba.argE true true = 0 from rfl]
    have QYY := Lib.hid (QY.out (by first | rfl | trivial) (by first | rfl | trivial))
    clear QN QY hw2
    obtain ⟨v0, v1, v2, v3, v4⟩ := blk5 KX.out
    have CDr := Lib.hid (CD.out _ w2 ea el ec bm P g HX2.out.pat HS2.out)
    clear CD
    go_wp2_with fail
    refine CDr.out.mono ?_
    rintro e w3 ⟨A3, c3, rfl, HO, b3⟩
    have HQ3 := Lib.hid (below_then HQ2.out b3)
    have KX3 := Lib.hid (blk_keep b3 KX.out)
    have HX3 := Lib.hid (HX2.out.below b3)
    have HS3 := Lib.hid (HS2.out.below b3)
    have HN := Lib.hid HO.out.nums
    clear b3 HO CDr v0 v1 v2 v3 v4 HQ2 KX HX2 HS2 HQ
    go_wp2_with fail
    go_loop [10, 11, 30] (fun _ _ i => ∃ j : Nat, j ≤ k ∧ i = .int .i64 (j : Int) ∧ Hid (∀ i, i < j → sB most D i = false)) (fun _ _ i => k - (intOf i).toNat)
    case atStart => exact ⟨0, Nat.zero_le _, rfl, Lib.hid fun i hi => by omega⟩
    case round =>
      obtain ⟨j, hj, rfl, HD⟩ := hrel
      have e0 : (0 : Int) ≤ (j : Int) := Int.natCast_nonneg _
      by_cases hlt : j < k
      · obtain ⟨b1, o1, rfl, hb1, hc1⟩ := HN.out (by omega)
        have y0 : w3.cell? ⟨b1, o1 + j, none⟩ = some (.int .i64 (D j)) := hc1 j hlt
        have e1 : (j : Int) < (k : Int) := by omega
        have hj1 : j + 1 ≤ k := by omega
        clear hc1 hj
        by_cases hm : most < D j
        · obtain ⟨hx, hy⟩ := F1.out j hlt HD.out (decide_eq_true hm)
          have HZ := Lib.hid (QYY.out _ _ 0 hx hy rfl w3 HQ3.out)
          clear F1 F2 F3 F0 QYY CP CO
          go_wp2_with fail
          exact bodyPost_ret (v := .tuple #[.int .i64 1, .int .i64 (j : Int), .int .i64 0]) (by simp [results, Try.results53, go_sem]) rfl HZ.out
        · have HS := Lib.hid (step_no HD.out (k := j) (decide_eq_false hm))
          have hm' : ¬ most < D j := hm
          go_wp2_with fail
          go_round
          case rel => exact ⟨j + 1, hj1, by go_num, HS⟩
          case measure => simp [intOf]; omega
      · obtain rfl : j = k := by omega
        have e1 : ¬ (j : Int) < (j : Int) := by omega
        have G2 := Lib.hid (F2.out HD.out)
        have G3 := Lib.hid (F3.out HD.out)
        have G0 := Lib.hid (F0.out HD.out)
        obtain ⟨v0, v1, v2, v3, v4⟩ := blk5 KX3.out
        have CPr := Lib.hid (CP.out w3 ea el ec bm HX3.out.pat)
        clear F1 F2 F3 F0 HD CP hj HN
        go_wp2_with fail
        refine CPr.out.mono ?_
        rintro e w4 ⟨A4, c4, rfl, HO, b4⟩
        have HQ4 := Lib.hid (below_then HQ3.out b4)
        have KX4 := Lib.hid (blk_keep b4 KX3.out)
        have HX4 := Lib.hid (HX3.out.below b4)
        have HS4 := Lib.hid (HS3.out.below b4)
        have HN := Lib.hid HO.out.nums
        clear b4 HO CPr v0 v1 v2 v3 v4 HQ3 KX3 HX3 HS3
        go_wp2_with fail
        go_loop [12, 13, 43] (fun _ _ i => ∃ m : Nat, m ≤ n ∧ i = .int .i64 (m : Int) ∧ Hid (∀ i, i < m → pB PT i = false)) (fun _ _ i => n - (intOf i).toNat)
        case atStart => exact ⟨0, Nat.zero_le _, rfl, Lib.hid fun i hi => by omega⟩
        case round =>
          obtain ⟨m, hm, rfl, HE⟩ := hrel
          have f0 : (0 : Int) ≤ (m : Int) := Int.natCast_nonneg _
          by_cases hlt2 : m < n
          · obtain ⟨b1, o1, rfl, hb1, hc1⟩ := HN.out (by omega)
            have y0 : w4.cell? ⟨b1, o1 + m, none⟩ = some (.int .i64 (PT m)) := hc1 m hlt2
            have f1 : (m : Int) < (n : Int) := by omega
            have hm1 : m + 1 ≤ n := by omega
            clear hc1 hm
            by_cases hzz : PT m = 0
            · have HS := Lib.hid (step_no HE.out (k := m) (decide_eq_false (not_not_intro hzz)))
              rw [hzz] at y0
              go_wp2_with fail
              go_round
              case rel => exact ⟨m + 1, hm1, by go_num, HS⟩
              case measure => simp [intOf]; omega
            · obtain ⟨hx, hy⟩ := G2.out m hlt2 HE.out (decide_eq_true hzz)
              have HZ := Lib.hid (QYY.out _ _ 0 hx hy rfl w4 HQ4.out)
              have hz2 : (PT m != 0) = true := by simpa using hzz
              clear G2 G3 G0 QYY CO
              go_wp2_with fail
              exact bodyPost_ret (v := .tuple #[.int .i64 2, .int .i64 (m : Int), .int .i64 0]) (by simp [results, Try.results53, go_sem]) rfl HZ.out
          · obtain rfl : m = n := by omega
            have f1 : ¬ (m : Int) < (m : Int) := by omega
            obtain ⟨v0, v1, v2, v3, v4⟩ := blk5 KX4.out
            have COr := Lib.hid (CO.out _ w4 ea el ec bm P g HX4.out.pat HS4.out)
            clear G2 CO hm HN
            go_wp2_with fail
            refine COr.out.mono ?_
            rintro e w5 ⟨A5, c5, rfl, _, b5⟩
            have HQ5 := Lib.hid (below_then HQ4.out b5)
            have HX5 := Lib.hid (HX4.out.below b5)
            obtain ⟨x0, x1, x2⟩ := blk3 HX5.out.blk
            clear b5 COr v0 v1 v2 v3 v4 HQ4 KX4 HX4 HS4
            by_cases hq : (q : Int) = o
            · obtain ⟨hx, hy⟩ := G0.out HE.out hq
              have HZ := Lib.hid (QYY.out _ _ 3 hx hy rfl w5 HQ5.out)
              subst hq
              clear G0 G3 QYY
              go_wp2_with fail
              exact bodyPost_ret (v := .tuple #[.int .i64 0, .int .i64 0, .int .i64 3]) (by simp [results, Try.results53, go_sem]) rfl HZ.out
            · obtain ⟨hx, hy⟩ := G3.out HE.out hq
              have HZ := Lib.hid (QYY.out _ _ 0 hx hy rfl w5 HQ5.out)
              have hq2 : ((q : Int) != o) = true := by simpa using hq
              clear G0 G3 QYY
              go_wp2_with fail
              exact bodyPost_ret (v := .tuple #[.int .i64 3, .int .i64 (q : Int), .int .i64 0]) (by simp [results, Try.results53, go_sem]) rfl HZ.out
theorem impl_so (A : Option Addr) (n c : Nat) (N : Nat → ByteArray) (ms : Nat → Nat) (ds : Nat → Nat → Int) (Y : Option Addr) (k sc : Nat) (S : Nat → Int) (o most : Int) (hz : Small n N ms k) (hw : ∀ i, i < k * 4 → (Lit.int .i64 (S i)).wf = true) (w : World) (h : PatR w A n N ms ds Y k S) :
    Calls Try.prog 56 #[paV A n c Y k sc o, .int .i64 most] w (SouAt (sdB n N ms ds k S o most) (aC n N ms ds k S o most) w) := by
  have HB := Lib.hid (below_box w (.cells #[.slice A n c, .slice Y k sc, .int .i64 o] 79))
  have C := Lib.hid (impl_ff A n c N ms ds Y k sc S o most hz hw _ (h.below HB.out))
  have CC : rC n N ms ds k S o most = 3 ∧ sdB n N ms ds k S o most = true ∧ aC n N ms ds k S o most = 0 ∨ ¬ rC n N ms ds k S o most = 3 ∧ sdB n N ms ds k S o most = false ∧ rC n N ms ds k S o most = aC n N ms ds k S o most := by
    have ha : aC n N ms ds k S o most = 0 ∨ aC n N ms ds k S o most = 1 ∨ aC n N ms ds k S o most = 2 := by
      unfold aC Ba.argE
      split
      · split <;> simp
      · simp
    unfold rC sdB
    rcases ha with e | e | e
    · rw [e]
      simp only [if_true, true_and]
      by_cases h1 : fK n ms ds k S o most = 0
      · left; rw [if_pos h1, decide_eq_true h1]; simp
      · right; rw [if_neg h1, decide_eq_false h1]; simp
    · right; rw [e]; simp
    · right; rw [e]; simp
  clear h hz hw
  unfold TriAt at C
  generalize sdB n N ms ds k S o most = sd at CC ⊢
  generalize aC n N ms ds k S o most = cd at CC ⊢
  generalize rC n N ms ds k S o most = rc at C CC
  generalize rK n N ms ds k S o most = x at C
  generalize rI n N ms ds k S o most = y at C
  unfold paV at C ⊢
  rcases CC with ⟨rfl, rfl, rfl⟩ | ⟨h3, rfl, rfl⟩
  · go_enter Try.func56, Try.ntmps56
    go_wp2_with fail
    refine C.out.mono ?_
    rintro e w2 ⟨rfl, b2⟩
    have HZ : Hid (SouAt true 0 w (.returned (.tuple #[.bool true, .int .i64 0])) w2) := Lib.hid ⟨rfl, below_then HB.out b2⟩
    clear b2 C
    go_wp2_with fail
    exact bodyPost_ret (v := .tuple #[.bool true, .int .i64 0]) (by simp [results, Try.results56, go_sem]) rfl HZ.out
  · have h3' : (rc == 3) = false := by simpa using h3
    go_enter Try.func56, Try.ntmps56
    go_wp2_with fail
    refine C.out.mono ?_
    rintro e w2 ⟨rfl, b2⟩
    have HZ : Hid (SouAt false rc w (.returned (.tuple #[.bool false, .int .i64 rc])) w2) := Lib.hid ⟨rfl, below_then HB.out b2⟩
    clear b2 C
    go_wp2_with fail
    exact bodyPost_ret (v := .tuple #[.bool false, .int .i64 rc]) (by simp [results, Try.results56, go_sem]) rfl HZ.out
end Go.Proofs.Ytpmmfalpcooenab.Ffl

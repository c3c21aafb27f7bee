/- Whether a pattern is valid: the spec's. -/
import Derived.Test.YtpmmfalpcooenabPtLib
import Derived.Test.YtpmmfalpcooenabNmWalks
import Derived.Test.YtpmmfalpcooenabBaLib
import Derived.Deep.DeepCutAuto
import Derived.Deep.RegionHeld3
import Derived.RegionTactic
namespace Go.Proofs.Ytpmmfalpcooenab.Pv
set_option linter.unusedVariables false
open Go.RowKit Ft Is Ge Qb Pt

/-- A piece that is valid. -/
def PcP (s : ByteArray) (m : Nat) (d : Nat → Int) : Prop := Nm.IsNm s ∧ (3 ≤ m ∧ m ≤ 8) ∧ ∀ j, j < m → inB (d j) 1 10000 = true
theorem nm_spec (s : ByteArray) (hs : s.size ≤ maxLen) (w : World) : Calls Try.prog 123 #[.string s] w fun e w' => e = .returned (.bool (tv (Nm.IsNm s))) ∧ Below w.heap.size w w' :=
  (Nm.spec_is s w hs).mono fun _ _ t => tells_tv t
set_option maxRecDepth 100000 in
theorem one (s : ByteArray) (A : Option Addr) (m c : Nat) (d : Nat → Int) (hs : s.size ≤ maxLen) (hm : m ≤ 1048576) (b o : Nat) (w : World) (h0 : w.cell? ⟨b, o, none⟩ = some (.string s)) (h1 : w.cell? ⟨b, o + 1, none⟩ = some (.slice A m c)) (hA : Nums w w.heap.size A m d) :
    Calls Try.prog 157 #[.pointer (some ⟨b, o, none⟩)] w fun e w' => e = .returned (.bool (tv (PcP s m d))) ∧ Below w.heap.size w w' := by
  have HA := Lib.hid hA
  have PN : Hid (∀ j, j < m → inB (d j) 1 10000 = false → tv (PcP s m d) = false) := Lib.hid fun j hj h => tv_no fun q => by rw [q.2.2 j hj] at h; cases h
  have PY : Hid ((∀ j, j < m → inB (d j) 1 10000 = true) → tv (PcP s m d) = (tv (Nm.IsNm s) && inB (m : Int) 3 8)) := Lib.hid fun h => by
    by_cases q : Nm.IsNm s
    · cases r : inB (m : Int) 3 8
      · rw [tv_yes q, tv_no fun z => by
          have := z.2.1
          have y : inB (m : Int) 3 8 = true := by unfold inB; simp; omega
          rw [y] at r; cases r]
        rfl
      · have := Ba.in_of r
        rw [tv_yes q, tv_yes ⟨q, ⟨by omega, by omega⟩, h⟩]
        rfl
    · rw [tv_no q, tv_no fun z => q z.1]; rfl
  have CN := Lib.hid (nm_spec s hs w)
  have CI := Lib.hid (fun a l h w => in_any a l h w)
  clear hA
  generalize tv (PcP s m d) = r at PN PY ⊢
  generalize tv (Nm.IsNm s) = rn at PY CN
  go_enter Try.func157, Try.ntmps157
  go_wp2_with fail
  go_loopw [3] (fun i wr => ∃ k : Nat, k ≤ m ∧ i = .int .i64 (k : Int) ∧ w = wr ∧ Hid (∀ j, j < k → inB (d j) 1 10000 = true)) (fun i _ => m - (intOf i).toNat)
  case atStart => exact ⟨0, Nat.zero_le _, rfl, rfl, Lib.hid fun j hj => by omega⟩
  case round =>
    obtain ⟨k, hk, rfl, rfl, HD⟩ := hrel
    have e0 : (0 : Int) ≤ (k : Int) := Int.natCast_nonneg _
    by_cases hlt : k < m
    · obtain ⟨b1, o1, rfl, hb1, hc1⟩ := HA.out (by omega)
      have x0 := hc1 k hlt
      have e1 : (k : Int) < (m : Int) := by omega
      have PNk := Lib.hid (PN.out k hlt)
      have HS := Lib.hid (fun h => step_all (p := fun j => inB (d j) 1 10000) HD.out (k := k) h)
      have C := Lib.hid (CI.out (d k) 1 10000 w)
      generalize inB (d k) 1 10000 = q at PNk HS C
      generalize d k = u at x0 C
      clear hc1 hk HD
      go_wp2_with fail
      refine C.out.mono ?_
      rintro e w' ⟨rfl, rfl⟩
      cases q
      · have HE := Lib.hid (PNk.out rfl)
        go_wp2_with fail
        go_ret
        exact ⟨Ft.ret_bool HE.out.symm, Below.refl _ _⟩
      · have HDD := Lib.hid (HS.out rfl)
        go_wp2_with fail
        go_roundw
        case rel => exact ⟨k + 1, by omega, by go_num, by first | rfl | trivial, HDD⟩
        case measure => simp [intOf]; omega
    · have HE := Lib.hid (PY.out fun j hj => HD.out j (by omega))
      have e1 : ¬ (k : Int) < (m : Int) := by omega
      have C := Lib.hid (fun w => CI.out (m : Int) 3 8 w)
      generalize inB (m : Int) 3 8 = q at HE C
      clear hk HD
      cases rn
      · go_wp2_with fail
        refine CN.out.mono ?_
        rintro e w1 ⟨rfl, b1⟩
        go_wp2_with fail
        go_ret
        exact ⟨Ft.ret_bool HE.out.symm, b1⟩
      · go_wp2_with fail
        refine CN.out.mono ?_
        rintro e w1 ⟨rfl, b1⟩
        have HB := Lib.hid b1
        have y1 := (b1.cell (p := ⟨b, o + 1, none⟩) (World.block_lt_of_cell? w _ h1)).trans h1
        clear b1
        go_wp2_with fail
        refine (C.out _).mono ?_
        rintro e w' ⟨rfl, rfl⟩
        go_wp2_with fail
        go_ret
        exact ⟨Ft.ret_bool HE.out.symm, HB.out⟩
/-- An edge exists. -/
def edB (n : Nat) (ms : Nat → Nat) (a e : Int) : Bool := inB a 0 ((n : Int) - 1) && inB e 0 ((ms a.toNat : Int) - 1)
theorem ed_iff {n : Nat} {ms : Nat → Nat} {a e : Int} : edB n ms a e = true ↔ (0 ≤ a ∧ a < n) ∧ (0 ≤ e ∧ e < ms a.toNat) := by
  unfold edB inB; simp; omega
/-- A pattern in its box. -/
structure Boxed (w : World) (g : Nat) (A : Option Addr) (n c : Nat) (N : Nat → ByteArray) (ms : Nat → Nat) (ds : Nat → Nat → Int) (Y : Option Addr) (k sc : Nat) (S : Nat → Int) (o : Int) : Prop where
  blk : w.heap[g]? = some (.cells #[.slice A n c, .slice Y k sc, .int .i64 o] 79 (0, 0))
  pat : PatR w A n N ms ds Y k S
theorem Boxed.below {w w' : World} {g : Nat} {A Y : Option Addr} {n c k sc : Nat} {N : Nat → ByteArray} {ms : Nat → Nat} {ds : Nat → Nat → Int} {S : Nat → Int} {o : Int} (h : Boxed w g A n c N ms ds Y k sc S o) (hb : Below w.heap.size w w') : Boxed w' g A n c N ms ds Y k sc S o :=
  ⟨blk_keep hb h.blk, h.pat.below hb⟩
set_option maxHeartbeats 1000000 in
theorem edge (g : Nat) (A : Option Addr) (n c : Nat) (N : Nat → ByteArray) (ms : Nat → Nat) (ds : Nat → Nat → Int) (Y : Option Addr) (k sc : Nat) (S : Nat → Int) (o : Int) (a e : Int) (hz : Small n N ms k) (w : World) (h : Boxed w g A n c N ms ds Y k sc S o) :
    Calls Try.prog 165 #[.pointer (some ⟨g, 0, none⟩), .int .i64 a, .int .i64 e] w fun e' w' => e' = .returned (.bool (edB n ms a e)) ∧ w = w' := by
  obtain ⟨hn, _, hi⟩ := hz.at
  obtain ⟨As, cs, hR⟩ := h.pat.pcs
  obtain ⟨x0, x1, x2⟩ := blk3 h.blk
  have C1 := Lib.hid (fun w => in_any a 0 ((n : Int) - 1) w)
  cases r : inB a 0 ((n : Int) - 1)
  · rw [r] at C1
    have HE : Hid (edB n ms a e = false) := Lib.hid (by unfold edB; rw [r]; rfl)
    clear h hR hi r
    go_enter Try.func165, Try.ntmps165
    go_wp2_with fail
    refine (C1.out _).mono ?_
    rintro e' w' ⟨rfl, rfl⟩
    go_wp2_with fail
    go_ret
    exact ⟨Ft.ret_bool HE.out.symm, rfl⟩
  · rw [r] at C1
    have hr := Ba.in_of r
    obtain ⟨j, rfl⟩ : ∃ j : Nat, a = (j : Int) := ⟨a.toNat, by omega⟩
    have hj : j < n := by omega
    have e0 : (0 : Int) ≤ (j : Int) := Int.natCast_nonneg _
    have e1 : (j : Int) < (n : Int) := by omega
    have HE : Hid (edB n ms (j : Int) e = inB e 0 ((ms j : Int) - 1)) := Lib.hid (by unfold edB; rw [r]; rfl)
    have C2 := Lib.hid (fun w => in_any e 0 ((ms j : Int) - 1) w)
    obtain ⟨b1, o1, rfl, hb1, hc1⟩ := hR.out (by omega)
    have y1 := (hc1 j hj).2
    have hmj := (hi j hj).2
    generalize inB e 0 ((ms j : Int) - 1) = q at HE C2
    generalize ms j = m at y1 C2 hmj
    clear h hR hi r hc1 hr
    go_enter Try.func165, Try.ntmps165
    go_wp2_with fail
    refine (C1.out _).mono ?_
    rintro e' w' ⟨rfl, rfl⟩
    go_wp2_with fail
    refine (C2.out _).mono ?_
    rintro e' w' ⟨rfl, rfl⟩
    go_wp2_with fail
    go_ret
    exact ⟨Ft.ret_bool HE.out.symm, rfl⟩
def sdB (n : Nat) (ms : Nat → Nat) (a b c d : Int) : Bool := edB n ms a b && edB n ms c d
set_option maxHeartbeats 1000000 in
theorem seam (g : Nat) (A : Option Addr) (n c : Nat) (N : Nat → ByteArray) (ms : Nat → Nat) (ds : Nat → Nat → Int) (Y : Option Addr) (k sc : Nat) (S : Nat → Int) (o : Int) (s0 s1 s2 s3 : Int) (hz : Small n N ms k) (w : World) (h : Boxed w g A n c N ms ds Y k sc S o) :
    Calls Try.prog 158 #[.pointer (some ⟨g, 0, none⟩), seV s0 s1 s2 s3] w fun e' w' => e' = .returned (.bool (sdB n ms s0 s1 s2 s3)) ∧ Below w.heap.size w w' := by
  have HB := Lib.hid (below_box w (.cells #[.int .i64 s0, .int .i64 s1, .int .i64 s2, .int .i64 s3] 162))
  have K := Lib.hid (heap_alloc_new w (.cells #[.int .i64 s0, .int .i64 s1, .int .i64 s2, .int .i64 s3] 162))
  have C1 := Lib.hid (edge g A n c N ms ds Y k sc S o s0 s1 hz _ (h.below HB.out))
  have C2 := Lib.hid (edge g A n c N ms ds Y k sc S o s2 s3 hz _ (h.below HB.out))
  clear h
  unfold sdB seV
  generalize edB n ms s0 s1 = r1 at C1 ⊢
  generalize edB n ms s2 s3 = r2 at C2 ⊢
  cases r1
  · go_enter Try.func158, Try.ntmps158
    go_wp2_with fail
    refine C1.out.mono ?_
    rintro e' w' ⟨rfl, rfl⟩
    go_wp2_with fail
    go_ret
    exact ⟨rfl, HB.out⟩
  · go_enter Try.func158, Try.ntmps158
    go_wp2_with fail
    refine C1.out.mono ?_
    rintro e' w' ⟨rfl, rfl⟩
    go_wp2_with fail
    refine C2.out.mono ?_
    rintro e' w' ⟨rfl, rfl⟩
    go_wp2_with fail
    go_ret
    exact ⟨rfl, HB.out⟩
/-- How often the first j seams have an edge. -/
def tmN (S : Nat → Int) (a e : Int) : Nat → Nat
  | 0 => 0
  | j + 1 => tmN S a e j + (if S (j * 4) == a && S (j * 4 + 1) == e then 1 else 0) + (if S (j * 4 + 2) == a && S (j * 4 + 3) == e then 1 else 0)
theorem tm_le (S : Nat → Int) (a e : Int) : ∀ j, tmN S a e j ≤ 2 * j
  | 0 => by simp [tmN]
  | j + 1 => by
    have := tm_le S a e j
    unfold tmN
    split <;> split <;> omega
set_option maxRecDepth 100000 in
set_option maxHeartbeats 2000000 in
theorem times (g : Nat) (A : Option Addr) (n c : Nat) (N : Nat → ByteArray) (ms : Nat → Nat) (ds : Nat → Nat → Int) (Y : Option Addr) (k sc : Nat) (S : Nat → Int) (o : Int) (a e : Int) (hz : Small n N ms k) (w : World) (h : Boxed w g A n c N ms ds Y k sc S o) :
    Calls Try.prog 159 #[.pointer (some ⟨g, 0, none⟩), .int .i64 a, .int .i64 e] w fun e' w' => e' = .returned (.int .i64 (tmN S a e k : Int)) ∧ Below w.heap.size w w' := by
  obtain ⟨_, hk, _⟩ := hz.at
  have KB := Lib.hid h.blk
  have HA := Lib.hid h.pat.seams
  have HS0 : Hid (tmN S a e 0 = 0) := Lib.hid rfl
  have HS : Hid (∀ j, tmN S a e (j + 1) = tmN S a e j + (if S (j * 4) == a && S (j * 4 + 1) == e then 1 else 0) + (if S (j * 4 + 2) == a && S (j * 4 + 3) == e then 1 else 0)) := Lib.hid fun j => rfl
  have HL := Lib.hid (tm_le S a e)
  clear h hz
  generalize tmN S a e = T at HS0 HS HL ⊢
  go_enter Try.func159, Try.ntmps159
  go_wp2_with fail
  go_loopw [7, 8, 9] (fun nn i _ wr => ∃ j : Nat, j ≤ k ∧ i = .int .i64 (j : Int) ∧ nn = .int .i64 (T j : Int) ∧ Hid (Below w.heap.size w wr)) (fun _ i _ _ => k - (intOf i).toNat)
  case atStart => exact ⟨0, Nat.zero_le _, rfl, by rw [HS0.out]; rfl, Lib.hid (Below.refl _ _)⟩
  case round =>
    obtain ⟨j, hj, rfl, rfl, HB⟩ := hrel
    have e0 : (0 : Int) ≤ (j : Int) := Int.natCast_nonneg _
    obtain ⟨x0, x1, x2⟩ := blk3 (blk_keep HB.out KB.out)
    by_cases hlt : j < k
    · obtain ⟨b1, o1, rfl, hb1, hc1⟩ := (HA.out.below HB.out (Nat.le_refl _)) (by omega)
      obtain ⟨u0, u1, u2, u3⟩ := four_cells hc1 hlt
      have e1 : (j : Int) < (k : Int) := by omega
      have HSj := Lib.hid (HS.out j)
      have hl := HL.out j
      generalize S (j * 4) = p0 at u0 HSj
      generalize S (j * 4 + 1) = p1 at u1 HSj
      generalize S (j * 4 + 2) = p2 at u2 HSj
      generalize S (j * 4 + 3) = p3 at u3 HSj
      generalize hT : T j = t at hl HSj ⊢
      generalize hT1 : T (j + 1) = t1 at HSj
      have t0 : (0 : Int) ≤ (t : Int) := Int.natCast_nonneg _
      have t2 : (t : Int) ≤ 2097152 := by omega
      have HQ := Lib.hid (HB.out.alloc HB.out.size (.cells #[.int .i64 p0, .int .i64 p1, .int .i64 p2, .int .i64 p3] 162))
      clear hc1 hl
      cases q0 : (p0 == a) <;> cases q1 : (p1 == e) <;> cases q2 : (p2 == a) <;> cases q3 : (p3 == e)
      all_goals
        have HF := Lib.hid (HSj.out)
        rw [q0, q1, q2, q3] at HF
        clear HSj
        go_wp2_with fail
        go_roundw
        case rel => exact ⟨j + 1, by omega, by go_num, by rw [hT1, HF.out]; simp <;> omega, HQ⟩
        case measure => simp [intOf]; omega
    · obtain rfl : k = j := by omega
      have e1 : ¬ (k : Int) < (k : Int) := by omega
      go_wp2_with fail
      go_ret
      exact ⟨rfl, HB.out⟩
/-- A pattern that is valid. -/
def SmP (n : Nat) (ms : Nat → Nat) (k : Nat) (S : Nat → Int) (i : Nat) : Prop := sdB n ms (S (i * 4)) (S (i * 4 + 1)) (S (i * 4 + 2)) (S (i * 4 + 3)) = true ∧ tmN S (S (i * 4)) (S (i * 4 + 1)) k ≤ 1 ∧ tmN S (S (i * 4 + 2)) (S (i * 4 + 3)) k ≤ 1
def PatP (n : Nat) (N : Nat → ByteArray) (ms : Nat → Nat) (ds : Nat → Nat → Int) (k : Nat) (S : Nat → Int) (o : Int) : Prop :=
  (∀ i, i < n → PcP (N i) (ms i) (ds i)) ∧ (inB (n : Int) 1 10 = true ∧ inB o 0 100 = true) ∧ ∀ i, i < k → SmP n ms k S i
set_option maxRecDepth 100000 in
set_option maxHeartbeats 2000000 in
theorem ok (g : Nat) (A : Option Addr) (n c : Nat) (N : Nat → ByteArray) (ms : Nat → Nat) (ds : Nat → Nat → Int) (Y : Option Addr) (k sc : Nat) (S : Nat → Int) (o : Int) (hz : Small n N ms k) (w : World) (h : Boxed w g A n c N ms ds Y k sc S o) :
    Calls Try.prog 131 #[.pointer (some ⟨g, 0, none⟩)] w fun e' w' => e' = .returned (.bool (tv (PatP n N ms ds k S o))) ∧ Below w.heap.size w w' := by
  obtain ⟨hn, hk, hi⟩ := hz.at
  have H := Lib.hid h
  have PNp : Hid (∀ i, i < n → tv (PcP (N i) (ms i) (ds i)) = false → tv (PatP n N ms ds k S o) = false) := Lib.hid fun i hi h => tv_no fun q => by rw [tv_yes (q.1 i hi)] at h; cases h
  have PNn : Hid (inB (n : Int) 1 10 = false → tv (PatP n N ms ds k S o) = false) := Lib.hid fun h => tv_no fun q => by rw [q.2.1.1] at h; cases h
  have PNo : Hid (inB o 0 100 = false → tv (PatP n N ms ds k S o) = false) := Lib.hid fun h => tv_no fun q => by rw [q.2.1.2] at h; cases h
  have PNs : Hid (∀ i, i < k → ¬ SmP n ms k S i → tv (PatP n N ms ds k S o) = false) := Lib.hid fun i hi h => tv_no fun q => h (q.2.2 i hi)
  have PY : Hid ((∀ i, i < n → tv (PcP (N i) (ms i) (ds i)) = true) → inB (n : Int) 1 10 = true → inB o 0 100 = true → (∀ i, i < k → SmP n ms k S i) → tv (PatP n N ms ds k S o) = true) := Lib.hid fun h1 h2 h3 h4 => tv_yes ⟨fun i hi => tv_iff.1 (h1 i hi), ⟨h2, h3⟩, h4⟩
  have CO := Lib.hid (fun i (hj : i < n) A c b o w h0 h1 hA => one (N i) A (ms i) c (ds i) (by have := (hi i hj).1; unfold maxLen; omega) (hi i hj).2 b o w h0 h1 hA)
  have CI := Lib.hid (fun a l h w => in_any a l h w)
  have CS := Lib.hid (fun s0 s1 s2 s3 w h => seam g A n c N ms ds Y k sc S o s0 s1 s2 s3 hz w h)
  have CT := Lib.hid (fun a e w h => times g A n c N ms ds Y k sc S o a e hz w h)
  have HT := Lib.hid (fun a e => tm_le S a e k)
  clear h hz hi
  generalize tv (PatP n N ms ds k S o) = r at PNp PNn PNo PNs PY ⊢
  obtain ⟨E, hE⟩ : ∃ E : Nat → Bool, ∀ i, tv (PcP (N i) (ms i) (ds i)) = E i := ⟨_, fun i => rfl⟩
  simp only [hE] at PNp PY CO
  clear hE
  go_enter Try.func131, Try.ntmps131
  go_wp2_with fail
  go_loopw [3] (fun i wr => ∃ j : Nat, j ≤ n ∧ i = .int .i64 (j : Int) ∧ Hid (Below w.heap.size w wr) ∧ Hid (∀ q, q < j → E q = true)) (fun i _ => n - (intOf i).toNat)
  case atStart => exact ⟨0, Nat.zero_le _, rfl, Lib.hid (Below.refl _ _), Lib.hid fun q hq => by omega⟩
  case round =>
    obtain ⟨j, hj, rfl, HB, HD⟩ := hrel
    have e0 : (0 : Int) ≤ (j : Int) := Int.natCast_nonneg _
    have HX := Lib.hid (H.out.below HB.out)
    obtain ⟨x0, x1, x2⟩ := blk3 HX.out.blk
    by_cases hlt : j < n
    · obtain ⟨As, cs, hR⟩ := HX.out.pat.pcs
      have HR := Lib.hid hR
      obtain ⟨b1, o1, rfl, hb1, hc1⟩ := hR.out (by omega)
      have C := Lib.hid (CO.out j hlt _ _ b1 (o1 + j * 2) wr (hc1 j hlt).1 (hc1 j hlt).2 (HR.out.inn j hlt))
      have e1 : (j : Int) < (n : Int) := by omega
      have PNk := Lib.hid (PNp.out j hlt)
      have HS := Lib.hid (fun h => step_all (p := fun j => E j) HD.out (k := j) h)
      generalize E j = q at PNk HS C
      clear hc1 hj HD hR HR
      go_wp2_with fail
      refine C.out.mono ?_
      rintro e w1 ⟨rfl, b1⟩
      have HQ := Lib.hid (below_then HB.out b1)
      clear b1 x0 x1 x2 C
      cases q
      · have HE := Lib.hid (PNk.out rfl)
        go_wp2_with fail
        go_ret
        exact ⟨Ft.ret_bool HE.out.symm, HQ.out⟩
      · have HDD := Lib.hid (HS.out rfl)
        go_wp2_with fail
        go_roundw
        case rel => exact ⟨j + 1, by omega, by go_num, HQ, HDD⟩
        case measure => simp [intOf]; omega
    · have PYy := Lib.hid (PY.out fun q hq => HD.out q (by omega))
      have e1 : ¬ (j : Int) < (n : Int) := by omega
      have C1 := Lib.hid (fun w => CI.out (n : Int) 1 10 w)
      have C2 := Lib.hid (fun w => CI.out o 0 100 w)
      clear hj HD PY PNp CO
      generalize inB (n : Int) 1 10 = r1 at C1 PYy PNn
      generalize inB o 0 100 = r2 at C2 PYy PNo
      go_wp2_with fail
      refine (C1.out _).mono ?_
      rintro e w' ⟨rfl, rfl⟩
      cases r1
      · have HE := Lib.hid (PNn.out rfl)
        go_wp2_with fail
        go_ret
        exact ⟨Ft.ret_bool HE.out.symm, HB.out⟩
      go_wp2_with fail
      refine (C2.out _).mono ?_
      rintro e w' ⟨rfl, rfl⟩
      cases r2
      · have HE := Lib.hid (PNo.out rfl)
        go_wp2_with fail
        go_ret
        exact ⟨Ft.ret_bool HE.out.symm, HB.out⟩
      have PZ := Lib.hid (PYy.out (by first | rfl | trivial) (by first | rfl | trivial))
      clear PYy PNn PNo C1 C2
      go_wp2_with fail
      clear x0 x1 x2 HX
      go_loopw [4, 5] (fun i _ wr => ∃ j : Nat, j ≤ k ∧ i = .int .i64 (j : Int) ∧ Hid (Below w.heap.size w wr) ∧ Hid (∀ q, q < j → SmP n ms k S q)) (fun i _ _ => k - (intOf i).toNat)
      case atStart => exact ⟨0, Nat.zero_le _, rfl, HB, Lib.hid fun q hq => by omega⟩
      case round =>
        obtain ⟨j, hj, rfl, HB, HD⟩ := hrel
        have e0 : (0 : Int) ≤ (j : Int) := Int.natCast_nonneg _
        have HX := Lib.hid (H.out.below HB.out)
        obtain ⟨x0, x1, x2⟩ := blk3 HX.out.blk
        by_cases hlt : j < k
        · have HSE := Lib.hid HX.out.pat.seams
          obtain ⟨b1, o1, rfl, hb1, hc1⟩ := HSE.out (by omega)
          obtain ⟨u0, u1, u2, u3⟩ := four_cells hc1 hlt
          have e1 : (j : Int) < (k : Int) := by omega
          have PNk := Lib.hid (PNs.out j hlt)
          have HSj : Hid (SmP n ms k S j → ∀ q, q < j + 1 → SmP n ms k S q) := Lib.hid fun h q hq => by
            by_cases e : q = j
            · rw [e]; exact h
            · exact HD.out q (by omega)
          have HPJ : Hid (SmP n ms k S j ↔ sdB n ms (S (j * 4)) (S (j * 4 + 1)) (S (j * 4 + 2)) (S (j * 4 + 3)) = true ∧ tmN S (S (j * 4)) (S (j * 4 + 1)) k ≤ 1 ∧ tmN S (S (j * 4 + 2)) (S (j * 4 + 3)) k ≤ 1) := Lib.hid Iff.rfl
          have q1 := HT.out (S (j * 4)) (S (j * 4 + 1))
          have q2 := HT.out (S (j * 4 + 2)) (S (j * 4 + 3))
          have C3 := Lib.hid (fun w h => CS.out (S (j * 4)) (S (j * 4 + 1)) (S (j * 4 + 2)) (S (j * 4 + 3)) w h)
          have C4 := Lib.hid (fun w h => CT.out (S (j * 4)) (S (j * 4 + 1)) w h)
          have C5 := Lib.hid (fun w h => CT.out (S (j * 4 + 2)) (S (j * 4 + 3)) w h)
          generalize SmP n ms k S j = PP at PNk HSj HPJ
          generalize sdB n ms (S (j * 4)) (S (j * 4 + 1)) (S (j * 4 + 2)) (S (j * 4 + 3)) = rs at C3 HPJ
          generalize tmN S (S (j * 4)) (S (j * 4 + 1)) k = ta at C4 HPJ q1
          generalize tmN S (S (j * 4 + 2)) (S (j * 4 + 3)) k = tb at C5 HPJ q2
          generalize S (j * 4) = p0 at u0 C3 C4
          generalize S (j * 4 + 1) = p1 at u1 C3 C4
          generalize S (j * 4 + 2) = p2 at u2 C3 C5
          generalize S (j * 4 + 3) = p3 at u3 C3 C5
          have HW := Lib.hid (below_box wr (.cells #[.int .i64 p0, .int .i64 p1, .int .i64 p2, .int .i64 p3] 162))
          have KW := Lib.hid (heap_alloc_new wr (.cells #[.int .i64 p0, .int .i64 p1, .int .i64 p2, .int .i64 p3] 162))
          have C33 := Lib.hid (C3.out _ (HX.out.below HW.out))
          unfold seV at C33
          clear hc1 hj HD C3
          go_wp2_with fail
          refine C33.out.mono ?_
          rintro e w1 ⟨rfl, b1⟩
          have HW1 := Lib.hid (below_then HW.out b1)
          have KW1 := Lib.hid (blk_keep b1 KW.out)
          have HX1 := Lib.hid (HX.out.below HW1.out)
          have HQ := Lib.hid (below_then HB.out HW1.out)
          clear b1 C33 u0 u1 u2 u3 x0 x1 x2
          cases rs
          · have HE := Lib.hid (PNk.out (fun z => by have := (HPJ.out.1 z).1; cases this))
            go_wp2_with fail
            go_ret
            exact ⟨Ft.ret_bool HE.out.symm, HQ.out⟩
          obtain ⟨u0, u1, u2, u3⟩ := blk4 KW1.out
          have C44 := Lib.hid (C4.out w1 HX1.out)
          clear C4
          go_wp2_with fail
          refine C44.out.mono ?_
          rintro e w2 ⟨rfl, b2⟩
          have HX2 := Lib.hid (HX1.out.below b2)
          have KW2 := Lib.hid (blk_keep b2 KW1.out)
          have HQ2 := Lib.hid (below_then HQ.out b2)
          clear b2 C44 u0 u1 u2 u3 KW1 HX1
          by_cases ha : 1 < ta
          · have HE := Lib.hid (PNk.out (fun z => by have := (HPJ.out.1 z).2.1; omega))
            have g1 : (1 : Int) < (ta : Int) := by omega
            go_wp2_with fail
            go_ret
            exact ⟨Ft.ret_bool HE.out.symm, HQ2.out⟩
          have g1 : ¬ (1 : Int) < (ta : Int) := by omega
          obtain ⟨u0, u1, u2, u3⟩ := blk4 KW2.out
          have C55 := Lib.hid (C5.out w2 HX2.out)
          clear C5
          go_wp2_with fail
          refine C55.out.mono ?_
          rintro e w3 ⟨rfl, b3⟩
          have HQ3 := Lib.hid (below_then HQ2.out b3)
          clear b3 C55 u0 u1 u2 u3 KW2 HX2
          by_cases hb : 1 < tb
          · have HE := Lib.hid (PNk.out (fun z => by have := (HPJ.out.1 z).2.2; omega))
            have g2 : (1 : Int) < (tb : Int) := by omega
            go_wp2_with fail
            go_ret
            exact ⟨Ft.ret_bool HE.out.symm, HQ3.out⟩
          have g2 : ¬ (1 : Int) < (tb : Int) := by omega
          have HDD := Lib.hid (HSj.out (HPJ.out.2 ⟨by first | rfl | trivial, by omega, by omega⟩))
          go_wp2_with fail
          go_roundw
          case rel => exact ⟨j + 1, by omega, by go_num, HQ3, HDD⟩
          case measure => simp [intOf]; omega
        · have HE := Lib.hid (PZ.out fun q hq => HD.out q (by omega))
          have e1 : ¬ (j : Int) < (k : Int) := by omega
          clear hj HD
          go_wp2_with fail
          go_ret
          exact ⟨Ft.ret_bool HE.out.symm, HB.out⟩
end Go.Proofs.Ytpmmfalpcooenab.Pv

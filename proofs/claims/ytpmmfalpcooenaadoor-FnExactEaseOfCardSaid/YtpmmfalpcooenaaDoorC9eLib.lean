/- EaseOf: both functions. -/
import Derived.Test.YtpmmfalpcooenaaDoorC9nLib
import Derived.Test.YtpmmfalpcooenaaDoorShrLib
namespace Go.Proofs.YtpmmfalpcooenaaDoor.C9e
set_option linter.unusedVariables false
open Go.RowKit Ft Is Ge Qb Ly Stv Ec Er C9k Ow
open C9f (sm)

/-- Where the first k parts end. -/
def en (n : Nat) (d : Nat → Int) : Nat → Int
  | 0 => 0
  | k + 1 => if k < n then d k else 1000
/-- A part. -/
def pd (n : Nat) (d : Nat → Int) (i : Nat) : Int := en n d (i + 1) - en n d i
theorem sm_pd (n : Nat) (d : Nat → Int) : ∀ k, sm (pd n d) k = en n d k
  | 0 => rfl
  | k + 1 => by
    simp only [sm, sm_pd n d k, pd]
    omega
/-- The distance of both edges. -/
def di (a b : Int) : Int := if a - b < 0 then b - a else a - b
/-- What the first k parts are eased by. -/
def es (a b : Int) (n : Nat) (d : Nat → Int) : Nat → Int
  | 0 => 0
  | k + 1 => Fg.fl (2 * (di a b * en n d (k + 1)) + 1000) (2 * 1000)
def esD (a b : Int) (n : Nat) (d : Nat → Int) (i : Nat) : Int := es a b n d (i + 1) - es a b n d i
noncomputable def okE (a b : Int) (n : Nat) (d : Nat → Int) : Bool := (inB a 1 5000 && inB b 1 5000) && tv (PlP 1 999 n d)
noncomputable def esM (a b : Int) (n : Nat) (d : Nat → Int) : Nat := if okE a b n d = true then n + 1 else 0
noncomputable def esC (a b : Int) (n : Nat) (d : Nat → Int) : Int := if okE a b n d = true then 0 else 2
theorem oke_in {a b : Int} {n : Nat} {d : Nat → Int} (h : okE a b n d = true) : n ≤ 10 ∧ (1 ≤ a ∧ a ≤ 5000) ∧ (1 ≤ b ∧ b ≤ 5000) ∧ (∀ i, i < n → 1 ≤ d i ∧ d i ≤ 999) ∧ ∀ i, i + 1 < n → d i < d (i + 1) := by
  unfold okE at h
  simp only [Bool.and_eq_true] at h
  obtain ⟨⟨h1, h2⟩, h3⟩ := h
  have h4 := tv_iff.1 h3
  exact ⟨h4.1, Ba.in_of h1, Ba.in_of h2, fun i hi => Ba.in_of (h4.2.2 i hi), h4.2.1⟩
theorem esm_le (a b : Int) (n : Nat) (d : Nat → Int) : esM a b n d ≤ 1048576 := by
  unfold esM
  split
  · rename_i h; have := (oke_in h).1; omega
  · omega
theorem di_in {a b : Int} (ha : 1 ≤ a ∧ a ≤ 5000) (hb : 1 ≤ b ∧ b ≤ 5000) : 0 ≤ di a b ∧ di a b ≤ 4999 := by unfold di; split <;> omega
theorem en_in {a b : Int} {n : Nat} {d : Nat → Int} (h : okE a b n d = true) (k : Nat) : 0 ≤ en n d k ∧ en n d k ≤ 1000 := by
  obtain ⟨h1, h2, h3, h4, h5⟩ := oke_in h
  cases k with
  | zero => simp [en]
  | succ k =>
    simp only [en]
    split
    · have := h4 k (by assumption); omega
    · omega
theorem pd_in {a b : Int} {n : Nat} {d : Nat → Int} (h : okE a b n d = true) {i : Nat} (hi : i < n + 1) : 1 ≤ pd n d i ∧ pd n d i ≤ 1000 := by
  obtain ⟨h1, h2, h3, h4, h5⟩ := oke_in h
  unfold pd
  cases i with
  | zero =>
    simp only [en]
    split
    · have := h4 0 (by assumption); omega
    · omega
  | succ i =>
    have hn : i < n := by omega
    have q := h4 i hn
    simp only [en, if_pos hn]
    split
    · have q2 := h4 (i + 1) (by assumption); have q3 := h5 i (by assumption); omega
    · omega
theorem en_last (n : Nat) (d : Nat → Int) : en n d (n + 1) = 1000 := by simp [en]
theorem sh_ok {a b : Int} {n : Nat} {d : Nat → Int} (h : okE a b n d = true) : Shr.ShOk (n + 1) (pd n d) (di a b) := by
  obtain ⟨h1, h2, h3, h4, h5⟩ := oke_in h
  have := di_in h2 h3
  exact ⟨by omega, fun i hi => by have := pd_in h hi; omega, by omega⟩
theorem gs_es (a b : Int) (n : Nat) (d : Nat → Int) : Shr.gs (pd n d) (n + 1) (di a b) = esD a b n d := by
  funext i
  have e : ∀ k, Shr.G (pd n d) (n + 1) (di a b) k = es a b n d k := fun k => by
    cases k with
    | zero => rfl
    | succ k => simp only [Shr.G, es, sm_pd, en_last]
  unfold Shr.gs esD
  rw [e, e]
theorem dist_any (a b : Int) (ha : 1 ≤ a ∧ a ≤ 5000) (hb : 1 ≤ b ∧ b ≤ 5000) (w : World) : Calls Tryd.prog 65 #[.int .i64 a, .int .i64 b] w fun e w' => e = .returned (.int .i64 (di a b)) ∧ w = w' := by
  have R : a < b ∨ b < a ∨ a = b := by omega
  rcases R with h | h | h
  · have e : di a b = b - a := by unfold di; split <;> omega
    rw [e]
    go_enter Tryd.func65, Tryd.ntmps65
    go_wp2
    go_ret
    exact ⟨by first | rfl | (congr 2; rw [IntKind.wrap_i64]; omega), rfl⟩
  · have e : di a b = a - b := by unfold di; split <;> omega
    rw [e]
    go_enter Tryd.func65, Tryd.ntmps65
    go_wp2
    go_ret
    exact ⟨by first | rfl | (congr 2; rw [IntKind.wrap_i64]; omega), rfl⟩
  · subst h
    have e : di a a = 0 := by unfold di; split <;> omega
    rw [e]
    go_enter Tryd.func65, Tryd.ntmps65
    go_wp2
    go_ret
    exact ⟨rfl, rfl⟩
theorem size_any (a b : Int) (ha : 1 ≤ a ∧ a ≤ 5000) (hb : 1 ≤ b ∧ b ≤ 5000) (w : World) : Calls Tryd.prog 62 #[.int .i64 (a - b)] w fun e w' => e = .returned (.int .i64 (di a b)) ∧ w = w' := by
  by_cases h : a - b < 0
  · have e : di a b = -(a - b) := by unfold di; rw [if_pos h]; omega
    rw [e]
    go_enter Tryd.func62, Tryd.ntmps62
    go_wp2
    go_ret
    exact ⟨by first | rfl | (congr 2; rw [IntKind.wrap_i64]; omega), rfl⟩
  · have e : di a b = a - b := by unfold di; rw [if_neg h]
    rw [e]
    go_enter Tryd.func62, Tryd.ntmps62
    go_wp2
    go_ret
    exact ⟨by first | rfl | (congr 2; rw [IntKind.wrap_i64]; omega), rfl⟩
set_option maxRecDepth 100000 in
set_option maxHeartbeats 2000000 in
/-- The program's parts. -/
theorem parts_any (a b : Int) (A : Option Addr) (n c : Nat) (d : Nat → Int) (hok : okE a b n d = true) (w : World) (hA : Nums w w.heap.size A n d) :
    Calls Tryd.prog 67 #[.slice A n c] w (OneAt (n + 1) (pd n d) w) := by
  obtain ⟨n10, ha, hb, hd, hu⟩ := oke_in hok
  have HA := Lib.hid hA
  have HE : Hid (∀ v w', w'.ownsRow w.heap.size 2 1 v (n + 1) (upto (pd n d) (n + 1)) → Below w.heap.size w w' → OneAt (n + 1) (pd n d) w (.returned v) w') := Lib.hid fun v w' h1 h2 => one_of_row h1 (Below.refl _ _) h2
  have HU : Hid (∀ j, upto (pd n d) (j + 1) = upto (pd n d) j ++ [.int .i64 (en n d (j + 1) - en n d j)]) := Lib.hid fun j => upto_snoc _ _
  have HEN : Hid (∀ k, 0 ≤ en n d k ∧ en n d k ≤ 1000) := Lib.hid (en_in hok)
  have HES : Hid (∀ k, k < n → d k = en n d (k + 1)) := Lib.hid fun k hk => by simp [en, hk]
  have HEL : Hid (en n d (n + 1) = 1000) := Lib.hid (en_last n d)
  have HE0 : Hid (en n d 0 = 0) := Lib.hid rfl
  obtain ⟨i0, hi0, hz0, hz1, hz2⟩ := info_parts info_int
  have HIn := Lib.hid (And.intro hi0 (And.intro hz0 (And.intro hz1 hz2)))
  have R0 := Lib.hid (row_start w (n + 1) (by omega) (pd n d))
  have hmk := make_row (n + 1) (by omega) w
  rw [show (((n + 1 : Nat) : Int)) = (n : Int) + 1 by omega] at hmk
  have t0 : IntKind.i64.wrap ((n : Int) + 1) = (n : Int) + 1 := by rw [IntKind.wrap_i64]; omega
  clear hA hi0 hz0 hz1 hz2 hd hu hok
  generalize OneAt (n + 1) (pd n d) w = Q at HE ⊢
  generalize upto (pd n d) = UP at HE HU R0
  generalize en n d = E at HU HEN HES HEL HE0
  have B0 := Lib.hid (below_box w (.cells (Go.madeCells #[Value.int .i64 0] (n + 1)) 2))
  go_enter Tryd.func67, Tryd.ntmps67
  go_wp2_with fail
  clear hmk
  go_loopw [3, 4, 13] (fun v bg i wr => ∃ (j : Nat) (u : Value), j ≤ n ∧ u = v ∧ i = .int .i64 (j : Int) ∧ bg = .int .i64 (E j) ∧ Hid (Below w.heap.size w wr) ∧ Hid (wr.ownsRow w.heap.size 2 1 u j (UP j))) (fun _ _ i _ => n - (intOf i).toNat)
  case atStart => exact ⟨0, _, Nat.zero_le _, rfl, rfl, by rw [HE0.out], B0, R0⟩
  case round =>
    obtain ⟨j, v, hj, rfl, rfl, rfl, HW, HO⟩ := hrel
    have e0 : (0 : Int) ≤ (j : Int) := Int.natCast_nonneg _
    have HUj := Lib.hid (HU.out j)
    have hsz := HW.out.size
    obtain ⟨q1, q2⟩ := HEN.out j
    obtain ⟨q3, q4⟩ := HEN.out (j + 1)
    by_cases hlt : j < n
    · obtain ⟨b, off, rfl, hb, hc⟩ := (HA.out.below HW.out (Nat.le_refl _)) (by omega)
      have x0 : wr.cell? ⟨b, off + j, none⟩ = some (.int .i64 (E (j + 1))) := (hc j hlt).trans (by rw [HES.out j hlt])
      have e1 : (j : Int) < (n : Int) := by omega
      have hj1 : j + 1 ≤ n := by omega
      have t1 : IntKind.i64.wrap (E (j + 1) - E j) = E (j + 1) - E j := by rw [IntKind.wrap_i64]; omega
      generalize hy : E (j + 1) = y at *
      generalize E j = u at *
      clear hc hj
      go_wp2_with (at_builtin; refine wpList_append_own _ rfl _ _ 29 rfl w.heap.size 2 i0 _ 1 8 Tryd.underlying29 HIn.out.1 HIn.out.2.1 HIn.out.2.2.1 HIn.out.2.2.2 rfl (by decide) _ _ _ rfl (HO.out.alloc _) ⟨wr.heap.size, 0, none⟩ 1 1 [.int .i64 (y - u)] rfl rfl ?c1 ?c2 ?c3 ?c4 ?c5 ?_)
      case c1 => exact cell_new _ _ _
      case c2 => simp [Value.oneCell']
      case c3 => unfold maxLen; omega
      case c4 => omega
      case c5 => first | omega | (simp <;> omega)
      intro v' w6 hown2 hgrow _
      have HQ := Lib.hid ((HW.out.alloc hsz _).grown hgrow (by simp; omega) fun g hg => (HO.out.lt g hg).1)
      have HO6 : Hid (w6.ownsRow w.heap.size 2 1 v' (j + 1) (UP (j + 1))) := Lib.hid (by rw [HUj.out]; exact hown2)
      clear hown2 hgrow
      go_wp2_with fail
      go_roundw
      case rel => exact ⟨j + 1, _, hj1, rfl, by go_num, by rw [hy], HQ, HO6⟩
      case measure => simp [intOf]; omega
    · have hjn : j = n := by omega
      subst hjn
      have e1 : ¬ (j : Int) < (j : Int) := by omega
      rw [HEL.out] at HUj
      have t1 : IntKind.i64.wrap (1000 - E j) = 1000 - E j := by rw [IntKind.wrap_i64]; omega
      generalize E j = u at *
      go_wp2_with (at_builtin; refine wpList_append_own _ rfl _ _ 29 rfl w.heap.size 2 i0 _ 1 8 Tryd.underlying29 HIn.out.1 HIn.out.2.1 HIn.out.2.2.1 HIn.out.2.2.2 rfl (by decide) _ _ _ rfl (HO.out.alloc _) ⟨wr.heap.size, 0, none⟩ 1 1 [.int .i64 (1000 - u)] rfl rfl ?f1 ?f2 ?f3 ?f4 ?f5 ?_)
      case f2 => simp [Value.oneCell']
      case f3 => unfold maxLen; omega
      case f4 => omega
      case f5 => first | omega | (simp <;> omega)
      intro v' w6 hown2 hgrow _
      have HQ := Lib.hid ((HW.out.alloc hsz _).grown hgrow (by simp; omega) fun g hg => (HO.out.lt g hg).1)
      have HO6 : Hid (w6.ownsRow w.heap.size 2 1 v' (j + 1) (UP (j + 1))) := Lib.hid (by rw [HUj.out]; exact hown2)
      clear hown2 hgrow
      have HZ := Lib.hid (HE.out v' w6 HO6.out HQ.out)
      go_wp2_with fail
      exact HZ.out
end Go.Proofs.YtpmmfalpcooenaaDoor.C9e

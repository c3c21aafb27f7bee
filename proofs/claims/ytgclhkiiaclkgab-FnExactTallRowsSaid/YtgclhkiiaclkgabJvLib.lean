/- Blocks on a roll: the spec's WasteOfRows. -/
import Derived.Test.YtgclhkiiaclkgabJuLib
import Derived.Test.YtgclhkiiaclkgabFgLib
namespace Go.Proofs.Ytgclhkiiaclkgab.Jv
set_option linter.unusedVariables false
open Go.RowKit Is Ge Qb Jr Js Jt Ju
open Go.Proofs.Ytgclhkiiaclkgab.Ba (inB below_then below_box ret_bool blk2)

abbrev frO (a b : Int) : Obj := .cells #[.int .i64 a, .int .i64 b] 42
/-- What stays: all that lay before, and a box. -/
structure Bx (w wr : World) (o : Obj) : Prop where
  bel : Below w.heap.size w wr
  box : wr.heap[w.heap.size]? = some o
theorem Bx.of (w : World) (o : Obj) : Bx w (w.alloc o) o := ⟨below_box _ _, heap_alloc_new _ _⟩
theorem Bx.below {w wr w' : World} {o : Obj} (h : Bx w wr o) (hb : Below wr.heap.size wr w') : Bx w w' o := ⟨below_then h.bel hb, blk_keep hb h.box⟩
theorem hi_ge {f : Nat → Int} (h : ∀ k, 0 ≤ f k ∧ f k ≤ 5000) {k : Nat} : ∀ {N : Nat}, k < N → f k ≤ hi f N
  | 0, hk => by omega
  | N + 1, hk => by
    have h1 := hi_in h N
    have h2 := h N
    unfold hi
    by_cases e : k = N
    · subst e; omega
    · have := hi_ge h (k := k) (N := N) (by omega)
      omega
theorem hi_pos {roll : Int} {n : Nat} {g : Nat → Int} {p : Nat → Int} (hB : BlP roll n g) (hP : ∀ j, j < n → 0 ≤ p j ∧ p j ≤ 8) (hn : 0 < n) : 1 ≤ hi (ht g p n) 9 := by
  obtain ⟨t, rfl⟩ : ∃ t, n = t + 1 := ⟨n - 1, by omega⟩
  have h1 := hP t (by omega)
  have h2 := blk_in (hB.2 t (by omega))
  obtain ⟨q, hq⟩ : ∃ q : Nat, p t = (q : Int) := ⟨(p t).toNat, by omega⟩
  have h3 : ht g p (t + 1) q = max (ht g p t q) (g (t * 2 + 1)) := if_pos hq
  have h4 := hi_ge (ht_in p hB (Nat.le_refl _)) (k := q) (N := 9) (by omega)
  rw [h3] at h4
  omega
noncomputable def waC (roll : Int) (n : Nat) (g : Nat → Int) (m : Nat) (p : Nat → Int) : Int := if rfC roll n g m p = 0 then (if n = 0 then 3 else 0) else rfC roll n g m p
/-- The area of the roll, and the waste of it. -/
def alI (roll : Int) (g p : Nat → Int) (m : Nat) : Int := roll * hi (ht g p m) 9
noncomputable def waA (roll : Int) (n : Nat) (g : Nat → Int) (m : Nat) (p : Nat → Int) : Int := if waC roll n g m p = 0 then Fg.nm (alI roll g p m - arI g n) (alI roll g p m) else 0
noncomputable def waB (roll : Int) (n : Nat) (g : Nat → Int) (m : Nat) (p : Nat → Int) : Int := if waC roll n g m p = 0 then Fg.dn (alI roll g p m - arI g n) (alI roll g p m) else 0
def WaAt (roll : Int) (n : Nat) (g : Nat → Int) (m : Nat) (p : Nat → Int) (w : World) (e : Ending) (w' : World) : Prop := e = .returned (.tuple #[.agg #[.int .i64 (waA roll n g m p), .int .i64 (waB roll n g m p)], .int .i64 (waC roll n g m p)]) ∧ Below w.heap.size w w'
theorem wa_use {roll : Int} {n : Nat} {g : Nat → Int} {m : Nat} {p : Nat → Int} (h : rfC roll n g m p = 0) : BlP roll n g ∧ (∀ j, j < m → 0 ≤ p j ∧ p j ≤ 8) ∧ m = n := by
  obtain ⟨h1, h2, h3⟩ := ro_ok (rf_ro h)
  exact ⟨h1, fun j hj => inb (h2 j hj), h3⟩
set_option maxRecDepth 100000 in
set_option maxHeartbeats 2000000 in
theorem spec_wa (A : Option Addr) (n c : Nat) (g : Nat → Int) (roll : Int) (P : Option Addr) (m pc : Nat) (p : Nat → Int) (hn : n ≤ 1048576) (hm : m ≤ 1048576) (w : World) (hA : Nums w w.heap.size A (n * 2) g) (hR : Nums w w.heap.size P m p) :
    Calls Try.prog 37 #[.slice A n c, .int .i64 roll, .slice P m pc] w (WaAt roll n g m p w) := by
  have HA := Lib.hid hA
  have BX := Lib.hid (Bx.of w (frO 0 0))
  have C := Lib.hid (fun w1 (b1 : Below w.heap.size w w1) => fine A n c g roll P m pc p hn hm w1 ((hA.below b1 (Nat.le_refl _)).more b1.size) ((hR.below b1 (Nat.le_refl _)).more b1.size))
  have CF := Lib.hid (fun (h : rfC roll n g m p = 0) w1 (b1 : Below w.heap.size w w1) => height A n c g roll P m pc p (ro_use (rf_ro h)).1 (ro_use (rf_ro h)).2.1 (ro_use (rf_ro h)).2.2 w1 ((hA.below b1 (Nat.le_refl _)).more b1.size) ((hR.below b1 (Nat.le_refl _)).more b1.size))
  have AI := Lib.hid (fun (h : rfC roll n g m p = 0) k (hk : k ≤ n) => ar_in (ro_use (rf_ro h)).1 hk)
  have RI := Lib.hid (fun (h : rfC roll n g m p = 0) => inb (ro_use (rf_ro h)).1.1.1)
  have NI := Lib.hid (fun (h : rfC roll n g m p = 0) => (ro_use (rf_ro h)).1.1.2)
  have BI := Lib.hid (fun (h : rfC roll n g m p = 0) k (hk : k < n) => blk_in ((ro_use (rf_ro h)).1.2 k hk))
  have HI : Hid (rfC roll n g m p = 0 → 0 < n → 1 ≤ hi (ht g p m) 9 ∧ hi (ht g p m) 9 ≤ 45000) := Lib.hid fun h h0 => by
    obtain ⟨h1, h2, h3⟩ := wa_use h
    subst h3
    exact ⟨hi_pos h1 h2 h0, (hi_in (ht_in p h1 (Nat.le_refl _)) 9).2⟩
  have A0 : Hid (arI g 0 = 0) := Lib.hid rfl
  have AS : Hid (∀ k, arI g (k + 1) = arI g k + g (k * 2) * g (k * 2 + 1)) := Lib.hid fun k => rfl
  have V0 : Hid (¬ rfC roll n g m p = 0 → ∀ W, Below w.heap.size w W → WaAt roll n g m p w (.returned (.tuple #[.agg #[.int .i64 0, .int .i64 0], .int .i64 (rfC roll n g m p)])) W) := Lib.hid fun h W hb => by
    have e : waC roll n g m p = rfC roll n g m p := if_neg h
    refine ⟨?_, hb⟩
    unfold waA waB
    rw [e, if_neg h, if_neg h]
  have V1 : Hid (rfC roll n g m p = 0 → n = 0 → ∀ W, Below w.heap.size w W → WaAt roll n g m p w (.returned (.tuple #[.agg #[.int .i64 0, .int .i64 0], .int .i64 3])) W) := Lib.hid fun h h1 W hb => by
    have e : waC roll n g m p = 3 := by unfold waC; rw [if_pos h, if_pos h1]
    refine ⟨?_, hb⟩
    unfold waA waB
    rw [e]
    rfl
  have V2 : Hid (rfC roll n g m p = 0 → 0 < n → ∀ W, Below w.heap.size w W → WaAt roll n g m p w (.returned (.tuple #[.agg #[.int .i64 (Fg.nm (roll * hi (ht g p m) 9 - arI g n) (roll * hi (ht g p m) 9)), .int .i64 (Fg.dn (roll * hi (ht g p m) 9 - arI g n) (roll * hi (ht g p m) 9))], .int .i64 0])) W) := Lib.hid fun h h1 W hb => by
    have e : waC roll n g m p = 0 := by unfold waC; rw [if_pos h, if_neg (by omega)]
    refine ⟨?_, hb⟩
    unfold waA waB alI
    rw [if_pos e, if_pos e, e]
  clear hA hR
  generalize WaAt roll n g m p w = Q at V0 V1 V2 ⊢
  generalize hi (ht g p m) 9 = hh at *
  generalize rfC roll n g m p = cd at *
  generalize arI g = S at *
  go_enter Try.func37, Try.ntmps37
  go_upto_region 1 with fail
  generalize hw9 : World.alloc _ _ = w0 at BX ⊢
  clear hw9
  have D := Lib.hid (C.out w0 BX.out.bel)
  go_wp2_with fail
  refine D.out.mono ?_
  rintro e w1 ⟨rfl, b1⟩
  have BX1 := Lib.hid (BX.out.below b1)
  clear b1 D C BX
  by_cases h0 : cd = 0
  rotate_left
  · have hne : (cd != 0) = true := by simpa using h0
    have hne2 : (cd == 0) = false := by simpa using h0
    have HF := Lib.hid (V0.out h0 _ ((BX1.out.bel.setCell (p := ⟨w.heap.size, 0, none⟩) (Nat.le_refl _) (.int .i64 0)).setCell (p := ⟨w.heap.size, 1, none⟩) (Nat.le_refl _) (.int .i64 0)))
    have hfr := blk_free BX1.out.box
    obtain ⟨z0, z1⟩ := blk2 BX1.out.box
    clear V0 V1 V2 CF AI RI NI BI HI A0 AS
    go_wp2_with fail
    exact bodyPost_ret (v := .tuple #[.agg #[.int .i64 0, .int .i64 0], .int .i64 cd]) (by simp [results, Try.results37, go_sem, z0, z1]) rfl HF.out
  subst h0
  by_cases hn0 : n = 0
  · have e0 : ((n : Int) == 0) = true := by simp; omega
    have HF := Lib.hid (V1.out rfl hn0 _ ((BX1.out.bel.setCell (p := ⟨w.heap.size, 0, none⟩) (Nat.le_refl _) (.int .i64 0)).setCell (p := ⟨w.heap.size, 1, none⟩) (Nat.le_refl _) (.int .i64 0)))
    have hfr := blk_free BX1.out.box
    obtain ⟨z0, z1⟩ := blk2 BX1.out.box
    have HN0 := Lib.hid hn0
    clear V0 V1 V2 CF AI RI NI BI HI A0 AS hn0
    go_wp2_with fail
    exact bodyPost_ret (v := .tuple #[.agg #[.int .i64 0, .int .i64 0], .int .i64 3]) (by simp [results, Try.results37, go_sem, z0, z1]) rfl HF.out
  have hnp : 0 < n := by omega
  have e0 : ((n : Int) == 0) = false := by simp; omega
  have X2 := Lib.hid (V2.out rfl hnp)
  have CF1 := Lib.hid (CF.out rfl)
  have AI1 := Lib.hid (AI.out rfl)
  have BI1 := Lib.hid (BI.out rfl)
  have hroll := RI.out rfl
  have hn9 := NI.out rfl
  have hhh := HI.out rfl hnp
  clear V0 V1 V2 CF AI RI NI BI HI
  go_wp2_with fail
  go_loopw [9, 10] (fun ar i wr => ∃ k : Nat, k ≤ n ∧ ar = .int .i64 (S k) ∧ i = .int .i64 (k : Int) ∧ Hid (Bx w wr (frO 0 0))) (fun _ i _ => n - (intOf i).toNat)
  case atStart => exact ⟨0, Nat.zero_le _, by rw [A0.out], rfl, BX1⟩
  case round =>
    obtain ⟨k, hk, rfl, rfl, HB⟩ := hrel
    have f0 : (0 : Int) ≤ (k : Int) := Int.natCast_nonneg _
    by_cases hlt : k < n
    · obtain ⟨b, off, rfl, hb, hc⟩ := HA.out.below HB.out.bel (Nat.le_refl _) (by omega)
      obtain ⟨x0, x1⟩ := Blk.cells_at hc hlt
      have f1 : (k : Int) < (n : Int) := by omega
      have hk1 : k + 1 ≤ n := by omega
      have y1 := AI1.out k hk
      have y3 := BI1.out k hlt
      have HSk := Lib.hid (AS.out k)
      clear hc hk AI1 BI1 A0 AS X2 CF1
      generalize hS1 : S (k + 1) = s1 at HSk
      generalize S k = s0 at *
      generalize g (k * 2) = u0 at *
      generalize g (k * 2 + 1) = u1 at *
      have y4 := prod_in (X := 5000) (Y := 5000) (show 0 ≤ u0 ∧ u0 ≤ 5000 by omega) (show 0 ≤ u1 ∧ u1 ≤ 5000 by omega)
      generalize hpr : u0 * u1 = pr at y4 HSk
      have t2 : IntKind.i64.wrap (u0 * u1) = pr := by rw [hpr]; exact IntWalk.i64_in _ (by omega)
      have t3 : IntKind.i64.wrap (s0 + pr) = s0 + pr := IntWalk.i64_in _ (by omega)
      have HDN := Lib.hid (fun q => HB.out.below (Js.below_drewN wr q))
      clear hpr
      go_upto_region 10 with fail
      go_quiet (fail)
      have HF := Lib.hid (HDN.out nq)
      go_wp2_with fail
      go_roundw
      case rel => exact ⟨k + 1, hk1, by rw [hS1, HSk.out], by go_num, HF⟩
      case measure => simp [intOf]; omega
    · obtain rfl : k = n := by omega
      have f1 : ¬ (k : Int) < (k : Int) := by omega
      have y1 := AI1.out k (Nat.le_refl _)
      have D1 := Lib.hid (CF1.out wr HB.out.bel)
      clear AI1 BI1 A0 AS CF1
      generalize S k = sk at *
      have y5 := prod_in (X := 5000) (Y := 45000) (show 0 ≤ roll ∧ roll ≤ 5000 by omega) (show 0 ≤ hh ∧ hh ≤ 45000 by omega)
      have y6 : 1 ≤ roll * hh := by
        have := Int.mul_le_mul hroll.1 hhh.1 (by omega) (by omega : (0 : Int) ≤ roll)
        omega
      have MK : Hid (∀ w, Calls Try.prog 74 #[.int .i64 (roll * hh - sk), .int .i64 (roll * hh)] w fun e w' => e = .returned (.agg #[.int .i64 (Fg.nm (roll * hh - sk) (roll * hh)), .int .i64 (Fg.dn (roll * hh - sk) (roll * hh))]) ∧ Below w.heap.size w w') := Lib.hid fun w => Fg.make_gen _ _ (by omega) (by omega) (by omega) (by omega) w
      generalize Fg.nm (roll * hh - sk) (roll * hh) = na at *
      generalize Fg.dn (roll * hh - sk) (roll * hh) = nb at *
      generalize hal : roll * hh = al at *
      have t4 : IntKind.i64.wrap (roll * hh) = al := by rw [hal]; exact IntWalk.i64_in _ (by omega)
      clear hal
      go_wp2_with fail
      refine D1.out.mono ?_
      rintro e w2 ⟨rfl, b2⟩
      have BX2 := Lib.hid (HB.out.below b2)
      clear b2 D1 HB BX1
      go_wp2_with fail
      refine (MK.out _).mono ?_
      rintro e w3 ⟨rfl, b3⟩
      have BX3 := Lib.hid (BX2.out.below b3)
      clear b3 BX2 MK
      have HF := Lib.hid (X2.out _ ((BX3.out.bel.setCell (p := ⟨w.heap.size, 0, none⟩) (Nat.le_refl _) (.int .i64 na)).setCell (p := ⟨w.heap.size, 1, none⟩) (Nat.le_refl _) (.int .i64 nb)))
      have hfr := blk_free BX3.out.box
      obtain ⟨z0, z1⟩ := blk2 BX3.out.box
      clear X2
      go_wp2_with fail
      exact bodyPost_ret (v := .tuple #[.agg #[.int .i64 na, .int .i64 nb], .int .i64 0]) (by simp [results, Try.results37, go_sem, z0, z1]) rfl HF.out
end Go.Proofs.Ytgclhkiiaclkgab.Jv

/- Blocks on a roll: the program's sets of blocks, the widths and heights of rows, area, length, rows of a filling. -/
import Derived.Test.YtgclhkiiaclkgabPaLib
import Derived.Test.YtgclhkiiaclkgabP5Lib
import Derived.Laws.ShiftsVarLaws
namespace Go.Proofs.Ytgclhkiiaclkgab.Pb
set_option linter.unusedVariables false
open Go.RowKit Is Ge Qb Jr Js Jt Ju Jw Jx Pa P5
open Go.Proofs.Ytgclhkiiaclkgab.Ba (inB below_then below_box)

theorem wrap16 {x : Nat} (h : x < 65536) : IntKind.u16.wrap (x : Int) = (x : Int) := by
  rw [IntKind.wrap_u16]
  omega
theorem pow_nat (t : Nat) : (2 : Int) ^ t = ((2 ^ t : Nat) : Int) := by simp
theorem wrap_pow {t : Nat} (h : t < 9) : IntKind.u16.wrap ((2 : Int) ^ t) = ((2 ^ t : Nat) : Int) := by
  rw [pow_nat]
  have := pow_lt h
  exact wrap16 (by omega)
theorem and_bit (x t : Nat) (hx : x < 512) (ht : t < 9) : (bits BinOp.and IntKind.u16 (x : Int) (IntKind.u16.wrap ((2 : Int) ^ t)) != 0) = x.testBit t := by
  have hp := pow_lt ht
  rw [wrap_pow ht, u16_and_nat _ _ (by omega) (by omega)]
  have hz : x &&& 2 ^ t = if x.testBit t = true then 2 ^ t else 0 := by
    apply Nat.eq_of_testBit_eq
    intro i
    rw [Nat.testBit_and, Nat.testBit_two_pow]
    by_cases e : t = i
    · subst e
      cases h : x.testBit t <;> simp
    · cases h : x.testBit t <;> simp [e]
  rw [hz]
  have h0 := Nat.two_pow_pos t
  cases h : x.testBit t
  · simp
  · rw [if_pos rfl]
    have : ¬ ((2 ^ t : Nat) : Int) = 0 := by omega
    generalize 2 ^ t = z at this
    simpa using this
theorem or_bit (x t : Nat) (hx : x < 512) (ht : t < 9) : bits BinOp.or IntKind.u16 (x : Int) (IntKind.u16.wrap ((2 : Int) ^ t)) = ((x ||| 2 ^ t : Nat) : Int) := by
  have hp := pow_lt ht
  rw [wrap_pow ht, u16_or_nat _ _ (by omega) (by omega)]
set_option maxRecDepth 100000 in
theorem ihas (x t : Nat) (hx : x < 512) (ht : t < 9) (w : World) : Calls Try.prog 96 #[.int .u16 (x : Int), .int .i64 (t : Int)] w fun e w' => e = .returned (.bool (x.testBit t)) ∧ w = w' := by
  have HB := Lib.hid (and_bit x t hx ht)
  have t0 : (0 : Int) ≤ (t : Int) := Int.natCast_nonneg _
  have t1 : (t : Int) ≤ 8 := by omega
  have e1 : min t 16 = t := by omega
  go_enter Try.func96, Try.ntmps96
  go_wp2_with fail
  go_ret
  exact ⟨Ba.ret_bool HB.out, rfl⟩
set_option maxRecDepth 100000 in
theorem iwith (x t : Nat) (hx : x < 512) (ht : t < 9) (w : World) : Calls Try.prog 88 #[.int .u16 (x : Int), .int .i64 (t : Int)] w fun e w' => e = .returned (.int .u16 ((x ||| 2 ^ t : Nat) : Int)) ∧ w = w' := by
  have HB := Lib.hid (or_bit x t hx ht)
  have t0 : (0 : Int) ≤ (t : Int) := Int.natCast_nonneg _
  have t1 : (t : Int) ≤ 8 := by omega
  have e1 : min t 16 = t := by omega
  generalize x ||| 2 ^ t = y at HB ⊢
  go_enter Try.func88, Try.ntmps88
  go_wp2_with fail
  go_ret
  exact ⟨congrArg (fun z => Ending.returned (.int .u16 z)) HB.out, rfl⟩
/-- A list of blocks and a roll; the sets of the nine rows. -/
abbrev neV (A : Option Addr) (n c : Nat) (roll : Int) : Value := .agg #[.slice A n c, .int .i64 roll]
abbrev neO (A : Option Addr) (n c : Nat) (roll : Int) : Obj := .cells #[.slice A n c, .int .i64 roll] 62
abbrev flV (f : Nat → Nat) : Value := .agg #[.int .u16 (f 0 : Int), .int .u16 (f 1 : Int), .int .u16 (f 2 : Int), .int .u16 (f 3 : Int), .int .u16 (f 4 : Int), .int .u16 (f 5 : Int), .int .u16 (f 6 : Int), .int .u16 (f 7 : Int), .int .u16 (f 8 : Int)]
abbrev flO (f : Nat → Nat) : Obj := .cells #[.int .u16 (f 0 : Int), .int .u16 (f 1 : Int), .int .u16 (f 2 : Int), .int .u16 (f 3 : Int), .int .u16 (f 4 : Int), .int .u16 (f 5 : Int), .int .u16 (f 6 : Int), .int .u16 (f 7 : Int), .int .u16 (f 8 : Int)] 66
theorem nine {k : Nat} (h : k < 9) : k = 0 ∨ k = 1 ∨ k = 2 ∨ k = 3 ∨ k = 4 ∨ k = 5 ∨ k = 6 ∨ k = 7 ∨ k = 8 := by omega
theorem blk9 {w : World} {g : Nat} {t : TypeId} {c0 c1 c2 c3 c4 c5 c6 c7 c8 : Value} (h : w.heap[g]? = some (.cells #[c0, c1, c2, c3, c4, c5, c6, c7, c8] t (0, 0))) :
    w.cell? ⟨g, 0, none⟩ = some c0 ∧ w.cell? ⟨g, 1, none⟩ = some c1 ∧ w.cell? ⟨g, 2, none⟩ = some c2 ∧ w.cell? ⟨g, 3, none⟩ = some c3 ∧ w.cell? ⟨g, 4, none⟩ = some c4 ∧ w.cell? ⟨g, 5, none⟩ = some c5 ∧ w.cell? ⟨g, 6, none⟩ = some c6 ∧ w.cell? ⟨g, 7, none⟩ = some c7 ∧ w.cell? ⟨g, 8, none⟩ = some c8 :=
  ⟨cell_of_row _ _ _ _ _ _ h, cell_of_row _ _ _ _ _ _ h, cell_of_row _ _ _ _ _ _ h, cell_of_row _ _ _ _ _ _ h, cell_of_row _ _ _ _ _ _ h, cell_of_row _ _ _ _ _ _ h, cell_of_row _ _ _ _ _ _ h, cell_of_row _ _ _ _ _ _ h, cell_of_row _ _ _ _ _ _ h⟩
theorem fl_cell {w : World} {g : Nat} {f : Nat → Nat} (h : w.heap[g]? = some (flO f)) {k : Nat} (hk : k < 9) : w.cell? ⟨g, k, none⟩ = some (.int .u16 (f k : Int)) := by
  rcases nine hk with rfl | rfl | rfl | rfl | rfl | rfl | rfl | rfl | rfl <;> exact cell_of_row _ _ _ _ _ _ h
theorem fl_set {w : World} {g : Nat} {f : Nat → Nat} (h : w.heap[g]? = some (flO f)) {k : Nat} (hk : k < 9) (x : Nat) : (w.setCell ⟨g, k, none⟩ (.int .u16 (x : Int))).heap[g]? = some (flO fun j => if j = k then x else f j) := by
  have := heap_set h k (.int .u16 (x : Int))
  rw [this]
  rcases nine hk with rfl | rfl | rfl | rfl | rfl | rfl | rfl | rfl | rfl <;> rfl
theorem fl_index (f : Nat → Nat) {k : Nat} (hk : k < 9) (w : World) : (Instr.index 66 (flV f) (.int .i64 (k : Int))).run Try.prog w = .ok (.int .u16 (f k : Int)) w := by
  rcases nine hk with rfl | rfl | rfl | rfl | rfl | rfl | rfl | rfl | rfl <;> kernel_rfl
set_option maxRecDepth 100000 in
set_option maxHeartbeats 2000000 in
theorem iwidth (A : Option Addr) (n c : Nat) (g : Nat → Int) (roll : Int) (x : Nat) (hB : BlP roll n g) (hx : x < 512) (w : World) (hA : Nums w w.heap.size A (n * 2) g) :
    Calls Try.prog 99 #[neV A n c roll, .int .u16 (x : Int)] w fun e w' => e = .returned (.int .i64 (ws g x n)) ∧ Below w.heap.size w w' := by
  have HA := Lib.hid hA
  have BX := Lib.hid (Bx.of w (neO A n c roll))
  have CH := Lib.hid (fun t (ht : t < 9) w => ihas x t hx ht w)
  have n9 := hB.1.2
  have SI := Lib.hid (fun t (ht : t ≤ n) => ws_in hB x ht)
  have BI := Lib.hid (fun t (ht : t < n) => blk_in (hB.2 t ht))
  have RI := inb hB.1.1
  have S0 : Hid (ws g x 0 = 0) := Lib.hid rfl
  have SY : Hid (∀ t, x.testBit t = true → ws g x (t + 1) = ws g x t + g (t * 2)) := Lib.hid fun t h => if_pos h
  have SN : Hid (∀ t, x.testBit t = false → ws g x (t + 1) = ws g x t) := Lib.hid fun t h => if_neg (by rw [h]; simp)
  clear hA hB
  generalize ws g x = S at SI S0 SY SN ⊢
  go_enter Try.func99, Try.ntmps99
  go_upto_region 1 with fail
  generalize hw9 : World.alloc _ _ = w0 at BX ⊢
  clear hw9
  obtain ⟨z0, z1⟩ := blk2 BX.out.box
  go_wp2_with fail
  clear z0 z1
  go_loopw [5, 6, 7, 11] (fun v _ _ i wr => ∃ k : Nat, k ≤ n ∧ v = .int .i64 (S k) ∧ i = .int .i64 (k : Int) ∧ Hid (Below w.heap.size w wr)) (fun _ _ _ i _ => n - (intOf i).toNat)
  case atStart => exact ⟨0, Nat.zero_le _, by rw [S0.out], rfl, Lib.hid BX.out.bel⟩
  case round =>
    obtain ⟨k, hk, rfl, rfl, HB⟩ := hrel
    have e0 : (0 : Int) ≤ (k : Int) := Int.natCast_nonneg _
    by_cases hlt : k < n
    · have e1 : (k : Int) < (n : Int) := by omega
      obtain ⟨b, off, rfl, hb, hc⟩ := (HA.out.below HB.out (Nat.le_refl _)) (by omega)
      obtain ⟨x0, x1⟩ := Blk.cells_at hc hlt
      have CK := Lib.hid (CH.out k (by omega))
      have sk := SI.out k hk
      have sk1 := SI.out (k + 1) (by omega)
      have bk := BI.out k hlt
      have HY := Lib.hid (SY.out k)
      have HN := Lib.hid (SN.out k)
      have hk1 : k + 1 ≤ n := by omega
      generalize hS1 : S (k + 1) = s1 at HY HN sk1
      generalize x.testBit k = q at CK HY HN
      generalize g (k * 2) = u0 at x0 HY bk
      generalize g (k * 2 + 1) = u1 at x1 HY bk
      generalize S k = s0 at *
      have HX := Lib.hid (below_then HB.out (below_box wr (blO u0 u1)))
      have KB := Lib.hid (heap_alloc_new wr (blO u0 u1))
      clear hc SI BI SY SN HB
      go_upto_region 5 with fail
      generalize hw9 : World.alloc _ _ = w2 at HX KB ⊢
      clear hw9 x0 x1
      generalize wr.heap.size = gb at *
      obtain ⟨y0, y1⟩ := blk2 KB.out
      go_wp2_with fail
      refine (CK.out _).mono ?_
      rintro e w3 ⟨rfl, rfl⟩
      cases q
      · have HE := Lib.hid (HN.out rfl)
        clear HY HN
        go_wp2_with fail
        go_roundw
        case rel => exact ⟨k + 1, hk1, by rw [hS1, HE.out], by go_num, HX⟩
        case measure => simp [intOf]; omega
      · have HE := Lib.hid (HY.out rfl)
        clear HY HN
        have hw1 : IntKind.i64.wrap (s0 + u0) = s0 + u0 := IntWalk.i64_in _ (by omega)
        go_wp2_with fail
        go_roundw
        case rel => exact ⟨k + 1, hk1, by rw [hS1, HE.out], by go_num, HX⟩
        case measure => simp [intOf]; omega
    · obtain rfl : k = n := by omega
      clear SI BI SY SN
      go_wp2_with fail
      go_ret
      exact ⟨rfl, HB.out⟩
set_option maxRecDepth 100000 in
set_option maxHeartbeats 2000000 in
theorem iheight (A : Option Addr) (n c : Nat) (g : Nat → Int) (roll : Int) (x : Nat) (hB : BlP roll n g) (hx : x < 512) (w : World) (hA : Nums w w.heap.size A (n * 2) g) :
    Calls Try.prog 78 #[neV A n c roll, .int .u16 (x : Int)] w fun e w' => e = .returned (.int .i64 (hs g x n)) ∧ Below w.heap.size w w' := by
  have HA := Lib.hid hA
  have BX := Lib.hid (Bx.of w (neO A n c roll))
  have CH := Lib.hid (fun t (ht : t < 9) w => ihas x t hx ht w)
  have n9 := hB.1.2
  have SI := Lib.hid (fun t (ht : t ≤ n) => hs_in hB x ht)
  have BI := Lib.hid (fun t (ht : t < n) => blk_in (hB.2 t ht))
  have RI := inb hB.1.1
  have S0 : Hid (hs g x 0 = 0) := Lib.hid rfl
  have SY : Hid (∀ t, x.testBit t = true → hs g x (t + 1) = max (hs g x t) (g (t * 2 + 1))) := Lib.hid fun t h => if_pos h
  have SN : Hid (∀ t, x.testBit t = false → hs g x (t + 1) = hs g x t) := Lib.hid fun t h => if_neg (by rw [h]; simp)
  clear hA hB
  generalize hs g x = S at SI S0 SY SN ⊢
  go_enter Try.func78, Try.ntmps78
  go_upto_region 1 with fail
  generalize hw9 : World.alloc _ _ = w0 at BX ⊢
  clear hw9
  obtain ⟨z0, z1⟩ := blk2 BX.out.box
  go_wp2_with fail
  clear z0 z1
  go_loopw [5, 6, 7, 11] (fun v _ _ i wr => ∃ k : Nat, k ≤ n ∧ v = .int .i64 (S k) ∧ i = .int .i64 (k : Int) ∧ Hid (Below w.heap.size w wr)) (fun _ _ _ i _ => n - (intOf i).toNat)
  case atStart => exact ⟨0, Nat.zero_le _, by rw [S0.out], rfl, Lib.hid BX.out.bel⟩
  case round =>
    obtain ⟨k, hk, rfl, rfl, HB⟩ := hrel
    have e0 : (0 : Int) ≤ (k : Int) := Int.natCast_nonneg _
    by_cases hlt : k < n
    · have e1 : (k : Int) < (n : Int) := by omega
      obtain ⟨b, off, rfl, hb, hc⟩ := (HA.out.below HB.out (Nat.le_refl _)) (by omega)
      obtain ⟨x0, x1⟩ := Blk.cells_at hc hlt
      have CK := Lib.hid (CH.out k (by omega))
      have sk := SI.out k hk
      have sk1 := SI.out (k + 1) (by omega)
      have bk := BI.out k hlt
      have HY := Lib.hid (SY.out k)
      have HN := Lib.hid (SN.out k)
      have hk1 : k + 1 ≤ n := by omega
      generalize hS1 : S (k + 1) = s1 at HY HN sk1
      generalize x.testBit k = q at CK HY HN
      generalize g (k * 2) = u0 at x0 HY bk
      generalize g (k * 2 + 1) = u1 at x1 HY bk
      generalize S k = s0 at *
      have HX := Lib.hid (below_then HB.out (below_box wr (blO u0 u1)))
      have KB := Lib.hid (heap_alloc_new wr (blO u0 u1))
      clear hc SI BI SY SN HB
      go_upto_region 5 with fail
      generalize hw9 : World.alloc _ _ = w2 at HX KB ⊢
      clear hw9 x0 x1
      generalize wr.heap.size = gb at *
      obtain ⟨y0, y1⟩ := blk2 KB.out
      go_wp2_with fail
      refine (CK.out _).mono ?_
      rintro e w3 ⟨rfl, rfl⟩
      cases q
      · have HE := Lib.hid (HN.out rfl)
        clear HY HN
        go_wp2_with fail
        go_roundw
        case rel => exact ⟨k + 1, hk1, by rw [hS1, HE.out], by go_num, HX⟩
        case measure => simp [intOf]; omega
      · have HE := Lib.hid (HY.out rfl)
        clear HY HN
        by_cases hm : s0 < u1
        · have HM : Hid (max s0 u1 = u1) := Lib.hid (by omega)
          go_wp2_with fail
          go_roundw
          case rel => exact ⟨k + 1, hk1, by rw [hS1, HE.out, HM.out], by go_num, HX⟩
          case measure => simp [intOf]; omega
        · have HM : Hid (max s0 u1 = s0) := Lib.hid (by omega)
          go_wp2_with fail
          go_roundw
          case rel => exact ⟨k + 1, hk1, by rw [hS1, HE.out, HM.out], by go_num, HX⟩
          case measure => simp [intOf]; omega
    · obtain rfl : k = n := by omega
      clear SI BI SY SN
      go_wp2_with fail
      go_ret
      exact ⟨rfl, HB.out⟩
set_option maxHeartbeats 1000000 in
theorem ifault (A : Option Addr) (n c : Nat) (g : Nat → Int) (roll : Int) (x : Nat) (hB : BlP roll n g) (hx : x < 512) (w : World) (hA : Nums w w.heap.size A (n * 2) g) :
    Calls Try.prog 86 #[neV A n c roll, .int .u16 (x : Int)] w fun e w' => e = .returned (.bool (decide (roll < ws g x n))) ∧ Below w.heap.size w w' := by
  have HA := Lib.hid hA
  have BX := Lib.hid (Bx.of w (neO A n c roll))
  have CW := Lib.hid (fun w h => iwidth A n c g roll x hB hx w h)
  clear hA hB
  generalize ws g x n = s at CW ⊢
  go_enter Try.func86, Try.ntmps86
  go_upto_region 1 with fail
  generalize hw9 : World.alloc _ _ = w0 at BX ⊢
  clear hw9
  have C1 := Lib.hid (fun p : Beyond w0 => CW.out p.to ((HA.out.below (below_then BX.out.bel p.h) (Nat.le_refl _)).more (below_then BX.out.bel p.h).size))
  obtain ⟨z0, z1⟩ := blk2 BX.out.box
  have z0' := bey_cell z0
  have z1' := bey_cell z1
  clear z0 z1 CW
  refine wp_region_below (by kernel_rfl) (by kernel_rfl) ?_
  repeat (go_big_quiet_step ((go_at_call 99; with_reducible exact bey_of _ (C1.out _))))
  refine wpQuiet_nil ?_
  rintro _ ⟨pq, rfl⟩
  have HQ := Lib.hid (below_then BX.out.bel pq.h)
  generalize pq.to = wq at HQ ⊢
  go_wp2_with fail
  go_ret
  exact ⟨rfl, HQ.out⟩
set_option maxRecDepth 100000 in
set_option maxHeartbeats 2000000 in
theorem ilength (A : Option Addr) (n c : Nat) (g : Nat → Int) (roll : Int) (F : Nat → Nat) (hB : BlP roll n g) (hF : ∀ k, F k < 512) (w : World) (hA : Nums w w.heap.size A (n * 2) g) :
    Calls Try.prog 65 #[neV A n c roll, flV F] w fun e w' => e = .returned (.int .i64 (hi (fun k => hs g (F k) n) 9)) ∧ Below w.heap.size w w' := by
  have HA := Lib.hid hA
  have BX := Lib.hid (Bx2.of w (neO A n c roll) (flO F))
  have CH := Lib.hid (fun k w h => iheight A n c g roll (F k) hB (hF k) w h)
  have HI := Lib.hid (hi_in (f := fun k => hs g (F k) n) fun k => hs_in hB (F k) (Nat.le_refl n))
  have RI := Lib.hid (fun k => hs_in hB (F k) (Nat.le_refl n))
  have S0 : Hid (hi (fun k => hs g (F k) n) 0 = 0) := Lib.hid rfl
  have SS : Hid (∀ k, hi (fun k => hs g (F k) n) (k + 1) = hi (fun k => hs g (F k) n) k + hs g (F k) n) := Lib.hid fun k => rfl
  have IX := Lib.hid (fun k (hk : k < 9) w => fl_index F hk w)
  clear hA hB hF
  generalize hi (fun k => hs g (F k) n) = S at HI S0 SS ⊢
  obtain ⟨H, hH⟩ : ∃ H : Nat → Int, ∀ k, hs g (F k) n = H k := ⟨_, fun _ => rfl⟩
  simp only [hH] at CH SS RI
  clear hH
  go_enter Try.func65, Try.ntmps65
  go_upto_region 1 with fail
  generalize hw9 : World.alloc _ _ = w0 at BX ⊢
  clear hw9
  obtain ⟨z0, z1, z2, z3, z4, z5, z6, z7, z8⟩ := blk9 BX.out.res
  go_wp2_with fail
  clear z0 z1 z2 z3 z4 z5 z6 z7 z8
  go_loopw [5, 7, 9] (fun v _ i wr => ∃ k : Nat, k ≤ 9 ∧ v = .int .i64 (S k) ∧ i = .int .i64 (k : Int) ∧ Hid (Bx2 w wr (neO A n c roll) (flO F))) (fun _ _ i _ => 9 - (intOf i).toNat)
  case atStart => exact ⟨0, Nat.zero_le _, by rw [S0.out], rfl, BX⟩
  case round =>
    obtain ⟨k, hk, rfl, rfl, HB⟩ := hrel
    have e0 : (0 : Int) ≤ (k : Int) := Int.natCast_nonneg _
    by_cases hlt : k < 9
    · have e1 : (k : Int) ≤ 8 := by omega
      have ix := IX.out k hlt wr
      have CK := Lib.hid (CH.out k wr ((HA.out.below HB.out.bel (Nat.le_refl _)).more HB.out.bel.size))
      have sk := HI.out k
      have rk := RI.out k
      have HS := Lib.hid (SS.out k)
      have hk1 : k + 1 ≤ 9 := by omega
      obtain ⟨z0, z1⟩ := blk2 HB.out.box
      generalize hS1 : S (k + 1) = s1 at HS
      generalize F k = x at ix CK
      generalize H k = h at *
      generalize S k = s0 at *
      have hw1 : IntKind.i64.wrap (s0 + h) = s0 + h := IntWalk.i64_in _ (by omega)
      clear SS IX CH HI RI
      go_wp2_with fail
      refine CK.out.mono ?_
      rintro e w3 ⟨rfl, b3⟩
      have HB3 := Lib.hid (HB.out.below b3)
      clear b3 HB z0 z1
      go_wp2_with fail
      go_roundw
      case rel => exact ⟨k + 1, hk1, by rw [hS1, HS.out], by go_num, HB3⟩
      case measure => simp [intOf]; omega
    · obtain rfl : k = 9 := by omega
      clear SS IX CH
      go_wp2_with fail
      go_ret
      exact ⟨rfl, HB.out.bel⟩
end Go.Proofs.Ytgclhkiiaclkgab.Pb

/- Blocks on a roll: the program's BlocksText. -/
import Derived.Test.YtgclhkiiaclkgacDoorJyLib
import Derived.Test.YtgclhkiiaclkgacDoorStxLib
import Derived.BigQuiet
import Derived.Deep.DeepCutAuto
namespace Go.Proofs.YtgclhkiiaclkgacDoor.Pk
set_option linter.unusedVariables false
open Go.RowKit Is Ge Qb Jr Jy Dc Ds Tb Bu
open Go.Lib (itoa strCells byteCells byteCells_append byteCells_length IsBuilderF)
open Go.Proofs.YtgclhkiiaclkgacDoor.Ba (inB below_then below_box)

abbrev blO (a b : Int) : Obj := .cells #[.int .i64 a, .int .i64 b] 32
theorem ivalid (a b roll : Int) (w : World) : Calls Tryd.prog 20 #[Blk.reV a b, .int .i64 roll] w fun e w' => e = .returned (.bool (blkB roll a b)) ∧ Below w.heap.size w w' := by
  have C0 := Lib.hid (fun w => Ba.within_any a 1 roll w)
  have C1 := Lib.hid (fun w => Ba.within_any b 1 5000 w)
  have HB := Lib.hid (below_box w (blO a b))
  unfold blkB
  generalize inB a 1 roll = r0 at C0 ⊢
  generalize inB b 1 5000 = r1 at C1 ⊢
  go_enter Tryd.func20, Tryd.ntmps20
  go_wp2_with fail
  refine (C0.out _).mono ?_
  rintro e w' ⟨rfl, rfl⟩
  cases r0
  · go_wp2_with fail
    go_ret
    exact ⟨rfl, HB.out⟩
  go_wp2_with fail
  refine (C1.out _).mono ?_
  rintro e w' ⟨rfl, rfl⟩
  go_wp2_with fail
  go_ret
  exact ⟨rfl, HB.out⟩
set_option maxRecDepth 100000 in
theorem impl_vb (A : Option Addr) (n c : Nat) (g : Nat → Int) (roll : Int) (hn : n ≤ 1048576) (w : World) (hA : Nums w w.heap.size A (n * 2) g) :
    Calls Tryd.prog 12 #[.slice A n c, .int .i64 roll] w fun e w' => e = .returned (.bool (tv (BlP roll n g))) ∧ Below w.heap.size w w' := by
  have HA := Lib.hid hA
  have CR := Lib.hid (fun w => Ba.within_any roll 1 5000 w)
  have HN : Hid (∀ k, k < n → blkB roll (g (k * 2)) (g (k * 2 + 1)) = false → tv (BlP roll n g) = false) := Lib.hid fun k hk h => tv_no fun e => by rw [e.2 k hk] at h; cases h
  have HL : Hid ((9 : Int) < (n : Int) → tv (BlP roll n g) = false) := Lib.hid fun h => tv_no fun e => by have := e.1.2; omega
  have HR : Hid (inB roll 1 5000 = false → tv (BlP roll n g) = false) := Lib.hid fun h => tv_no fun e => by have := e.1.1; rw [h] at this; cases this
  have HY : Hid (¬ (9 : Int) < (n : Int) → inB roll 1 5000 = true → (∀ k, k < n → blkB roll (g (k * 2)) (g (k * 2 + 1)) = true) → tv (BlP roll n g) = true) := Lib.hid fun q r h => tv_yes ⟨⟨r, by omega⟩, h⟩
  generalize tv (BlP roll n g) = r at HN HY HL HR ⊢
  generalize inB roll 1 5000 = ir at CR HR HY
  clear hA
  by_cases h9 : (9 : Int) < (n : Int)
  · have HF := Lib.hid (HL.out h9)
    go_enter Tryd.func12, Tryd.ntmps12
    go_wp2_with fail
    go_ret
    exact ⟨Ba.ret_bool HF.out.symm, Below.refl _ _⟩
  have h9b : (n : Int) ≤ 9 := by omega
  have HY2 := Lib.hid (HY.out h9)
  clear HL HY h9
  cases ir
  · have HF := Lib.hid (HR.out rfl)
    clear HR HY2 HN
    go_enter Tryd.func12, Tryd.ntmps12
    go_wp2_with fail
    refine (CR.out _).mono ?_
    rintro e w' ⟨rfl, rfl⟩
    go_wp2_with fail
    go_ret
    exact ⟨Ba.ret_bool HF.out.symm, Below.refl _ _⟩
  have HY3 := Lib.hid (HY2.out rfl)
  clear HR HY2
  go_enter Tryd.func12, Tryd.ntmps12
  go_wp2_with fail
  refine (CR.out _).mono ?_
  rintro e w' ⟨rfl, rfl⟩
  go_wp2_with fail
  go_loopw [6, 17] (fun _ i wr => ∃ k : Nat, k ≤ n ∧ i = .int .i64 (k : Int) ∧ Hid (Below w.heap.size w wr) ∧ Hid (∀ j, j < k → blkB roll (g (j * 2)) (g (j * 2 + 1)) = true)) (fun _ i _ => n - (intOf i).toNat)
  case atStart => exact ⟨0, Nat.zero_le _, rfl, Lib.hid (Below.refl _ _), Lib.hid fun j hj => by omega⟩
  case round =>
    obtain ⟨k, hk, rfl, HB, hall⟩ := hrel
    have e0 : (0 : Int) ≤ (k : Int) := Int.natCast_nonneg _
    by_cases hlt : k < n
    · obtain ⟨b, off, rfl, hb, hc⟩ := (HA.out.below HB.out (Nat.le_refl _)) (by omega)
      obtain ⟨x0, x1⟩ := Blk.cells_at hc hlt
      have HNk := Lib.hid (HN.out k hlt)
      have HS := Lib.hid (fun h => step_all (p := fun j => blkB roll (g (j * 2)) (g (j * 2 + 1))) hall.out (k := k) h)
      have C := Lib.hid (fun w => ivalid (g (k * 2)) (g (k * 2 + 1)) roll w)
      have e1 : (k : Int) < (n : Int) := by omega
      have hk1 : k + 1 ≤ n := by omega
      generalize blkB roll (g (k * 2)) (g (k * 2 + 1)) = q at HNk HS C
      generalize g (k * 2) = u0 at x0 C
      generalize g (k * 2 + 1) = u1 at x1 C
      have HX := Lib.hid (below_then HB.out (below_box wr (blO u0 u1)))
      clear hc hk
      go_wp2_with fail
      refine (C.out _).mono ?_
      rintro e w1 ⟨rfl, b1⟩
      have HQ := Lib.hid (below_then HX.out b1)
      clear b1 x0 x1 C HX
      cases q
      · have HF := Lib.hid (HNk.out rfl)
        go_wp2_with fail
        go_ret
        exact ⟨Ba.ret_bool HF.out.symm, HQ.out⟩
      · have HD := Lib.hid (HS.out rfl)
        go_wp2_with fail
        go_roundw
        case rel => exact ⟨k + 1, hk1, by go_num, HQ, HD⟩
        case measure => simp [intOf]; omega
    · obtain rfl : k = n := by omega
      have HF := Lib.hid (HY3.out hall.out)
      go_wp2_with fail
      go_ret
      exact ⟨Ba.ret_bool HF.out.symm, HB.out⟩
/-- One block's text, and a roll's. -/
def bl1 (u v : Int) : List UInt8 := itoa u ++ [120] ++ itoa v
def btL (roll : Int) (g : Nat → Int) : Nat → List UInt8
  | 0 => itoa roll ++ [58]
  | k + 1 => btL roll g k ++ ([32] ++ bl1 (g (k * 2)) (g (k * 2 + 1)))
theorem app_eq (a b : List UInt8) : (⟨a.toArray⟩ ++ ⟨b.toArray⟩ : ByteArray) = ⟨(a ++ b).toArray⟩ := by
  apply ByteArray.ext
  simp
theorem bt_l (roll : Int) (g : Nat → Int) : ∀ k, btS roll g k = ⟨(btL roll g k).toArray⟩
  | 0 => by
    show (⟨(itoa roll).toArray⟩ : ByteArray) ++ ⟨([58] : List UInt8).toArray⟩ = _
    rw [app_eq]; rfl
  | k + 1 => by
    show btS roll g k ++ (⟨([32] : List UInt8).toArray⟩ ++ ⟨(itoa (g (k * 2))).toArray⟩ ++ ⟨([120] : List UInt8).toArray⟩ ++ ⟨(itoa (g (k * 2 + 1))).toArray⟩) = _
    rw [bt_l roll g k, app_eq, app_eq, app_eq, app_eq]
    show _ = (⟨(btL roll g k ++ ([32] ++ (itoa (g (k * 2)) ++ [120] ++ itoa (g (k * 2 + 1))))).toArray⟩ : ByteArray)
    simp
theorem btl_len {roll : Int} {n : Nat} {g : Nat → Int} (h : BlP roll n g) {k : Nat} (hk : k ≤ n) : (btL roll g k).length ≤ 22 + 44 * k := by
  have := bt_len h hk
  rw [bt_l] at this
  exact this
theorem sep_two (x y : Int) (hx : 0 ≤ x ∧ x ≤ 10000) (hy : 0 ≤ y ∧ y ≤ 10000) (g cp : Nat) (w : World) (ht : Tb.Tab w) (h0 : w.cell? ⟨g, 0, none⟩ = some (.int .i64 x)) (h1 : w.cell? ⟨g, 1, none⟩ = some (.int .i64 y)) :
    Calls Tryd.prog 15 #[.string ⟨#[120]⟩, .slice (some ⟨g, 0, none⟩) 2 cp] w fun e w' => e = .returned (.string ⟨(bl1 x y).toArray⟩) ∧ Below w.heap.size w w' := by
  have h := Stx.slash_any [120] rfl g 2 cp (fun j => if j = 0 then x else y) (by omega) (fun k hk => by
    by_cases e : k = 0
    · rw [if_pos e]; omega
    · rw [if_neg e]; omega) w ht (fun k hk => by
    obtain rfl | rfl : k = 0 ∨ k = 1 := by omega
    · exact h0
    · exact h1)
  exact h
set_option maxRecDepth 100000 in
set_option maxHeartbeats 2000000 in
theorem impl_bt (A : Option Addr) (n c : Nat) (g : Nat → Int) (roll : Int) (hn : n ≤ 1048576) (w : World) (hT : Tb.Tab w) (hA : Nums w w.heap.size A (n * 2) g) :
    Calls Tryd.prog 7 #[.slice A n c, .int .i64 roll] w fun e w' => e = .returned (.string (btT roll n g)) ∧ Below w.heap.size w w' := by
  have HA := Lib.hid hA
  have HT := Lib.hid hT
  have C := Lib.hid (impl_vb A n c g roll hn w hA)
  have V0 : Hid (tv (BlP roll n g) = false → btT roll n g = ⟨#[]⟩) := Lib.hid fun h => if_neg (by rw [h]; simp)
  have V1 : Hid (tv (BlP roll n g) = true → btT roll n g = ⟨(btL roll g n).toArray⟩) := Lib.hid fun h => by rw [← bt_l]; exact if_pos h
  have LI := Lib.hid (fun (h : tv (BlP roll n g) = true) k (hk : k ≤ n) => btl_len (tv_iff.1 h) hk)
  have NI := Lib.hid (fun (h : tv (BlP roll n g) = true) => (tv_iff.1 h).1.2)
  have DR := Lib.hid (fun (h : tv (BlP roll n g) = true) w ht => Tb.idec roll (by have := inb (tv_iff.1 h).1.1; omega) (by have := inb (tv_iff.1 h).1.1; omega) w ht)
  have BI := Lib.hid (fun (h : tv (BlP roll n g) = true) k (hk : k < n) => blk_in ((tv_iff.1 h).2 k hk))
  have RI := Lib.hid (fun (h : tv (BlP roll n g) = true) => inb (tv_iff.1 h).1.1)
  have DL := Lib.hid (fun (h : tv (BlP roll n g) = true) => dl (inb (tv_iff.1 h).1.1))
  have S0 : Hid (btL roll g 0 = itoa roll ++ [58]) := Lib.hid rfl
  have SS : Hid (∀ k, btL roll g (k + 1) = btL roll g k ++ ([32] ++ bl1 (g (k * 2)) (g (k * 2 + 1)))) := Lib.hid fun k => rfl
  clear hA hT
  generalize btT roll n g = r at V0 V1 ⊢
  generalize tv (BlP roll n g) = ok at *
  generalize btL roll g = S at *
  cases ok
  · have HF := Lib.hid (V0.out rfl)
    clear V0 V1 LI NI DR DL BI RI S0 SS HT
    go_enter Tryd.func7, Tryd.ntmps7
    go_wp2_with fail
    refine C.out.mono ?_
    rintro e w1 ⟨rfl, b1⟩
    go_wp2_with fail
    go_ret
    exact ⟨Jy.ret_str HF.out.symm, b1⟩
  have HF := Lib.hid (V1.out rfl)
  have LI1 := Lib.hid (LI.out rfl)
  have BI1 := Lib.hid (BI.out rfl)
  have hn9 := NI.out rfl
  have hroll := RI.out rfl
  have DR1 := Lib.hid (DR.out rfl)
  have hdl := DL.out rfl
  clear V0 V1 LI NI DR DL BI RI
  go_enter Tryd.func7, Tryd.ntmps7
  go_wp2_with fail
  refine C.out.mono ?_
  rintro e w1 ⟨rfl, b1⟩
  have HB1 := Lib.hid b1
  have hz1 := b1.size
  have BA : Hid (At w1.heap.size w1.heap.size (.pointer none) (byteCells []) (w1.alloc (.cells #[.pointer none, .slice none 0 0] 38))) := Lib.hid
    ⟨Nat.le_refl _, .slice none 0 0, Ba.blk_new _ _, World.ownsRowF_of (World.ownsRow_nil _ _ _ _), by simp [Value.ownBlock]⟩
  have B0 := Lib.hid (below_box w1 (.cells #[.pointer none, .slice none 0 0] 38))
  have T1 := Lib.hid (HT.out.below (below_then b1 B0.out))
  clear b1 C
  have HBA := Lib.hid (below_then HB1.out B0.out)
  have D := Lib.hid (DR1.out _ T1.out)
  have n0 : ¬ 9223372036854775807 < (⟨(itoa roll).toArray⟩ : ByteArray).size + 1 := by omega
  have m0 : ¬ 9223372036854775807 ≤ (⟨(itoa roll).toArray⟩ : ByteArray).size := by omega
  have e0 : Hid (byteCells [] ++ strCells (⟨(itoa roll).toArray⟩ ++ ⟨#[58]⟩) = byteCells (S 0)) := Lib.hid (by rw [show (⟨#[58]⟩ : ByteArray) = ⟨([58] : List UInt8).toArray⟩ from rfl, app_eq, Stx.cells_text, S0.out]; rfl)
  have l0 : ((⟨(itoa roll).toArray⟩ : ByteArray) ++ ⟨#[58]⟩).size ≤ 22 := by rw [ByteArray.size_append]; have : (⟨#[58]⟩ : ByteArray).size = 1 := rfl; omega
  clear DR1 S0 T1
  generalize (⟨(itoa roll).toArray⟩ : ByteArray) = s0 at *
  go_wp2_with fail
  refine D.out.mono ?_
  rintro e w2 ⟨rfl, b2⟩
  have HB2 := Lib.hid (below_then B0.out b2)
  have HA2 := Lib.hid (Stx.bu_keep BA.out b2)
  have W := Lib.hid (put_text w1.heap.size w1.heap.size (byteCells []) (s0 ++ ⟨#[58]⟩) w2 (.inl HA2.out) (by rw [byteCells_length]; show 0 + _ ≤ _; omega) HB2.out.size)
  clear b2 D HBA BA B0
  go_wp2_with fail
  refine W.out.mono ?_
  rintro e w3 ⟨rfl, ha3, b3⟩
  have HB3 := Lib.hid (HB2.out.trans b3)
  have HA3 : Hid (IsBuilderF 38 5 w1.heap.size w1.heap.size (byteCells (S 0)) w3) := Lib.hid (by rw [← e0.out]; exact .inr ha3)
  clear W ha3 b3 HA2 HB2
  go_wp2_with fail
  clear n0 m0 e0 l0
  go_loopw [7, 18] (fun _ i wr => ∃ k : Nat, k ≤ n ∧ i = .int .i64 (k : Int) ∧ Hid (Below w1.heap.size w1 wr) ∧ Hid (IsBuilderF 38 5 w1.heap.size w1.heap.size (byteCells (S k)) wr)) (fun _ i _ => n - (RowKit.intOf i).toNat)
  case atStart => exact ⟨0, Nat.zero_le _, rfl, HB3, HA3⟩
  case round =>
    clear HB3 HA3
    obtain ⟨k, hk, rfl, HB, HR⟩ := hrel
    have f0 : (0 : Int) ≤ (k : Int) := Int.natCast_nonneg _
    have hzr := HB.out.size
    have HBB := Lib.hid (below_then HB1.out HB.out)
    by_cases hlt : k < n
    · obtain ⟨b, off, rfl, hb, hc⟩ := HA.out.below HBB.out (Nat.le_refl _) (by omega)
      obtain ⟨x0, x1⟩ := Blk.cells_at hc hlt
      have e1 : (k : Int) < (n : Int) := by omega
      have hk1 : k + 1 ≤ n := by omega
      have y0 := LI1.out k hk
      obtain ⟨y1, y2⟩ := BI1.out k hlt
      have SP := Lib.hid (sep_two (g (k * 2)) (g (k * 2 + 1)) (by omega) (by omega))
      have hsl : (⟨(bl1 (g (k * 2)) (g (k * 2 + 1))).toArray⟩ : ByteArray).size ≤ 43 := by
        have d1 := dl (n := g (k * 2)) (by omega)
        have d2 := dl (n := g (k * 2 + 1)) (by omega)
        show (bl1 _ _).length ≤ 43
        unfold bl1
        rw [List.length_append, List.length_append]
        change (itoa (g (k * 2))).length ≤ 21 at d1
        change (itoa (g (k * 2 + 1))).length ≤ 21 at d2
        simp
        omega
      have e2 : Hid (byteCells (S k) ++ strCells (⟨#[32]⟩ ++ ⟨(bl1 (g (k * 2)) (g (k * 2 + 1))).toArray⟩) = byteCells (S (k + 1))) := Lib.hid (by rw [show (⟨#[32]⟩ : ByteArray) = ⟨([32] : List UInt8).toArray⟩ from rfl, app_eq, Stx.cells_text, SS.out])
      generalize (⟨(bl1 (g (k * 2)) (g (k * 2 + 1))).toArray⟩ : ByteArray) = s at *
      generalize g (k * 2) = px at *
      generalize g (k * 2 + 1) = py at *
      have k7 := heap_alloc_new wr (blO px py)
      have z0 := cell_of_row _ _ 0 _ _ _ k7
      have z1 := cell_of_row _ _ 1 _ _ _ k7
      have BA := below_then (below_box wr (blO px py)) (below_box _ (.cells #[.int .i64 px, .int .i64 py] 2))
      have hk2 := heap_alloc_new (wr.alloc (blO px py)) (.cells #[.int .i64 px, .int .i64 py] 2)
      rw [show (wr.alloc (blO px py)).heap.size = wr.heap.size + 1 by simp] at hk2
      have v0 := cell_of_row _ _ 0 _ _ _ hk2
      have v1 := cell_of_row _ _ 1 _ _ _ hk2
      have S1 := Lib.hid (SP.out (wr.heap.size + 1) 2 _ (HT.out.below (below_then HBB.out BA)) (v0.trans rfl) (v1.trans rfl))
      have HBA := Lib.hid (below_then HB.out BA)
      have HRA : Hid (IsBuilderF 38 5 w1.heap.size w1.heap.size (byteCells (S k)) _) := Lib.hid (HR.out.elim (fun h => .inl (Stx.bu_keep h BA)) (fun h => .inr (Stx.bu_keep h BA)))
      have hl1 : ((⟨#[32]⟩ : ByteArray) ++ s).size ≤ 44 := by rw [ByteArray.size_append]; have : (⟨#[32]⟩ : ByteArray).size = 1 := rfl; omega
      have n1 : ¬ 9223372036854775807 < 1 + s.size := by omega
      clear BA hk2 v0 v1 SP hc SS LI1 BI1 HR hk
      go_wp2_with fail
      refine S1.out.mono ?_
      rintro e w4 ⟨rfl, b4⟩
      have HB4 := Lib.hid (below_then HBA.out b4)
      have HR4 : Hid (IsBuilderF 38 5 w1.heap.size w1.heap.size (byteCells (S k)) w4) := Lib.hid (HRA.out.elim (fun h => .inl (Stx.bu_keep h b4)) (fun h => .inr (Stx.bu_keep h b4)))
      have W := Lib.hid (put_text w1.heap.size w1.heap.size (byteCells (S k)) (⟨#[32]⟩ ++ s) w4 HR4.out (by rw [byteCells_length]; omega) HB4.out.size)
      clear b4 S1 HBA HRA HR4 k7 z0 z1 x0 x1
      go_wp2_with fail
      refine W.out.mono ?_
      rintro e w5 ⟨rfl, ha5, b5⟩
      have HB5 := Lib.hid (HB4.out.trans b5)
      have HA5 : Hid (IsBuilderF 38 5 w1.heap.size w1.heap.size (byteCells (S (k + 1))) w5) := Lib.hid (by rw [← e2.out]; exact .inr ha5)
      clear W ha5 b5
      go_wp2_with fail
      go_roundw
      case rel => exact ⟨k + 1, hk1, by go_num, HB5, HA5⟩
      case measure => simp [RowKit.intOf]; omega
    · obtain rfl : k = n := by omega
      have X := Lib.hid (Tryd.Builder_String_any_k w1.heap.size w1.heap.size (S k) wr HR.out HB.out.size)
      clear hk hlt HR LI1 BI1 SS
      generalize hq : (S k).toArray = q at X HF
      go_wp2_with fail
      refine X.out.mono ?_
      rintro e w5 ⟨rfl, _, b5, _⟩
      have HB5 := Lib.hid (below_then HB1.out (HB.out.trans b5))
      clear b5
      go_wp2_with fail
      go_ret
      exact ⟨Jy.ret_str HF.out.symm, HB5.out⟩
end Go.Proofs.YtgclhkiiaclkgacDoor.Pk

/- Whether a pattern is valid: the spec's. -/
import Derived.Test.YtnojnikophpnoaaDoorPtLib
import Derived.Test.YtnojnikophpnoaaDoorNmWalks
import Derived.Test.YtnojnikophpnoaaDoorBaLib
import Derived.Deep.DeepCutAuto
import Derived.Deep.RegionHeld3
import Derived.RegionTactic
namespace Go.Proofs.YtnojnikophpnoaaDoor.Pv
set_option linter.unusedVariables false
open Go.RowKit Ft Is Ge Qb Pt

/-- A piece that is valid. -/
def PcP (s : ByteArray) (m : Nat) (d : Nat → Int) : Prop := Nm.IsNm s ∧ (3 ≤ m ∧ m ≤ 8) ∧ ∀ j, j < m → inB (d j) 1 10000 = true
theorem nm_spec (s : ByteArray) (hs : s.size ≤ maxLen) (w : World) : Calls Tryd.prog 29 #[.string s] w fun e w' => e = .returned (.bool (tv (Nm.IsNm s))) ∧ Below w.heap.size w w' :=
  (Nm.spec_is s w hs).mono fun _ _ t => tells_tv t
set_option maxRecDepth 100000 in
theorem one (s : ByteArray) (A : Option Addr) (m c : Nat) (d : Nat → Int) (hs : s.size ≤ maxLen) (hm : m ≤ 1048576) (b o : Nat) (w : World) (h0 : w.cell? ⟨b, o, none⟩ = some (.string s)) (h1 : w.cell? ⟨b, o + 1, none⟩ = some (.slice A m c)) (hA : Nums w w.heap.size A m d) :
    Calls Tryd.prog 15 #[.pointer (some ⟨b, o, none⟩)] w fun e w' => e = .returned (.bool (tv (PcP s m d))) ∧ Below w.heap.size w w' := by
  have HA := Lib.hid hA
  have PN : Hid (∀ j, j < m → inB (d j) 1 10000 = false → tv (PcP s m d) = false) := Lib.hid fun j hj h => tv_no fun q => by rw [q.2.2 j hj] at h; cases h
  have PY : Hid ((∀ j, j < m → inB (d j) 1 10000 = true) → tv (PcP s m d) = (tv (Nm.IsNm s) && inB (m : Int) 3 8)) := Lib.hid fun h => by
    by_cases q : Nm.IsNm s
    · cases r : inB (m : Int) 3 8
      · rw [tv_yes q, tv_no fun z => by
          have := z.2.1
          have y : inB (m : Int) 3 8 = true := by unfold inB; simp; omega
          rw [y] at r; cases r]
        rfl
      · have := Ba.in_of r
        rw [tv_yes q, tv_yes ⟨q, ⟨by omega, by omega⟩, h⟩]
        rfl
    · rw [tv_no q, tv_no fun z => q z.1]; rfl
  have CN := Lib.hid (nm_spec s hs w)
  have CI := Lib.hid (fun a l h w => in_any a l h w)
  clear hA
  generalize tv (PcP s m d) = r at PN PY ⊢
  generalize tv (Nm.IsNm s) = rn at PY CN
  go_enter Tryd.func15, Tryd.ntmps15
  go_wp2_with fail
  go_loopw [3] (fun i wr => ∃ k : Nat, k ≤ m ∧ i = .int .i64 (k : Int) ∧ w = wr ∧ Hid (∀ j, j < k → inB (d j) 1 10000 = true)) (fun i _ => m - (intOf i).toNat)
  case atStart => exact ⟨0, Nat.zero_le _, rfl, rfl, Lib.hid fun j hj => by omega⟩
  case round =>
    obtain ⟨k, hk, rfl, rfl, HD⟩ := hrel
    have e0 : (0 : Int) ≤ (k : Int) := Int.natCast_nonneg _
    by_cases hlt : k < m
    · obtain ⟨b1, o1, rfl, hb1, hc1⟩ := HA.out (by omega)
      have x0 := hc1 k hlt
      have e1 : (k : Int) < (m : Int) := by omega
      have PNk := Lib.hid (PN.out k hlt)
      have HS := Lib.hid (fun h => step_all (p := fun j => inB (d j) 1 10000) HD.out (k := k) h)
      have C := Lib.hid (CI.out (d k) 1 10000 w)
      generalize inB (d k) 1 10000 = q at PNk HS C
      generalize d k = u at x0 C
      clear hc1 hk HD
      go_wp2_with fail
      refine C.out.mono ?_
      rintro e w' ⟨rfl, rfl⟩
      cases q
      · have HE := Lib.hid (PNk.out rfl)
        go_wp2_with fail
        go_ret
        exact ⟨Ft.ret_bool HE.out.symm, Below.refl _ _⟩
      · have HDD := Lib.hid (HS.out rfl)
        go_wp2_with fail
        go_roundw
        case rel => exact ⟨k + 1, by omega, by go_num, by first | rfl | trivial, HDD⟩
        case measure => simp [intOf]; omega
    · have HE := Lib.hid (PY.out fun j hj => HD.out j (by omega))
      have e1 : ¬ (k : Int) < (m : Int) := by omega
      have C := Lib.hid (fun w => CI.out (m : Int) 3 8 w)
      generalize inB (m : Int) 3 8 = q at HE C
      clear hk HD
      cases rn
      · go_wp2_with fail
        refine CN.out.mono ?_
        rintro e w1 ⟨rfl, b1⟩
        go_wp2_with fail
        go_ret
        exact ⟨Ft.ret_bool HE.out.symm, b1⟩
      · go_wp2_with fail
        refine CN.out.mono ?_
        rintro e w1 ⟨rfl, b1⟩
        have HB := Lib.hid b1
        have y1 := (b1.cell (p := ⟨b, o + 1, none⟩) (World.block_lt_of_cell? w _ h1)).trans h1
        clear b1
        go_wp2_with fail
        refine (C.out _).mono ?_
        rintro e w' ⟨rfl, rfl⟩
        go_wp2_with fail
        go_ret
        exact ⟨Ft.ret_bool HE.out.symm, HB.out⟩
/-- An edge exists. -/
def edB (n : Nat) (ms : Nat → Nat) (a e : Int) : Bool := inB a 0 ((n : Int) - 1) && inB e 0 ((ms a.toNat : Int) - 1)
theorem ed_iff {n : Nat} {ms : Nat → Nat} {a e : Int} : edB n ms a e = true ↔ (0 ≤ a ∧ a < n) ∧ (0 ≤ e ∧ e < ms a.toNat) := by
  unfold edB inB; simp; omega
def sdB (n : Nat) (ms : Nat → Nat) (a b c d : Int) : Bool := edB n ms a b && edB n ms c d
/-- How often the first j seams have an edge. -/
def tmN (S : Nat → Int) (a e : Int) : Nat → Nat
  | 0 => 0
  | j + 1 => tmN S a e j + (if S (j * 4) == a && S (j * 4 + 1) == e then 1 else 0) + (if S (j * 4 + 2) == a && S (j * 4 + 3) == e then 1 else 0)
theorem tm_le (S : Nat → Int) (a e : Int) : ∀ j, tmN S a e j ≤ 2 * j
  | 0 => by simp [tmN]
  | j + 1 => by
    have := tm_le S a e j
    unfold tmN
    split <;> split <;> omega
/-- A pattern that is valid. -/
def SmP (n : Nat) (ms : Nat → Nat) (k : Nat) (S : Nat → Int) (i : Nat) : Prop := sdB n ms (S (i * 4)) (S (i * 4 + 1)) (S (i * 4 + 2)) (S (i * 4 + 3)) = true ∧ tmN S (S (i * 4)) (S (i * 4 + 1)) k ≤ 1 ∧ tmN S (S (i * 4 + 2)) (S (i * 4 + 3)) k ≤ 1
def PatP (n : Nat) (N : Nat → ByteArray) (ms : Nat → Nat) (ds : Nat → Nat → Int) (k : Nat) (S : Nat → Int) (o : Int) : Prop :=
  (∀ i, i < n → PcP (N i) (ms i) (ds i)) ∧ (inB (n : Int) 1 10 = true ∧ inB o 0 100 = true) ∧ ∀ i, i < k → SmP n ms k S i
end Go.Proofs.YtnojnikophpnoaaDoor.Pv

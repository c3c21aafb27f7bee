/- ReadFoot: plain, and the spec's. -/
import Derived.Test.YtcnbnpeilkdfiaaDoorRzLib
import Derived.Test.YtcnbnpeilkdfiaaDoorFtLib
import Derived.Deep.AppendLies
import Derived.Deep.RegionHeld3
import Derived.RegionTactic
import Derived.OwnWalk
import Derived.Laws.OwnMore
namespace Go.Proofs.YtcnbnpeilkdfiaaDoor.Rf
open Go.RowKit Ba Dc Ds Rn Rs Tb Ri St Rz
set_option linter.unusedVariables false

theorem info_int : (Tryd.prog.info? 2).map (fun i => (i.zero, i.size, i.bytes)) = some (some (.int .i64 0), 1, 8) := by kernel_rfl
def upto (f : Nat → Int) (k : Nat) : List Value := (List.range k).map fun j => Value.int .i64 (f j)
theorem upto_snoc (f : Nat → Int) (k : Nat) : upto f (k + 1) = upto f k ++ [.int .i64 (f k)] := by simp [upto, List.range_succ]
theorem upto_get (f : Nat → Int) {k j : Nat} (h : j < k) : (upto f k)[j]? = some (.int .i64 (f j)) := by simp [upto, h]

/-- The parts of a foot's text, whether it is one, and its measures. -/
def rfP (L : List UInt8) (j : Nat) : List UInt8 := (spl 47 L).getD j []
def rfF (L : List UInt8) (j : Nat) : Int := rdN (rfP L j)
def rfV (L : List UInt8) : Bool := Ft.ftB (rfF L 0) (rfF L 1) (rfF L 2) (rfF L 3)
def rfB (L : List UInt8) : Bool := decide ((spl 47 L).length = 4) && (rdB (rfP L 0) && (rdB (rfP L 1) && (rdB (rfP L 2) && (rdB (rfP L 3) && rfV L))))
def rfN (L : List UInt8) (j : Nat) : Int := if rfB L then rfF L j else 0
def No (L : List UInt8) : Prop := rfB L = false ∧ ∀ j, rfN L j = 0
theorem no_of {L : List UInt8} (h : rfB L = false) : No L := ⟨h, fun j => by unfold rfN; rw [h]; rfl⟩
theorem no_len {L : List UInt8} (h : ¬ (spl 47 L).length = 4) : No L := no_of (by unfold rfB; rw [decide_eq_false h]; rfl)
theorem no_rd {L : List UInt8} {k : Nat} (hk : k < 4) (h : rdB (rfP L k) = false) : No L := no_of (by
  unfold rfB
  obtain rfl | rfl | rfl | rfl : k = 0 ∨ k = 1 ∨ k = 2 ∨ k = 3 := by omega
  all_goals simp [h])
theorem no_ft {L : List UInt8} (h : rfV L = false) : No L := no_of (by unfold rfB; simp [h])
theorem yes_all {L : List UInt8} (h4 : (spl 47 L).length = 4) (h : ∀ j, j < 4 → rdB (rfP L j) = true) (hv : rfV L = true) : rfB L = true ∧ ∀ j, rfN L j = rfF L j := by
  have hb : rfB L = true := by
    unfold rfB
    rw [h 0 (by omega), h 1 (by omega), h 2 (by omega), h 3 (by omega), hv, decide_eq_true h4]
    rfl
  exact ⟨hb, fun j => by unfold rfN; rw [hb]; rfl⟩
theorem part_len (c : UInt8) (L : List UInt8) : ∀ p ∈ spl c L, p.length ≤ L.length := by
  induction L with
  | nil => simp [spl]
  | cons x r ih =>
    intro p hp
    unfold spl at hp
    split at hp
    · rcases List.mem_cons.1 hp with rfl | h
      · simp
      · have := ih p h; simp; omega
    · split at hp
      · rename_i q qs hq
        rw [hq] at ih
        rcases List.mem_cons.1 hp with rfl | h
        · have := ih q (by simp); simp; omega
        · have := ih p (by simp [h]); simp; omega
      · simp at hp; rw [hp]; simp
theorem rfP_len (L : List UInt8) (j : Nat) : (rfP L j).length ≤ L.length := by
  unfold rfP
  rw [List.getD_eq_getElem?_getD]
  cases h : (spl 47 L)[j]? with
  | none => simp
  | some p => exact part_len 47 L p (List.mem_of_getElem? h)
theorem rfP_get {L : List UInt8} {j : Nat} (h : j < (spl 47 L).length) : (strs (spl 47 L))[j]? = some (.string ⟨(rfP L j).toArray⟩) := by
  unfold strs rfP
  rw [List.getElem?_map, List.getElem?_eq_getElem h]
  simp [List.getD_eq_getElem?_getD, List.getElem?_eq_getElem h]
end Go.Proofs.YtcnbnpeilkdfiaaDoor.Rf

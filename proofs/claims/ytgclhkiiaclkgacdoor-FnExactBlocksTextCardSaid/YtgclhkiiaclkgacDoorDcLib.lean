/- Decimal forms: the spec's loop over the digits gives the decimal numeral. -/
import Derived.Test.YtgclhkiiaclkgacDoorBaLib
import Derived.RegionTactic
import Derived.OwnWalk
import Derived.Deep.AppendLies
import Derived.Laws.IdiomStrings
import Derived.Lib.ItoaNum
namespace Go.Proofs.YtgclhkiiaclkgacDoor.Dc
open Go.RowKit Ba Go.Lib

/-- Of n the digits L are written, k is left. -/
def Dg (n k : Nat) (L : List UInt8) : Prop := (k = 0 → (n = 0 ∧ L = []) ∨ (n ≠ 0 ∧ L = decDigits n)) ∧ (k ≠ 0 → decDigits n = decDigits k ++ L) ∧ k * 10 ^ L.length ≤ n
theorem dg_start (n : Nat) : Dg n n [] := ⟨fun h => .inl ⟨h, rfl⟩, fun _ => by simp, by simp⟩
theorem dg_step {n k : Nat} {L : List UInt8} (h : Dg n k L) (hk : k ≠ 0) : Dg n (k / 10) (UInt8.ofNat (48 + k % 10) :: L) := by
  obtain ⟨_, h2, h3⟩ := h
  have h2 := h2 hk
  have hp : 1 ≤ 10 ^ L.length := Nat.one_le_pow _ _ (by decide)
  have hn : n ≠ 0 := by
    have : 1 * 1 ≤ k * 10 ^ L.length := Nat.mul_le_mul (by omega) hp
    omega
  refine ⟨fun h0 => .inr ⟨hn, ?_⟩, fun h0 => ?_, ?_⟩
  · rw [h2, decDigits, dif_pos (by omega), Nat.mod_eq_of_lt (by omega)]; rfl
  · rw [h2, decDigits, dif_neg (by omega)]; simp
  · rw [List.length_cons, Nat.pow_succ]
    have : k / 10 * (10 ^ L.length * 10) = k / 10 * 10 * 10 ^ L.length := by grind
    rw [this]
    exact Nat.le_trans (Nat.mul_le_mul_right _ (by omega)) h3
theorem dg_len {n k : Nat} {L : List UInt8} (h : Dg n k L) (hk : k ≠ 0) (hn : n ≤ 9223372036854775808) : L.length ≤ 18 := by
  by_cases hl : L.length ≤ 18
  · exact hl
  · have h1 : 10 ^ 19 ≤ 10 ^ L.length := Nat.pow_le_pow_right (by decide) (by omega)
    have h2 : 1 * 10 ^ L.length ≤ k * 10 ^ L.length := Nat.mul_le_mul_right _ (by omega)
    have h3 := h.2.2
    have : (10 : Nat) ^ 19 = 10000000000000000000 := by decide
    omega
theorem dig_val {d : Nat} (h : d ≤ 9) : ((UInt8.ofNat (48 + d)).toNat : Int) = 48 + (d : Int) := by
  simp only [UInt8.toNat_ofNat']
  omega
theorem tm_neg {k : Int} (h : k < 0) : k.tmod 10 = -((k.natAbs % 10 : Nat) : Int) := by
  obtain ⟨m, hm⟩ : ∃ m : Nat, k = -(m : Int) := ⟨k.natAbs, by omega⟩
  subst hm
  rw [Int.neg_tmod, Int.natAbs_neg, Int.natAbs_natCast]
  rfl
theorem td_neg {k : Int} (h : k < 0) : k.tdiv 10 = -((k.natAbs / 10 : Nat) : Int) := by
  obtain ⟨m, hm⟩ : ∃ m : Nat, k = -(m : Int) := ⟨k.natAbs, by omega⟩
  subst hm
  rw [Int.neg_tdiv, Int.natAbs_neg, Int.natAbs_natCast]
  rfl
/-- The cells of some bytes. -/
def bys (L : List UInt8) : List Value := L.map fun c => Value.int .u8 (c.toNat : Int)
theorem bys_get {L : List UInt8} {j : Nat} (hj : j < L.length) : (bys L)[j]? = some (.int .u8 (L[j].toNat : Int)) := by simp [bys, hj]
theorem info_u8 : (Tryd.prog.info? 5).map (fun i => (i.zero, i.size, i.bytes)) = some (some (.int .u8 0), 1, 1) := by kernel_rfl
/-- A row of bytes. -/
def BytesAt (w : World) (g : Nat) (L : List UInt8) : Prop := ∀ j (hj : j < L.length), w.cell? ⟨g, j, none⟩ = some (.int .u8 (L[j].toNat : Int))
theorem BytesAt.below {w w' : World} {g B : Nat} {L : List UInt8} (h : BytesAt w g L) (hb : Below B w w') (hg : g < B) : BytesAt w' g L := fun j hj => (hb.cell (p := ⟨g, j, none⟩) hg).trans (h j hj)
theorem BytesAt.news {w : World} {g : Nat} {L : List UInt8} (h : BytesAt w g L) : ∀ j u, (bys L)[j]? = some u → w.cell? ((⟨g, 0, none⟩ : Addr).add j) = some u := fun j u hu => by
  have hj : j < L.length := by
    have := (List.getElem?_eq_some_iff.1 hu).1
    simpa [bys] using this
  rw [bys_get hj] at hu
  rw [← hu, Addr.add_lit, Nat.zero_add]
  exact h j hj
theorem BytesAt.news' {w : World} {g : Nat} {L : List UInt8} (h : BytesAt w g L) : ∀ j u, (bys L)[j]? = some u → w.cell? ⟨g, j, none⟩ = some u := fun j u hu => by
  have := h.news j u hu
  rwa [Addr.add_lit, Nat.zero_add] at this
theorem bys_one {L : List UInt8} : ∀ u ∈ bys L, u.oneCell' = true := fun u hu => by
  simp [bys] at hu
  obtain ⟨c, _, rfl⟩ := hu
  rfl
theorem row_bytes {w : World} {base g cap : Nat} {e : TypeId} {L : List UInt8} {c : UInt8} {x : Int} (h : w.ownsRow base e 1 (.slice (some ⟨g, 0, none⟩) (1 + L.length) cap) (1 + L.length) ([.int .u8 x] ++ bys L)) (hx : x = (c.toNat : Int)) : BytesAt w g (c :: L) := fun j hj => by
  simp only [List.length_cons] at hj
  rw [h.cellAt j (by omega)]
  cases j with
  | zero => simp [hx]
  | succ j =>
    have hj' : j < L.length := by omega
    simp [bys, hj']
theorem itoa_pos {n : Int} {L : List UInt8} (h0 : 0 < n) (h : L = decDigits n.natAbs) : itoa n = L := by
  unfold itoa
  rw [if_neg (by omega), h]
  congr 1
  omega
theorem itoa_neg {n : Int} {L : List UInt8} (h0 : n < 0) (h : L = decDigits n.natAbs) : itoa n = 45 :: L := by
  unfold itoa
  rw [if_pos h0, h]
theorem cat45 (L : List UInt8) : (⟨#[45]⟩ ++ ⟨L.toArray⟩ : ByteArray) = ⟨(45 :: L).toArray⟩ := by
  have h : ((⟨#[45]⟩ ++ ⟨L.toArray⟩ : ByteArray)).data = (45 :: L).toArray := by rw [ByteArray.data_append]; simp
  rw [← h]
theorem ret_str {a b : ByteArray} (h : a = b) : Ending.returned (.string a) = .returned (.string b) := by rw [h]
theorem itoa_zero : itoa 0 = [48] := by
  unfold itoa
  rw [if_neg (by omega), decDigits, dif_pos (by decide)]
  rfl
theorem conv_bytes (w : World) (g cap : Nat) (L : List UInt8) (h : BytesAt w g L) : (convert 36 9 (.slice (some ⟨g, 0, none⟩) L.length cap)).run Tryd.prog w = .ok (.string ⟨L.toArray⟩) w :=
  run_convert_bytes_back w 36 9 5 ⟨g, 0, none⟩ cap L Tryd.underlying36 Tryd.underlying5 Tryd.underlying9 fun j hj => by
    rw [Addr.add_lit, Nat.zero_add]; exact h j hj
end Go.Proofs.YtgclhkiiaclkgacDoor.Dc

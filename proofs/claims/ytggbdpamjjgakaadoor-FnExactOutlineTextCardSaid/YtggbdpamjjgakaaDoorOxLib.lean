/- OutlineText: plain, and the spec's text. -/
import Derived.Test.YtggbdpamjjgakaaDoorOmLib
import Derived.Test.YtggbdpamjjgakaaDoorStxLib
import Derived.Lib.ItoaLen
import Derived.Lib.Join
import Derived.Deep.RegionHeld3
import Derived.RegionTactic
namespace Go.Proofs.YtggbdpamjjgakaaDoor.Ox
open Go.RowKit Go.Proofs.YtggbdpamjjgakaaDoor.Ft Is Ge Qb Ol
open Go.Lib (itoa)
set_option linter.unusedVariables false

theorem app_eq (a b : List UInt8) : (⟨a.toArray⟩ ++ ⟨b.toArray⟩ : ByteArray) = ⟨(a ++ b).toArray⟩ := by
  apply ByteArray.ext
  simp
/-- A corner's text, and the text of the first k corners. -/
def ct (f : Nat → Int) (k : Nat) : List UInt8 := itoa (f (k * 2)) ++ [44] ++ itoa (f (k * 2 + 1))
def ot (f : Nat → Int) : Nat → List UInt8
  | 0 => []
  | k + 1 => (if k = 0 then [] else ot f k ++ [32]) ++ ct f k
noncomputable def oT (n : Nat) (f : Nat → Int) : ByteArray := if outB n f then ⟨(ot f n).toArray⟩ else ⟨#[]⟩
theorem it_len {n : Int} (h : 0 ≤ n ∧ n ≤ 10000) : (itoa n).length ≤ 21 := Lib.itoa_length_le n (by omega) (by omega)
theorem rng_at {n k : Nat} {f : Nat → Int} (hR : Rng n f) (hk : k < n) : (0 ≤ f (k * 2) ∧ f (k * 2) ≤ 10000) ∧ (0 ≤ f (k * 2 + 1) ∧ f (k * 2 + 1) ≤ 10000) := rg_spec (hR k hk)
theorem ct_len {n k : Nat} {f : Nat → Int} (hR : Rng n f) (hk : k < n) : (ct f k).length ≤ 43 := by
  obtain ⟨h0, h1⟩ := rng_at hR hk
  have := it_len h0
  have := it_len h1
  unfold ct
  simp; omega
theorem ot_len {n : Nat} {f : Nat → Int} (hR : Rng n f) : ∀ k, k ≤ n → (ot f k).length ≤ 44 * k
  | 0, _ => by simp [ot]
  | k + 1, hk => by
    have ih := ot_len hR k (by omega)
    have hd := ct_len hR (show k < n by omega)
    unfold ot
    split
    · simp; omega
    · simp; omega
theorem keep_of {w2 w' : World} {b i : Nat} {v : Value} (hb : Below w2.heap.size w2 w') (hg : b < w2.heap.size) (h : w2.cell? ⟨b, i, none⟩ = some v) : w'.cell? ⟨b, i, none⟩ = some v := (hb.cell (p := ⟨b, i, none⟩) hg).trans h

set_option maxRecDepth 100000 in
set_option maxHeartbeats 4000000 in
theorem stext (A : Option Addr) (n c : Nat) (f : Nat → Int) (h24 : n ≤ 24) (hR : Rng n f) (w : World) (hA : Nums w w.heap.size A (n * 2) f) :
    Calls Tryd.prog 10 #[.slice A n c] w fun e w' => e = .returned (.string ⟨(ot f n).toArray⟩) ∧ Below w.heap.size w w' := by
  have HA := Lib.hid hA
  have ND : Hid (∀ k, k < n → (∀ w : World, Calls Tryd.prog 18 #[.int .i64 (f (k * 2))] w fun e w' => e = .returned (.string ⟨(itoa (f (k * 2))).toArray⟩) ∧ Below w.heap.size w w') ∧ (∀ w : World, Calls Tryd.prog 18 #[.int .i64 (f (k * 2 + 1))] w fun e w' => e = .returned (.string ⟨(itoa (f (k * 2 + 1))).toArray⟩) ∧ Below w.heap.size w w') ∧ (⟨(itoa (f (k * 2))).toArray⟩ : ByteArray).size ≤ 21 ∧ (⟨(itoa (f (k * 2 + 1))).toArray⟩ : ByteArray).size ≤ 21) := Lib.hid fun k hk => by
    obtain ⟨h0, h1⟩ := rng_at hR hk
    exact ⟨fun w => Ds.dec_any _ (by omega) (by omega) w, fun w => Ds.dec_any _ (by omega) (by omega) w, it_len h0, it_len h1⟩
  have PL : Hid (∀ k, k ≤ n → (⟨(ot f k).toArray⟩ : ByteArray).size ≤ 1100) := Lib.hid fun k hk => by
    have := ot_len hR k hk
    show (ot f k).length ≤ 1100
    omega
  have PS : Hid (∀ k, 0 < k → (⟨(ot f (k + 1)).toArray⟩ : ByteArray) = ⟨(ot f k).toArray⟩ ++ ⟨#[32]⟩ ++ (⟨(itoa (f (k * 2))).toArray⟩ ++ ⟨#[44]⟩ ++ ⟨(itoa (f (k * 2 + 1))).toArray⟩)) := Lib.hid fun k h0 => by
    rw [show (⟨#[32]⟩ : ByteArray) = ⟨([32] : List UInt8).toArray⟩ from rfl, show (⟨#[44]⟩ : ByteArray) = ⟨([44] : List UInt8).toArray⟩ from rfl]
    simp only [app_eq]
    show (⟨((if k = 0 then [] else ot f k ++ [32]) ++ ct f k).toArray⟩ : ByteArray) = _
    rw [if_neg (by omega)]
    rfl
  have P1 : Hid ((⟨(ot f 1).toArray⟩ : ByteArray) = ⟨(ot f 0).toArray⟩ ++ (⟨(itoa (f (0 * 2))).toArray⟩ ++ ⟨#[44]⟩ ++ ⟨(itoa (f (0 * 2 + 1))).toArray⟩)) := Lib.hid (by
    rw [show (⟨#[44]⟩ : ByteArray) = ⟨([44] : List UInt8).toArray⟩ from rfl]
    simp only [app_eq]
    rfl)
  obtain ⟨Q, hQ⟩ : ∃ Q : Nat → ByteArray, ∀ k, (⟨(ot f k).toArray⟩ : ByteArray) = Q k := ⟨_, fun k => rfl⟩
  have Q0 : Q 0 = ⟨#[]⟩ := (hQ 0).symm
  simp only [hQ] at PL PS P1 ⊢
  obtain ⟨D, hD⟩ : ∃ D : Nat → ByteArray, ∀ k, (⟨(itoa (f k)).toArray⟩ : ByteArray) = D k := ⟨_, fun k => rfl⟩
  simp only [hD] at ND PS P1
  clear hQ hD hA hR
  go_enter Tryd.func10, Tryd.ntmps10
  go_wp2_with fail
  go_loopw [3, 4] (fun o i wr => ∃ k : Nat, k ≤ n ∧ o = .string (Q k) ∧ i = .int .i64 (k : Int) ∧ Hid (Below w.heap.size w wr)) (fun _ i _ => n - (intOf i).toNat)
  case atStart => exact ⟨0, Nat.zero_le _, by rw [Q0], rfl, Lib.hid (Below.refl _ _)⟩
  case round =>
    obtain ⟨k, hk, rfl, rfl, HB⟩ := hrel
    have f0 : (0 : Int) ≤ (k : Int) := Int.natCast_nonneg _
    by_cases hlt : k < n
    · obtain ⟨b, off, rfl, hb, hc⟩ := HA.out (by omega)
      have x : ∀ i, i < n * 2 → wr.cell? ⟨b, off + i, none⟩ = some (.int .i64 (f i)) := fun i hi => (HB.out.cell (p := ⟨b, off + i, none⟩) hb).trans (hc i hi)
      obtain ⟨a0, a1⟩ := Oq.nums_two x hlt
      obtain ⟨d0, d1, z0, z1⟩ := ND.out k hlt
      have D0 := Lib.hid d0
      have D1 := Lib.hid d1
      have zo := PL.out k hk
      have g1 : (k : Int) < (n : Int) := by omega
      have lt1 : b < wr.heap.size := Nat.lt_of_lt_of_le hb HB.out.size
      have HE : Hid (Q (k + 1) = (if k = 0 then Q k else Q k ++ ⟨#[32]⟩) ++ (D (k * 2) ++ ⟨#[44]⟩ ++ D (k * 2 + 1))) := Lib.hid (by
        by_cases h0 : k = 0
        · subst h0; rw [if_pos rfl]; exact P1.out
        · rw [if_neg h0]; exact PS.out k (by omega))
      generalize D (k * 2) = s0 at D0 z0 HE
      generalize D (k * 2 + 1) = s1 at D1 z1 HE
      generalize f (k * 2) = px at a0 D0
      generalize f (k * 2 + 1) = py at a1 D1
      generalize Q k = o at zo HE
      have n0 : ¬ 9223372036854775807 < s0.size + 1 := by omega
      have m0 : ¬ 9223372036854775807 ≤ s0.size := by omega
      have n1 : ¬ 9223372036854775807 < s0.size + 1 + s1.size := by omega
      have n2 : ¬ 9223372036854775807 < o.size + (s0.size + 1 + s1.size) := by omega
      have n3 : ¬ 9223372036854775807 < o.size + 1 := by omega
      have m3 : ¬ 9223372036854775807 ≤ o.size := by omega
      have n4 : ¬ 9223372036854775807 < o.size + 1 + (s0.size + 1 + s1.size) := by omega
      clear ND PL PS P1 x hc d0 d1
      by_cases h0 : k = 0
      · rw [if_pos h0] at HE
        have g0 : ¬ (0 : Int) < (k : Int) := by omega
        have hk1 : k + 1 ≤ n := by omega
        clear h0
        go_wp2_with fail
        go_region_held3 (fun w' => w'.cell? ⟨b, off + k * 2, none⟩ = some (.int .i64 px) ∧ w'.cell? ⟨b, off + k * 2 + 1, none⟩ = some (.int .i64 py))
          (first | (refine ⟨?_, ?_⟩ <;> (refine keep_of (w2 := wr) ?_ (by omega) (by assumption); (repeat (first | (with_reducible exact Below.refl _ _) | (with_reducible exact B1) | (with_reducible refine Below.drew ?_))))))
          (first | (go_at_call 18; (with_reducible refine (D0.out _).mono ?_); rintro e v1 ⟨rfl, b1⟩; have B1 := below_then (w0 := wr) ?_ b1; rotate_left; (focus (repeat (first | (with_reducible exact Below.refl _ _) | (with_reducible exact B1) | (with_reducible refine Below.drew ?_)))); clear b1; have q1 := B1.size)
                 | (go_at_call 18; (with_reducible refine (D1.out _).mono ?_); rintro e v1 ⟨rfl, b1⟩; have B1 := below_then (w0 := wr) ?_ b1; rotate_left; (focus (repeat (first | (with_reducible exact Below.refl _ _) | (with_reducible exact B1) | (with_reducible refine Below.drew ?_)))); clear b1; have q1 := B1.size))
        go_wp2_with fail
        go_roundw
        case rel => exact ⟨k + 1, hk1, by rw [HE.out], by go_num, Lib.hid (below_then HB.out B1)⟩
        case measure => simp [intOf]; omega
      · rw [if_neg h0] at HE
        have g0 : (0 : Int) < (k : Int) := by omega
        have hk1 : k + 1 ≤ n := by omega
        clear h0
        go_wp2_with fail
        go_region_held3 (fun w' => w'.cell? ⟨b, off + k * 2, none⟩ = some (.int .i64 px) ∧ w'.cell? ⟨b, off + k * 2 + 1, none⟩ = some (.int .i64 py))
          (first | (refine ⟨?_, ?_⟩ <;> (refine keep_of (w2 := wr) ?_ (by omega) (by assumption); (repeat (first | (with_reducible exact Below.refl _ _) | (with_reducible exact B1) | (with_reducible refine Below.drew ?_))))))
          (first | (go_at_call 18; (with_reducible refine (D0.out _).mono ?_); rintro e v1 ⟨rfl, b1⟩; have B1 := below_then (w0 := wr) ?_ b1; rotate_left; (focus (repeat (first | (with_reducible exact Below.refl _ _) | (with_reducible exact B1) | (with_reducible refine Below.drew ?_)))); clear b1; have q1 := B1.size)
                 | (go_at_call 18; (with_reducible refine (D1.out _).mono ?_); rintro e v1 ⟨rfl, b1⟩; have B1 := below_then (w0 := wr) ?_ b1; rotate_left; (focus (repeat (first | (with_reducible exact Below.refl _ _) | (with_reducible exact B1) | (with_reducible refine Below.drew ?_)))); clear b1; have q1 := B1.size))
        go_wp2_with fail
        go_roundw
        case rel => exact ⟨k + 1, hk1, by rw [HE.out], by go_num, Lib.hid (below_then HB.out B1)⟩
        case measure => simp [intOf]; omega
    · obtain rfl : k = n := by omega
      have g1 : ¬ (k : Int) < (k : Int) := by omega
      clear ND PL PS P1
      go_wp2_with fail
      go_ret
      exact ⟨rfl, HB.out⟩
end Go.Proofs.YtggbdpamjjgakaaDoor.Ox

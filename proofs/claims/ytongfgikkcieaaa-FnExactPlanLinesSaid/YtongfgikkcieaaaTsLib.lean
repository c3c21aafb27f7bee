/- Slices of texts: the law's comparison, its marks, and whether the marks are held. -/
import Derived.Test.YtongfgikkcieaaaMtLib
import Derived.Deep.RegionHeld3
namespace Go.Proofs.Ytongfgikkcieaaa.Ts
open Go.RowKit Ba Mt

/-- A slice of n texts f, below block B. -/
def Txts (w : World) (B : Nat) (A : Option Addr) (n : Nat) (f : Nat → ByteArray) : Prop :=
  0 < n → ∃ b off, A = some ⟨b, off, none⟩ ∧ b < B ∧ ∀ i, i < n → w.cell? ⟨b, off + i, none⟩ = some (.string (f i))
theorem Txts.below {w w' : World} {B B' n : Nat} {A : Option Addr} {f : Nat → ByteArray} (h : Txts w B A n f) (hb : Below B' w w') (hB : B ≤ B') : Txts w' B A n f := fun hn => by
  obtain ⟨b, off, rfl, hlt, hc⟩ := h hn
  exact ⟨b, off, rfl, hlt, fun i hi => (hb.cell (p := ⟨b, off + i, none⟩) (by show b < B'; omega)).trans (hc i hi)⟩
theorem Txts.more {w : World} {B B' n : Nat} {A : Option Addr} {f : Nat → ByteArray} (h : Txts w B A n f) (hB : B ≤ B') : Txts w B' A n f := fun hn => by
  obtain ⟨b, off, rfl, hlt, hc⟩ := h hn
  exact ⟨b, off, rfl, by omega, hc⟩
/-- A row of the call's own: from block B on, not frozen. -/
def OwnT (w : World) (B : Nat) (A : Option Addr) (n : Nat) (f : Nat → ByteArray) : Prop :=
  0 < n → ∃ b off, A = some ⟨b, off, none⟩ ∧ B ≤ b ∧ b < w.heap.size ∧ (∀ i, i < n → w.cell? ⟨b, off + i, none⟩ = some (.string (f i))) ∧ ∀ i, w.frozen? ⟨b, i, none⟩ = false
theorem OwnT.texts {w : World} {B n : Nat} {A : Option Addr} {f : Nat → ByteArray} (h : OwnT w B A n f) : Txts w w.heap.size A n f := fun hn => by
  obtain ⟨b, off, rfl, _, hlt, hc, _⟩ := h hn
  exact ⟨b, off, rfl, hlt, hc⟩
theorem OwnT.below {w w' : World} {B n : Nat} {A : Option Addr} {f : Nat → ByteArray} (h : OwnT w B A n f) (hb : Below w.heap.size w w') : OwnT w' B A n f := fun hn => by
  obtain ⟨b, off, rfl, hB, hlt, hc, hf⟩ := h hn
  exact ⟨b, off, rfl, hB, by have := hb.size; omega, fun i hi => (hb.cell (p := ⟨b, off + i, none⟩) hlt).trans (hc i hi), fun i => (hb.frozen (p := ⟨b, i, none⟩) hlt).trans (hf i)⟩

set_option maxRecDepth 100000 in
theorem eq_texts (A1 A2 : Option Addr) (n c1 c2 : Nat) (f : Nat → ByteArray) (hn : n ≤ 1048577) (w : World) (h1 : Txts w w.heap.size A1 n f) (h2 : Txts w w.heap.size A2 n f) :
    Calls Try.prog 19 #[.slice A1 n c1, .slice A2 n c2] w fun e w' => e = .returned (.bool true) ∧ Below w.heap.size w w' := by
  have H1 := Lib.hid h1
  have H2 := Lib.hid h2
  clear h1 h2
  go_enter Try.func19, Try.ntmps19
  go_wp2_with fail
  go_loopw [5] (fun i wr => ∃ k : Nat, k ≤ n ∧ i = .int .i64 k ∧ Below w.heap.size w wr) (fun i _ => n - (intOf i).toNat)
  case atStart => exact ⟨0, Nat.zero_le _, rfl, Below.refl _ _⟩
  case round =>
    obtain ⟨k, hk, rfl, hbel⟩ := hrel
    have HB := Lib.hid hbel
    by_cases hlt : k < n
    · obtain ⟨b1, off1, rfl, hb1, hc1⟩ := (H1.out.below hbel (Nat.le_refl _)) (by omega)
      obtain ⟨b2, off2, rfl, hb2, hc2⟩ := (H2.out.below hbel (Nat.le_refl _)) (by omega)
      have x0 := hc1 k hlt
      have y0 := hc2 k hlt
      have e0 : (0 : Int) ≤ (k : Int) := Int.natCast_nonneg _
      have e1 : (k : Int) < (n : Int) := by omega
      clear hc1 hc2 hbel hk
      generalize f k = x at x0 y0
      go_wp2_with fail
      go_region
      all_goals
        have HQ := Lib.hid HB.out.drew
        clear x0 y0
        go_wp2_with fail
        go_roundw
        case rel => exact ⟨k + 1, by omega, by go_num, HQ.out⟩
        case measure => simp [intOf]; omega
    · go_wp2_with fail
      go_ret
      exact ⟨rfl, HB.out⟩

/-- The marks from the number k0 on. -/
def mk (k0 : Int) (i : Nat) : ByteArray := mkT (k0 + (i : Int))
def part (k0 : Int) (f : Nat → ByteArray) (j i : Nat) : ByteArray := if i < j then mk k0 i else f i
theorem own_set {wr : World} {B n j : Nat} {b off : Nat} {k0 : Int} {f : Nat → ByteArray} (hB : B ≤ b) (hlt : b < wr.heap.size) (hj : j < n)
    (hc : ∀ i, i < n → wr.cell? ⟨b, off + i, none⟩ = some (.string (part k0 f j i))) (hf : ∀ i, wr.frozen? ⟨b, i, none⟩ = false) :
    OwnT (wr.setCell ⟨b, off + j, none⟩ (.string (mk k0 j))) B (some ⟨b, off, none⟩) n (part k0 f (j + 1)) := fun _ =>
  ⟨b, off, rfl, hB, by simpa using hlt, fun i hi => by
    by_cases e : i = j
    · subst e
      rw [World.cell?_setCell_same _ _ _ (hc i hi)]
      simp [part]
    · rw [World.cell?_setCell_other _ _ _ _ (show (⟨b, off + j, none⟩ : Addr) ≠ ⟨b, off + i, none⟩ from fun q => by have := (Addr.mk.inj q).2.1; omega), hc i hi]
      have : part k0 f j i = part k0 f (j + 1) i := by
        unfold part
        by_cases h : i < j
        · rw [if_pos h, if_pos (by omega)]
        · rw [if_neg h, if_neg (by omega)]
      rw [this], fun i => (World.frozen?_setCell _ _ _ _).trans (hf i)⟩

theorem mark_texts (A : Option Addr) (n c : Nat) (k0 : Int) (f : Nat → ByteArray) (hn : n ≤ 1048577) (h0 : 0 < k0) (h1 : k0 ≤ 1048577) (B : Nat) (w : World) (hBw : B ≤ w.heap.size) (h : OwnT w B A n f) :
    Calls Try.prog 31 #[.slice A n c, .int .i64 k0] w fun e w' => e = .returned (.int .i64 (k0 + (n : Int))) ∧ OwnT w' B A n (mk k0) ∧ Below B w w' := by
  have HO : Hid (OwnT w B A n (part k0 f 0)) := Lib.hid fun hp => by
    obtain ⟨b, off, e, hB, hlt, hc, hf⟩ := h hp
    exact ⟨b, off, e, hB, hlt, fun i hi => by rw [hc i hi]; simp [part], hf⟩
  have HE : Hid (∀ w', OwnT w' B A n (part k0 f n) → OwnT w' B A n (mk k0)) := Lib.hid fun w' ho hp => by
    obtain ⟨b, off, e, hB, hlt, hc, hf⟩ := ho hp
    exact ⟨b, off, e, hB, hlt, fun i hi => by rw [hc i hi]; simp [part, hi], hf⟩
  have MT := Lib.hid fun (j : Nat) (hj : j < n) w => mark_text (k0 + (j : Int)) (by omega) (by omega) w
  clear h
  go_enter Try.func31, Try.ntmps31
  go_wp2_with fail
  go_loopw [1, 5] (fun kk i wr => ∃ j : Nat, j ≤ n ∧ i = .int .i64 j ∧ kk = .int .i64 (k0 + (j : Int)) ∧ Below B w wr ∧ Hid (OwnT wr B A n (part k0 f j))) (fun _ i _ => n - (intOf i).toNat)
  case atStart => exact ⟨0, Nat.zero_le _, rfl, by simp, Below.refl _ _, HO⟩
  case round =>
    obtain ⟨j, hj, rfl, rfl, hbel, hown⟩ := hrel
    have HB := Lib.hid hbel
    by_cases hlt : j < n
    · have M := Lib.hid (MT.out j hlt)
      have HOW := Lib.hid fun w' (hb : Below wr.heap.size wr w') => hown.out.below hb
      have hzr := HB.out.size
      clear hbel
      obtain ⟨b, off, rfl, hB, hbs, hc, hf⟩ := hown.out (by omega)
      clear hc hf
      go_wp2_with fail
      refine (M.out _).mono ?_
      rintro e w1 ⟨rfl, b1⟩
      have HB1 := Lib.hid (HB.out.trans (b1.mono (Nat.le_trans hBw hzr)))
      obtain ⟨b', off', e', hB', hbs', hc', hf'⟩ := (HOW.out w1 b1) (by omega)
      obtain ⟨rfl, rfl⟩ : b = b' ∧ off = off' := by simpa using e'
      have x0 := hc' j hlt
      have z0 := hf' (off + j)
      have HN := Lib.hid (own_set (k0 := k0) (f := f) hB hbs' hlt hc' hf')
      have HM : Hid (mk k0 j = mkT (k0 + (j : Int))) := Lib.hid rfl
      clear hc' hf' b1 hj e' HOW M
      generalize part k0 f j j = old at x0
      go_wp2_with fail
      rw [HM.out] at HN
      have HQ := Lib.hid (HB1.out.setCell (p := ⟨b, off + j, none⟩) hB (.string (mkT (k0 + (j : Int)))))
      go_roundw
      case rel => exact ⟨j + 1, by omega, by go_num, by go_num, HQ.out, HN⟩
      case measure => simp [intOf]; omega
    · obtain rfl : j = n := by omega
      have HF := Lib.hid (HE.out _ hown.out)
      go_wp2_with fail
      go_ret
      exact ⟨rfl, HF.out, HB.out⟩

theorem keep_of {w2 w' : World} {g i : Nat} {v : Value} (hb : Below w2.heap.size w2 w') (hg : g < w2.heap.size) (h : w2.cell? ⟨g, i, none⟩ = some v) : w'.cell? ⟨g, i, none⟩ = some v := (hb.cell (p := ⟨g, i, none⟩) hg).trans h
set_option maxRecDepth 100000 in
theorem held_texts (A : Option Addr) (n c : Nat) (k0 : Int) (hn : n ≤ 1048577) (h0 : 0 < k0) (h1 : k0 ≤ 1048577) (w : World) (h : Txts w w.heap.size A n (mk k0)) :
    Calls Try.prog 49 #[.slice A n c, .int .i64 k0] w fun e w' => e = .returned (.int .i64 (k0 + (n : Int))) ∧ Below w.heap.size w w' := by
  have H := Lib.hid h
  have MT := Lib.hid fun (j : Nat) (hj : j < n) w => mark_text (k0 + (j : Int)) (by omega) (by omega) w
  clear h
  go_enter Try.func49, Try.ntmps49
  go_wp2_with fail
  go_loopw [1, 5] (fun kk i wr => ∃ j : Nat, j ≤ n ∧ i = .int .i64 j ∧ kk = .int .i64 (k0 + (j : Int)) ∧ Hid (Below w.heap.size w wr)) (fun _ i _ => n - (intOf i).toNat)
  case atStart => exact ⟨0, Nat.zero_le _, rfl, by simp, Lib.hid (Below.refl _ _)⟩
  case round =>
    obtain ⟨j, hj, rfl, rfl, HB⟩ := hrel
    by_cases hlt : j < n
    · obtain ⟨b, off, rfl, hb, hc⟩ := (H.out.below HB.out (Nat.le_refl _)) (by omega)
      have x0 : wr.cell? ⟨b, off + j, none⟩ = some (.string (mkT (k0 + (j : Int)))) := hc j hlt
      have hbr : b < wr.heap.size := Nat.lt_of_lt_of_le hb HB.out.size
      have M := Lib.hid (MT.out j hlt)
      have e0 : (0 : Int) ≤ (j : Int) := Int.natCast_nonneg _
      have e1 : (j : Int) < (n : Int) := by omega
      clear hc hj
      generalize mkT (k0 + (j : Int)) = t at x0 M
      go_wp2_with fail
      go_region_held3 (fun w' => w'.cell? ⟨b, off + j, none⟩ = some (.string t))
        (first | (refine keep_of (w2 := wr) ?_ (by omega) (by assumption); (repeat (first | (with_reducible exact Below.refl _ _) | (with_reducible exact B1) | (with_reducible refine Below.drew ?_)))))
        (first | (go_at_call 70; (with_reducible refine (M.out _).mono ?_); rintro e v1 ⟨rfl, b1⟩; have B1 := below_then (w0 := wr) ?_ b1; rotate_left; (focus (repeat (first | (with_reducible exact Below.refl _ _) | (with_reducible exact B1) | (with_reducible refine Below.drew ?_)))); clear b1; have q1 := B1.size))
      have HQ := Lib.hid (below_then HB.out B1)
      clear x0 B1 q1 hbr hb
      go_wp2_with fail
      go_roundw
      case rel => exact ⟨j + 1, by omega, by go_num, by go_num, HQ⟩
      case measure => simp [intOf]; omega
    · obtain rfl : j = n := by omega
      go_wp2_with fail
      go_ret
      exact ⟨rfl, HB.out⟩
end Go.Proofs.Ytongfgikkcieaaa.Ts

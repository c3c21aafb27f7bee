/- MirrorOutline and TurnOutline: the program's functions. -/
import Derived.Test.YtggbdpamjjgakaaMqLib
import Derived.Test.YtggbdpamjjgakaaBaLib
namespace Go.Proofs.Ytggbdpamjjgakaa.Mr
set_option linter.unusedVariables false
open Go.RowKit Ft Is Ge Qb Ol Ot Opl Oq Oi Oj Ok Om Bo Bp Bw Mo Mp Mq

theorem out_is {n : Nat} {f : Nat → Int} (h : outB n f = true) : Rng n f ∧ 3 ≤ n ∧ n ≤ 24 := by
  have := tv_iff.1 h
  exact ⟨this.1, this.2.1⟩
theorem pt_bd {n : Nat} {f : Nat → Int} (h : Rng n f) {i : Nat} (hi : i < n) : (-10000 ≤ (pt f i).1 ∧ (pt f i).1 ≤ 10000) ∧ (-10000 ≤ (pt f i).2 ∧ (pt f i).2 ≤ 10000) := by
  have := rg_spec (h i hi)
  omega
/-- A new list of spots of the call's own, and a code. -/
def PrS (m : Nat) (d : Nat → Int) (c : Int) (w : World) (e : Ending) (w' : World) : Prop := ∃ A cap, e = .returned (.tuple #[.slice A m cap, .int .i64 c]) ∧ Hid (Own w' w.heap.size A (m * 2) d) ∧ Below w.heap.size w w'
theorem prs_no {d : Nat → Int} {c : Int} {w w' : World} (hb : Below w.heap.size w w') : PrS 0 d c w (.returned (.tuple #[.slice none 0 0, .int .i64 c])) w' := ⟨none, 0, rfl, Lib.hid fun h => absurd h (by omega), hb⟩
theorem own_at {w : World} {B g n : Nat} {d : Nat → Int} (h : Ge.At w g n d) (hB : B ≤ g) : Own w B (some ⟨g, 0, none⟩) n d := fun _ => ⟨g, 0, rfl, hB, h.1, fun i hi => by rw [Nat.zero_add]; exact h.2.1 i hi, h.2.2⟩
def mrG (p : Pt) : Pt := (-p.1, p.2)
/- Lengths and codes. -/
noncomputable def mrM (n : Nat) (f : Nat → Int) : Nat := if outB n f = true then n else 0
noncomputable def mrC (n : Nat) (f : Nat → Int) : Int := if outB n f = true then 0 else 1
theorem mrM_le (n : Nat) (f : Nat → Int) : mrM n f ≤ 1048576 := by
  unfold mrM
  split
  · rename_i h
    have := (out_is h).2.2
    omega
  · omega
/-- The mirrored outline's numbers. -/
def mrD (n : Nat) (f : Nat → Int) : Nat → Int := rv n (ly n (mp mrG f))
theorem but_below {g B : Nat} {w w' : World} (h : But g w w') (hB : B ≤ g) (hs : B ≤ w.heap.size) : Below B w w' := h.below hB hs
set_option maxRecDepth 100000 in
theorem impl_mr (A : Option Addr) (n c : Nat) (f : Nat → Int) (hn : n ≤ 1048576) (w : World) (hA : Nums w w.heap.size A (n * 2) f) :
    Calls Try.prog 38 #[.slice A n c] w (PrS (mrM n f) (mrD n f) (mrC n f) w) := by
  have C := Lib.hid (iok A n c f hn w hA)
  unfold mrM mrC
  cases ho : outB n f
  · rw [ho] at C
    clear hA
    simp only [Bool.false_eq_true, if_false]
    have HN : Hid (∀ w', Below w.heap.size w w' → PrS 0 (mrD n f) 1 w (.returned (.tuple #[.slice none 0 0, .int .i64 1])) w') := Lib.hid fun w' hb => prs_no hb
    generalize PrS 0 (mrD n f) 1 w = Q at HN ⊢
    go_enter Try.func38, Try.ntmps38
    go_wp2_with fail
    refine C.out.mono ?_
    rintro e w2 ⟨rfl, b2⟩
    go_wp2_with fail
    exact HN.out _ b2
  · obtain ⟨hR, h3, h24⟩ := out_is ho
    rw [ho] at C
    simp only [if_true]
    have AF : Hid (∀ w', Below w.heap.size w w' → Calls Try.prog 69 #[.iface 75 (.agg #[]), .slice A n c] w' (AfAt n (ly n (mp mrG f)) w')) := Lib.hid fun w' hb =>
      iafter 75 (.agg #[]) 133 mrG method_mi (Go.Proofs.enters_of Try.func133 (by kernel_rfl) rfl) A n c f h3 h24 hR
        (fun i hi w => imir (pt f i).1 (pt f i).2 (wr_in (by have := pt_bd hR hi; omega)) w)
        (fun i hi => by have := pt_bd hR hi; show (-10000 ≤ -(pt f i).1 ∧ -(pt f i).1 ≤ 10000) ∧ (-10000 ≤ (pt f i).2 ∧ (pt f i).2 ≤ 10000); omega) w' ((hA.below hb (Nat.le_refl _)).more hb.size)
    have RV : Hid (∀ g cap w', Ge.At w' g (n * 2) (ly n (mp mrG f)) → Calls Try.prog 70 #[.slice (some ⟨g, 0, none⟩) n cap] w' fun e w2 => e = .returned (.tuple #[]) ∧ Hid (Ge.At w2 g (n * 2) (mrD n f)) ∧ But g w' w2) := Lib.hid fun g cap w' h => irev g n cap (ly n (mp mrG f)) (by omega) h24 w' h
    have HY : Hid (∀ g cap w', w.heap.size ≤ g → Ge.At w' g (n * 2) (mrD n f) → Below w.heap.size w w' → PrS n (mrD n f) 0 w (.returned (.tuple #[.slice (some ⟨g, 0, none⟩) n cap, .int .i64 0])) w') := Lib.hid fun g cap w' hg h hb => ⟨_, cap, rfl, Lib.hid (own_at h hg), hb⟩
    generalize PrS n (mrD n f) 0 w = Q at HY ⊢
    generalize mrD n f = D at HY RV
    generalize ly n (mp mrG f) = L at AF RV
    clear hA hR
    go_enter Try.func38, Try.ntmps38
    go_wp2_with fail
    refine C.out.mono ?_
    rintro e w2 ⟨rfl, b2⟩
    have B2 := Lib.hid b2
    have hz2 := b2.size
    clear b2
    go_wp2_with fail
    refine (AF.out _ B2.out).mono ?_
    rintro e w3 ⟨g, cap, rfl, _, hg, HA3, b3⟩
    have B3 := Lib.hid (below_then B2.out b3)
    have C3 := Lib.hid (RV.out g cap w3 HA3.out)
    have hz3 := B3.out.size
    clear b3 AF RV HA3
    go_wp2_with fail
    refine C3.out.mono ?_
    rintro e w4 ⟨rfl, HA4, b4⟩
    have HF := Lib.hid (HY.out g cap w4 (by omega) HA4.out (B3.out.trans (but_below b4 (by omega) hz3)))
    clear b4 HA4 C3 HY
    go_wp2_with fail
    exact HF.out
noncomputable def tnM (n : Nat) (f : Nat → Int) (q : Int) : Nat := if outB n f = true then (if inB q 0 3 = true then n else 0) else 0
noncomputable def tnC (n : Nat) (f : Nat → Int) (q : Int) : Int := if outB n f = true then (if inB q 0 3 = true then 0 else 2) else 1
theorem tnM_le (n : Nat) (f : Nat → Int) (q : Int) : tnM n f q ≤ 1048576 := by
  unfold tnM
  split
  · rename_i h
    have := (out_is h).2.2
    split <;> omega
  · omega
def tnD (n : Nat) (f : Nat → Int) (q : Int) : Nat → Int := ly n (mp (rotN q.toNat) f)
set_option maxRecDepth 100000 in
theorem impl_tn (A : Option Addr) (n c : Nat) (f : Nat → Int) (q : Int) (hn : n ≤ 1048576) (w : World) (hA : Nums w w.heap.size A (n * 2) f) :
    Calls Try.prog 40 #[.slice A n c, .int .i64 q] w (PrS (tnM n f q) (tnD n f q) (tnC n f q) w) := by
  have C := Lib.hid (iok A n c f hn w hA)
  have I := Lib.hid fun w => iwith q 0 3 w
  unfold tnM tnC
  cases ho : outB n f
  · rw [ho] at C
    clear hA
    simp only [Bool.false_eq_true, if_false]
    have HN : Hid (∀ w', Below w.heap.size w w' → PrS 0 (tnD n f q) 1 w (.returned (.tuple #[.slice none 0 0, .int .i64 1])) w') := Lib.hid fun w' hb => prs_no hb
    generalize PrS 0 (tnD n f q) 1 w = Q at HN ⊢
    generalize inB q 0 3 = r at I
    go_enter Try.func40, Try.ntmps40
    go_wp2_with fail
    refine C.out.mono ?_
    rintro e w2 ⟨rfl, b2⟩
    go_wp2_with fail
    refine (I.out _).mono ?_
    rintro e w' ⟨rfl, rfl⟩
    go_wp2_with fail
    refine (Ba.arg_inv r _).mono ?_
    rintro e w' ⟨rfl, rfl⟩
    go_wp2_with fail
    exact HN.out _ b2
  · obtain ⟨hR, h3, h24⟩ := out_is ho
    rw [ho] at C
    simp only [if_true]
    cases hr : inB q 0 3
    · rw [hr] at I
      clear hA
      simp only [Bool.false_eq_true, if_false]
      have HN : Hid (∀ w', Below w.heap.size w w' → PrS 0 (tnD n f q) 2 w (.returned (.tuple #[.slice none 0 0, .int .i64 2])) w') := Lib.hid fun w' hb => prs_no hb
      generalize PrS 0 (tnD n f q) 2 w = Q at HN ⊢
      go_enter Try.func40, Try.ntmps40
      go_wp2_with fail
      refine C.out.mono ?_
      rintro e w2 ⟨rfl, b2⟩
      go_wp2_with fail
      refine (I.out _).mono ?_
      rintro e w' ⟨rfl, rfl⟩
      go_wp2_with fail
      refine (Ba.arg_rng _).mono ?_
      rintro e w' ⟨rfl, rfl⟩
      go_wp2_with fail
      exact HN.out _ b2
    · rw [hr] at I
      have hq : 0 ≤ q ∧ q ≤ 3 := by simpa [inB] using hr
      obtain ⟨m, rfl⟩ : ∃ m : Nat, q = (m : Int) := ⟨q.toNat, by omega⟩
      simp only [if_true]
      have AF : Hid (∀ w', Below w.heap.size w w' → Calls Try.prog 69 #[.iface 77 (.int .i64 (m : Int)), .slice A n c] w' (AfAt n (ly n (mp (rotN m) f)) w')) := Lib.hid fun w' hb =>
        iafter 77 (.int .i64 (m : Int)) 134 (rotN m) (method_qt m) (Go.Proofs.enters_of Try.func134 (by kernel_rfl) rfl) A n c f h3 h24 hR
          (fun i hi w => irot m (by omega) (pt f i) (pt_bd hR hi) w)
          (fun i hi => rot_bd (pt_bd hR hi) m) w' ((hA.below hb (Nat.le_refl _)).more hb.size)
      have HY : Hid (∀ g cap w', w.heap.size ≤ g → Ge.At w' g (n * 2) (ly n (mp (rotN m) f)) → Below w.heap.size w w' → PrS n (tnD n f (m : Int)) 0 w (.returned (.tuple #[.slice (some ⟨g, 0, none⟩) n cap, .int .i64 0])) w') := Lib.hid fun g cap w' hg h hb => ⟨_, cap, rfl, Lib.hid (by unfold tnD; rw [Int.toNat_natCast]; exact own_at h hg), hb⟩
      generalize PrS n (tnD n f (m : Int)) 0 w = Q at HY ⊢
      generalize ly n (mp (rotN m) f) = L at AF HY
      clear hA hR
      go_enter Try.func40, Try.ntmps40
      go_wp2_with fail
      refine C.out.mono ?_
      rintro e w2 ⟨rfl, b2⟩
      have B2 := Lib.hid b2
      have hz2 := b2.size
      clear b2
      go_wp2_with fail
      refine (I.out _).mono ?_
      rintro e w' ⟨rfl, rfl⟩
      go_wp2_with fail
      refine (Ba.arg_ok _).mono ?_
      rintro e w' ⟨rfl, rfl⟩
      go_wp2_with fail
      refine (AF.out _ B2.out).mono ?_
      rintro e w3 ⟨g, cap, rfl, _, hg, HA3, b3⟩
      have HF := Lib.hid (HY.out g cap w3 (by omega) HA3.out (below_then B2.out b3))
      clear b3 AF HA3
      go_wp2_with fail
      exact HF.out
end Go.Proofs.Ytggbdpamjjgakaa.Mr

/- The source of draws: the spec's l00Src: a number of a byte, a number below n, one in n, one of a list. -/
import Derived.Test.YtcnbnpeilkdfiaaDoorBwLib
import Derived.Test.YtcnbnpeilkdfiaaDoorQbLib
import Derived.Test.YtcnbnpeilkdfiaaDoorGeLib
import Derived.Test.YtcnbnpeilkdfiaaDoorIsLib
import Derived.Laws.Bits64
import Derived.Laws.Bits64b
import Derived.Laws.BitsAllLaws
namespace Go.Proofs.YtcnbnpeilkdfiaaDoor.Src
set_option linter.unusedVariables false
open Go.RowKit Ft Is Ge Qb Bw

/-- Bytes that can be read, in a block other than g. -/
def Bys (w : World) (g : Nat) (A : Option Addr) (n : Nat) : Prop := 0 < n → ∃ b off, A = some ⟨b, off, none⟩ ∧ b < w.heap.size ∧ b ≠ g ∧ ∀ i, i < n → ∃ x : Int, w.cell? ⟨b, off + i, none⟩ = some (.int .u8 x) ∧ 0 ≤ x ∧ x ≤ 255
theorem Bys.but {w w' : World} {g : Nat} {A : Option Addr} {n : Nat} (h : Bys w g A n) (hb : But g w w') : Bys w' g A n := fun hn => by
  obtain ⟨b, off, e, h1, h2, h3⟩ := h hn
  exact ⟨b, off, e, Nat.lt_of_lt_of_le h1 hb.size, h2, fun i hi => by
    obtain ⟨x, hx, h0⟩ := h3 i hi
    exact ⟨x, hb.cell h2 hx, h0⟩⟩
theorem Bys.below {w w' : World} {g : Nat} {A : Option Addr} {n : Nat} (h : Bys w g A n) (hb : Below w.heap.size w w') : Bys w' g A n := h.but (But.of_below hb)
abbrev srC (A : Option Addr) (n c : Nat) (at_ sd : Int) : Obj := .cells #[.slice A n c, .int .i64 at_, .int .u64 sd] 83 (0, 0)
/-- A source of draws at block g, of which no more than m have been drawn. -/
structure Src (w : World) (g : Nat) (A : Option Addr) (n c m : Nat) (at_ sd : Int) : Prop where
  blk : w.heap[g]? = some (srC A n c at_ sd)
  at0 : 0 ≤ at_
  at1 : at_ ≤ m
  sd0 : 0 ≤ sd
  sd1 : sd ≤ 18446744073709551615
  bys : Bys w g A n
theorem Src.but {w w' : World} {g : Nat} {A : Option Addr} {n c m : Nat} {p q : Int} (h : Src w g A n c m p q) (hb : Below w.heap.size w w') : Src w' g A n c m p q :=
  ⟨blk_keep hb h.blk, h.at0, h.at1, h.sd0, h.sd1, h.bys.below hb⟩
/-- One draw or more: a number from lo to hi. -/
def Drawn (g : Nat) (A : Option Addr) (n c m : Nat) (lo hi : Int) (w : World) (e : Ending) (w' : World) : Prop := ∃ (x p q : Int), e = .returned (.int .i64 x) ∧ lo ≤ x ∧ x ≤ hi ∧ Hid (Src w' g A n c m p q) ∧ But g w w'
theorem below_drewN (w : World) : ∀ n, Below w.heap.size w (w.drewN n)
  | 0 => Below.refl _ _
  | n + 1 => (below_drewN w n).drew
theorem put {w : World} {g : Nat} {A : Option Addr} {n c : Nat} {p q : Int} (h : w.heap[g]? = some (srC A n c p q)) (k : Nat) (p' q' : Int) :
    (((w.drewN k).setCell ⟨g, 1, none⟩ (.int .i64 p')).setCell ⟨g, 2, none⟩ (.int .u64 q')).heap[g]? = some (srC A n c p' q') ∧ But g w (((w.drewN k).setCell ⟨g, 1, none⟩ (.int .i64 p')).setCell ⟨g, 2, none⟩ (.int .u64 q')) := by
  have h1 : (w.drewN k).heap[g]? = some (srC A n c p q) := h
  exact ⟨heap_set (heap_set h1 1 (.int .i64 p')) 2 (.int .u64 q'), ((But.of_below (below_drewN w k)).setCell 1 _).setCell 2 _⟩
theorem u64_in (x : Int) : 0 ≤ IntKind.u64.wrap x ∧ IntKind.u64.wrap x ≤ 18446744073709551615 := by
  rw [IntKind.wrap_u64]; omega
theorem and_in {s : Int} (h0 : 0 ≤ s) (h1 : s ≤ 18446744073709551615) : 0 ≤ wrap64 (bits .and .u64 (s / 1099511627776) 255) ∧ wrap64 (bits .and .u64 (s / 1099511627776) 255) ≤ 255 := by
  obtain ⟨a, ha⟩ : ∃ a : Nat, s / 1099511627776 = (a : Int) := ⟨(s / 1099511627776).toNat, by omega⟩
  have e := bits_and_u64_nat a 255 (by omega) (by omega)
  rw [ha, show (255 : Int) = ((255 : Nat) : Int) from rfl, e]
  have h2 : a &&& 255 ≤ 255 := Nat.and_le_right
  generalize a &&& 255 = r at h2
  have : wrap64 (r : Int) = (r : Int) := by unfold wrap64; omega
  rw [this]
  omega
set_option maxRecDepth 100000 in
set_option maxHeartbeats 2000000 in
theorem next (g : Nat) (A : Option Addr) (n c m : Nat) (p q : Int) (hn : n ≤ 1048576) (hm : m ≤ 1048576) (w : World) (h : Src w g A n c m p q) :
    Calls Tryd.prog 74 #[.pointer (some ⟨g, 0, none⟩)] w (Drawn g A n c (m + 1) 0 255 w) := by
  have HS := Lib.hid h
  have hat0 := h.at0
  have hat1 := h.at1
  have hl := lt_of_heap h.blk
  obtain ⟨k0, k1, k2⟩ : w.cell? ⟨g, 0, none⟩ = some (.slice A n c) ∧ w.cell? ⟨g, 1, none⟩ = some (.int .i64 p) ∧ w.cell? ⟨g, 2, none⟩ = some (.int .u64 q) := ⟨cell_of_row _ _ _ _ _ _ h.blk, cell_of_row _ _ _ _ _ _ h.blk, cell_of_row _ _ _ _ _ _ h.blk⟩
  have hfr := blk_free h.blk
  have t1 : IntKind.i64.wrap (p + 1) = p + 1 := IntWalk.i64_in _ (by omega)
  have F := Lib.hid fun k p' q' => put h.blk k p' q'
  have fin : Hid (∀ (w9 w' : World) (x s9 : Int), w9.heap[g]? = some (srC A n c (p + 1) s9) → But g w w9 → 0 ≤ s9 ∧ s9 ≤ 18446744073709551615 → 0 ≤ x → x ≤ 255 → Below w9.heap.size w9 w' → Drawn g A n c (m + 1) 0 255 w (.returned (.int .i64 x)) w') := Lib.hid fun w9 w' x s9 h1 h2 h3 h4 h5 h6 =>
    ⟨x, p + 1, s9, rfl, h4, h5, Lib.hid ⟨blk_keep h6 h1, by omega, by omega, h3.1, h3.2, (HS.out.bys.but h2).below h6⟩, h2.trans (But.of_below h6)⟩
  clear h
  generalize Drawn g A n c (m + 1) 0 255 w = Q at fin ⊢
  by_cases hlt : p < (n : Int)
  · obtain ⟨b, off, rfl, hb, hne, hc⟩ := HS.out.bys (by omega)
    obtain ⟨j, rfl⟩ : ∃ j : Nat, p = (j : Int) := ⟨p.toNat, by omega⟩
    obtain ⟨x, hx, x0, x1⟩ := hc j (by omega)
    have hle : (j : Int) + 1 ≤ (n : Int) := by omega
    clear hc
    go_enter Tryd.func74, Tryd.ntmps74
    go_wp2_with fail
    go_quiet (fail)
    go_wp2_with fail
    go_quiet (fail)
    go_wp2_with fail
    generalize hq9 : IntKind.u64.wrap (IntKind.u64.wrap (IntKind.u64.wrap (q * 6364136223846793005) + x) + 1442695040888963407) = s9
    have hs9 : 0 ≤ s9 ∧ s9 ≤ 18446744073709551615 := by rw [← hq9]; exact u64_in _
    generalize hw9 : World.setCell _ _ _ = w9
    have KB : w9.heap[g]? = some (srC (some ⟨b, off, none⟩) n c ((j : Int) + 1) s9) := by rw [← hw9]; exact (F.out _ _ _).1
    have HB : Hid (But g w w9) := Lib.hid (by rw [← hw9]; exact (F.out _ _ _).2)
    clear hw9 hq9 F k0 k1 k2 hfr hx
    obtain ⟨k0, k1, k2⟩ : w9.cell? ⟨g, 0, none⟩ = some (.slice (some ⟨b, off, none⟩) n c) ∧ w9.cell? ⟨g, 1, none⟩ = some (.int .i64 ((j : Int) + 1)) ∧ w9.cell? ⟨g, 2, none⟩ = some (.int .u64 s9) := ⟨cell_of_row _ _ _ _ _ _ KB, cell_of_row _ _ _ _ _ _ KB, cell_of_row _ _ _ _ _ _ KB⟩
    have HF := Lib.hid fun k => fin.out w9 _ x s9 KB HB.out hs9 x0 x1 (below_drewN w9 k)
    clear fin HS KB HB
    go_quiet (fail)
    go_wp2_with fail
    exact HF.out _
  · have hle : ¬ p + 1 ≤ (n : Int) := by omega
    go_enter Tryd.func74, Tryd.ntmps74
    go_wp2_with fail
    go_quiet (fail)
    go_wp2_with fail
    generalize hq9 : IntKind.u64.wrap (IntKind.u64.wrap _ + 1442695040888963407) = s9
    have hs9 : 0 ≤ s9 ∧ s9 ≤ 18446744073709551615 := by rw [← hq9]; exact u64_in _
    generalize hw9 : World.setCell _ _ _ = w9
    have KB : w9.heap[g]? = some (srC A n c (p + 1) s9) := by rw [← hw9]; exact (F.out _ _ _).1
    have HB : Hid (But g w w9) := Lib.hid (by rw [← hw9]; exact (F.out _ _ _).2)
    clear hw9 hq9 F k0 k1 k2 hfr
    obtain ⟨k0, k1, k2⟩ : w9.cell? ⟨g, 0, none⟩ = some (.slice A n c) ∧ w9.cell? ⟨g, 1, none⟩ = some (.int .i64 (p + 1)) ∧ w9.cell? ⟨g, 2, none⟩ = some (.int .u64 s9) := ⟨cell_of_row _ _ _ _ _ _ KB, cell_of_row _ _ _ _ _ _ KB, cell_of_row _ _ _ _ _ _ KB⟩
    have HF := Lib.hid fun x h0 h1 k => fin.out w9 _ x s9 KB HB.out hs9 h0 h1 (below_drewN w9 k)
    clear fin HS KB HB
    have hb : 0 ≤ wrap64 (bits .and .u64 (s9 / 1099511627776) 255) ∧ wrap64 (bits .and .u64 (s9 / 1099511627776) 255) ≤ 255 := and_in hs9.1 hs9.2
    go_quiet (fail)
    go_wp2_with fail
    exact HF.out _ hb.1 hb.2 _
theorem Src.more {w : World} {g : Nat} {A : Option Addr} {n c m m' : Nat} {p q : Int} (h : Src w g A n c m p q) (hm : m ≤ m') : Src w g A n c m' p q := ⟨h.blk, h.at0, by have := h.at1; omega, h.sd0, h.sd1, h.bys⟩
set_option maxHeartbeats 1000000 in
theorem pick (g : Nat) (A : Option Addr) (n c m : Nat) (p q : Int) (k : Int) (hn : n ≤ 1048576) (hm : m ≤ 1000000) (hk : k ≤ 60000) (w : World) (h : Src w g A n c m p q) :
    Calls Tryd.prog 51 #[.pointer (some ⟨g, 0, none⟩), .int .i64 k] w (Drawn g A n c (m + 2) 0 (if k ≤ 1 then 0 else k - 1) w) := by
  by_cases h1 : k ≤ 1
  · have HF : Hid (Drawn g A n c (m + 2) 0 (if k ≤ 1 then 0 else k - 1) w (.returned (.int .i64 0)) w) := Lib.hid ⟨0, p, q, rfl, by omega, by split <;> omega, Lib.hid (h.more (by omega)), But.refl _ _⟩
    generalize Drawn g A n c (m + 2) 0 (if k ≤ 1 then 0 else k - 1) w = Q at HF ⊢
    clear h
    go_enter Tryd.func51, Tryd.ntmps51
    go_wp2_with fail
    exact HF.out
  · have C := Lib.hid (next g A n c m p q hn (by omega) w h)
    have C2 := Lib.hid fun (w' : World) p q (h : Src w' g A n c (m + 1) p q) => next g A n c (m + 1) p q hn (by omega) w' h
    have fin : Hid (∀ (w' : World) (x p q : Int), 0 ≤ x → Src w' g A n c (m + 2) p q → But g w w' → Drawn g A n c (m + 2) 0 (if k ≤ 1 then 0 else k - 1) w (.returned (.int .i64 (x % k))) w') := Lib.hid fun w' x p q h0 h2 h3 => by
      rw [if_neg h1]
      have e1 := Int.emod_nonneg x (show k ≠ 0 by omega)
      have e2 := Int.emod_lt_of_pos x (show 0 < k by omega)
      exact ⟨x % k, p, q, rfl, e1, by omega, Lib.hid h2, h3⟩
    generalize Drawn g A n c (m + 2) 0 (if k ≤ 1 then 0 else k - 1) w = Q at fin ⊢
    have hk0 : (k == 0) = false := by simp; omega
    have hk1 : ¬ k = 0 := by omega
    have hk2 : ¬ k = -1 := by omega
    have hkm : (k == -1) = false := by simp; omega
    clear h
    by_cases h2 : 200 < k
    · go_enter Tryd.func51, Tryd.ntmps51
      go_wp2_with fail
      refine C.out.mono ?_
      rintro e w1 ⟨x, p1, q1, rfl, x0, x1, HS, B1⟩
      have HB1 := Lib.hid B1
      have C3 := Lib.hid (C2.out w1 p1 q1 HS.out)
      clear C C2 B1 HS
      go_wp2_with fail
      refine C3.out.mono ?_
      rintro e w2 ⟨y, p2, q2, rfl, y0, y1, HS2, B2⟩
      have HF := Lib.hid (fin.out w2 (x * 256 + y) p2 q2 (by omega) HS2.out (HB1.out.trans B2))
      clear C3 B2 HS2 fin
      go_wp2_with fail
      exact HF.out
    · go_enter Tryd.func51, Tryd.ntmps51
      go_wp2_with fail
      refine C.out.mono ?_
      rintro e w1 ⟨x, p1, q1, rfl, x0, x1, HS, B1⟩
      have HF := Lib.hid (fin.out w1 x p1 q1 x0 (HS.out.more (by omega)) B1)
      clear C C2 B1 HS fin
      go_wp2_with fail
      exact HF.out
/-- pick at a number of two or more. -/
theorem pick2 (g : Nat) (A : Option Addr) (n c m : Nat) (p q : Int) (k : Int) (hn : n ≤ 1048576) (hm : m ≤ 1000000) (h2 : 2 ≤ k) (hk : k ≤ 60000) (w : World) (h : Src w g A n c m p q) :
    Calls Tryd.prog 51 #[.pointer (some ⟨g, 0, none⟩), .int .i64 k] w (Drawn g A n c (m + 2) 0 (k - 1) w) := by
  have := pick g A n c m p q k hn hm hk w h
  rw [if_neg (by omega)] at this
  exact this
theorem one (g : Nat) (A : Option Addr) (n c m : Nat) (p q : Int) (k : Int) (hn : n ≤ 1048576) (hm : m ≤ 1000000) (hk : k ≤ 60000) (w : World) (h : Src w g A n c m p q) :
    Calls Tryd.prog 53 #[.pointer (some ⟨g, 0, none⟩), .int .i64 k] w fun e w' => ∃ (b : Bool) (p q : Int), e = .returned (.bool b) ∧ Hid (Src w' g A n c (m + 2) p q) ∧ But g w w' := by
  have C := Lib.hid (pick g A n c m p q k hn hm hk w h)
  clear h
  go_enter Tryd.func53, Tryd.ntmps53
  go_wp2_with fail
  refine C.out.mono ?_
  rintro e w1 ⟨x, p1, q1, rfl, x0, x1, HS, B1⟩
  go_wp2_with fail
  go_ret
  exact ⟨_, p1, q1, rfl, HS, B1⟩
theorem among (g : Nat) (A : Option Addr) (n c m : Nat) (p q : Int) (L : Option Addr) (k lc : Nat) (f : Nat → Int) (hk0 : 1 ≤ k) (hn : n ≤ 1048576) (hm : m ≤ 1000000) (hk : k ≤ 60000) (w : World) (h : Src w g A n c m p q) (hL : Nums w w.heap.size L k f) (hg : ∀ b off, L = some ⟨b, off, none⟩ → b ≠ g) :
    Calls Tryd.prog 52 #[.pointer (some ⟨g, 0, none⟩), .slice L k lc] w fun e w' => ∃ (i : Nat) (p q : Int), e = .returned (.int .i64 (f i)) ∧ i < k ∧ Hid (Src w' g A n c (m + 2) p q) ∧ But g w w' := by
  have C := Lib.hid (pick g A n c m p q (k : Int) hn hm (by omega) w h)
  obtain ⟨b, off, rfl, hb, hc⟩ := hL (by omega)
  have hne := hg b off rfl
  have HC := Lib.hid hc
  clear h hL hc hg
  go_enter Tryd.func52, Tryd.ntmps52
  go_wp2_with fail
  refine C.out.mono ?_
  rintro e w1 ⟨x, p1, q1, rfl, x0, x1, HS, B1⟩
  obtain ⟨i, rfl⟩ : ∃ i : Nat, x = (i : Int) := ⟨x.toNat, by omega⟩
  have hi : i < k := by split at x1 <;> omega
  have xc : w1.cell? ⟨b, off + i, none⟩ = some (.int .i64 (f i)) := B1.cell hne (HC.out i hi)
  have hi2 : (i : Int) < (k : Int) := by omega
  have HB := Lib.hid B1
  clear C B1 x1
  go_wp2_with fail
  go_ret
  exact ⟨i, p1, q1, rfl, hi, HS, HB.out⟩
end Go.Proofs.YtcnbnpeilkdfiaaDoor.Src

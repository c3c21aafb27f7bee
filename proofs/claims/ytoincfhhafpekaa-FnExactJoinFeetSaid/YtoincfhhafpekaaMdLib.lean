/- The middle of numbers and of feet: the spec's insertion sort, the program's slices.Clone and slices.Sort. -/
import Derived.Test.YtoincfhhafpekaaMsLib
import Derived.Test.YtoincfhhafpekaaSs
import Derived.Lib.OwnBridge
import Derived.Lib.RowBridge
import Derived.Lib.SliceRun
import Derived.Sort.Grow
namespace Go.Proofs.Ytoincfhhafpekaa.Md
open Go.RowKit Ft Fs Ld Is Fc Cl Ms

set_option maxRecDepth 100000 in
theorem own_any (A : Option Addr) (n c : Nat) (f : Nat → Int) (hn : n ≤ 1048576) (h0 : 0 < n) (w : World) (hA : Nums w w.heap.size A n f) :
    Calls Try.prog 126 #[.slice A n c] w fun e w' => ∃ g cap, e = .returned (.slice (some ⟨g, 0, none⟩) n cap) ∧ w.heap.size ≤ g ∧ Hid (At w' g n f) ∧ Below w.heap.size w w' := by
  obtain ⟨i0, hi0, hz0, hz1, hz2⟩ := info_parts info_int
  have HI := Lib.hid (And.intro hi0 (And.intro hz0 (And.intro hz1 hz2)))
  clear hi0 hz0 hz1 hz2
  obtain ⟨b, off, rfl, hlt, hc⟩ := hA h0
  have HC := Lib.hid (cells_upto (fun i hi => (World.cell?_alloc_lt w _ _ (show (⟨b, off + i, none⟩ : Addr).block < w.heap.size from hlt)).trans (hc i hi) : ∀ i, i < n → (w.alloc (.cells #[] 2)).cell? ⟨b, off + i, none⟩ = some (.int .i64 (f i))))
  clear hc hA hlt
  go_enter Try.func126, Try.ntmps126
  go_wp2_with (at_builtin; refine wpList_append_own _ rfl _ _ 33 rfl w.heap.size 2 i0 _ 1 8 Try.underlying33 HI.out.1 HI.out.2.1 HI.out.2.2.1 HI.out.2.2.2 rfl (by decide) _ _ _ rfl (World.ownsRow_made w #[] 0 (Nat.le_refl _) (by simp [maxLen]) rfl) ⟨b, off, none⟩ n c (upto f n) rfl ?c0 ?c1 ?c2 ?c3 ?c4 ?c5 ?_)
  case c0 => simp [upto]
  case c1 => exact HC.out
  case c2 => exact upto_one f n
  case c3 => unfold maxLen; omega
  case c4 => omega
  case c5 => simp
  intro v' w1 hown hgrow _
  have HB := Lib.hid (((Below.refl _ w).alloc (Nat.le_refl _) (.cells #[] 2)).grown hgrow (by simp) (by intro k hk; simp [Value.ownBlock] at hk; omega))
  have hown' : w1.ownsRow w.heap.size 2 1 v' n (upto f n) := by simpa using hown
  obtain ⟨g, cap, rfl, hg, hat⟩ := at_of_row hown' h0
  have HT := Lib.hid hat
  clear hown hown' hgrow hat
  go_wp2_with fail
  go_ret
  exact ⟨g, cap, rfl, hg, HT, HB.out⟩

set_option maxRecDepth 100000 in
theorem clone_any (A : Option Addr) (n c : Nat) (f : Nat → Int) (hn : n ≤ 1048576) (h0 : 0 < n) (w : World) (hA : Nums w w.heap.size A n f) :
    Calls Try.prog 127 #[.slice A n c] w fun e w' => ∃ g cap, e = .returned (.slice (some ⟨g, 0, none⟩) n cap) ∧ w.heap.size ≤ g ∧ Hid (At w' g n f) ∧ Below w.heap.size w w' := by
  obtain ⟨i0, hi0, hz0, hz1, hz2⟩ := info_parts info_int
  have HI := Lib.hid (And.intro hi0 (And.intro hz0 (And.intro hz1 hz2)))
  clear hi0 hz0 hz1 hz2
  obtain ⟨b, off, rfl, hlt, hc⟩ := hA h0
  have HC := Lib.hid (cells_upto (fun i hi => (World.cell?_alloc_lt w _ _ (show (⟨b, off + i, none⟩ : Addr).block < w.heap.size from hlt)).trans (hc i hi) : ∀ i, i < n → (w.alloc (.cells #[] 2)).cell? ⟨b, off + i, none⟩ = some (.int .i64 (f i))))
  clear hc hA hlt
  have q22 : ∀ (w : World) (a : Option Addr) (n c n' c' : Nat), (binOp .eql 33 (.slice a n c) (.slice none n' c')).run Try.prog w = .ok (.bool a.isNone) w := fun w a n c n' c' => Lib.run_eql_slice_nil w _ _ a n c n' c' Try.underlying33
  go_enter Try.func127, Try.ntmps127
  go_wp2_with (at_builtin; refine wpList_append_own _ rfl _ _ 33 rfl w.heap.size 2 i0 _ 1 8 Try.underlying33 HI.out.1 HI.out.2.1 HI.out.2.2.1 HI.out.2.2.2 rfl (by decide) _ _ _ rfl (World.ownsRow_made w #[] 0 (Nat.le_refl _) (by simp [maxLen]) rfl) ⟨b, off, none⟩ n c (upto f n) rfl ?c0 ?c1 ?c2 ?c3 ?c4 ?c5 ?_)
  case c0 => simp [upto]
  case c1 => exact HC.out
  case c2 => exact upto_one f n
  case c3 => unfold maxLen; omega
  case c4 => omega
  case c5 => simp
  intro v' w1 hown hgrow _
  have HB := Lib.hid (((Below.refl _ w).alloc (Nat.le_refl _) (.cells #[] 2)).grown hgrow (by simp) (by intro k hk; simp [Value.ownBlock] at hk; omega))
  have hown' : w1.ownsRow w.heap.size 2 1 v' n (upto f n) := by simpa using hown
  obtain ⟨g, cap, rfl, hg, hat⟩ := at_of_row hown' h0
  have HT := Lib.hid hat
  clear hown hown' hgrow hat
  go_wp2_with fail
  go_ret
  exact ⟨g, cap, rfl, hg, HT, HB.out⟩

/-- What a sorted row holds, and what lies below it. -/
theorem below_grow {B : Nat} {w0 w : World} {os : Array Obj} (h : Below B w0 w) (hB : B ≤ w.heap.size) : Below B w0 (Sort.grow w os) :=
  ⟨h.os, h.tape, h.output, by have := h.size; simp [Sort.grow]; omega, fun k hk => (Sort.heap_grow_old w os (by omega)).trans (h.block k hk)⟩
theorem at_sorted {w : World} {g n q : Nat} {f : Nat → Int} {os : Array Obj} (H : At w g n f) : At (Sort.grow (Sort.putRow (Value.int .i64) (Sort.ahead w q) g 0 (srt f n).toArray) os) g n (fun i => (srt f n).getD i 0) := by
  have HH : Sort.Holds (Value.int .i64) (Sort.ahead w q) g 0 (xs f n).toArray := fun j hj => by
    have hj' : j < n := by simpa [xs] using hj
    refine ⟨?_, ?_⟩
    · rw [Sort.cell?_ahead, Nat.zero_add, H.2.1 j hj']
      simp [xs, hj']
    · rw [Sort.frozen?_ahead]
      exact H.2.2 _
  refine ⟨by have := H.1; simp [Sort.grow, Sort.putRow, Sort.mapBlock, Sort.ahead]; omega, fun i hi => ?_, fun i => ?_⟩
  · rw [Sort.cell?_grow _ _ _ (by simpa [Sort.putRow, Sort.mapBlock, Sort.ahead] using H.1)]
    have e := Sort.cell?_putRow (Value.int .i64) (Sort.ahead w q) g 0 (xs f n).toArray (srt f n).toArray HH (by simp [srt, xs]) i (by simpa [srt, xs] using hi)
    rw [Nat.zero_add] at e
    rw [e]
    simp [List.getD, srt_len, hi]
  · rw [Sort.frozen?_grow _ _ _ (by simpa [Sort.putRow, Sort.mapBlock, Sort.ahead] using H.1), Sort.frozen?_putRow, Sort.frozen?_ahead]
    exact H.2.2 _
theorem sort_any (g cap n : Nat) (f : Nat → Int) (hn : n ≤ 1048576) (B : Nat) (w : World) (hB : B ≤ g) (H : At w g n f) :
    Calls Try.prog 128 #[.slice (some ⟨g, 0, none⟩) n cap] w fun e w' => e = .returned (.tuple #[]) ∧ Hid (At w' g n (fun i => (srt f n).getD i 0)) ∧ Below B w w' := by
  have C := Try.slices_Sort_int g 0 cap (xs f n) w (fun j hj => by
    have hj' : j < n := by simpa [xs] using hj
    refine ⟨?_, H.2.2 _⟩
    rw [Nat.zero_add, H.2.1 j hj']
    simp [xs, hj']) H.1 (by simp [xs]; omega)
  rw [xs_len] at C
  refine C.mono ?_
  rintro e w' ⟨rfl, q, os, rfl⟩
  exact ⟨rfl, Lib.hid (at_sorted H), below_grow (Lib.below_putRow (Below.refl _ _) hB) (by have := H.1; simp [Sort.putRow, Sort.mapBlock, Sort.ahead]; omega)⟩
set_option maxRecDepth 100000 in
theorem imid_any (A : Option Addr) (n c : Nat) (f : Nat → Int) (hn : n ≤ 1048576) (h0 : 0 < n) (w : World) (hA : Nums w w.heap.size A n f) :
    Calls Try.prog 101 #[.slice A n c] w fun e w' => e = .returned (.int .i64 (mid f n)) ∧ Below w.heap.size w w' := by
  have HA := Lib.hid hA
  clear hA
  generalize hx : mid f n = x
  have HM := Lib.hid hx
  clear hx
  go_enter Try.func101, Try.ntmps101
  go_wp2_with fail
  refine (clone_any A n c f hn h0 _ HA.out).mono ?_
  rintro e w1 ⟨g, cap, rfl, hg, H1, b1⟩
  have HB1 := Lib.hid b1
  clear b1
  go_wp2_with fail
  refine (sort_any g cap n f hn w.heap.size w1 hg H1.out).mono ?_
  rintro e w2 ⟨rfl, H2, b2⟩
  have HB2 := Lib.hid (HB1.out.trans b2)
  have x0 : w2.cell? ⟨g, (n - 1) / 2, none⟩ = some (.int .i64 x) := by rw [← HM.out]; exact H2.out.2.1 ((n - 1) / 2) (by omega)
  have e1 : ((n : Int) - 1) / 2 = (((n - 1) / 2 : Nat) : Int) := by omega
  have e2 : (((n - 1) / 2 : Nat) : Int) < (n : Int) := by omega
  have hz := H2.out.1
  clear b2
  go_wp2_with fail
  go_ret
  exact ⟨rfl, HB2.out⟩
set_option maxRecDepth 100000 in
theorem smid_any (A : Option Addr) (n c : Nat) (f : Nat → Int) (hn : n ≤ 1048576) (h0 : 0 < n) (w : World) (hA : Nums w w.heap.size A n f) :
    Calls Try.prog 98 #[.slice A n c] w fun e w' => e = .returned (.int .i64 (mid f n)) ∧ Below w.heap.size w w' := by
  have HA := Lib.hid hA
  clear hA
  generalize hx : mid f n = x
  have HM := Lib.hid hx
  clear hx
  go_enter Try.func98, Try.ntmps98
  go_wp2_with fail
  refine (own_any A n c f hn h0 _ HA.out).mono ?_
  rintro e w1 ⟨g, cap, rfl, hg, H1, b1⟩
  have HB1 := Lib.hid b1
  clear b1
  go_wp2_with fail
  go_loopw [4] (fun i wr => ∃ (k : Nat) (h : Nat → Int), 1 ≤ k ∧ k ≤ n ∧ i = .int .i64 k ∧ Below w.heap.size w wr ∧ Hid (At wr g n h) ∧ Hid ((xs h n).Perm (xs f n)) ∧ Hid (∀ a b, a < b → b < k → h a ≤ h b)) (fun i _ => n - (intOf i).toNat)
  case atStart => exact ⟨1, f, by omega, by omega, rfl, HB1.out, H1, Lib.hid (List.Perm.refl _), Lib.hid fun a b h1 h2 => by omega⟩
  case round =>
    obtain ⟨k, h, hk1, hk, rfl, hbel, HT, HP, HS⟩ := hrel
    have HB := Lib.hid hbel
    clear hbel
    by_cases hlt : k < n
    · go_wp2_with fail
      go_loopw [5] (fun j wr => ∃ (q : Nat) (h : Nat → Int), q ≤ k ∧ j = .int .i64 q ∧ Below w.heap.size w wr ∧ Hid (At wr g n h) ∧ Hid ((xs h n).Perm (xs f n)) ∧ Hid (Part h k q)) (fun j _ => (intOf j).toNat)
      case atStart => exact ⟨k, h, by omega, rfl, HB.out, HT, HP, Lib.hid (part_start HS.out)⟩
      case round =>
        clear HT HP HS
        obtain ⟨q, h, hq, rfl, hbel, HT, HP, HS⟩ := hrel
        have HB := Lib.hid hbel
        clear hbel
        by_cases hz : q = 0
        · subst hz
          have HE := Lib.hid (part_zero HS.out)
          have HT' : Hid (At wr.drew g n h) := Lib.hid HT.out
          have HB' := Lib.hid HB.out.drew
          go_wp2_with fail
          go_region
          go_wp2_with fail
          go_roundw
          case rel => exact ⟨k + 1, h, by omega, by omega, by go_num, HB'.out, HT', HP, HE⟩
          case measure => simp [intOf]; omega
        · obtain ⟨p, rfl⟩ : ∃ p, q = p + 1 := ⟨q - 1, by omega⟩
          have x0 := HT.out.2.1 p (by omega)
          have x1 := HT.out.2.1 (p + 1) (by omega)
          have z0 := HT.out.2.2 p
          have z1 := HT.out.2.2 (p + 1)
          have hle := HT.out.1
          have e1 : ((p + 1 : Nat) : Int) - 1 = (p : Int) := by omega
          have HB' := Lib.hid HB.out.drew
          by_cases hgt : h (p + 1) < h p
          · have HN : Hid (At ((wr.drew.setCell ⟨g, p + 1, none⟩ (.int .i64 (h p))).setCell ⟨g, p, none⟩ (.int .i64 (h (p + 1)))) g n (sw h p)) := Lib.hid (at_sw (show At wr.drew g n h from HT.out) (show p + 1 < n by omega))
            have HQ := Lib.hid ((sw_perm h (show p + 1 < n by omega)).trans HP.out)
            have HR := Lib.hid (part_step HS.out hq hgt)
            have HBN := Lib.hid ((HB'.out.setCell (p := ⟨g, p + 1, none⟩) hg (.int .i64 (h p))).setCell (p := ⟨g, p, none⟩) hg (.int .i64 (h (p + 1))))
            clear HT HP HS
            generalize h p = u at x0 hgt HN HBN
            generalize h (p + 1) = v at x1 hgt HN HBN
            go_wp2_with fail
            go_region
            go_wp2_with fail
            go_roundw
            case rel => exact ⟨p, _, by omega, by go_num, HBN.out, HN, HQ, HR⟩
            case measure => simp [intOf]
          · have HE := Lib.hid (part_end HS.out (by omega))
            have HT' : Hid (At wr.drew g n h) := Lib.hid HT.out
            have hgt' : h p ≤ h (p + 1) := by omega
            generalize h p = u at x0 hgt hgt'
            generalize h (p + 1) = v at x1 hgt hgt'
            go_wp2_with fail
            go_region
            go_wp2_with fail
            go_roundw
            case rel => exact ⟨k + 1, h, by omega, by omega, by go_num, HB'.out, HT', HP, HE⟩
            case measure => simp [intOf]; omega
    · obtain rfl : k = n := by omega
      have x0 : wr.cell? ⟨g, (k - 1) / 2, none⟩ = some (.int .i64 x) := by rw [← HM.out, ← mid_of h0 HP.out HS.out]; exact HT.out.2.1 ((k - 1) / 2) (by omega)
      have e1 : ((k : Int) - 1) / 2 = (((k - 1) / 2 : Nat) : Int) := by omega
      have e2 : (((k - 1) / 2 : Nat) : Int) < (k : Int) := by omega
      have hz := HT.out.1
      go_wp2_with fail
      go_ret
      exact ⟨rfl, HB.out⟩
end Go.Proofs.Ytoincfhhafpekaa.Md

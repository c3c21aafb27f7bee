/- The place of a name in a valid list of lasts: the spec's search and the program's. -/
import Derived.Test.YtbdphbjpcecfaaaLvLib
import Derived.Test.YtbdphbjpcecfaaaNhLib
import Derived.Deep.LoopGhost
import Derived.Shelf.Lays
namespace Go.Proofs.Ytbdphbjpcecfaaa.Pl
open Go.RowKit Go.Shelf Ft Ge Qb La Ll Lv

theorem lt_irr : ∀ x : List UInt8, Op.bytesLess x x = false
  | [] => rfl
  | a :: x => by
    have h : ¬ a < a := by simp only [UInt8.lt_iff_toNat_lt]; omega
    simp [Op.bytesLess, h, lt_irr x]
theorem lt_tr : ∀ x y z : List UInt8, Op.bytesLess x y = true → Op.bytesLess y z = true → Op.bytesLess x z = true
  | _, [], _, h, _ => by cases ‹List UInt8› <;> simp [Op.bytesLess] at h
  | _, _ :: _, [], _, h => by simp [Op.bytesLess] at h
  | [], _ :: _, _ :: _, _, _ => rfl
  | a :: x, b :: y, c :: z, h1, h2 => by
    have ih := lt_tr x y z
    simp only [Op.bytesLess, Bool.or_eq_true, Bool.and_eq_true, decide_eq_true_eq, beq_iff_eq, UInt8.lt_iff_toNat_lt] at h1 h2 ⊢
    rcases h1 with h1 | ⟨rfl, h1⟩
    · rcases h2 with h2 | ⟨rfl, h2⟩
      · left; omega
      · left; exact h1
    · rcases h2 with h2 | ⟨rfl, h2⟩
      · left; exact h2
      · right; exact ⟨rfl, ih h1 h2⟩
theorem lt_far {n : Nat} {N : Nat → ByteArray} (h : ∀ i, i + 1 < n → lt (N i) (N (i + 1)) = true) : ∀ d i, i + d + 1 < n → lt (N i) (N (i + d + 1)) = true
  | 0, i, hi => h i hi
  | d + 1, i, hi => lt_tr _ _ _ (lt_far h d i (by omega)) (by have := h (i + d + 1) (by omega); exact this)
theorem lt_any {n : Nat} {N : Nat → ByteArray} (h : ∀ i, i + 1 < n → lt (N i) (N (i + 1)) = true) {i j : Nat} (hij : i < j) (hj : j < n) : lt (N i) (N j) = true := by
  obtain ⟨d, rfl⟩ : ∃ d, j = i + d + 1 := ⟨j - i - 1, by omega⟩
  exact lt_far h d i hj
/-- Whether the name at a place is not before s. -/
def ge (N : Nat → ByteArray) (s : ByteArray) (i : Nat) : Bool := !lt (N i) s
/-- The place that s has or would have. -/
def pl (n : Nat) (N : Nat → ByteArray) (s : ByteArray) : Nat := Nh.cut n (ge N s)
theorem pl_le (n : Nat) (N : Nat → ByteArray) (s : ByteArray) : pl n N s ≤ n := Nh.cut_le _ _
theorem pl_at {n : Nat} {N : Nat → ByteArray} (h : ∀ i, i + 1 < n → lt (N i) (N (i + 1)) = true) (s : ByteArray) : ∀ i, i < n → ge N s i = decide (pl n N s ≤ i) :=
  Nh.cut_iff n _ fun a b hab hb ha => by
    by_cases e : a = b
    · rw [← e]; exact ha
    · have h1 := lt_any h (show a < b by omega) hb
      unfold ge at *
      cases hq : lt (N b) s
      · rfl
      · have h2 : lt (N a) s = true := lt_tr _ _ _ h1 hq
        rw [h2] at ha
        cases ha
theorem pl_eq {n : Nat} {N : Nat → ByteArray} (h : ∀ i, i + 1 < n → lt (N i) (N (i + 1)) = true) {s : ByteArray} {k : Nat} (hk : k < n) (he : ((N k).toList == s.toList) = true) : pl n N s = k := by
  have he' : (N k).toList = s.toList := by simpa using he
  have h1 := pl_at h s k hk
  have h2 : ge N s k = true := by
    unfold ge lt
    rw [he', lt_irr]
    rfl
  rw [h2] at h1
  have h3 : pl n N s ≤ k := by simpa using h1.symm
  by_cases e : pl n N s = k
  · exact e
  · have h4 := pl_at h s (pl n N s) (by omega)
    have h5 := lt_any h (show pl n N s < k by omega) hk
    unfold ge at h4
    have h6 : lt (N (pl n N s)) s = true := by unfold lt at *; rw [← he']; exact h5
    rw [h6] at h4
    simp at h4
/-- Whether the name is there. -/
def thr (n : Nat) (N : Nat → ByteArray) (s : ByteArray) : Bool := decide (pl n N s < n) && ((N (pl n N s)).toList == s.toList)

set_option maxRecDepth 100000 in
theorem find_any (A : Option Addr) (n c : Nat) (N : Nat → ByteArray) (F : Nat → Nat → Int) (s : ByteArray) (hn : n ≤ 1048576) (ho : ∀ i, i + 1 < n → lt (N i) (N (i + 1)) = true) (w : World) (hA : Lasts w w.heap.size A n N F) :
    Calls Try.prog 35 #[.slice A n c, .string s] w fun e w' => e = .returned (.int .i64 (if thr n N s = true then (pl n N s : Int) else -1)) ∧ Below w.heap.size w w' := by
  have HA := Lib.hid hA
  have HY : Hid (∀ k, k < n → ((N k).toList == s.toList) = true → (if thr n N s = true then (pl n N s : Int) else -1) = (k : Int)) := Lib.hid fun k hk he => by
    have e := pl_eq ho hk he
    have ht : thr n N s = true := by unfold thr; rw [e]; simp [hk]; simpa using he
    rw [if_pos ht, e]
  have HN : Hid ((∀ k, k < n → ((N k).toList == s.toList) = false) → (if thr n N s = true then (pl n N s : Int) else -1) = -1) := Lib.hid fun h => by
    have ht : ¬ thr n N s = true := fun e => by
      unfold thr at e
      simp only [Bool.and_eq_true, decide_eq_true_eq] at e
      rw [h _ e.1] at e
      exact absurd e.2 (by simp)
    rw [if_neg ht]
  generalize (if thr n N s = true then (pl n N s : Int) else -1) = v at HY HN ⊢
  clear hA ho
  go_enter Try.func35, Try.ntmps35
  go_wp2_with fail
  go_loopw [5] (fun i wr => ∃ k : Nat, k ≤ n ∧ i = .int .i64 k ∧ Below w.heap.size w wr ∧ Hid (∀ j, j < k → ((N j).toList == s.toList) = false)) (fun i _ => n - (intOf i).toNat)
  case atStart => exact ⟨0, Nat.zero_le _, rfl, Below.refl _ _, Lib.hid fun j hj => by omega⟩
  case round =>
    obtain ⟨k, hk, rfl, hbel, hall⟩ := hrel
    have HB := Lib.hid hbel
    by_cases hlt : k < n
    · obtain ⟨b, off, rfl, hb, hc⟩ := (HA.out.below hbel (Nat.le_refl _)).2.2 (by omega)
      have x0 := (hc k hlt).1
      have HYk := Lib.hid (HY.out k hlt)
      have e0 : (0 : Int) ≤ (k : Int) := Int.natCast_nonneg _
      have e1 : (k : Int) < (n : Int) := by omega
      have HS : Hid (((N k).toList == s.toList) = false → ∀ j, j < k + 1 → ((N j).toList == s.toList) = false) := Lib.hid fun h j hj => by
        by_cases e : j = k
        · rw [e]; exact h
        · exact hall.out j (by omega)
      cases hq : ((N k).toList == s.toList)
      · have HD := Lib.hid (HS.out hq)
        clear hc hbel hk
        go_wp2_with fail
        go_roundw
        case rel => exact ⟨k + 1, by omega, by go_num, HB.out, HD⟩
        case measure => simp [intOf]; omega
      · have HF := Lib.hid (HYk.out hq)
        clear hc hbel hk
        go_wp2_with fail
        go_ret
        exact ⟨by rw [HF.out]; rfl, HB.out⟩
    · obtain rfl : k = n := by omega
      have HF := Lib.hid (HN.out hall.out)
      go_wp2_with fail
      go_ret
      exact ⟨by rw [HF.out]; rfl, HB.out⟩

set_option maxHeartbeats 1000000 in
set_option maxRecDepth 100000 in
/-- sort.Search: of the condition that holds from c on it finds c. -/
theorem search_cl (g : Nat) (lb : Array Value) (n c : Nat) (hn : n ≤ 100000) (hc : c ≤ n) (w : World) (eg : ∀ args w, (callFunc g args).run Try.prog w = .ok (.enter g args) w)
    (hf : ∀ (W : World) (i : Nat), i < n → Below w.heap.size w W → Calls Try.prog g (#[.int .i64 i] ++ lb) W fun e w' => e = .returned (.bool (decide (c ≤ i))) ∧ Below W.heap.size W w') :
    Calls Try.prog 61 #[.int .i64 n, .func (.func g) #[] lb] w fun e w' => e = .returned (.int .i64 (c : Int)) ∧ Below w.heap.size w w' := by
  have HF := Lib.hid hf
  clear hf
  go_enter Try.func61, Try.ntmps61
  go_wp2_with fail
  go_loopg [5, 6] n (fun kx s5 s6 wr => ∃ (lo hi : Nat), s5 = .int .i64 lo ∧ s6 = .int .i64 hi ∧ lo ≤ c ∧ c ≤ hi ∧ hi ≤ n ∧ hi - lo ≤ kx ∧ Hid (Below w.heap.size w wr))
  case atStart => exact ⟨0, n, rfl, rfl, Nat.zero_le _, hc, Nat.le_refl _, by omega, Lib.hid (Below.refl _ _)⟩
  case round =>
    obtain ⟨lo, hi, rfl, rfl, h1, h2, h3, h4, HB⟩ := hrel
    by_cases hlt : lo < hi
    · have hc' := HF.out wr ((lo + hi) / 2) (by omega) HB.out
      rw [show (((lo + hi) / 2 : Nat) : Int) = ((lo : Int) + (hi : Int)) / 2 by omega] at hc'
      cases hp : decide (c ≤ (lo + hi) / 2) <;> rw [hp] at hc' <;> simp at hp
      · go_wp2_with (go_at_fn g; refine hc'.mono ?_; rintro e w2 ⟨rfl, b2⟩)
        have HQ := Lib.hid (below_then HB.out b2)
        clear b2 hc'
        go_roundg (hi - ((lo + hi) / 2 + 1))
        case measure => omega
        case rel => exact ⟨(lo + hi) / 2 + 1, hi, by rw [show ((lo : Int) + (hi : Int)) / 2 + 1 = (((lo + hi) / 2 + 1 : Nat) : Int) by omega], rfl, by omega, h2, h3, Nat.le_refl _, HQ⟩
      · go_wp2_with (go_at_fn g; refine hc'.mono ?_; rintro e w2 ⟨rfl, b2⟩)
        have HQ := Lib.hid (below_then HB.out b2)
        clear b2 hc'
        go_roundg ((lo + hi) / 2 - lo)
        case measure => omega
        case rel => exact ⟨lo, (lo + hi) / 2, rfl, by rw [show ((lo : Int) + (hi : Int)) / 2 = (((lo + hi) / 2 : Nat) : Int) by omega], h1, by omega, by omega, Nat.le_refl _, HQ⟩
    · obtain rfl : hi = lo := by omega
      obtain rfl : c = hi := by omega
      go_wp2_with fail
      go_ret
      exact ⟨rfl, HB.out⟩

/-- The condition of the search. -/
theorem cond_any (A : Option Addr) (n c : Nat) (N : Nat → ByteArray) (F : Nat → Nat → Int) (s : ByteArray) (gl gs : Nat) (i : Nat) (hi : i < n) (hn : n ≤ 1048576) (w : World) (hA : Lasts w w.heap.size A n N F)
    (hl : w.cell? ⟨gl, 0, none⟩ = some (.slice A n c)) (hs : w.cell? ⟨gs, 0, none⟩ = some (.string s)) :
    Calls Try.prog 62 #[.int .i64 i, .pointer (some ⟨gl, 0, none⟩), .pointer (some ⟨gs, 0, none⟩)] w fun e w' => e = .returned (.bool (ge N s i)) ∧ Below w.heap.size w w' := by
  obtain ⟨b, off, rfl, hb, hc⟩ := hA.2.2 (by omega)
  have x0 := (hc i hi).1
  have HG : Hid (ge N s i = !Op.bytesLess (N i).toList s.toList) := Lib.hid rfl
  have e0 : (0 : Int) ≤ (i : Int) := Int.natCast_nonneg _
  have e1 : (i : Int) < (n : Int) := by omega
  clear hc hA
  generalize ge N s i = r at HG ⊢
  generalize hq : Op.bytesLess (N i).toList s.toList = q at HG
  go_enter Try.func62, Try.ntmps62
  go_wp2_with fail
  all_goals (try go_quiet (fail))
  all_goals (try go_wp2_with fail)
  all_goals
    go_ret
    exact ⟨by rw [HG.out]; rfl, ⟨rfl, rfl, rfl, Nat.le_refl _, fun _ _ => rfl⟩⟩

set_option maxHeartbeats 1000000 in
set_option maxRecDepth 100000 in
theorem place_any (A : Option Addr) (n c : Nat) (N : Nat → ByteArray) (F : Nat → Nat → Int) (s : ByteArray) (hn : n ≤ 100000) (ho : ∀ i, i + 1 < n → lt (N i) (N (i + 1)) = true) (w : World) (hA : Lasts w w.heap.size A n N F) :
    Calls Try.prog 39 #[.slice A n c, .string s] w fun e w' => e = .returned (.tuple #[.int .i64 (pl n N s : Int), .bool (thr n N s)]) ∧ Below w.heap.size w w' := by
  have eg : ∀ args w, (callFunc 62 args).run Try.prog w = .ok (.enter 62 args) w := enters_of Try.func62 (by kernel_rfl) rfl
  obtain ⟨kl, ks⟩ := two w (.cells #[.slice A n c] 27) (.cells #[.string s] 9)
  have hb2 := below2 w (.cells #[.slice A n c] 27) (.cells #[.string s] 9)
  have hAW : Lasts ((w.alloc (.cells #[.slice A n c] 27)).alloc (.cells #[.string s] 9)) ((w.alloc (.cells #[.slice A n c] 27)).alloc (.cells #[.string s] 9)).heap.size A n N F := (hA.below hb2 (Nat.le_refl _)).more hb2.size
  have HA := Lib.hid hA
  have S := Lib.hid (search_cl 62 #[.pointer (some ⟨w.heap.size, 0, none⟩), .pointer (some ⟨w.heap.size + 1, 0, none⟩)] n (pl n N s) hn (pl_le _ _ _) ((w.alloc (.cells #[.slice A n c] 27)).alloc (.cells #[.string s] 9)) eg
    (fun W i hi hW => by
      have := cond_any A n c N F s w.heap.size (w.heap.size + 1) i hi (by omega) W ((hAW.below hW (Nat.le_refl _)).more hW.size) (cell_of_row _ _ _ _ _ _ (blk_keep hW kl)) (cell_of_row _ _ _ _ _ _ (blk_keep hW ks))
      rw [pl_at ho s i hi] at this
      exact this))
  have HT : Hid (thr n N s = (decide (pl n N s < n) && ((N (pl n N s)).toList == s.toList))) := Lib.hid rfl
  have hle := pl_le n N s
  have KL := Lib.hid kl
  have KS := Lib.hid ks
  have HB := Lib.hid hb2
  clear eg kl ks hb2 hAW hA ho
  generalize thr n N s = t at HT ⊢
  generalize pl n N s = p at S HT hle ⊢
  go_enter Try.func39, Try.ntmps39
  go_wp2_with fail
  refine S.out.mono ?_
  rintro e w1 ⟨rfl, b1⟩
  have HB1 := Lib.hid (below_then HB.out b1)
  have HA1 := Lib.hid ((HA.out.below HB1.out (Nat.le_refl _)).more HB1.out.size)
  have x0 : w1.cell? ⟨w.heap.size, 0, none⟩ = some (.slice A n c) := cell_of_row _ _ _ _ _ _ (blk_keep b1 KL.out)
  have y0 : w1.cell? ⟨w.heap.size + 1, 0, none⟩ = some (.string s) := cell_of_row _ _ _ _ _ _ (blk_keep b1 KS.out)
  have HW : Hid (∀ q, Below w.heap.size w (w1.drewN q)) := Lib.hid (fun q => ⟨HB1.out.os, HB1.out.tape, HB1.out.output, HB1.out.size, HB1.out.block⟩)
  clear b1 S KL KS HB
  by_cases hp : p < n
  · obtain ⟨b, off, rfl, hb, hc⟩ := HA1.out.2.2 (by omega)
    have z0 := (hc p hp).1
    have e0 : (0 : Int) ≤ (p : Int) := Int.natCast_nonneg _
    have e1 : (p : Int) < (n : Int) := by omega
    have HT' : Hid (t = ((N p).toList == s.toList)) := Lib.hid (by rw [HT.out]; simp [hp])
    generalize hq : ((N p).toList == s.toList) = q at HT'
    clear hc HT
    go_wp2_with fail
    all_goals (try go_quiet (fail))
    all_goals (try go_wp2_with fail)
    all_goals
      exact bodyPost_ret (v := .tuple #[.int .i64 (p : Int), .bool q]) (by simp [results, Try.results39, go_sem]) rfl ⟨by rw [HT'.out], HW.out _⟩
  · have e1 : ¬ (p : Int) < (n : Int) := by omega
    have HT' : Hid (t = false) := Lib.hid (by rw [HT.out]; simp [hp])
    clear HT
    go_wp2_with fail
    all_goals (try go_quiet (fail))
    all_goals (try go_wp2_with fail)
    all_goals
      exact bodyPost_ret (v := .tuple #[.int .i64 (p : Int), .bool false]) (by simp [results, Try.results39, go_sem]) rfl ⟨by rw [HT'.out], HW.out _⟩
end Go.Proofs.Ytbdphbjpcecfaaa.Pl

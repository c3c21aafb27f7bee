/- Sums without a build: spec and program. -/
import Derived.Test.YtpmmfalpcooenabKfLib
import Derived.Test.YtpmmfalpcooenabMmLib
import Derived.Maps.OwnOps
namespace Go.Proofs.Ytpmmfalpcooenab.Un
open Go.RowKit Go.Maps Ft Is Ge Qb Ly Kn Kf Mm

/-- The places below k of which p holds. -/
def fl (p : Nat → Bool) (k : Nat) : List Nat := (List.range k).filter p
theorem fl_yes {p : Nat → Bool} {k : Nat} (h : p k = true) : fl p (k + 1) = fl p k ++ [k] := by simp [fl, List.range_succ, h]
theorem fl_no {p : Nat → Bool} {k : Nat} (h : p k = false) : fl p (k + 1) = fl p k := by simp [fl, List.range_succ, h]
theorem fl_le (p : Nat → Bool) (k : Nat) : (fl p k).length ≤ k := by
  have := List.length_filter_le p (List.range k)
  simpa [fl] using this
/-- The numbers of a list of places. -/
def lsD (l : List Nat) (i : Nat) : Int := ((l.getD i 0 : Nat) : Int)
theorem upto_congr {f g : Nat → Int} {k : Nat} (h : ∀ i, i < k → f i = g i) : upto f k = upto g k := List.map_congr_left fun i hi => by rw [h i (List.mem_range.1 hi)]
theorem upto_ls (l : List Nat) (k : Nat) : upto (lsD (l ++ [k])) (l ++ [k]).length = upto (lsD l) l.length ++ [.int .i64 (k : Int)] := by
  rw [List.length_append, show [k].length = 1 from rfl, upto_snoc]
  congr 1
  · exact upto_congr fun i hi => by simp [lsD, List.getD, List.getElem?_append_left hi]
  · simp [lsD, List.getD]
/-- A new list of numbers, and a code. -/
def PairAt (n : Nat) (d : Nat → Int) (c : Int) (w : World) (e : Ending) (w' : World) : Prop := ∃ A cap, e = .returned (.tuple #[.slice A n cap, .int .i64 c]) ∧ Hid (Own w' w.heap.size A n d) ∧ Below w.heap.size w w'
theorem pair_of {n : Nat} {d : Nat → Int} {w w0 w' : World} {v : Value} (h : w'.ownsRow w0.heap.size 2 1 v n (upto d n)) (h0 : Below w.heap.size w w0) (hb : Below w0.heap.size w0 w') : PairAt n d 0 w (.returned (.tuple #[v, .int .i64 0])) w' := by
  obtain ⟨A, cap, e, ho, hb'⟩ := row_own h hb
  cases e
  exact ⟨A, cap, rfl, Lib.hid fun hp => by
    obtain ⟨b, off, e, h1, h2, h3, h4⟩ := ho.out hp
    exact ⟨b, off, e, by have := h0.size; omega, h2, h3, h4⟩, below_then h0 hb⟩
theorem pair_no {w w' : World} {c : Int} (hb : Below w.heap.size w w') (d : Nat → Int) : PairAt 0 d c w (.returned (.tuple #[.slice none 0 0, .int .i64 c])) w' := ⟨none, 0, rfl, Lib.hid fun h => absurd h (by omega), hb⟩

/-- The code of layers and a sum. -/
noncomputable def codeL (n : Nat) (d : Nat → Int) (s : Int) : Int := Ba.argE (tv (LyP n d)) (inB s 0 1000)
theorem code_ok {n : Nat} {d : Nat → Int} {s : Int} (h : codeL n d s = 0) : LyP n d ∧ 0 ≤ s ∧ s ≤ 1000 := by
  unfold codeL Ba.argE at h
  cases h1 : tv (LyP n d) <;> rw [h1] at h
  · simp at h
  · cases h2 : inB s 0 1000 <;> rw [h2] at h
    · simp at h
    · exact ⟨tv_iff.1 h1, in_of h2⟩
theorem code_spec (A : Option Addr) (n c : Nat) (d : Nat → Int) (s : Int) (hn : n ≤ 1048576) (w : World) (hA : Nums w w.heap.size A n d) :
    Calls Try.prog 72 #[.slice A n c, .int .i64 s] w fun e w' => e = .returned (.int .i64 (codeL n d s)) ∧ Below w.heap.size w w' := by
  have C := Lib.hid (spec_ok A n c d hn w hA)
  have C2 := Lib.hid (fun w => in_any s 0 1000 w)
  have HC : Hid (codeL n d s = Ba.argE (tv (LyP n d)) (inB s 0 1000)) := Lib.hid rfl
  generalize codeL n d s = r at HC ⊢
  generalize tv (LyP n d) = r1 at C HC
  generalize inB s 0 1000 = r2 at C2 HC
  cases r1
  · go_enter Try.func72, Try.ntmps72
    go_wp2_with fail
    refine C.out.mono ?_
    rintro e w1 ⟨rfl, b1⟩
    go_wp2_with fail
    go_ret
    exact ⟨Ba.ret_int HC.out.symm, b1⟩
  · cases r2
    all_goals
      go_enter Try.func72, Try.ntmps72
      go_wp2_with fail
      refine C.out.mono ?_
      rintro e w1 ⟨rfl, b1⟩
      go_wp2_with fail
      refine (C2.out _).mono ?_
      rintro e w2 ⟨rfl, rfl⟩
      go_wp2_with fail
      go_ret
      exact ⟨Ba.ret_int HC.out.symm, b1⟩
/-- The program's code, of what it asks first. -/
theorem sum_any (s : Int) (w : World) : Calls Try.prog 77 #[.int .i64 s] w fun e w' => e = .returned (.bool (inB s 0 1000)) ∧ w = w' := by
  have C := Lib.hid (within_any s 0 1000 w)
  generalize inB s 0 1000 = r at C ⊢
  go_enter Try.func77, Try.ntmps77
  go_wp2_with fail
  refine C.out.mono ?_
  rintro e w1 ⟨rfl, rfl⟩
  go_wp2_with fail
  go_ret
  exact ⟨rfl, rfl⟩

/-- The sums without a build. -/
noncomputable def noP (d : Nat → Int) (n : Nat) (j : Nat) : Bool := decide (FT d n j < 0)
noncomputable def unL (n : Nat) (d : Nat → Int) (s : Int) : List Nat := if codeL n d s = 0 then fl (noP d n) (s.toNat + 1) else []
theorem un_len (n : Nat) (d : Nat → Int) (s : Int) : (unL n d s).length ≤ 1048576 := by
  unfold unL
  split
  · rename_i h
    have := fl_le (noP d n) (s.toNat + 1)
    have := (code_ok h).2
    omega
  · simp
set_option maxRecDepth 100000 in
set_option maxHeartbeats 4000000 in
theorem spec_un (A : Option Addr) (n c : Nat) (d : Nat → Int) (s : Int) (hn : n ≤ 1048576) (w : World) (hA : Nums w w.heap.size A n d) :
    Calls Try.prog 35 #[.slice A n c, .int .i64 s] w (PairAt (unL n d s).length (lsD (unL n d s)) (codeL n d s) w) := by
  have C := Lib.hid (code_spec A n c d s hn w hA)
  have HA := Lib.hid hA
  by_cases h0 : codeL n d s = 0
  · obtain ⟨hL, hs0, hs1⟩ := code_ok h0
    obtain ⟨S, rfl⟩ : ∃ S : Nat, s = S := ⟨s.toNat, by omega⟩
    obtain ⟨i0, hi0, hz0, hz1, hz2⟩ := info_parts info_int
    have HI := Lib.hid (And.intro hi0 (And.intro hz0 (And.intro hz1 hz2)))
    have CF := Lib.hid (fun w h => few_any A n c d S hL (by omega) w h)
    have HU : unL n d (S : Int) = fl (noP d n) (S + 1) := by unfold unL; rw [if_pos h0]; simp
    rw [HU, h0]
    rw [h0] at C
    have HP : Hid (∀ v w1 w', Below w.heap.size w w1 → w'.ownsRow w1.heap.size 2 1 v (fl (noP d n) (S + 1)).length (upto (lsD (fl (noP d n) (S + 1))) (fl (noP d n) (S + 1)).length) → Below w1.heap.size w1 w' → PairAt (fl (noP d n) (S + 1)).length (lsD (fl (noP d n) (S + 1))) 0 w (.returned (.tuple #[v, .int .i64 0])) w') := Lib.hid fun v w1 w' h0 h hb => pair_of h h0 hb
    have HT : Hid (∀ k, noP d n k = decide (FT d n k < 0)) := Lib.hid fun k => rfl
    generalize PairAt _ _ _ w = Q at HP ⊢
    generalize noP d n = p at HP HT
    generalize FT d n = T at CF HT
    clear hi0 hz0 hz1 hz2 hA HU h0
    go_enter Try.func35, Try.ntmps35
    go_wp2_with fail
    refine C.out.mono ?_
    rintro e w1 ⟨rfl, b1⟩
    have HB1 := Lib.hid b1
    clear C
    go_wp2_with fail
    refine (CF.out _ ((HA.out.below b1 (Nat.le_refl _)).more b1.size)).mono ?_
    rintro e w2 ⟨A2, cap2, rfl, ho2, b2⟩
    have HO2 := Lib.hid ho2.out.nums
    have HB2 := Lib.hid (below_then HB1.out b2)
    clear b1 b2 ho2 CF HB1
    go_wp2_with fail
    go_loopw [8, 9] (fun o i wr => ∃ (k : Nat) (v : Value), k ≤ S + 1 ∧ v = o ∧ i = .int .i64 (k : Int) ∧ Below w2.heap.size w2 wr ∧ Hid (wr.ownsRow w2.heap.size 2 1 v (fl p k).length (upto (lsD (fl p k)) (fl p k).length))) (fun _ i _ => S + 1 - (intOf i).toNat)
    case atStart => exact ⟨0, _, Nat.zero_le _, rfl, rfl, below_box _ _, Lib.hid (World.ownsRow_made w2 #[] 0 (Nat.le_refl _) (by simp [maxLen]) rfl)⟩
    case round =>
      obtain ⟨k, v, hk, rfl, rfl, hbel, hown⟩ := hrel
      have HB := Lib.hid hbel
      have e0 : (0 : Int) ≤ (k : Int) := Int.natCast_nonneg _
      by_cases hlt : k < S + 1
      · obtain ⟨b, off, rfl, hb, hc⟩ := (HO2.out.below hbel (Nat.le_refl _)) (by omega)
        have x0 := hc k hlt
        have hle : (k : Int) ≤ (S : Int) := by omega
        have e1 : (k : Int) < ((S + 1 : Nat) : Int) := by omega
        have hz := HB.out.size
        have hk1 := fl_le p k
        clear hc hbel
        cases hp : p k
        · have hT : ¬ T k < 0 := by have := HT.out k; rw [hp] at this; simpa using this.symm
          have HO : Hid (wr.ownsRow w2.heap.size 2 1 v (fl p (k + 1)).length (upto (lsD (fl p (k + 1))) (fl p (k + 1)).length)) := Lib.hid (by rw [fl_no hp]; exact hown.out)
          generalize T k = t at x0 hT
          go_wp2_with fail
          go_roundw
          case rel => exact ⟨k + 1, _, by omega, rfl, by go_num, HB.out, HO⟩
          case measure => simp [intOf]; omega
        · have hT : T k < 0 := by have := HT.out k; rw [hp] at this; simpa using this.symm
          generalize T k = t at x0 hT
          go_wp2_with (at_builtin; refine wpList_append_own _ rfl _ _ 22 rfl w2.heap.size 2 i0 _ 1 8 Try.underlying22 HI.out.1 HI.out.2.1 HI.out.2.2.1 HI.out.2.2.2 rfl (by decide) _ _ _ rfl (hown.out.alloc _) ⟨wr.heap.size, 0, none⟩ 1 1 [.int .i64 (k : Int)] rfl rfl ?c1 ?c2 ?c3 ?c4 ?c5 ?_)
          case c1 => exact cell_one_new _ _ _
          case c2 => simp [Value.oneCell']
          case c3 => unfold maxLen; omega
          case c4 => omega
          case c5 => first | omega | (simp <;> omega)
          intro v' w3 hown2 hgrow _
          have HQ := Lib.hid ((HB.out.alloc hz _).grown hgrow (by simp; omega) fun g hg => (hown.out.lt g hg).1)
          have HO : Hid (w3.ownsRow w2.heap.size 2 1 v' (fl p (k + 1)).length (upto (lsD (fl p (k + 1))) (fl p (k + 1)).length)) := Lib.hid (by
            rw [fl_yes hp, upto_ls, List.length_append]
            exact hown2)
          clear hown2 hgrow
          go_wp2_with fail
          go_roundw
          case rel => exact ⟨k + 1, _, by omega, rfl, by go_num, HQ.out, HO⟩
          case measure => simp [intOf]; omega
      · obtain rfl : k = S + 1 := by omega
        have hgt : ¬ ((S + 1 : Nat) : Int) ≤ (S : Int) := by omega
        have HF := Lib.hid (HP.out _ _ _ HB2.out hown.out hbel)
        clear hbel
        go_wp2_with fail
        exact HF.out
  · have HU : unL n d s = [] := by unfold unL; rw [if_neg h0]
    rw [HU]
    have hne : (codeL n d s != 0) = true := by simpa using h0
    have HP : Hid (∀ w', Below w.heap.size w w' → PairAt ([] : List Nat).length (lsD ([] : List Nat)) (codeL n d s) w (.returned (.tuple #[.slice none 0 0, .int .i64 (codeL n d s)])) w') := Lib.hid fun w' hb => pair_no hb (lsD [])
    generalize PairAt _ _ _ w = Q at HP ⊢
    generalize codeL n d s = r at C hne HP
    clear hA HU h0
    go_enter Try.func35, Try.ntmps35
    go_wp2_with fail
    refine C.out.mono ?_
    rintro e w1 ⟨rfl, b1⟩
    have HF := Lib.hid (HP.out _ b1)
    clear b1
    go_wp2_with fail
    exact HF.out
end Go.Proofs.Ytpmmfalpcooenab.Un

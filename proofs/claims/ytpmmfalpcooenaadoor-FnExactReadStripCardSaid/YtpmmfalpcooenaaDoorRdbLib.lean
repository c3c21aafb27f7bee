/- ReadStrip: the spec's walk. -/
import Derived.Test.YtpmmfalpcooenaaDoorRdaLib
namespace Go.Proofs.YtpmmfalpcooenaaDoor.Rdb
open Go.RowKit Ba Dc Ds Rn Rs Tb Ri St Rz Rda Stv
set_option linter.unusedVariables false

theorem keep_of {w2 w' : World} {g i : Nat} {v : Value} (hb : Below w2.heap.size w2 w') (hg : g < w2.heap.size) (h : w2.cell? ⟨g, i, none⟩ = some v) : w'.cell? ⟨g, i, none⟩ = some v := (hb.cell (p := ⟨g, i, none⟩) hg).trans h
theorem strs_get (l : List (List UInt8)) (k : Nat) (h : k < l.length) : (strs l)[k]? = some (.string ⟨(l.getD k []).toArray⟩) := by
  simp [strs, h]
theorem spl_mem_le {c : UInt8} (L : List UInt8) (k : Nat) : ((spl c L).getD k []).length ≤ L.length := by
  by_cases hk : k < (spl c L).length
  · have hm : (spl c L).getD k [] ∈ spl c L := by simp [List.getD, hk]
    generalize (spl c L).getD k [] = p at hm
    clear hk
    induction hn : L.length using Nat.strongRecOn generalizing L with
    | _ n ih =>
      obtain ⟨q, qs, hq⟩ : ∃ q qs, spl c L = q :: qs := by
        cases hs : spl c L with
        | nil => exact absurd hs (spl_ne _ _)
        | cons q qs => exact ⟨q, qs, rfl⟩
      rw [hq] at hm
      rcases Rz.spl_inv hq with ⟨rfl, rfl, _⟩ | ⟨r, hL, _, hr⟩
      · simp at hm; subst hm; omega
      · have hlen := congrArg List.length hL
        simp at hlen
        rcases List.mem_cons.1 hm with rfl | hm
        · omega
        · rw [hr] at hm
          have := ih r.length (by omega) r hm rfl
          omega
  · have : (spl c L).getD k [] = [] := by simp [List.getD, List.getElem?_eq_none (Nat.le_of_not_lt hk)]
    rw [this]; simp
/-- A row of texts that is not of two. -/
theorem any_slice {w : World} {base : Nat} {e : TypeId} {size n : Nat} {v : Value} {xs : List Value} (h : w.ownsRow base e size v n xs) : ∃ a cap, v = .slice a n cap := by
  rcases h.2 with ⟨hv, h0⟩ | ⟨g, cap, cur, hv, _⟩
  · exact ⟨none, 0, by rw [hv, h0]⟩
  · exact ⟨_, cap, hv⟩
theorem split_of (l : List UInt8) (c : UInt8) (ci : Int) (hc : (c.toNat : Int) = ci) (hl : l.length ≤ 1048576) (w : World) :
    Calls Tryd.prog 76 #[.string ⟨l.toArray⟩, .int .u8 ci] w fun e w' => ∃ v, e = .returned v ∧ Hid (w'.ownsRow w.heap.size 9 1 v (spl c l).length (strs (spl c l))) ∧ Below w.heap.size w w' := by
  subst hc
  exact split_any ⟨l.toArray⟩ c hl w
set_option maxRecDepth 100000 in
set_option maxHeartbeats 4000000 in
theorem spec_rd (s : ByteArray) (hs : s.size ≤ 1048576) (w : World) : Calls Tryd.prog 44 #[.string s] w fun e w' => e = .returned (.tuple #[.agg #[.int .i64 (V s.data.toList 0), .int .i64 (V s.data.toList 1), .int .i64 (V s.data.toList 2), .int .i64 (V s.data.toList 3)], .bool (B s.data.toList)]) ∧ Below w.heap.size w w' := by
  have KR0 := Lib.hid (blk_new w (.cells #[.int .i64 0, .int .i64 0, .int .i64 0, .int .i64 0] 54))
  have HB0 := Lib.hid (below_box w (.cells #[.int .i64 0, .int .i64 0, .int .i64 0, .int .i64 0] 54))
  have hsl : s.data.toList.length = s.size := by simp
  by_cases h0 : s.size = 0
  · have he : s.toList = [] := by rw [ByteArray.toList_eq]; exact data_nil h0
    have Z := Lib.hid (no_nil (L := s.data.toList) (data_nil h0))
    generalize V s.data.toList = N at Z ⊢
    generalize B s.data.toList = b at Z ⊢
    go_enter Tryd.func44, Tryd.ntmps44
    obtain ⟨z0, z1, z2, z3⟩ := blk4 KR0.out
    have hfr := blk_free KR0.out
    have hlr := lt_of_heap KR0.out
    have hzr := HB0.out.size
    go_wp2_with fail
    rw [Z.out.1, Z.out.2, Z.out.2, Z.out.2, Z.out.2]
    exact bodyPost_ret (v := .tuple #[.agg #[.int .i64 0, .int .i64 0, .int .i64 0, .int .i64 0], .bool false]) (by simp [results, Tryd.results44, go_sem, z0, z1, z2, z3]) rfl
      ⟨rfl, by repeat (first | exact HB0.out | (refine Below.setCell ?_ (by simp <;> omega) _) | (refine Below.alloc ?_ (by simp <;> omega) _))⟩
  have hp : 0 < s.size := by omega
  have hlt : s.size - 1 < s.size := by omega
  have hne : s.toList.isEmpty = false := by
    rw [ByteArray.toList_eq]
    cases hl : s.data.toList with
    | nil => exact absurd (by simpa using congrArg List.length hl) h0
    | cons a l => rfl
  have hnn : ¬ s.toList = [] := fun e => by rw [e] at hne; cases hne
  have hn1 : ((s.size : Int) - 1).toNat = s.size - 1 := by omega
  have hw1 : IntKind.i64.wrap ((s.size : Int) - 1) = ((s.size - 1 : Nat) : Int) := by rw [show ((s.size : Int) - 1) = ((s.size - 1 : Nat) : Int) by omega]; rw [IntKind.wrap_i64]; omega
  have hget : s.data.toList[s.data.toList.length - 1]? = some (s[s.size - 1]'hlt) := by
    rw [hsl]
    simp [hlt]
    rfl
  by_cases h41 : (s[s.size - 1]'hlt).toNat = 41
  rotate_left
  · have hb1 : (((s[s.size - 1]'hlt).toNat : Int) == 41) = false := by simp; omega
    have hb2 : (((s[s.size - 1]'hlt).toNat : Int) != 41) = true := by simp; omega
    have Z := Lib.hid (no_last (L := s.data.toList) (by rw [hget]; intro e; exact h41 (by rw [Option.some.inj e]; rfl)))
    generalize V s.data.toList = N at Z ⊢
    generalize B s.data.toList = b at Z ⊢
    go_enter Tryd.func44, Tryd.ntmps44
    obtain ⟨z0, z1, z2, z3⟩ := blk4 KR0.out
    have hfr := blk_free KR0.out
    have hlr := lt_of_heap KR0.out
    have hzr := HB0.out.size
    go_wp2_with fail
    rw [Z.out.1, Z.out.2, Z.out.2, Z.out.2, Z.out.2]
    exact bodyPost_ret (v := .tuple #[.agg #[.int .i64 0, .int .i64 0, .int .i64 0, .int .i64 0], .bool false]) (by simp [results, Tryd.results44, go_sem, z0, z1, z2, z3]) rfl
      ⟨rfl, by repeat (first | exact HB0.out | (refine Below.setCell ?_ (by simp <;> omega) _) | (refine Below.alloc ?_ (by simp <;> omega) _))⟩
  have hb1 : (((s[s.size - 1]'hlt).toNat : Int) == 41) = true := by simp [h41]
  have hb2 : (((s[s.size - 1]'hlt).toNat : Int) != 41) = false := by simp [h41]
  have hget' : s.data.toList[s.data.toList.length - 1]? = some 41 := by rw [hget]; exact congrArg some (UInt8.toNat_inj.1 (by rw [h41]; rfl))
  have hex : s.extract 0 (s.size - 1) = ⟨(I s.data.toList).toArray⟩ := by rw [ext_eq]; unfold I; rw [hsl]; simp
  have SP := Lib.hid fun w => split_of (I s.data.toList) 40 40 rfl (by unfold I; simp; omega) w
  have PL : ∀ k, (P s.data.toList k).length ≤ 1048576 := fun k => by
    have := spl_mem_le (c := 40) (I s.data.toList) k
    unfold P
    have h2 : (I s.data.toList).length ≤ s.size := by unfold I; simp
    omega
  have SL := Lib.hid fun w => split_of (P s.data.toList 0) 43 43 rfl (PL 0) w
  have SR := Lib.hid fun w => split_of (P s.data.toList 1) 44 44 rfl (PL 1) w
  have NA : Hid (∀ (k : Nat) w, Calls Tryd.prog 77 #[.string ⟨(Lf s.data.toList k).toArray⟩] w fun e w' => e = .returned (.tuple #[.int .i64 (rdN (Lf s.data.toList k)), .bool (rdB (Lf s.data.toList k))]) ∧ Below w.heap.size w w') := Lib.hid fun k w => num_any ⟨(Lf s.data.toList k).toArray⟩ (by
    show (Lf s.data.toList k).length ≤ _
    have := spl_mem_le (c := 43) (P s.data.toList 0) k
    have h2 := PL 0
    unfold Lf maxLen
    omega) w
  have NB : Hid (∀ (k : Nat) w, Calls Tryd.prog 77 #[.string ⟨(Rg s.data.toList k).toArray⟩] w fun e w' => e = .returned (.tuple #[.int .i64 (rdN (Rg s.data.toList k)), .bool (rdB (Rg s.data.toList k))]) ∧ Below w.heap.size w w') := Lib.hid fun k w => num_any ⟨(Rg s.data.toList k).toArray⟩ (by
    show (Rg s.data.toList k).length ≤ _
    have := spl_mem_le (c := 44) (P s.data.toList 1) k
    have h2 := PL 1
    unfold Rg maxLen
    omega) w
  have G0 : Hid (∀ k, k < (spl 40 (I s.data.toList)).length → (strs (spl 40 (I s.data.toList)))[k]? = some (.string ⟨(P s.data.toList k).toArray⟩)) := Lib.hid fun k hk => strs_get _ k hk
  have G1 : Hid (∀ k, k < (spl 43 (P s.data.toList 0)).length → (strs (spl 43 (P s.data.toList 0)))[k]? = some (.string ⟨(Lf s.data.toList k).toArray⟩)) := Lib.hid fun k hk => strs_get _ k hk
  have G2 : Hid (∀ k, k < (spl 44 (P s.data.toList 1)).length → (strs (spl 44 (P s.data.toList 1)))[k]? = some (.string ⟨(Rg s.data.toList k).toArray⟩)) := Lib.hid fun k hk => strs_get _ k hk
  have Z2 := Lib.hid fun h => no_two (L := s.data.toList) h
  have ZL := Lib.hid fun h => no_left (L := s.data.toList) h
  have ZR := Lib.hid fun h => no_right (L := s.data.toList) h
  have SM := Lib.hid fun h2 h3 h4 => same (L := s.data.toList) hget' h2 h3 h4
  have NO := Lib.hid fun h => Rda.no_of (L := s.data.toList) h
  have ON := Lib.hid fun g W h0 h1 h2 h3 => one (rdN (Lf s.data.toList 0)) (rdN (Lf s.data.toList 1)) (rdN (Rg s.data.toList 0)) (rdN (Rg s.data.toList 1)) g 0 W h0 h1 h2 h3
  unfold sB at SM
  clear hget hget' PL h41 hsl
  generalize s.data.toList = L at *
  generalize hs0 : stB (rdN (Lf L 0)) (rdN (Lf L 1)) (rdN (Rg L 0)) (rdN (Rg L 1)) = sb at SM ON
  clear hs0
  generalize V L = N at Z2 ZL ZR SM NO ⊢
  generalize B L = b at Z2 ZL ZR SM NO ⊢
  obtain ⟨n0, hn0⟩ : ∃ n, n = (spl 40 (I L)).length := ⟨_, rfl⟩
  obtain ⟨n1, hn1'⟩ : ∃ n, n = (spl 43 (P L 0)).length := ⟨_, rfl⟩
  obtain ⟨n2, hn2⟩ : ∃ n, n = (spl 44 (P L 1)).length := ⟨_, rfl⟩
  rw [← hn0] at SP G0 Z2 SM
  rw [← hn1'] at SL G1 ZL SM
  rw [← hn2] at SR G2 ZR SM
  generalize strs (spl 40 (I L)) = xs0 at SP G0
  generalize strs (spl 43 (P L 0)) = xs1 at SL G1
  generalize strs (spl 44 (P L 1)) = xs2 at SR G2
  clear hn0 hn1' hn2
  generalize (⟨(I L).toArray⟩ : ByteArray) = tI at SP hex
  generalize P L = pp at SL SR G0
  have A0 := Lib.hid (NA.out 0)
  have A1 := Lib.hid (NA.out 1)
  have A2 := Lib.hid (NB.out 0)
  have A3 := Lib.hid (NB.out 1)
  clear NA NB
  generalize rdB (Lf L 0) = r0 at A0 SM
  generalize rdB (Lf L 1) = r1 at A1 SM
  generalize rdB (Rg L 0) = r2 at A2 SM
  generalize rdB (Rg L 1) = r3 at A3 SM
  generalize rdN (Lf L 0) = a at A0 SM ON
  generalize rdN (Lf L 1) = bb at A1 SM ON
  generalize rdN (Rg L 0) = cc at A2 SM ON
  generalize rdN (Rg L 1) = dd at A3 SM ON
  go_enter Tryd.func44, Tryd.ntmps44
  go_wp2_with fail
  refine (SP.out _).mono ?_
  rintro e w1 ⟨v, rfl, HR, b1⟩
  have HB1 := Lib.hid (below_then HB0.out b1)
  have KR1 := Lib.hid (Ba.blk_keep b1 KR0.out)
  clear b1 KR0 HB0 SP hb1 hb2 hw1 hn1 hne hnn hex h0 hp
  by_cases h2 : n0 = 2
  rotate_left
  · have Z := Lib.hid (Z2.out h2)
    have hne : ¬ (n0 : Int) = 2 := by omega
    obtain ⟨a, cap, rfl⟩ := any_slice HR.out
    clear HR SM NO A0 A1 A2 A3 ON G0 G1 G2 SL SR Z2 ZL ZR
    obtain ⟨z0, z1, z2, z3⟩ := blk4 KR1.out
    have hfr := blk_free KR1.out
    have hlr := lt_of_heap KR1.out
    have hzr := HB1.out.size
    go_wp2_with fail
    rw [Z.out.1, Z.out.2, Z.out.2, Z.out.2, Z.out.2]
    exact bodyPost_ret (v := .tuple #[.agg #[.int .i64 0, .int .i64 0, .int .i64 0, .int .i64 0], .bool false]) (by simp [results, Tryd.results44, go_sem, z0, z1, z2, z3]) rfl
      ⟨rfl, by repeat (first | exact HB1.out | (refine Below.setCell ?_ (by simp <;> omega) _) | (refine Below.alloc ?_ (by simp <;> omega) _))⟩
  subst h2
  obtain ⟨g, cap, rfl, _, hgl⟩ := HR.out.form (by omega)
  have x0 := (HR.out.cellAt 0 (by omega)).trans (G0.out 0 (by omega))
  have x1 := (HR.out.cellAt 1 (by omega)).trans (G0.out 1 (by omega))
  have hz1 := HB1.out.size
  clear HR G0 Z2
  go_wp2_with fail
  refine (SL.out _).mono ?_
  rintro e w2 ⟨vl, rfl, HL, b2⟩
  have HB2 := Lib.hid (below_then HB1.out b2)
  have KR2 := Lib.hid (Ba.blk_keep b2 KR1.out)
  have x0 := keep_of b2 hgl x0
  have x1 := keep_of b2 hgl x1
  clear b2 HB1 KR1 SL
  go_wp2_with fail
  refine (SR.out _).mono ?_
  rintro e w3 ⟨vr, rfl, HRr, b3⟩
  have HB3 := Lib.hid (below_then HB2.out b3)
  have KR3 := Lib.hid (Ba.blk_keep b3 KR2.out)
  have HL3 := Lib.hid (row_below HL.out b3)
  clear b3 HB2 KR2 SR HL x0 x1 hgl
  by_cases h3 : n1 = 2
  rotate_left
  · have Z := Lib.hid (ZL.out h3)
    have hne : ¬ (n1 : Int) = 2 := by omega
    obtain ⟨al, capl, rfl⟩ := any_slice HL3.out
    obtain ⟨ar, capr, rfl⟩ := any_slice HRr.out
    clear HL3 HRr SM NO A0 A1 A2 A3 ON G1 G2 ZL ZR
    obtain ⟨z0, z1, z2, z3⟩ := blk4 KR3.out
    have hfr := blk_free KR3.out
    have hlr := lt_of_heap KR3.out
    have hzr := HB3.out.size
    go_wp2_with fail
    rw [Z.out.1, Z.out.2, Z.out.2, Z.out.2, Z.out.2]
    exact bodyPost_ret (v := .tuple #[.agg #[.int .i64 0, .int .i64 0, .int .i64 0, .int .i64 0], .bool false]) (by simp [results, Tryd.results44, go_sem, z0, z1, z2, z3]) rfl
      ⟨rfl, by repeat (first | exact HB3.out | (refine Below.setCell ?_ (by simp <;> omega) _) | (refine Below.alloc ?_ (by simp <;> omega) _))⟩
  subst h3
  by_cases h4 : n2 = 2
  rotate_left
  · have Z := Lib.hid (ZR.out h4)
    have hne : ¬ (n2 : Int) = 2 := by omega
    obtain ⟨al, capl, rfl⟩ := any_slice HL3.out
    obtain ⟨ar, capr, rfl⟩ := any_slice HRr.out
    clear HL3 HRr SM NO A0 A1 A2 A3 ON G1 G2 ZL ZR
    obtain ⟨z0, z1, z2, z3⟩ := blk4 KR3.out
    have hfr := blk_free KR3.out
    have hlr := lt_of_heap KR3.out
    have hzr := HB3.out.size
    go_wp2_with fail
    rw [Z.out.1, Z.out.2, Z.out.2, Z.out.2, Z.out.2]
    exact bodyPost_ret (v := .tuple #[.agg #[.int .i64 0, .int .i64 0, .int .i64 0, .int .i64 0], .bool false]) (by simp [results, Tryd.results44, go_sem, z0, z1, z2, z3]) rfl
      ⟨rfl, by repeat (first | exact HB3.out | (refine Below.setCell ?_ (by simp <;> omega) _) | (refine Below.alloc ?_ (by simp <;> omega) _))⟩
  subst h4
  obtain ⟨gl, capl, rfl, _, hgl⟩ := HL3.out.form (by omega)
  obtain ⟨gr, capr, rfl, _, hgr⟩ := HRr.out.form (by omega)
  have hgl : gl < w3.heap.size := hgl
  have hgr : gr < w3.heap.size := hgr
  have x0 := (HL3.out.cellAt 0 (by omega)).trans (G1.out 0 (by omega))
  have x1 := (HL3.out.cellAt 1 (by omega)).trans (G1.out 1 (by omega))
  have x2 := (HRr.out.cellAt 0 (by omega)).trans (G2.out 0 (by omega))
  have x3 := (HRr.out.cellAt 1 (by omega)).trans (G2.out 1 (by omega))
  have SW := Lib.hid (SM.out (by first | trivial | rfl) (by first | trivial | rfl) (by first | trivial | rfl))
  clear SM
  clear HL3 HRr G1 G2 ZL ZR
  generalize (⟨(Lf L 0).toArray⟩ : ByteArray) = u0 at A0 x0
  generalize (⟨(Lf L 1).toArray⟩ : ByteArray) = u1 at A1 x1
  generalize (⟨(Rg L 0).toArray⟩ : ByteArray) = u2 at A2 x2
  generalize (⟨(Rg L 1).toArray⟩ : ByteArray) = u3 at A3 x3
  go_wp2_with fail
  refine (A0.out _).mono ?_
  rintro e w4 ⟨rfl, b4⟩
  have HB4 := Lib.hid (below_then HB3.out b4)
  have KR4 := Lib.hid (Ba.blk_keep b4 KR3.out)
  have x1 := keep_of b4 hgl x1
  have x2 := keep_of b4 hgr x2
  have x3 := keep_of b4 hgr x3
  have hgl := Nat.lt_of_lt_of_le hgl b4.size
  have hgr := Nat.lt_of_lt_of_le hgr b4.size
  clear b4 HB3 KR3 A0 x0
  go_wp2_with fail
  refine (A1.out _).mono ?_
  rintro e w5 ⟨rfl, b5⟩
  have HB5 := Lib.hid (below_then HB4.out b5)
  have KR5 := Lib.hid (Ba.blk_keep b5 KR4.out)
  have x2 := keep_of b5 hgr x2
  have x3 := keep_of b5 hgr x3
  have hgl := Nat.lt_of_lt_of_le hgl b5.size
  have hgr := Nat.lt_of_lt_of_le hgr b5.size
  clear b5 HB4 KR4 A1 x1
  go_wp2_with fail
  refine (A2.out _).mono ?_
  rintro e w6 ⟨rfl, b6⟩
  have HB6 := Lib.hid (below_then HB5.out b6)
  have KR6 := Lib.hid (Ba.blk_keep b6 KR5.out)
  have x3 := keep_of b6 hgr x3
  have hgl := Nat.lt_of_lt_of_le hgl b6.size
  have hgr := Nat.lt_of_lt_of_le hgr b6.size
  clear b6 HB5 KR5 A2 x2
  go_wp2_with fail
  refine (A3.out _).mono ?_
  rintro e w7 ⟨rfl, b7⟩
  have HB7 := Lib.hid (below_then HB6.out b7)
  have KR7 := Lib.hid (Ba.blk_keep b7 KR6.out)
  clear b7 HB6 KR6 A3 x3
  clear hgl hgr
  have HB8 : Hid (Below w.heap.size w (w7.alloc (.cells #[.int .i64 a, .int .i64 bb, .int .i64 cc, .int .i64 dd] 54))) := Lib.hid (HB7.out.alloc HB7.out.size _)
  have KR8 : Hid ((w7.alloc (.cells #[.int .i64 a, .int .i64 bb, .int .i64 cc, .int .i64 dd] 54)).heap[w.heap.size]? = some (.cells #[.int .i64 0, .int .i64 0, .int .i64 0, .int .i64 0] 54)) := Lib.hid (blk_old _ KR7.out)
  have KB8 := Lib.hid (blk_new w7 (.cells #[.int .i64 a, .int .i64 bb, .int .i64 cc, .int .i64 dd] 54))
  have CO := Lib.hid (ON.out w7.heap.size (w7.alloc (.cells #[.int .i64 a, .int .i64 bb, .int .i64 cc, .int .i64 dd] 54)) (cell_of_row _ _ _ _ _ _ KB8.out) (cell_of_row _ _ _ _ _ _ KB8.out) (cell_of_row _ _ _ _ _ _ KB8.out) (cell_of_row _ _ _ _ _ _ KB8.out))
  clear ON
  cases r0
  · have Z := Lib.hid (NO.out (by rw [SW.out.1]; simp))
    clear SW NO CO
    obtain ⟨z0, z1, z2, z3⟩ := blk4 KR8.out
    have hfr := blk_free KR8.out
    have hlr := lt_of_heap KR8.out
    have hzr := HB8.out.size
    go_wp2_with fail
    rw [Z.out.1, Z.out.2, Z.out.2, Z.out.2, Z.out.2]
    exact bodyPost_ret (v := .tuple #[.agg #[.int .i64 0, .int .i64 0, .int .i64 0, .int .i64 0], .bool false]) (by simp [results, Tryd.results44, go_sem, z0, z1, z2, z3]) rfl
      ⟨rfl, by repeat (first | exact HB8.out | (refine Below.setCell ?_ (by simp <;> omega) _) | (refine Below.alloc ?_ (by simp <;> omega) _))⟩
  cases r1
  · have Z := Lib.hid (NO.out (by rw [SW.out.1]; simp))
    clear SW NO CO
    obtain ⟨z0, z1, z2, z3⟩ := blk4 KR8.out
    have hfr := blk_free KR8.out
    have hlr := lt_of_heap KR8.out
    have hzr := HB8.out.size
    go_wp2_with fail
    rw [Z.out.1, Z.out.2, Z.out.2, Z.out.2, Z.out.2]
    exact bodyPost_ret (v := .tuple #[.agg #[.int .i64 0, .int .i64 0, .int .i64 0, .int .i64 0], .bool false]) (by simp [results, Tryd.results44, go_sem, z0, z1, z2, z3]) rfl
      ⟨rfl, by repeat (first | exact HB8.out | (refine Below.setCell ?_ (by simp <;> omega) _) | (refine Below.alloc ?_ (by simp <;> omega) _))⟩
  cases r2
  · have Z := Lib.hid (NO.out (by rw [SW.out.1]; simp))
    clear SW NO CO
    obtain ⟨z0, z1, z2, z3⟩ := blk4 KR8.out
    have hfr := blk_free KR8.out
    have hlr := lt_of_heap KR8.out
    have hzr := HB8.out.size
    go_wp2_with fail
    rw [Z.out.1, Z.out.2, Z.out.2, Z.out.2, Z.out.2]
    exact bodyPost_ret (v := .tuple #[.agg #[.int .i64 0, .int .i64 0, .int .i64 0, .int .i64 0], .bool false]) (by simp [results, Tryd.results44, go_sem, z0, z1, z2, z3]) rfl
      ⟨rfl, by repeat (first | exact HB8.out | (refine Below.setCell ?_ (by simp <;> omega) _) | (refine Below.alloc ?_ (by simp <;> omega) _))⟩
  cases r3
  · have Z := Lib.hid (NO.out (by rw [SW.out.1]; simp))
    clear SW NO CO
    obtain ⟨z0, z1, z2, z3⟩ := blk4 KR8.out
    have hfr := blk_free KR8.out
    have hlr := lt_of_heap KR8.out
    have hzr := HB8.out.size
    go_wp2_with fail
    rw [Z.out.1, Z.out.2, Z.out.2, Z.out.2, Z.out.2]
    exact bodyPost_ret (v := .tuple #[.agg #[.int .i64 0, .int .i64 0, .int .i64 0, .int .i64 0], .bool false]) (by simp [results, Tryd.results44, go_sem, z0, z1, z2, z3]) rfl
      ⟨rfl, by repeat (first | exact HB8.out | (refine Below.setCell ?_ (by simp <;> omega) _) | (refine Below.alloc ?_ (by simp <;> omega) _))⟩
  cases sb
  · have Z := Lib.hid (NO.out (by rw [SW.out.1]; simp))
    clear SW NO
    go_wp2_with fail
    refine CO.out.mono ?_
    rintro e w9 ⟨rfl, rfl⟩
    obtain ⟨z0, z1, z2, z3⟩ := blk4 KR8.out
    have hfr := blk_free KR8.out
    have hlr := lt_of_heap KR8.out
    have hzr := HB8.out.size
    go_wp2_with fail
    rw [Z.out.1, Z.out.2, Z.out.2, Z.out.2, Z.out.2]
    exact bodyPost_ret (v := .tuple #[.agg #[.int .i64 0, .int .i64 0, .int .i64 0, .int .i64 0], .bool false]) (by simp [results, Tryd.results44, go_sem, z0, z1, z2, z3]) rfl
      ⟨rfl, by repeat (first | exact HB8.out | (refine Below.setCell ?_ (by simp <;> omega) _) | (refine Below.alloc ?_ (by simp <;> omega) _))⟩
  · have SV := Lib.hid (SW.out.2 (by simp))
    have SB := Lib.hid SW.out.1
    have Z : Hid (b = true ∧ N 0 = a ∧ N 1 = bb ∧ N 2 = cc ∧ N 3 = dd) := Lib.hid ⟨by rw [SB.out]; simp, SV.out⟩
    clear SW NO SV SB
    go_wp2_with fail
    refine CO.out.mono ?_
    rintro e w9 ⟨rfl, rfl⟩
    obtain ⟨q0, q1, q2, q3⟩ := blk4 KB8.out
    obtain ⟨z0, z1, z2, z3⟩ := blk4 KR8.out
    have hfr := blk_free KR8.out
    have hlr := lt_of_heap KR8.out
    have hzr := HB8.out.size
    go_wp2_with fail
    rw [Z.out.1, Z.out.2.1, Z.out.2.2.1, Z.out.2.2.2.1, Z.out.2.2.2.2]
    exact bodyPost_ret (v := .tuple #[.agg #[.int .i64 a, .int .i64 bb, .int .i64 cc, .int .i64 dd], .bool true]) (by simp [results, Tryd.results44, go_sem, z0, z1, z2, z3]) rfl
      ⟨rfl, by repeat (first | exact HB8.out | (refine Below.setCell ?_ (by simp <;> omega) _) | (refine Below.alloc ?_ (by simp <;> omega) _))⟩
end Go.Proofs.YtpmmfalpcooenaaDoor.Rdb

/- Blocks on a roll: the spec's TallRows. -/
import Derived.Test.YtgclhkiiaclkgabJxLib
import Derived.Deep.DeepCutAuto
namespace Go.Proofs.Ytgclhkiiaclkgab.N2
set_option linter.unusedVariables false
open Go.RowKit Is Ge Qb Jr Js Jt Jw Jx
open Go.Proofs.Ytgclhkiiaclkgab.Ba (inB below_then below_box ret_bool blk2)

/-- Where a block of that height comes in: down from k. -/
def kk (g : Nat → Int) (o : Nat → Nat) (h : Int) : Nat → Nat
  | 0 => 0
  | k + 1 => if g (o k * 2 + 1) < h then kk g o h k else k + 1
def ins (o : Nat → Nat) (k i j : Nat) : Nat := if j < k then o j else if j = k then i else o (j - 1)
/-- The first r blocks, the tallest first. -/
def ord (g : Nat → Int) : Nat → Nat → Nat
  | 0 => id
  | r + 1 => ins (ord g r) (kk g (ord g r) (g (r * 2 + 1)) r) r
theorem kk_le (g : Nat → Int) (o : Nat → Nat) (h : Int) : ∀ k, kk g o h k ≤ k
  | 0 => Nat.le_refl _
  | k + 1 => by
    unfold kk
    split
    · exact Nat.le_succ_of_le (kk_le g o h k)
    · exact Nat.le_refl _
theorem ord_lt (g : Nat → Int) : ∀ r j, j < r → ord g r j < r
  | 0, j, h => by omega
  | r + 1, j, h => by
    have hk := kk_le g (ord g r) (g (r * 2 + 1)) r
    show ins (ord g r) (kk g (ord g r) (g (r * 2 + 1)) r) r j < r + 1
    unfold ins
    split
    · exact Nat.lt_succ_of_lt (ord_lt g r j (by omega))
    · split
      · omega
      · exact Nat.lt_succ_of_lt (ord_lt g r (j - 1) (by omega))
theorem upto_len (f : Nat → Int) (n : Nat) : (upto f n).length = n := by simp [upto]
/-- The order with one more, in pieces. -/
theorem upto_ins (o : Nat → Nat) {k r : Nat} (hk : k ≤ r) : upto (fun j => (ins o k r j : Int)) (r + 1) = upto (fun j => (o j : Int)) k ++ [.int .i64 (r : Int)] ++ upto (fun j => (o (k + j) : Int)) (r - k) := by
  apply List.ext_getElem?
  intro j
  by_cases h1 : j < r + 1
  · rw [upto_get _ h1]
    unfold ins
    by_cases e1 : j < k
    · rw [if_pos e1, List.append_assoc, List.getElem?_append_left (by rw [upto_len]; exact e1), upto_get _ e1]
    · rw [if_neg e1]
      by_cases e2 : j = k
      · subst e2
        rw [if_pos rfl, List.append_assoc, List.getElem?_append_right (by rw [upto_len]; omega), upto_len]
        simp
      · rw [if_neg e2, List.getElem?_append_right (by simp [upto_len]; omega)]
        rw [show (upto (fun j => (o j : Int)) k ++ [Value.int .i64 (r : Int)]).length = k + 1 by simp [upto_len]]
        rw [upto_get _ (show j - (k + 1) < r - k by omega), show k + (j - (k + 1)) = j - 1 by omega]
  · rw [List.getElem?_eq_none (by rw [upto_len]; omega), List.getElem?_eq_none (by simp [upto_len]; omega)]
theorem row_more {w : World} {B B' : Nat} {e : TypeId} {size n : Nat} {v : Value} {xs : List Value} (h : w.ownsRow B' e size v n xs) (hB : B ≤ B') : w.ownsRow B e size v n xs := by
  rcases h with ⟨h1, h2 | ⟨g, cap, cur, h3, h4, h5⟩⟩
  · exact ⟨h1, .inl h2⟩
  · exact ⟨h1, .inr ⟨g, cap, cur, h3, by omega, h5⟩⟩
/-- What an own row of numbers with an address says. -/
theorem row_form {w : World} {B n x cap : Nat} {f : Nat → Int} (h : w.ownsRow B 2 1 (.slice (some ⟨x, 0, none⟩) n cap) n (upto f n)) : B ≤ x ∧ x < w.heap.size ∧ n ≤ cap ∧ ∀ j, j < n → w.cell? ⟨x, j, none⟩ = some (.int .i64 (f j)) := by
  rcases h.2 with ⟨e, _⟩ | ⟨g, cap1, cur, e, hbg, hh, hn, _⟩
  · cases e
  · cases e
    exact ⟨hbg, lt_of_heap hh, hn, fun j hj => (h.cellAt j (by omega)).trans (upto_get f hj)⟩
theorem nums_of {w : World} {B n x cap : Nat} {f : Nat → Int} (h : w.ownsRow B 2 1 (.slice (some ⟨x, 0, none⟩) n cap) n (upto f n)) : Nums w w.heap.size (some ⟨x, 0, none⟩) n f := fun _ => ⟨x, 0, rfl, (row_form h).2.1, fun i hi => by rw [Nat.zero_add]; exact (row_form h).2.2.2 i hi⟩
theorem cells_from {w : World} {x k n : Nat} {f : Nat → Int} (hc : ∀ i, i < n → w.cell? ⟨x, i, none⟩ = some (.int .i64 (f i))) : ∀ j u, (upto (fun j => f (k + j)) (n - k))[j]? = some u → w.cell? ((⟨x, k, none⟩ : Addr).add j) = some u := by
  intro j u hu
  have hj : j < n - k := by
    have := (List.getElem?_eq_some_iff.1 hu).1
    simpa [upto] using this
  rw [upto_get _ hj] at hu
  rw [Addr.add_lit, hc (k + j) (by omega)]
  exact hu
theorem upto_one (f : Nat → Int) (n : Nat) : ∀ u ∈ upto f n, u.oneCell' = true := by
  intro u hu
  simp only [upto, List.mem_map] at hu
  obtain ⟨j, _, rfl⟩ := hu
  rfl
set_option maxRecDepth 100000 in
theorem own_any (x k cap : Nat) (p : Nat → Int) (hk : k ≤ 100) (w : World) (hc : ∀ i, i < k → w.cell? ⟨x, i, none⟩ = some (.int .i64 (p i))) :
    Calls Try.prog 70 #[.slice (some ⟨x, 0, none⟩) k cap] w fun e w' => ∃ v, e = .returned v ∧ Hid (w'.ownsRow w.heap.size 2 1 v k (upto p k)) ∧ Below w.heap.size w w' := by
  obtain ⟨i0, hi0, hz0, hz1, hz2⟩ := info_parts info_int
  have HIn := Lib.hid (And.intro hi0 (And.intro hz0 (And.intro hz1 hz2)))
  have O0 := Lib.hid (Ow.row_zero w p)
  have HB := Lib.hid (below_box w (.cells #[] 2))
  have HN : Hid (∀ j u, (upto p k)[j]? = some u → (w.alloc (.cells #[] 2)).cell? ((⟨x, 0, none⟩ : Addr).add j) = some u) := Lib.hid fun j u hu => by
    have hj : j < k := by
      have := (List.getElem?_eq_some_iff.1 hu).1
      simpa [upto] using this
    rw [upto_get p hj] at hu
    cases hu
    rw [Addr.add_lit, Nat.zero_add]
    exact Lib.cell?_alloc_some _ (hc j hj)
  have H1 := Lib.hid (upto_one p k)
  have HL : Hid ((upto p k).length = k * 1) := Lib.hid (by simp [upto])
  have H0 : Hid (upto p 0 = []) := Lib.hid rfl
  clear hc hi0 hz0 hz1 hz2
  generalize hu : upto p k = U at *
  go_enter Try.func70, Try.ntmps70
  go_wp2_with (at_builtin; refine wpList_append_own _ rfl _ _ 30 rfl w.heap.size 2 i0 _ 1 8 Try.underlying30 HIn.out.1 HIn.out.2.1 HIn.out.2.2.1 HIn.out.2.2.2 rfl (by decide) _ 0 [] rfl O0.out ⟨x, 0, none⟩ k cap U rfl HL.out HN.out H1.out ?c3 ?c4 ?c5 ?_)
  case c3 => unfold maxLen; omega
  case c4 => omega
  case c5 => simp
  intro v' w6 hown2 hgrow _
  have HQ := Lib.hid (HB.out.grown hgrow (by simp) fun g hg => by cases hg; exact Nat.le_refl _)
  have HO : Hid (w6.ownsRow w.heap.size 2 1 v' k U) := Lib.hid (by simpa using hown2)
  clear hown2 hgrow
  go_wp2_with fail
  go_ret
  exact ⟨_, rfl, HO, HQ.out⟩
set_option maxRecDepth 100000 in
set_option maxHeartbeats 4000000 in
theorem spec_tr (A : Option Addr) (n c : Nat) (g : Nat → Int) (roll : Int) (hn : n ≤ 1048576) (w : World) (hA : Nums w w.heap.size A (n * 2) g) :
    Calls Try.prog 33 #[.slice A n c, .int .i64 roll] w (RowAt roll n g (ord g n) w) := by
  have C := Lib.hid (spec_ok A n c g roll hn w hA)
  have HA := Lib.hid hA
  have V0 := Lib.hid (fun h W (hb : Below w.heap.size w W) => row_no (roll := roll) (n := n) (g := g) (o := ord g n) h hb)
  have V1 : Hid (tv (BlP roll n g) = true → ∀ w1, Below w.heap.size w w1 → ∀ P pc, Nums w1 w1.heap.size P n (fun j => (ord g n j : Int)) → Calls Try.prog 66 #[.slice A n c, .int .i64 roll, .slice P n pc] w1 fun e w' => e = .returned (.slice (some ⟨w1.heap.size, 0, none⟩) n n) ∧ Below w1.heap.size w1 w' ∧ RowAt roll n g (ord g n) w (.returned (.tuple #[.slice (some ⟨w1.heap.size, 0, none⟩) n n, .int .i64 0])) w') := Lib.hid fun h w1 b1 P pc hP =>
    (first A n c g roll P pc (ord g n) (tv_iff.1 h) (fun j hj => ord_lt g n j hj) w1 ((hA.below b1 (Nat.le_refl _)).more b1.size) hP).mono fun e w' t => ⟨t.1, t.2.1, row_ok h b1 t.2.1 t.2.2⟩
  have NI := Lib.hid (fun (h : tv (BlP roll n g) = true) => (tv_iff.1 h).1.2)
  obtain ⟨i0, hi0, hz0, hz1, hz2⟩ := info_parts info_int
  have HIn := Lib.hid (And.intro hi0 (And.intro hz0 (And.intro hz1 hz2)))
  clear hA hi0 hz0 hz1 hz2
  generalize RowAt roll n g (ord g n) w = Q at V0 V1 ⊢
  generalize tv (BlP roll n g) = ok at *
  go_enter Try.func33, Try.ntmps33
  go_wp2_with fail
  refine C.out.mono ?_
  rintro e w1 ⟨rfl, rfl⟩
  cases ok
  · have HF := Lib.hid (V0.out rfl _ (Below.refl _ _))
    clear V0 V1 NI C
    go_wp2_with fail
    exact HF.out
  have W1 := Lib.hid (V1.out rfl)
  have hn9 := NI.out rfl
  clear V0 V1 NI C
  go_wp2_with fail
  have B0 := Lib.hid (below_box w (.cells #[] 2))
  have R0 : Hid ((w.alloc (.cells #[] 2)).ownsRow w.heap.size 2 1 (.slice (some ⟨w.heap.size, 0, none⟩) 0 0) 0 (upto (fun j => (ord g 0 j : Int)) 0)) := Lib.hid (Ow.row_zero w _)
  go_loopw [6, 7, 8, 9] (fun o u _ _ wr => ∃ r x cap : Nat, r ≤ n ∧ o = .slice (some ⟨x, 0, none⟩) r cap ∧ u = .int .i64 (r : Int) ∧ Hid (Below w.heap.size w wr) ∧ Hid (wr.ownsRow w.heap.size 2 1 (.slice (some ⟨x, 0, none⟩) r cap) r (upto (fun j => (ord g r j : Int)) r))) (fun _ u _ _ _ => n - (intOf u).toNat)
  case atStart => exact ⟨0, w.heap.size, 0, Nat.zero_le _, rfl, rfl, B0, R0⟩
  case round =>
    obtain ⟨r, x, cap, hr, rfl, rfl, HW, HO⟩ := hrel
    have e0 : (0 : Int) ≤ (r : Int) := Int.natCast_nonneg _
    by_cases hrl : r < n
    · have e1 : (r : Int) < (n : Int) := by omega
      have hr1 : r + 1 ≤ n := by omega
      obtain ⟨hwx, hxl, hcap, hcell⟩ := row_form HO.out
      obtain ⟨b, off, eA, hbl, hcl⟩ := HA.out (by omega)
      subst eA
      have XL : Hid (∀ W, Below w.heap.size w W → ∀ k, k < n → W.cell? ⟨b, off + k * 2, none⟩ = some (.int .i64 (g (k * 2))) ∧ W.cell? ⟨b, off + k * 2 + 1, none⟩ = some (.int .i64 (g (k * 2 + 1)))) := Lib.hid fun W h k hk => ⟨(h.cell (p := ⟨b, off + k * 2, none⟩) hbl).trans (Blk.cells_at hcl hk).1, (h.cell (p := ⟨b, off + k * 2 + 1, none⟩) hbl).trans (Blk.cells_at hcl hk).2⟩
      have HC := Lib.hid hcell
      have OL := Lib.hid (fun j hj => ord_lt g r j hj)
      have KL := Lib.hid (kk_le g (ord g r) (g (r * 2 + 1)))
      have KS : Hid (∀ m, kk g (ord g r) (g (r * 2 + 1)) (m + 1) = if g (ord g r m * 2 + 1) < g (r * 2 + 1) then kk g (ord g r) (g (r * 2 + 1)) m else m + 1) := Lib.hid fun m => rfl
      have K0 : Hid (kk g (ord g r) (g (r * 2 + 1)) 0 = 0) := Lib.hid rfl
      have HU : Hid (upto (fun j => (ord g (r + 1) j : Int)) (r + 1) = upto (fun j => (ord g r j : Int)) (kk g (ord g r) (g (r * 2 + 1)) r) ++ [.int .i64 (r : Int)] ++ upto (fun j => (ord g r (kk g (ord g r) (g (r * 2 + 1)) r + j) : Int)) (r - kk g (ord g r) (g (r * 2 + 1)) r)) := Lib.hid (upto_ins (ord g r) (kk_le _ _ _ _))
      have z1 := (XL.out _ HW.out r hrl).2
      clear hcl hcell W1 HA R0 B0
      generalize kk g (ord g r) (g (r * 2 + 1)) = kf at *
      generalize ord g r = o at *
      generalize hh : g (r * 2 + 1) = h at *
      clear hh
      go_wp2_with fail
      go_loopw [8] (fun u wv => ∃ k : Nat, k ≤ r ∧ u = .int .i64 (k : Int) ∧ Hid (∃ q, wv = wr.drewN q) ∧ Hid (kf k = kf r)) (fun u _ => (intOf u).toNat)
      case atStart => exact ⟨r, Nat.le_refl _, rfl, Lib.hid ⟨0, rfl⟩, Lib.hid rfl⟩
      case round =>
        obtain ⟨k, hk, rfl, HV, HK⟩ := hrel
        rename World => wv
        obtain ⟨q, hV⟩ := HV.out
        have f0 : (0 : Int) ≤ (k : Int) := Int.natCast_nonneg _
        by_cases hdown : 0 < k ∧ g (o (k - 1) * 2 + 1) < h
        · obtain ⟨hk0, hlt⟩ := hdown
          obtain ⟨m, hm⟩ : ∃ m, k = m + 1 := ⟨k - 1, by omega⟩
          have hmr : m < r := by omega
          have t1 : IntKind.i64.wrap (m : Int) = (m : Int) := by rw [IntKind.wrap_i64]; omega
          have t2 : (k : Int) - 1 = (m : Int) := by omega
          have f1 : (0 : Int) < (k : Int) := by omega
          have f2 : (0 : Int) ≤ (m : Int) := Int.natCast_nonneg _
          have f3 : (m : Int) < (r : Int) := by omega
          rw [show k - 1 = m by omega] at hlt
          have x0 : wv.cell? ⟨x, m, none⟩ = some (.int .i64 (o m : Int)) := by rw [hV]; exact HC.out m hmr
          have z2 : wv.cell? ⟨b, off + r * 2 + 1, none⟩ = some (.int .i64 h) := by rw [hV]; exact z1
          have hom := OL.out m hmr
          have f4 : (o m : Int) < (n : Int) := by omega
          have f5 : (0 : Int) ≤ (o m : Int) := Int.natCast_nonneg _
          have x1 : wv.cell? ⟨b, off + o m * 2 + 1, none⟩ = some (.int .i64 (g (o m * 2 + 1))) := by rw [hV]; exact (XL.out _ HW.out (o m) (by omega)).2
          have HK2 : Hid (kf m = kf r) := Lib.hid (by rw [← HK.out, hm, KS.out m, if_pos hlt])
          have HV3 : Hid (∀ nq, ∃ q, wv.drewN nq = wr.drewN q) := Lib.hid fun nq => ⟨q + nq, by rw [hV, World.drewN_drewN]⟩
          clear HK KS K0 HU OL hm z1 HC XL hV
          generalize g (o m * 2 + 1) = gm at *
          generalize o m = om at *
          go_upto_region 8 with fail
          go_quiet (fail)
          have HV2 := Lib.hid (HV3.out nq)
          go_wp2_with fail
          go_roundw
          case rel => exact ⟨m, by omega, by go_num, HV2, HK2⟩
          case measure => simp [intOf]; omega
        · have hkr : kf r = k := by
            rw [← HK.out]
            by_cases hk0 : k = 0
            · subst hk0; exact K0.out
            · obtain ⟨m, hm⟩ : ∃ m, k = m + 1 := ⟨k - 1, by omega⟩
              subst hm
              rw [KS.out m, if_neg (fun h2 => hdown ⟨by omega, by rw [show m + 1 - 1 = m by omega]; exact h2⟩)]
          rw [hkr] at HU
          have z2 : wv.cell? ⟨b, off + r * 2 + 1, none⟩ = some (.int .i64 h) := by rw [hV]; exact z1
          -- what follows the search
          have BW := Lib.hid (fun nq => by rw [hV, World.drewN_drewN]; exact below_then HW.out (Js.below_drewN wr (q + nq)) : ∀ nq, Below w.heap.size w (wv.drewN nq))
          have CW := Lib.hid (fun nq j (hj : j < r) => by rw [hV, World.drewN_drewN]; exact HC.out j hj : ∀ nq j, j < r → (wv.drewN nq).cell? ⟨x, j, none⟩ = some (.int .i64 (o j : Int)))
          have SW : Hid (∀ nq, x < (wv.drewN nq).heap.size) := Lib.hid fun nq => by rw [hV, World.drewN_drewN]; exact hxl
          have hkc : k ≤ cap := by omega
          have g1 : (k : Int) ≤ (cap : Int) := by omega
          have g2 : (k : Int) ≤ (r : Int) := by omega
          by_cases hk0 : k = 0
          · subst hk0
            have f1 : ¬ (0 : Int) < ((0 : Nat) : Int) := by omega
            clear HK KS K0 OL z1 HC XL hV hkr hdown HV HO
            go_upto_region 8 with fail
            go_quiet (fail)
            have BWn := Lib.hid (BW.out nq)
            have CWn := Lib.hid (CW.out nq)
            have SWn := SW.out nq
            clear BW CW SW z2
            generalize wv.drewN nq = wd at *
            go_wp2_with fail
            refine (own_any x 0 cap (fun j => (o j : Int)) (by omega) wd (fun i hi => CWn.out i (by omega))).mono ?_
            rintro e w2 ⟨v, rfl, HV2, b2⟩
            have hsz := b2.size
            have Hb2 := Lib.hid b2
            clear b2
            go_wp2_with (at_builtin; refine wpList_append_own _ rfl _ _ 30 rfl wd.heap.size 2 i0 _ 1 8 Try.underlying30 HIn.out.1 HIn.out.2.1 HIn.out.2.2.1 HIn.out.2.2.2 rfl (by decide) _ _ _ rfl (HV2.out.alloc _) ⟨w2.heap.size, 0, none⟩ 1 1 [.int .i64 (r : Int)] rfl rfl ?c1 ?c2 ?c3 ?c4 ?c5 ?_)
            try case c1 => exact Ow.cell_new _ _ _
            case c2 => simp [Value.oneCell']
            case c3 => unfold maxLen; omega
            case c4 => omega
            case c5 => first | omega | (simp <;> omega)
            intro v3 w3 hown3 hgrow3 _
            have b3 := (Hb2.out.alloc hsz _).grown hgrow3 (by simp; omega) fun g hg => (HV2.out.lt g hg).1
            have hsz3 := b3.size
            have C3 : Hid (∀ j, j < r → w3.cell? ⟨x, j, none⟩ = some (.int .i64 (o j : Int))) := Lib.hid fun j hj => (b3.cell (p := ⟨x, j, none⟩) SWn).trans (CWn.out j hj)
            have HO3 := Lib.hid hown3
            have Hb3 := Lib.hid b3
            have D1 := Lib.hid (cells_from (k := 0) C3.out)
            clear hown3 hgrow3 b3 CWn Hb2 HV2
            go_wp2_with (at_builtin; refine wpList_append_own _ rfl _ _ 30 rfl wd.heap.size 2 i0 _ 1 8 Try.underlying30 HIn.out.1 HIn.out.2.1 HIn.out.2.2.1 HIn.out.2.2.2 rfl (by decide) _ _ _ rfl HO3.out ⟨x, 0, none⟩ (r - 0) (cap - 0) (upto (fun j => (o (0 + j) : Int)) (r - 0)) rfl ?d0 ?d1 ?d2 ?d3 ?d4 ?d5 ?_)
            try case d0 => simp [upto]
            case d1 => exact D1.out
            case d2 => exact upto_one _ _
            case d3 => unfold maxLen; omega
            case d4 => omega
            case d5 => first | omega | (simp <;> omega)
            intro v4 w4 hown4 hgrow4 _
            have b4 := Hb3.out.grown hgrow4 hsz3 fun g hg => (HO3.out.lt g hg).1
            have hown5 : w4.ownsRow w.heap.size 2 1 v4 (r + 1) (upto (fun j => (ord g (r + 1) j : Int)) (r + 1)) := by
              rw [HU.out]
              have h9 := row_more hown4 BWn.out.size
              simpa [upto, Nat.add_comm] using h9
            obtain ⟨x4, cap4, rfl⟩ : ∃ x4 cap4, v4 = .slice (some ⟨x4, 0, none⟩) (r + 1) cap4 := by
              rcases hown5.2 with ⟨_, h9⟩ | ⟨g9, c9, _, h9, _⟩
              · omega
              · exact ⟨g9, c9, h9⟩
            have HO5 := Lib.hid hown5
            have HB5 := Lib.hid (below_then BWn.out b4)
            clear hown4 hown5 hgrow4 b4 Hb3 HO3 D1 C3 HU
            go_wp2_with fail
            go_roundw
            case rel => exact ⟨r + 1, x4, cap4, hr1, rfl, by go_num, HB5, HO5⟩
            case measure => simp [intOf]; omega
          · obtain ⟨m, hm⟩ : ∃ m, k = m + 1 := ⟨k - 1, by omega⟩
            have hmr : m < r := by omega
            have t1 : IntKind.i64.wrap (m : Int) = (m : Int) := by rw [IntKind.wrap_i64]; omega
            have t2 : (k : Int) - 1 = (m : Int) := by omega
            have hk1 : 0 < k := by omega
            have f1 : (0 : Int) < (k : Int) := by omega
            have f2 : (0 : Int) ≤ (m : Int) := Int.natCast_nonneg _
            have f3 : (m : Int) < (r : Int) := by omega
            have hlt : ¬ g (o m * 2 + 1) < h := fun h2 => hdown ⟨by omega, by rw [show k - 1 = m by omega]; exact h2⟩
            have x0 : wv.cell? ⟨x, m, none⟩ = some (.int .i64 (o m : Int)) := by rw [hV]; exact HC.out m hmr
            have hom := OL.out m hmr
            have f4 : (o m : Int) < (n : Int) := by omega
            have f5 : (0 : Int) ≤ (o m : Int) := Int.natCast_nonneg _
            have x1 : wv.cell? ⟨b, off + o m * 2 + 1, none⟩ = some (.int .i64 (g (o m * 2 + 1))) := by rw [hV]; exact (XL.out _ HW.out (o m) (by omega)).2
            clear HK KS K0 OL z1 HC XL hV hkr hdown HV HO hm hk0
            generalize g (o m * 2 + 1) = gm at *
            generalize hom2 : o m = om at *
            go_upto_region 8 with fail
            go_quiet (fail)
            have BWn := Lib.hid (BW.out nq)
            have CWn := Lib.hid (CW.out nq)
            have SWn := SW.out nq
            clear BW CW SW z2 x0 x1 t1 t2 f2 f3 f4 f5 hlt hom hom2
            generalize wv.drewN nq = wd at *
            go_wp2_with fail
            refine (own_any x k cap (fun j => (o j : Int)) (by omega) wd (fun i hi => CWn.out i (by omega))).mono ?_
            rintro e w2 ⟨v, rfl, HV2, b2⟩
            have hsz := b2.size
            have Hb2 := Lib.hid b2
            clear b2
            go_wp2_with (at_builtin; refine wpList_append_own _ rfl _ _ 30 rfl wd.heap.size 2 i0 _ 1 8 Try.underlying30 HIn.out.1 HIn.out.2.1 HIn.out.2.2.1 HIn.out.2.2.2 rfl (by decide) _ _ _ rfl (HV2.out.alloc _) ⟨w2.heap.size, 0, none⟩ 1 1 [.int .i64 (r : Int)] rfl rfl ?c1 ?c2 ?c3 ?c4 ?c5 ?_)
            try case c1 => exact Ow.cell_new _ _ _
            case c2 => simp [Value.oneCell']
            case c3 => unfold maxLen; omega
            case c4 => omega
            case c5 => first | omega | (simp <;> omega)
            intro v3 w3 hown3 hgrow3 _
            have b3 := (Hb2.out.alloc hsz _).grown hgrow3 (by simp; omega) fun g hg => (HV2.out.lt g hg).1
            have hsz3 := b3.size
            have C3 : Hid (∀ j, j < r → w3.cell? ⟨x, j, none⟩ = some (.int .i64 (o j : Int))) := Lib.hid fun j hj => (b3.cell (p := ⟨x, j, none⟩) SWn).trans (CWn.out j hj)
            have HO3 := Lib.hid hown3
            have Hb3 := Lib.hid b3
            by_cases hck : cap = k
            · have D1 : Hid (∀ j u, (upto (fun j => (o (k + j) : Int)) (r - k))[j]? = some u → w3.cell? ((⟨x, 0, none⟩ : Addr).add j) = some u) := Lib.hid fun j u hu => by rw [show r - k = 0 by omega] at hu; simp [upto] at hu
              clear hown3 hgrow3 b3 CWn Hb2 HV2
              go_wp2_with (at_builtin; refine wpList_append_own _ rfl _ _ 30 rfl wd.heap.size 2 i0 _ 1 8 Try.underlying30 HIn.out.1 HIn.out.2.1 HIn.out.2.2.1 HIn.out.2.2.2 rfl (by decide) _ _ _ rfl HO3.out ⟨x, 0, none⟩ (r - k) _ (upto (fun j => (o (k + j) : Int)) (r - k)) rfl ?d0 ?d1 ?d2 ?d3 ?d4 ?d5 ?_)
              try case d0 => simp [upto]
              case d1 => exact D1.out
              case d2 => exact upto_one _ _
              case d3 => unfold maxLen; omega
              case d4 => omega
              case d5 => first | omega | (simp <;> omega)
              intro v4 w4 hown4 hgrow4 _
              have b4 := Hb3.out.grown hgrow4 hsz3 fun g hg => (HO3.out.lt g hg).1
              have hown5 : w4.ownsRow w.heap.size 2 1 v4 (r + 1) (upto (fun j => (ord g (r + 1) j : Int)) (r + 1)) := by
                rw [HU.out]
                have h9 := row_more hown4 BWn.out.size
                rw [show k + 1 + (r - k) = r + 1 by omega] at h9
                first | exact h9 | simpa using h9
              obtain ⟨x4, cap4, rfl⟩ : ∃ x4 cap4, v4 = .slice (some ⟨x4, 0, none⟩) (r + 1) cap4 := by
                rcases hown5.2 with ⟨_, h9⟩ | ⟨g9, c9, _, h9, _⟩
                · omega
                · exact ⟨g9, c9, h9⟩
              have HO5 := Lib.hid hown5
              have HB5 := Lib.hid (below_then BWn.out b4)
              clear hown4 hown5 hgrow4 b4 Hb3 HO3 D1 C3 HU
              go_wp2_with fail
              go_roundw
              case rel => exact ⟨r + 1, x4, cap4, hr1, rfl, by go_num, HB5, HO5⟩
              case measure => simp [intOf]; omega
            · have D1 := Lib.hid (cells_from (k := k) C3.out)
              clear hown3 hgrow3 b3 CWn Hb2 HV2
              go_wp2_with (at_builtin; refine wpList_append_own _ rfl _ _ 30 rfl wd.heap.size 2 i0 _ 1 8 Try.underlying30 HIn.out.1 HIn.out.2.1 HIn.out.2.2.1 HIn.out.2.2.2 rfl (by decide) _ _ _ rfl HO3.out ⟨x, k, none⟩ (r - k) _ (upto (fun j => (o (k + j) : Int)) (r - k)) rfl ?d0 ?d1 ?d2 ?d3 ?d4 ?d5 ?_)
              try case d0 => simp [upto]
              case d1 => exact D1.out
              case d2 => exact upto_one _ _
              case d3 => unfold maxLen; omega
              case d4 => omega
              case d5 => first | omega | (simp <;> omega)
              intro v4 w4 hown4 hgrow4 _
              have b4 := Hb3.out.grown hgrow4 hsz3 fun g hg => (HO3.out.lt g hg).1
              have hown5 : w4.ownsRow w.heap.size 2 1 v4 (r + 1) (upto (fun j => (ord g (r + 1) j : Int)) (r + 1)) := by
                rw [HU.out]
                have h9 := row_more hown4 BWn.out.size
                rw [show k + 1 + (r - k) = r + 1 by omega] at h9
                first | exact h9 | simpa using h9
              obtain ⟨x4, cap4, rfl⟩ : ∃ x4 cap4, v4 = .slice (some ⟨x4, 0, none⟩) (r + 1) cap4 := by
                rcases hown5.2 with ⟨_, h9⟩ | ⟨g9, c9, _, h9, _⟩
                · omega
                · exact ⟨g9, c9, h9⟩
              have HO5 := Lib.hid hown5
              have HB5 := Lib.hid (below_then BWn.out b4)
              clear hown4 hown5 hgrow4 b4 Hb3 HO3 D1 C3 HU
              go_wp2_with fail
              go_roundw
              case rel => exact ⟨r + 1, x4, cap4, hr1, rfl, by go_num, HB5, HO5⟩
              case measure => simp [intOf]; omega
    · obtain rfl : r = n := by omega
      have e1 : ¬ (r : Int) < (r : Int) := by omega
      have D := Lib.hid (W1.out wr HW.out (some ⟨x, 0, none⟩) cap (nums_of HO.out))
      clear W1 HO R0 B0
      go_wp2_with fail
      refine D.out.mono ?_
      rintro e w7 ⟨rfl, b7, q7⟩
      have HF := Lib.hid q7
      clear b7 q7 D
      go_wp2_with fail
      exact HF.out
end Go.Proofs.Ytgclhkiiaclkgab.N2

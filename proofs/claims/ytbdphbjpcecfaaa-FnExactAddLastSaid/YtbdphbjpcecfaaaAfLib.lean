/- AddLast: the program's walk. -/
import Derived.Test.YtbdphbjpcecfaaaCoaLib
import Derived.Deep.RegionHeld3
import Derived.Deep.DeepCutAuto
import Derived.Deep.DeepMust
import Derived.Deep.RegionWith
namespace Go.Proofs.Ytbdphbjpcecfaaa.Ad
open Go.RowKit Ft Ge Qb La Ll Lv Pl

theorem keep_of {w2 w' : World} {g i : Nat} {v : Value} (hb : Below w2.heap.size w2 w') (hg : g < w2.heap.size) (h : w2.cell? ⟨g, i, none⟩ = some v) : w'.cell? ⟨g, i, none⟩ = some v := (hb.cell (p := ⟨g, i, none⟩) hg).trans h
theorem concat_ins (g gs gx n p : Nat) (AD : Addr) (N : Nat → ByteArray) (F : Nat → Nat → Int) (s : ByteArray) (f0 f1 f2 f3 f4 : Int) (hp : p ≤ n) (hn : n ≤ 30) (W : World) (hV : ∀ i, i < n * 6 → W.cell? ⟨g, i, none⟩ = some (Ks.lv N F i))
    (hX : W.heap[gx]? = some (.cells #[.string s, .int .i64 f0, .int .i64 f1, .int .i64 f2, .int .i64 f3, .int .i64 f4] 31 (0, 0)))
    (hS : W.heap[gs]? = some (.cells #[.slice (some ⟨g, 0, none⟩) p n, .slice (some ⟨gx, 0, none⟩) 1 1, .slice (some AD) (n - p) (n - p)] 27 (0, 0))) (hAD : p < n → AD = ⟨g, p * 6, none⟩) :
    Calls Try.prog 40 #[.slice (some ⟨gs, 0, none⟩) 3 3] W fun e w' => ∃ v, e = .returned v ∧ Hid (w'.ownsRow W.heap.size 31 6 v (n + 1) (seg (Ks.lv N F) 0 p ++ [.string s, .int .i64 f0, .int .i64 f1, .int .i64 f2, .int .i64 f3, .int .i64 f4] ++ seg (Ks.lv N F) p (n - p))) ∧ Below W.heap.size W w' := by
  let ad : Nat → Addr := fun j => match j with | 0 => ⟨g, 0, none⟩ | 1 => ⟨gx, 0, none⟩ | _ => AD
  let m : Nat → Nat := fun j => match j with | 0 => p | 1 => 1 | _ => n - p
  let c : Nat → Nat := fun j => match j with | 0 => n | 1 => 1 | _ => n - p
  let nw : Nat → List Value := fun j => match j with | 0 => seg (Ks.lv N F) 0 p | 1 => [.string s, .int .i64 f0, .int .i64 f1, .int .i64 f2, .int .i64 f3, .int .i64 f4] | _ => seg (Ks.lv N F) p (n - p)
  have hm : sm m 3 = n + 1 := by show 0 + p + 1 + (n - p) = n + 1; omega
  have hc : ct nw 3 = seg (Ks.lv N F) 0 p ++ [.string s, .int .i64 f0, .int .i64 f1, .int .i64 f2, .int .i64 f3, .int .i64 f4] ++ seg (Ks.lv N F) p (n - p) := rfl
  have three : ∀ j, j < 3 → j = 0 ∨ j = 1 ∨ j = 2 := fun j hj => by omega
  have key := concat_any gs ad m c nw W
    (fun j hj => by rcases three j hj with rfl | rfl | rfl <;> exact cell_of_row _ _ _ _ _ _ hS)
    (fun j hj => by
      rcases three j hj with rfl | rfl | rfl
      · exact seg_len _ _ _
      · rfl
      · exact seg_len _ _ _)
    (fun j hj => by
      rcases three j hj with rfl | rfl | rfl
      · exact seg_cells (a := 0) hV (by omega)
      · intro i u hu
        show W.cell? ((⟨gx, 0, none⟩ : Addr).add i) = some u
        rw [Addr.add_lit, Nat.zero_add, cell_of_row _ _ _ _ _ _ hX]
        have hu' : ([.string s, .int .i64 f0, .int .i64 f1, .int .i64 f2, .int .i64 f3, .int .i64 f4] : List Value)[i]? = some u := hu
        simpa using hu'
      · intro i u hu
        by_cases h : p < n
        · rw [show ad 2 = ⟨g, p * 6, none⟩ from hAD h]
          exact seg_cells (a := p) hV (by omega) i u hu
        · have hu' : (seg (Ks.lv N F) p (n - p))[i]? = some u := hu
          rw [seg_get, if_neg (by omega)] at hu'
          cases hu')
    (fun j hj => by
      rcases three j hj with rfl | rfl | rfl
      · exact seg_one (n := n) (fun i _ => lv_one N F i) (by omega)
      · simp [nw, Value.oneCell']
      · exact seg_one (n := n) (fun i _ => lv_one N F i) (by omega))
    (fun j hj => by rcases three j hj with rfl | rfl | rfl <;> simp only [m] <;> omega)
    (by rw [hm]; omega)
  rw [hm, hc] at key
  exact key
set_option maxRecDepth 100000 in
set_option maxHeartbeats 4000000 in
theorem impl_add (g n : Nat) (N : Nat → ByteArray) (F : Nat → Nat → Int) (s : ByteArray) (f : Nat → Int) (hs : s.size ≤ maxLen) (hn : n ≤ 1048576) (w : World) (hA : Lasts w w.heap.size (some ⟨g, 0, none⟩) n N F) :
    Calls Try.prog 13 #[.slice (some ⟨g, 0, none⟩) n n, laV s f] w (AdAt n N F s f w) := by
  have P1 : Hid (¬ LOk n N F → ∀ w', Below w.heap.size w w' → AdAt n N F s f w (.returned (.tuple #[.slice none 0 0, .int .i64 1])) w') := Lib.hid fun h w' hb => ad_not (by simp [adC, tv_no h]) (by omega) hb
  have P2 : Hid (LOk n N F → laB s f = false → ∀ w', Below w.heap.size w w' → AdAt n N F s f w (.returned (.tuple #[.slice none 0 0, .int .i64 2])) w') := Lib.hid fun h h2 w' hb => ad_not (by simp [adC, tv_yes h, h2]) (by omega) hb
  have P3 : Hid (LOk n N F → laB s f = true → thr n N s = true → ∀ w', Below w.heap.size w w' → AdAt n N F s f w (.returned (.tuple #[.slice none 0 0, .int .i64 4])) w') := Lib.hid fun h h2 h3 w' hb => ad_not (by simp [adC, tv_yes h, h2, h3]) (by omega) hb
  have P4 : Hid (LOk n N F → laB s f = true → thr n N s = false → 30 ≤ n → ∀ w', Below w.heap.size w w' → AdAt n N F s f w (.returned (.tuple #[.slice none 0 0, .int .i64 5])) w') := Lib.hid fun h h2 h3 h4 w' hb => ad_not (by simp [adC, tv_yes h, h2, h3, h4]) (by omega) hb
  have P5 : Hid (LOk n N F → laB s f = true → thr n N s = false → ¬ 30 ≤ n → ∀ v w', w'.ownsRow w.heap.size 31 6 v (n + 1) (seg (Ks.lv N F) 0 (pl n N s) ++ [.string s, .int .i64 (f 0), .int .i64 (f 1), .int .i64 (f 2), .int .i64 (f 3), .int .i64 (f 4)] ++ seg (Ks.lv N F) (pl n N s) (n - pl n N s)) → Below w.heap.size w w' → AdAt n N F s f w (.returned (.tuple #[v, .int .i64 0])) w') := Lib.hid fun h h2 h3 h4 v w' hr hb => ad_yes (by simp [adC, tv_yes h, h2, h3, h4]) hr hb
  have HA := Lib.hid hA
  have C1 := Lib.hid (fun w h => (impl_ok (some ⟨g, 0, none⟩) n n N F hn w h).mono fun _ _ t => tells_tv t)
  have C2 := Lib.hid (fun w => one_impl s f hs w)
  have C3 := Lib.hid (fun (h : LOk n N F) w hA => place_any (some ⟨g, 0, none⟩) n n N F s (by have := h.1; omega) h.2.2 w hA)
  have h30 : LOk n N F → n ≤ 30 := fun h => h.1
  have hpl := pl_le n N s
  have HV : Hid (∀ w', Below w.heap.size w w' → ∀ i, i < n * 6 → w'.cell? ⟨g, i, none⟩ = some (Ks.lv N F i)) := Lib.hid fun w' hb => lasts_at (hA.below hb (Nat.le_refl _))
  have kx := heap_alloc_new w (laC s f 31)
  have B0 := Lib.hid (below_box w (laC s f 31))
  clear hA
  generalize AdAt n N F s f w = Q at P1 P2 P3 P4 P5 ⊢
  generalize laB s f = r2 at C2 P2 P3 P4 P5
  generalize thr n N s = r3 at C3 P3 P4 P5
  generalize pl n N s = p at C3 P5 hpl
  simp only [laV, laC] at kx B0 C2 ⊢
  generalize hf0 : f 0 = f0, f 1 = f1, f 2 = f2, f 3 = f3, f 4 = f4 at *
  clear hf0
  have KX := Lib.hid kx
  clear kx
  have HA1 : Hid (∀ w', Below w.heap.size w w' → Lasts w' w'.heap.size (some ⟨g, 0, none⟩) n N F) := Lib.hid fun w' hb => (HA.out.below hb (Nat.le_refl _)).more hb.size
  by_cases ho : LOk n N F
  case neg =>
    rw [tv_no ho] at C1
    have HP1 := Lib.hid (P1.out ho)
    clear P1 P2 P3 P4 P5 C3 ho h30
    go_enter Try.func13, Try.ntmps13
    go_upto_region 1 with fail
    generalize hw1 : w.alloc _ = w1 at KX B0 ⊢
    clear hw1
    obtain ⟨x0, x1, x2, x3, x4, x5⟩ := Ge.blk6 KX.out
    have x0 := bey_cell x0
    have x1 := bey_cell x1
    have x2 := bey_cell x2
    have x3 := bey_cell x3
    have x4 := bey_cell x4
    have x5 := bey_cell x5
    have C1' := Lib.hid (fun q : Beyond w1 => C1.out q.to (HA1.out _ (below_then B0.out q.h)))
    refine wp_region_below (by kernel_rfl) (by kernel_rfl) ?_
    repeat (go_big_quiet_step (first | (go_at_call 37; exact bey_of _ (C1'.out _)) | (go_at_call 38; exact bey_of _ (C2.out _)) | (go_at_call 36; exact bey_same _ (Ba.arg_any _ _ _))))
    refine wpQuiet_nil ?_
    rintro _ ⟨pq, rfl⟩
    have HQ := Lib.hid (below_then B0.out pq.h)
    generalize pq.to = wq at HQ ⊢
    have HC := Lib.hid (HP1.out _ HQ.out)
    clear x0 x1 x2 x3 x4 x5
    go_wp2_with fail
    exact HC.out
  case pos =>
    rw [tv_yes ho] at C1
    have HP2 := Lib.hid (P2.out ho)
    have HP3 := Lib.hid (P3.out ho)
    have HP4 := Lib.hid (P4.out ho)
    have HP5 := Lib.hid (P5.out ho)
    have HC3 := Lib.hid (C3.out ho)
    have h30 := h30 ho
    clear P1 P2 P3 P4 P5 C3 ho
    go_enter Try.func13, Try.ntmps13
    go_upto_region 1 with fail
    generalize hw1 : w.alloc _ = w1 at KX B0 ⊢
    clear hw1
    obtain ⟨x0, x1, x2, x3, x4, x5⟩ := Ge.blk6 KX.out
    have x0 := bey_cell x0
    have x1 := bey_cell x1
    have x2 := bey_cell x2
    have x3 := bey_cell x3
    have x4 := bey_cell x4
    have x5 := bey_cell x5
    have C1' := Lib.hid (fun q : Beyond w1 => C1.out q.to (HA1.out _ (below_then B0.out q.h)))
    refine wp_region_below (by kernel_rfl) (by kernel_rfl) ?_
    cases r2
    all_goals
      repeat (go_big_quiet_step (first | (go_at_call 37; exact bey_of _ (C1'.out _)) | (go_at_call 38; exact bey_of _ (C2.out _)) | (go_at_call 36; exact bey_same _ (Ba.arg_any _ _ _))))
      refine wpQuiet_nil ?_
      rintro _ ⟨pq, rfl⟩
      have HQ := Lib.hid (below_then B0.out pq.h)
      have KQ := Lib.hid (Ge.blk_keep pq.h KX.out)
      generalize pq.to = wq at HQ KQ ⊢
      clear x0 x1 x2 x3 x4 x5
    · have HC := Lib.hid (HP2.out (by first | rfl | trivial) _ HQ.out)
      go_wp2_with fail
      exact HC.out
    · obtain ⟨x0, x1, x2, x3, x4, x5⟩ := Ge.blk6 KQ.out
      go_wp2_with fail
      refine (HC3.out _ (HA1.out _ HQ.out)).mono ?_
      rintro e w3 ⟨rfl, b3⟩
      have B3 := Lib.hid (below_then HQ.out b3)
      have KX3 := Lib.hid (Ge.blk_keep b3 KQ.out)
      clear b3 HQ KQ HC3 x0 x1 x2 x3 x4 x5
      cases r3
      rotate_left
      · have HC := Lib.hid (HP3.out (by first | rfl | trivial) (by first | rfl | trivial) _ B3.out)
        go_wp2_with fail
        exact HC.out
      by_cases h30e : n = 30
      · have HC := Lib.hid (HP4.out (by first | rfl | trivial) (by first | rfl | trivial) (by omega) _ B3.out)
        subst h30e
        go_wp2_with fail
        exact HC.out
      have Q5 := Lib.hid (HP5.out (by first | rfl | trivial) (by first | rfl | trivial) (by omega))
      have hbq : ((n : Int) == 30) = false := by
        rw [beq_eq_false_iff_ne]
        omega
      clear HP2 HP3 HP4 HP5 C1 C2 B0
      have HV3 := Lib.hid (HV.out _ B3.out)
      have kxx := KX3.out
      obtain ⟨x0, x1, x2, x3, x4, x5⟩ := Ge.blk6 KX3.out
      have lx := lt_of_heap KX3.out
      have n0 : (0 : Int) ≤ (p : Int) := Int.natCast_nonneg _
      have np : (p : Int) ≤ (n : Int) := by omega
      go_upto_region 9 with fail
      go_cut [4, 5] (fun s4 s5 wx => s5 = .int .i64 0 ∧ Q (.returned (.tuple #[s4, .int .i64 0])) wx)
      case rest =>
        obtain ⟨rfl, hq⟩ := hcut
        go_wp2_with fail
        exact hq
      case first =>
        have HB5 : Hid (∀ o1 o2, Below w.heap.size w (((w3.alloc o1).alloc o2).drew)) := Lib.hid fun o1 o2 => ((B3.out.alloc B3.out.size o1).alloc (by have := B3.out.size; simp; omega) o2).drew
        have HV5 : Hid (∀ o1 o2 i, i < n * 6 → (((w3.alloc o1).alloc o2).drew).cell? ⟨g, i, none⟩ = some (Ks.lv N F i)) := Lib.hid fun o1 o2 => HV.out _ (HB5.out o1 o2)
        have HX5 : Hid (∀ o1 o2, (((w3.alloc o1).alloc o2).drew).heap[w3.heap.size]? = some o1 ∧ (((w3.alloc o1).alloc o2).drew).heap[w3.heap.size + 1]? = some o2) := Lib.hid fun o1 o2 => (Ba.boxes2 (Below.refl ((w3.alloc o1).alloc o2).heap.size _)).2
        have CN : Hid (∀ (AD : Addr) (W : World), (p < n → AD = ⟨g, p * 6, none⟩) → Below w.heap.size w W → (∀ i, i < n * 6 → W.cell? ⟨g, i, none⟩ = some (Ks.lv N F i)) → W.heap[w3.heap.size]? = some (.cells #[.string s, .int .i64 f0, .int .i64 f1, .int .i64 f2, .int .i64 f3, .int .i64 f4] 31 (0, 0)) → W.heap[w3.heap.size + 1]? = some (.cells #[.slice (some ⟨g, 0, none⟩) p n, .slice (some ⟨w3.heap.size, 0, none⟩) 1 1, .slice (some AD) (n - p) (n - p)] 27 (0, 0)) →
            Calls Try.prog 40 #[.slice (some ⟨w3.heap.size + 1, 0, none⟩) 3 3] W fun e w' => ∃ v, e = .returned v ∧ Hid (Q (.returned (.tuple #[v, .int .i64 0])) w')) := Lib.hid fun AD W hAD hb hv hx hS =>
          (concat_ins g _ _ n p AD N F s f0 f1 f2 f3 f4 hpl h30 W hv hx hS hAD).mono fun e w' ⟨v, he, ho, hb'⟩ => ⟨v, he, Lib.hid (Q5.out v w' (own_base ho.out hb.size) (below_then hb hb'))⟩
        clear HA HA1 HV KX KX3 C1' Q5 HV3 kxx
        clear h30e
        by_cases hpn : p < n
        · have hnp : ¬ n = p := by omega
          go_region_with (go_at_call 40; refine (CN.out ⟨g, p * 6, none⟩ _ (fun _ => rfl) (HB5.out _ _) (HV5.out _ _) (HX5.out _ _).1 (HX5.out _ _).2).mono ?_; rintro e w5 ⟨v5, rfl, hq⟩)
          all_goals
            simp only [List.getElem_toArray, List.getElem_cons_succ, List.getElem_cons_zero, Act.put, List.setIfInBounds_toArray, List.set_cons_succ, List.set_cons_zero]
            go_wp2_with fail
            go_meet
            exact ⟨rfl, hq.out⟩
        · obtain rfl : n = p := by omega
          have CN0 := Lib.hid (CN.out ⟨g, 0, none⟩)
          rw [Nat.sub_self] at CN0
          clear CN
          go_region_with (go_at_call 40; refine (CN0.out _ (fun h => absurd h (by omega)) (HB5.out _ _) (HV5.out _ _) (HX5.out _ _).1 (HX5.out _ _).2).mono ?_; rintro e w5 ⟨v5, rfl, hq⟩)
          all_goals
            simp only [List.getElem_toArray, List.getElem_cons_succ, List.getElem_cons_zero, Act.put, List.setIfInBounds_toArray, List.set_cons_succ, List.set_cons_zero]
            go_wp2_with fail
            go_meet
            exact ⟨rfl, hq.out⟩
end Go.Proofs.Ytbdphbjpcecfaaa.Ad

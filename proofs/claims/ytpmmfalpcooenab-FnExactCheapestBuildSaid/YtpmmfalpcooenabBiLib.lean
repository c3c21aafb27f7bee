/- The beginning of the best build: the walk. -/
import Derived.Test.YtpmmfalpcooenabBhLib
import Derived.Test.YtpmmfalpcooenabBxLib
import Derived.Deep.DeepCutAuto
import Derived.Laws.EntriesVeiled
namespace Go.Proofs.Ytpmmfalpcooenab.Bh
open Go.RowKit Go.Maps Ft Is Ge Qb Ly Kn Mm Bg
open Bw (But)

theorem low_any (w0 : World) (L gs gm gl gb gp b : Nat) (A Ap : Option Addr) (n c cp : Nat) (x p : Nat → Int) (sl : Int) (P : Par x p n) (hsl : 0 ≤ sl ∧ sl ≤ 1000) (low : Int) (h0 : low ≤ 0) (_h1 : -1000 ≤ low) (w : World) (hI : BInv w0 L gs gm gl gb gp b A Ap n c cp x p sl w) :
    Calls Try.prog 120 #[.int .i64 low, .pointer (some ⟨gs, 0, none⟩), .pointer (some ⟨gm, 0, none⟩), .pointer (some ⟨gl, 0, none⟩), .pointer (some ⟨gb, 0, none⟩), .pointer (some ⟨gp, 0, none⟩)] w
      fun e w' => e = .returned (.agg (bgA x p (Kn.B x (wt p) n sl low))) ∧ BInv w0 L gs gm gl gb gp b A Ap n c cp x p sl w' ∧ But b w w' := by
  obtain ⟨s0, s1⟩ := hsl
  have x0 := Ba.blk1 (Ge.blk_old (.cells zeA 115) hI.hs)
  have hl := lt_of_heap hI.hs
  have HT := Lib.hid (fun W (h : Below w.heap.size w W) => And.intro (hI.touch (h.mono hI.LW)) (But.of_below (g := b) h))
  by_cases h : 0 ≤ low + sl
  · have HV : Hid (bgA x p (Kn.B x (wt p) n sl low) = #[.int .i64 0, .int .i64 0, .int .i64 0, .bool true]) := Lib.hid (by rw [B_low P.ok h0, if_pos h]; rfl)
    generalize bgA x p (Kn.B x (wt p) n sl low) = V at HV ⊢
    have hg : -sl ≤ low := by omega
    clear hI
    go_enter Try.func120, Try.ntmps120
    go_wp2_with fail
    exact bodyPost_ret (v := .agg #[.int .i64 0, .int .i64 0, .int .i64 0, .bool true]) (by simp [results, Try.results120, go_sem]) rfl
      ⟨by rw [HV.out], (HT.out _ (below_box _ _)).1, (HT.out _ (below_box _ _)).2⟩
  · have HV : Hid (bgA x p (Kn.B x (wt p) n sl low) = #[.int .i64 0, .int .i64 0, .int .i64 0, .bool false]) := Lib.hid (by rw [B_low P.ok h0, if_neg h]; rfl)
    generalize bgA x p (Kn.B x (wt p) n sl low) = V at HV ⊢
    have hg : ¬ -sl ≤ low := by omega
    clear hI
    go_enter Try.func120, Try.ntmps120
    go_wp2_with fail
    exact bodyPost_ret (v := .agg #[.int .i64 0, .int .i64 0, .int .i64 0, .bool false]) (by simp [results, Try.results120, go_sem]) rfl
      ⟨by rw [HV.out], (HT.out _ (below_box _ _)).1, (HT.out _ (below_box _ _)).2⟩

theorem alloc_out (w : World) : (Instr.alloc 113 true (.tuple #[])).run Try.prog w = .ok (.pointer (some ⟨w.heap.size, 0, none⟩)) (w.alloc (.cells [.int .i64 0, .int .i64 0].toArray 113)) := by kernel_rfl
set_option maxRecDepth 100000 in
set_option maxHeartbeats 4000000 in
theorem begin_any (w0 : World) (L gs gm gl gb gp b : Nat) (A Ap : Option Addr) (n c cp : Nat) (x p : Nat → Int) (sl : Int) (P : Par x p n) (hsl : 0 ≤ sl ∧ sl ≤ 1000) :
    ∀ (N : Nat) (low : Int), low.toNat ≤ N → -1000 ≤ low → low ≤ 1000 → low + sl ≤ 1000 → ∀ w, BInv w0 L gs gm gl gb gp b A Ap n c cp x p sl w →
      Calls Try.prog 120 #[.int .i64 low, .pointer (some ⟨gs, 0, none⟩), .pointer (some ⟨gm, 0, none⟩), .pointer (some ⟨gl, 0, none⟩), .pointer (some ⟨gb, 0, none⟩), .pointer (some ⟨gp, 0, none⟩)] w
        fun e w' => e = .returned (.agg (bgA x p (Kn.B x (wt p) n sl low))) ∧ BInv w0 L gs gm gl gb gp b A Ap n c cp x p sl w' ∧ But b w w' := by
  intro N
  induction N with
  | zero => exact fun low h h1 h2 h3 w hI => low_any w0 L gs gm gl gb gp b A Ap n c cp x p sl P hsl low (by omega) h1 w hI
  | succ N ih =>
    intro low hN hlo hhi hls w hI
    by_cases h0 : low ≤ 0
    · exact low_any w0 L gs gm gl gb gp b A Ap n c cp x p sl P hsl low h0 hlo w hI
    obtain ⟨lw, rfl⟩ : ∃ t : Nat, low = (t : Int) := ⟨low.toNat, by omega⟩
    have hlw : ¬ (lw : Int) ≤ 0 := h0
    have HK7 := heap_alloc_new w (.cells zeA 115)
    have hB7 := below_box w (.cells zeA 115)
    have hI7 := hI.touch (hB7.mono hI.LW)
    have HT7 := Lib.hid (But.of_below (g := b) hB7)
    have hLw := hI.LW
    have hbL := hI.ltq
    have hn8 := P.n8
    have hkey := key64 (z := (lw : Int)) (by omega) (by omega)
    obtain ⟨o1, o2, o3, o4, hV⟩ : ∃ (o1 o2 o3 : Int) (o4 : Bool), bgA x p (Kn.B x (wt p) n sl (lw : Int)) = #[.int .i64 o1, .int .i64 o2, .int .i64 o3, .bool o4] := ⟨_, _, _, _, rfl⟩
    have HV := Lib.hid hV
    rw [hV]
    clear hV
    clear hI hB7
    go_enter Try.func120, Try.ntmps120
    go_upto_region 3 with fail
    generalize hw7 : w.alloc _ = w7 at HK7 hI7 HT7 ⊢
    clear hw7
    have HI7 := Lib.hid hI7
    have K7 := Lib.hid HK7
    have x0 := Ba.blk1 hI7.hm
    obtain ⟨g, hM, hG⟩ := hI7.map
    have HM := Lib.hid hM
    have HG := Lib.hid hG
    have hg7 := lt_of_heap HK7
    clear hM hG HK7 hI7
    cases hv : g (.int .i64 (lw : Int)) with
    | some v =>
      obtain rfl := good_at HG.out hv
      rw [HV.out] at hv
      clear ih
      have K8 := Lib.hid (heap_alloc_new w7 (.cells #[.int .i64 o1, .int .i64 o2, .int .i64 o3, .bool o4] 115))
      have B8 := Lib.hid (below_box w7 (.cells #[.int .i64 o1, .int .i64 o2, .int .i64 o3, .bool o4] 115))
      have K78 := Lib.hid (blk_keep B8.out K7.out)
      go_upto_region 4 with (at_lookup; refine wp_look_ok _ rfl _ _ 146 rfl 2 115 law64 Try.underlying146 (zeroG _) b g rfl HM.out _ (.int .i64 (lw : Int)) rfl hkey (.agg #[.int .i64 o1, .int .i64 o2, .int .i64 o3, .bool o4]) true (by rw [hv]; rfl) (by rw [hv]; rfl) ?_)
      generalize hw8 : w7.alloc _ = w8 at K8 B8 K78 ⊢
      have HI8 := Lib.hid (HI7.out.touch (B8.out.mono HI7.out.LW))
      have HT8 := Lib.hid (but_below HT7.out B8.out)
      clear hw8
      obtain ⟨u0, u1, u2, u3⟩ := blk4 K8.out
      obtain ⟨z0, z1, z2, z3⟩ := blk4 K78.out
      have fz := blk_free K78.out
      have hlz := lt_of_heap K78.out
      have HF := Lib.hid (fun (u v y z : Value) => And.intro (HI8.out.touch (W' := (((w8.setCell ⟨w.heap.size, 0, none⟩ u).setCell ⟨w.heap.size, 1, none⟩ v).setCell ⟨w.heap.size, 2, none⟩ y).setCell ⟨w.heap.size, 3, none⟩ z) ((((Below.refl L w8).setCell (p := ⟨w.heap.size, 0, none⟩) hLw u).setCell (p := ⟨w.heap.size, 1, none⟩) hLw v).setCell (p := ⟨w.heap.size, 2, none⟩) hLw y |>.setCell (p := ⟨w.heap.size, 3, none⟩) hLw z)) (but_set (o := 3) (u := z) (but_set (o := 2) (u := y) (but_set (o := 1) (u := v) (but_set (o := 0) (u := u) HT8.out (Nat.le_refl _)) (Nat.le_refl _)) (Nat.le_refl _)) (Nat.le_refl _)))
      go_wp2_with fail
      exact bodyPost_ret (v := .agg #[.int .i64 o1, .int .i64 o2, .int .i64 o3, .bool o4]) (by simp [results, Try.results120, go_sem, z0, z1, z2, z3]) rfl
        ⟨rfl, (HF.out _ _ _ _).1, (HF.out _ _ _ _).2⟩
    | none =>
      have HS : Hid (∀ k, k < n → Bi x (wt p) n sl (lw : Int) (k + 1) = comb (wt p) k (Bi x (wt p) n sl (lw : Int) k) (Kn.B x (wt p) n sl ((lw : Int) - x k))) := Lib.hid fun _ _ => rfl
      have HBn : Hid (Kn.B x (wt p) n sl (lw : Int) = Bi x (wt p) n sl (lw : Int) n) := Lib.hid (B_step P.ok (by omega))
      have HB0 : Hid (Bi x (wt p) n sl (lw : Int) 0 = none) := Lib.hid rfl
      have HBd : Hid (∀ k l, k ≤ n → Bi x (wt p) n sl (lw : Int) k = some l → (l.length : Int) ≤ 1000 ∧ 0 ≤ sm p l ∧ sm p l ≤ 1000000) := Lib.hid fun k l hk h => ok_bd P hls (Bi_ok P.ok hk h)
      have HBr : Hid (∀ k l, k < n → Kn.B x (wt p) n sl ((lw : Int) - x k) = some l → (l.length : Int) ≤ 1000 ∧ 0 ≤ sm p l ∧ sm p l ≤ 1000000) := Lib.hid fun k l hk h => ok_bd P (by have := (P.lay k hk).1; omega) (B_ok P.ok h)
      have HIH := Lib.hid (fun (k : Nat) (hk : k < n) w hI => ih ((lw : Int) - x k) (by have := (P.lay k hk).1; omega) (by have := (P.lay k hk).2; omega) (by have := (P.lay k hk).1; omega) (by have := (P.lay k hk).1; omega) w hI)
      have HG3 := Lib.hid (good_upd (z := lw) HG.out (by omega))
      rw [HV.out] at HG3
      have HPl := Lib.hid P.lay
      have HPp := Lib.hid P.pr
      have hn8 := P.n8
      generalize Bi x (wt p) n sl (lw : Int) = Bf at HS HBn HB0 HBd
      have K8 := Lib.hid (heap_alloc_new w7 (.cells zeA 115))
      have B8 := Lib.hid (below_box w7 (.cells zeA 115))
      have K78 := Lib.hid (blk_keep B8.out K7.out)
      clear ih
      go_upto_region 4 with (at_lookup; refine wp_look_ok _ rfl _ _ 146 rfl 2 115 law64 Try.underlying146 (zeroG _) b g rfl HM.out _ (.int .i64 (lw : Int)) rfl hkey (.agg zeA) false (by rw [hv]; rfl) (by rw [hv]; rfl) ?_)
      generalize hw8 : w7.alloc _ = w8 at K8 B8 K78 ⊢
      have HI8 := Lib.hid (HI7.out.touch (B8.out.mono HI7.out.LW))
      have HT8 := Lib.hid (but_below HT7.out B8.out)
      have hl8 := lt_of_heap K8.out
      clear hw8
      generalize hg8 : w7.heap.size = g8 at K8 hg7 hl8 ⊢
      clear hg8
      have HW8 := Lib.hid hg7
      have HK := Lib.hid hkey
      generalize hg9 : w.heap.size = g7 at K78 hg7 hLw ⊢
      have HW7 := Lib.hid (Nat.le_of_eq hg9)
      clear hg9
      clear HM HG hv K7 B8 HI7 HT7 x0 hkey
      have y0 := Ba.blk1 HI8.out.hl
      go_wp2_with fail
      go_loopw [10, 11, 31] (fun _ _ i wr => ∃ k : Nat, k ≤ n ∧ i = .int .i64 (k : Int) ∧ Hid (BInv w0 L gs gm gl gb gp b A Ap n c cp x p sl wr) ∧ Hid (But b w wr) ∧ Hid (wr.heap[g8]? = some (.cells (bgA x p (Bf k)) 115 (0, 0))) ∧ Hid (wr.heap[g7]? = some (.cells zeA 115 (0, 0)))) (fun _ _ i _ => n - (intOf i).toNat)
      case atStart => exact ⟨0, Nat.zero_le _, rfl, HI8, HT8, Lib.hid (by rw [HB0.out]; exact K8.out), K78⟩
      case round =>
        obtain ⟨k, hk, rfl, HIr, HTr, KBr, KZr⟩ := hrel
        by_cases hlt : k < n
        · obtain ⟨q, off, rfl, hq, hc⟩ := HIr.out.nums (by omega)
          have y0 := hc k hlt
          have yb := Ba.blk1 HIr.out.hb
          obtain ⟨d1, d2⟩ := HPl.out k hlt
          obtain ⟨p1, p2⟩ := HPp.out k hlt
          have CR := Lib.hid (HIH.out k hlt wr HIr.out)
          have HSk := Lib.hid (HS.out k hlt)
          have HBk := Lib.hid (fun l => HBd.out k l hk)
          have HRk := Lib.hid (fun l => HBr.out k l hlt)
          generalize Kn.B x (wt p) n sl ((lw : Int) - x k) = r at CR HSk HRk
          have HX : Hid (∀ l, bgA x p (some (k :: l)) = #[.int .i64 (sm p l + p k), .int .i64 ((l.length : Int) + 1), .int .i64 (x k), .bool true]) := Lib.hid fun l => by
            simp only [bgA, oP, oL, oX, oE, sm, List.length_cons]
            rw [Int.add_comm (p k)]
            rfl
          have NPk := Lib.hid (fun W (h : BInv w0 L gs gm gl gb gp b (some ⟨q, off, none⟩) Ap n c cp x p sl W) => by
            obtain ⟨q', off', e, _, hc⟩ := h.prc (by omega)
            exact (⟨q', off', e, hc k hlt⟩ : ∃ q' off', Ap = some ⟨q', off', none⟩ ∧ W.cell? ⟨q', off' + k, none⟩ = some (.int .i64 (p k))))
          generalize hxk : x k = xk at y0 d1 d2 CR HX
          clear hxk
          generalize hpk : p k = pk at p1 p2 HX NPk
          have hpk' := Lib.hid hpk
          clear hpk
          clear hc HBd HBr HIH HS
          cases r with
          | none =>
            have HE : Hid (Bf (k + 1) = Bf k) := Lib.hid HSk.out
            have CR : Hid (Calls Try.prog 120 #[.int .i64 ((lw : Int) - xk), .pointer (some ⟨gs, 0, none⟩), .pointer (some ⟨gm, 0, none⟩), .pointer (some ⟨gl, 0, none⟩), .pointer (some ⟨gb, 0, none⟩), .pointer (some ⟨gp, 0, none⟩)] wr fun e w' => e = .returned (.agg #[.int .i64 0, .int .i64 0, .int .i64 0, .bool false]) ∧ BInv w0 L gs gm gl gb gp b (some ⟨q, off, none⟩) Ap n c cp x p sl w' ∧ But b wr w') := CR
            clear HSk HRk HBk
            go_wp2_with fail
            refine CR.out.mono ?_
            rintro e w2 ⟨rfl, hI2, hT2⟩
            have HI2 := Lib.hid hI2
            have HT2 := Lib.hid (HTr.out.trans hT2)
            have KB2 := Lib.hid (blk_but hT2 KBr.out (by have := HI2.out.ltq; omega))
            have KZ2 := Lib.hid (blk_but hT2 KZr.out (by have := HI2.out.ltq; omega))
            clear hI2 hT2 CR KBr KZr HIr HTr y0 yb
            have B3 := Lib.hid (below_box w2 (.cells zeA 115))
            have K3 := Lib.hid (heap_alloc_new w2 (.cells zeA 115))
            go_upto_region 10 with fail
            generalize hw3 : w2.alloc _ = w3 at B3 K3 ⊢
            have HI3 := Lib.hid (HI2.out.touch (B3.out.mono HI2.out.LW))
            have HT3 := Lib.hid (but_below HT2.out B3.out)
            have KB3 := Lib.hid (blk_keep B3.out KB2.out)
            have KZ3 := Lib.hid (blk_keep B3.out KZ2.out)
            clear hw3
            obtain ⟨r0, r1, r2, r3⟩ := blk4 K3.out
            go_wp2_with fail
            go_roundw
            case rel => exact ⟨k + 1, by omega, by go_num, HI3, HT3, Lib.hid (by rw [HE.out]; exact KB3.out), KZ3⟩
            case measure => simp [intOf]; omega
          | some l =>
            obtain ⟨l1, l2, l3⟩ := HRk.out l rfl
            have CR : Hid (Calls Try.prog 120 #[.int .i64 ((lw : Int) - xk), .pointer (some ⟨gs, 0, none⟩), .pointer (some ⟨gm, 0, none⟩), .pointer (some ⟨gl, 0, none⟩), .pointer (some ⟨gb, 0, none⟩), .pointer (some ⟨gp, 0, none⟩)] wr fun e w' => e = .returned (.agg #[.int .i64 (sm p l), .int .i64 (l.length : Int), .int .i64 (oX x (some l)), .bool true]) ∧ BInv w0 L gs gm gl gb gp b (some ⟨q, off, none⟩) Ap n c cp x p sl w' ∧ But b wr w') := CR
            have HXl := Lib.hid (HX.out l)
            have HC2 : Hid (∀ m, Bf k = some m → (cpV (sm p l + pk) ((l.length : Int) + 1) (sm p m) (m.length : Int) ≤ 0 → Bf (k + 1) = some (k :: l)) ∧ (¬ cpV (sm p l + pk) ((l.length : Int) + 1) (sm p m) (m.length : Int) ≤ 0 → Bf (k + 1) = Bf k)) := Lib.hid fun m hm => by
              have hb := HBk.out m hm
              have e := cp_le (a := sm p l + pk) (b := (l.length : Int) + 1) (c := sm p m) (d := (m.length : Int)) (by omega) (by omega)
              rw [HSk.out, hm, ← hpk'.out] at *
              exact ⟨fun h => comb_yes (e.1 h), fun h => comb_no (fun h' => h (e.2 h'))⟩
            have HC1 : Hid (Bf k = none → Bf (k + 1) = some (k :: l)) := Lib.hid fun h => by rw [HSk.out, h]; rfl
            clear HSk HRk HX hpk'
            have l4 : (0 : Int) ≤ (l.length : Int) := Int.natCast_nonneg _
            generalize sm p l = u at l2 l3 CR HXl HC2
            generalize (l.length : Int) = v at l1 l4 CR HXl HC2
            generalize oX x (some l) = z at CR
            go_wp2_with fail
            refine CR.out.mono ?_
            rintro e w2 ⟨rfl, hI2, hT2⟩
            have HI2 := Lib.hid hI2
            have HT2 := Lib.hid (HTr.out.trans hT2)
            have KB2 := Lib.hid (blk_but hT2 KBr.out (by have := HI2.out.ltq; omega))
            have KZ2 := Lib.hid (blk_but hT2 KZr.out (by have := HI2.out.ltq; omega))
            clear hI2 hT2 CR KBr KZr HIr HTr y0 yb
            have B3 := Lib.hid (below_box w2 (.cells #[.int .i64 u, .int .i64 v, .int .i64 z, .bool true] 115))
            have K3 := Lib.hid (heap_alloc_new w2 (.cells #[.int .i64 u, .int .i64 v, .int .i64 z, .bool true] 115))
            go_upto_region 10 with fail
            generalize hw3 : w2.alloc _ = w3 at B3 K3 ⊢
            have HI3 := Lib.hid (HI2.out.touch (B3.out.mono HI2.out.LW))
            have HT3 := Lib.hid (but_below HT2.out B3.out)
            have KB3 := Lib.hid (blk_keep B3.out KB2.out)
            have KZ3 := Lib.hid (blk_keep B3.out KZ2.out)
            clear hw3 HI2 HT2 KB2 KZ2 B3
            obtain ⟨r0, r1, r2, r3⟩ := blk4 K3.out
            obtain ⟨qp, offp, rfl, yp⟩ := NPk.out _ HI3.out
            have ylp := Ba.blk1 HI3.out.hp
            generalize w2.heap.size = g12 at K3 r0 r1 r2 r3 ⊢
            go_upto_region 11 with fail
            have CW := Lib.hid (fun w => with_any u v pk ⟨l2, by omega⟩ ⟨l4, by omega⟩ ⟨p1, by omega⟩ w)
            have f1 : qp < w3.heap.size := World.block_lt_of_cell? w3 _ yp
            have f2 : gp < w3.heap.size := lt_of_heap HI3.out.hp
            have f3 : g12 < w3.heap.size := lt_of_heap K3.out
            have e0 : (0 : Int) ≤ (k : Int) := Int.natCast_nonneg _
            have e1 : (k : Int) < (n : Int) := by omega
            refine Bx.wp_region_box 7 8 (z := [.int .i64 0, .int .i64 0]) (cs := [.int .i64 (u + pk), .int .i64 (v + 1)]) (by kernel_rfl) (by kernel_rfl) (by decide) rfl rfl rfl rfl rfl rfl rfl rfl (by simp only [Bx.without, List.take, List.drop, List.cons_append, List.nil_append, Nat.reduceSub]; exact rfl) (by kernel_rfl) alloc_out rfl (by kernel_rfl) (by simp [Value.oneCell']) (by simp) ?_
            apply Exists.intro
            refine ⟨fun w' hw' => ?_, ⟨?_, ?_⟩, fun g13 w4 hg13 b4 k4 => ?_⟩
            · have r0 := bey_cell ((hw'.cell (p := ⟨g12, 0, none⟩) f3).trans r0)
              have r1 := bey_cell ((hw'.cell (p := ⟨g12, 1, none⟩) f3).trans r1)
              have ylp := bey_cell ((hw'.cell (p := ⟨gp, 0, none⟩) f2).trans ylp)
              have yp := bey_cell ((hw'.cell (p := ⟨qp, offp + k, none⟩) f1).trans yp)
              repeat (go_big_quiet_step (first | (go_at_call 121; exact bey_of _ (CW.out _))))
              exact wpQuiet_nil rfl
            · rfl
            · simp
            · have K13 := Lib.hid k4
              have HI4 := Lib.hid (HI3.out.touch (b4.mono HI3.out.LW))
              have HT4 := Lib.hid (but_below HT3.out b4)
              have KB4 := Lib.hid (blk_keep b4 KB3.out)
              have KZ4 := Lib.hid (blk_keep b4 KZ3.out)
              clear b4 k4 HI3 HT3 KB3 KZ3 K3 r0 r1 r2 r3 yp ylp CW f1 f2 f3 NPk
              obtain ⟨c0, c1⟩ := Ba.blk2 K13.out
              have hl8 := lt_of_heap KB4.out
              have fz := blk_free KB4.out
              have HSx : Hid (∀ W, Below w4.heap.size w4 W → Hid (BInv w0 L gs gm gl gb gp b (some ⟨q, off, none⟩) (some ⟨qp, offp, none⟩) n c cp x p sl ((((W.setCell ⟨g8, 0, none⟩ (.int .i64 (u + pk))).setCell ⟨g8, 1, none⟩ (.int .i64 (v + 1))).setCell ⟨g8, 2, none⟩ (.int .i64 xk)).setCell ⟨g8, 3, none⟩ (.bool true))) ∧ Hid (But b w ((((W.setCell ⟨g8, 0, none⟩ (.int .i64 (u + pk))).setCell ⟨g8, 1, none⟩ (.int .i64 (v + 1))).setCell ⟨g8, 2, none⟩ (.int .i64 xk)).setCell ⟨g8, 3, none⟩ (.bool true))) ∧ ((((W.setCell ⟨g8, 0, none⟩ (.int .i64 (u + pk))).setCell ⟨g8, 1, none⟩ (.int .i64 (v + 1))).setCell ⟨g8, 2, none⟩ (.int .i64 xk)).setCell ⟨g8, 3, none⟩ (.bool true)).heap[g8]? = some (.cells #[.int .i64 (u + pk), .int .i64 (v + 1), .int .i64 xk, .bool true] 115 (0, 0)) ∧ Hid (((((W.setCell ⟨g8, 0, none⟩ (.int .i64 (u + pk))).setCell ⟨g8, 1, none⟩ (.int .i64 (v + 1))).setCell ⟨g8, 2, none⟩ (.int .i64 xk)).setCell ⟨g8, 3, none⟩ (.bool true)).heap[g7]? = some (.cells zeA 115 (0, 0)))) := Lib.hid fun W hW =>
                ⟨Lib.hid (HI4.out.touch (((((hW.mono HI4.out.LW)).setCell (p := ⟨g8, 0, none⟩) (by simp; omega) _).setCell (p := ⟨g8, 1, none⟩) (by simp; omega) _).setCell (p := ⟨g8, 2, none⟩) (by simp; omega) _ |>.setCell (p := ⟨g8, 3, none⟩) (by simp; omega) _)),
                  Lib.hid (but_set (but_set (but_set (but_set (but_below HT4.out hW) (Nat.le_of_lt HW8.out)) (Nat.le_of_lt HW8.out)) (Nat.le_of_lt HW8.out)) (Nat.le_of_lt HW8.out)),
                  (Ge.heap_set (Ge.heap_set (Ge.heap_set (Ge.heap_set (blk_keep hW KB4.out) 0 _) 1 _) 2 _) 3 _).trans rfl,
                  Lib.hid (by rw [Below.heap_setCell _ _ _ _ (by simp; omega), Below.heap_setCell _ _ _ _ (by simp; omega), Below.heap_setCell _ _ _ _ (by simp; omega), Below.heap_setCell _ _ _ _ (by simp; omega)]; exact blk_keep hW KZ4.out)⟩
              simp only [Act.put, List.setIfInBounds_toArray, List.set_cons_succ, List.set_cons_zero]
              cases hB : Bf k with
              | none =>
                have HN : Hid (bgA x p (Bf (k + 1)) = #[.int .i64 (u + pk), .int .i64 (v + 1), .int .i64 xk, .bool true]) := Lib.hid (by rw [HC1.out hB]; exact HXl.out)
                have KB5 : Hid (w4.heap[g8]? = some (.cells zeA 115 (0, 0))) := Lib.hid (by have h := KB4.out; rw [hB] at h; exact h)
                obtain ⟨s0, s1, s2, s3⟩ := blk4 KB5.out
                have HS4 := Lib.hid (HSx.out _ (Below.refl _ _))
                clear hB HC1 HC2 HSx
                go_wp2_with fail
                go_roundw
                case rel => exact ⟨k + 1, by omega, by go_num, HS4.out.1, HS4.out.2.1, Lib.hid (by rw [HN.out]; exact HS4.out.2.2.1), HS4.out.2.2.2⟩
                case measure => simp [intOf]; omega
              | some m =>
                have HC3 := Lib.hid (HC2.out m hB)
                have KB5 : Hid (w4.heap[g8]? = some (.cells #[.int .i64 (sm p m), .int .i64 (m.length : Int), .int .i64 (oX x (some m)), .bool true] 115 (0, 0))) := Lib.hid (by have h := KB4.out; rw [hB] at h; exact h)
                obtain ⟨s0, s1, s2, s3⟩ := blk4 KB5.out
                have CC := Lib.hid (fun w => cp_any (u + pk) (v + 1) (sm p m) (m.length : Int) w)
                generalize cpV (u + pk) (v + 1) (sm p m) (m.length : Int) = t at CC HC3
                generalize sm p m = m0 at s0 CC KB5
                generalize (m.length : Int) = m1 at s1 CC KB5
                generalize oX x (some m) = m2 at s2 KB5
                clear HC1 HC2
                go_wp2_with fail
                refine (CC.out _).mono ?_
                rintro e w5 ⟨rfl, b5⟩
                have KZ5 := Lib.hid (blk_keep b5 KZ4.out)
                have KB6 := Lib.hid (blk_keep b5 KB5.out)
                have KB7 := Lib.hid (blk_keep b5 KB4.out)
                have K14 := Lib.hid (blk_keep b5 K13.out)
                have HS4 := Lib.hid (HSx.out _ b5)
                have HI4 := Lib.hid (HI4.out.touch (b5.mono HI4.out.LW))
                have HT4 := Lib.hid (but_below HT4.out b5)
                clear c0 c1 hl8 fz s0 s1 s2 s3 b5 KB5 K13 KB4 KZ4 HSx CC
                obtain ⟨c0, c1⟩ := Ba.blk2 K14.out
                have hl8 := lt_of_heap KB6.out
                have fz := blk_free KB6.out
                obtain ⟨s0, s1, s2, s3⟩ := blk4 KB6.out
                by_cases ht : t ≤ 0
                · have HN : Hid (bgA x p (Bf (k + 1)) = #[.int .i64 (u + pk), .int .i64 (v + 1), .int .i64 xk, .bool true]) := Lib.hid (by rw [HC3.out.1 ht]; exact HXl.out)
                  clear hB HC3
                  go_wp2_with fail
                  go_roundw
                  case rel => exact ⟨k + 1, by omega, by go_num, HS4.out.1, HS4.out.2.1, Lib.hid (by rw [HN.out]; exact HS4.out.2.2.1), HS4.out.2.2.2⟩
                  case measure => simp [intOf]; omega
                · have HN : Hid (Bf (k + 1) = Bf k) := Lib.hid (HC3.out.2 (by omega))
                  clear hB HC3
                  go_wp2_with fail
                  go_roundw
                  case rel => exact ⟨k + 1, by omega, by go_num, HI4, HT4, Lib.hid (by rw [HN.out]; exact KB7.out), KZ5⟩
                  case measure => simp [intOf]; omega
        · obtain rfl : k = n := by omega
          have KB : Hid (wr.heap[g8]? = some (.cells #[.int .i64 o1, .int .i64 o2, .int .i64 o3, .bool o4] 115 (0, 0))) := Lib.hid (by
            have h := KBr.out
            rw [← HBn.out, HV.out] at h
            exact h)
          obtain ⟨g2, hM2, hG2⟩ := HIr.out.map
          have HM2 := Lib.hid hM2
          have HG2 := Lib.hid hG2
          have HG4 := Lib.hid (good_upd (z := lw) HG2.out (by omega))
          rw [HV.out] at HG4
          have HST := Lib.hid (fun w5 (h1 : MapIs Try.prog 2 w5 b _) (h2 : wr.grownBy w5 (some b)) => And.intro (HIr.out.store h1 HG4.out h2) (And.intro (but_grown HTr.out h2) (And.intro ((h2.block _ (lt_of_heap KB.out) (by have := HIr.out.ltq; intro e; cases e; omega)).trans KB.out) ((h2.block _ (lt_of_heap KZr.out) (by have := HIr.out.ltq; intro e; cases e; omega)).trans KZr.out))))
          obtain ⟨s0, s1, s2, s3⟩ := blk4 KB.out
          have x0 := Ba.blk1 HIr.out.hm
          clear hM2 hG2 HS HBd HBr HIH HPl HPp HB0 HBn KBr y0
          go_wp2_with (at_mapUpdate; refine wp_store _ rfl _ _ _ 146 rfl 2 115 law64 Try.underlying146 (fun j => .int .i64 (j : Int)) 1001 b g2 (good_key HG2.out) (by decide) rfl HM2.out _ _ (.int .i64 (lw : Int)) rfl rfl HK.out ?_)
          intro w5 hm5 hg5
          obtain ⟨hI5, hT5, kb5, kz5⟩ := HST.out w5 hm5 hg5
          have HI5 := Lib.hid hI5
          have HT5 := Lib.hid hT5
          have KB5 := Lib.hid kb5
          have KZ5 := Lib.hid kz5
          clear hm5 hg5 hI5 hT5 kb5 kz5 s0 s1 s2 s3 x0 HST
          obtain ⟨u0, u1, u2, u3⟩ := blk4 KB5.out
          obtain ⟨z0, z1, z2, z3⟩ := blk4 KZ5.out
          have fz := blk_free KZ5.out
          have hlz := lt_of_heap KZ5.out
          have HF := Lib.hid (fun (u v y z : Value) => And.intro (HI5.out.touch (W' := (((w5.setCell ⟨g7, 0, none⟩ u).setCell ⟨g7, 1, none⟩ v).setCell ⟨g7, 2, none⟩ y).setCell ⟨g7, 3, none⟩ z) ((((Below.refl L w5).setCell (p := ⟨g7, 0, none⟩) hLw u).setCell (p := ⟨g7, 1, none⟩) hLw v).setCell (p := ⟨g7, 2, none⟩) hLw y |>.setCell (p := ⟨g7, 3, none⟩) hLw z)) (but_set (o := 3) (u := z) (but_set (o := 2) (u := y) (but_set (o := 1) (u := v) (but_set (o := 0) (u := u) HT5.out HW7.out) HW7.out) HW7.out) HW7.out))
          go_wp2_with fail
          exact bodyPost_ret (v := .agg #[.int .i64 o1, .int .i64 o2, .int .i64 o3, .bool o4]) (by simp [results, Try.results120, go_sem, z0, z1, z2, z3]) rfl
            ⟨rfl, (HF.out _ _ _ _).1, (HF.out _ _ _ _).2⟩
end Go.Proofs.Ytpmmfalpcooenab.Bh

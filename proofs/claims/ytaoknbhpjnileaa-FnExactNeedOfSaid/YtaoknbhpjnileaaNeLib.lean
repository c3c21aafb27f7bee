/- What a last lacks: the spec's and the program's. -/
import Derived.Test.YtaoknbhpjnileaaKfLib
import Derived.Test.YtaoknbhpjnileaaLaLib
import Derived.Test.YtaoknbhpjnileaaFaLib
import Derived.Deep.RegionHeld3
import Derived.Deep.DeepCutAuto
namespace Go.Proofs.Ytaoknbhpjnileaa.Ne
open Go.RowKit Ft Is Ge Qb La Fa Kf

/-- A foot. -/
abbrev ftV (a : Nat → Int) : Value := .agg #[.int .i64 (a 0), .int .i64 (a 1), .int .i64 (a 2), .int .i64 (a 3)]
abbrev ftC (a : Nat → Int) (t : TypeId) : Obj := .cells #[.int .i64 (a 0), .int .i64 (a 1), .int .i64 (a 2), .int .i64 (a 3)] t
/-- By how much each girth is less. -/
def nd (x a : Nat → Int) (i : Nat) : Int := max 0 (a (i + 1) - x (i + 1))
theorem lt_own {w : World} {base : Nat} {e : TypeId} {size n : Nat} {v : Value} {xs : List Value} (h : w.ownsRow base e size v n xs) {b : Nat} (hb : b < base) : v.ownBlock ≠ some b := fun e => by have := (h.lt b e).1; omega
set_option maxRecDepth 100000 in
set_option maxHeartbeats 4000000 in
theorem need_spec (s : ByteArray) (x a : Nat → Int) (hx : Mild x) (ha : Mild a) (w : World) : Calls Try.prog 58 #[laV s x, ftV a] w (RowAt 3 (nd x a) w) := by
  obtain ⟨i0, hi0, hz0, hz1, hz2⟩ := info_parts info_int
  have HI := Lib.hid (And.intro hi0 (And.intro hz0 (And.intro hz1 hz2)))
  have MX := Lib.hid hx
  have MA := Lib.hid ha
  have CF := Lib.hid (fun w => foot_spec s x w)
  have HR : Hid (∀ w' w0 v, Below w.heap.size w w0 → w'.ownsRow w0.heap.size 2 1 v 3 (upto (nd x a) 3) → Below w0.heap.size w0 w' → RowAt 3 (nd x a) w (.returned v) w') := Lib.hid fun w' w0 v h0 h hb => by
    obtain ⟨A, cap, e, ho, hb'⟩ := row_own h hb
    cases e
    exact ⟨A, cap, rfl, Lib.hid fun hp => by
      obtain ⟨b, off, e, h1, h2, h3, h4⟩ := ho.out hp
      exact ⟨b, off, e, by have := h0.size; omega, h2, h3, h4⟩, below_then h0 hb⟩
  have HM : Hid (∀ k, upto (nd x a) (k + 1) = upto (nd x a) k ++ [.int .i64 (max 0 (a (k + 1) - x (k + 1)))]) := Lib.hid fun k => upto_snoc _ k
  have HM0 : Hid (upto (nd x a) 0 = []) := Lib.hid rfl
  obtain ⟨kx, ka⟩ := Ge.two w (laC s x 33) (ftC a 35)
  have HW := Lib.hid (Ge.below2 w (laC s x 33) (ftC a 35))
  have KX := Lib.hid kx
  have KA := Lib.hid ka
  clear kx ka hx ha hi0 hz0 hz1 hz2
  generalize RowAt 3 (nd x a) w = Q at HR ⊢
  generalize upto (nd x a) = M at HM HM0 HR
  unfold laV at CF ⊢
  unfold laC at KX HW
  go_enter Try.func58, Try.ntmps58
  go_upto_region 1 with fail
  generalize hw2 : (w.alloc _).alloc _ = w2 at HW KX KA ⊢
  clear hw2
  obtain ⟨x0, x1, x2, x3, x4, x5⟩ := blk6 KX.out
  go_wp2_with fail
  refine (CF.out _).mono ?_
  rintro e w3 ⟨rfl, b3⟩
  have HB3 := Lib.hid (below_then HW.out b3)
  have KA3 := Lib.hid (blk_keep b3 KA.out)
  clear x0 x1 x2 x3 x4 x5 b3 KX KA
  go_wp2_with fail
  refine (Ld.four_any x _).mono ?_
  rintro e w4 ⟨ga, rfl, hga, hla, b4, hca⟩
  have HB4 := Lib.hid (below_then HB3.out b4)
  have KA4 := Lib.hid (blk_keep b4 KA3.out)
  clear b4 KA3
  obtain ⟨y0, y1, y2, y3⟩ := blk4 KA4.out
  go_wp2_with fail
  refine (Ld.four_any a _).mono ?_
  rintro e w5 ⟨gb, rfl, hgb, hlb, b5, hcb⟩
  have HB5 := Lib.hid (below_then HB4.out b5)
  have HA5 : Hid (∀ j, j < 4 → w5.cell? ⟨ga, j, none⟩ = some (.int .i64 (x j))) := Lib.hid fun j hj => (b5.cell (p := ⟨ga, j, none⟩) hla).trans (hca.out j hj)
  have hla5 : ga < w5.heap.size := by have := b5.size; omega
  clear y0 y1 y2 y3 b5 KA4 hca hga hgb hla HB4 HB3
  go_wp2_with fail
  go_loopw [7, 8] (fun o n wr => ∃ (k : Nat) (v : Value), k ≤ 3 ∧ v = o ∧ n = .int .i64 ((k + 1 : Nat) : Int) ∧ wr.ownsRow w5.heap.size 2 1 v k (M k) ∧ Below w5.heap.size w5 wr) (fun _ n _ => 4 - (intOf n).toNat)
  case atStart => exact ⟨0, _, by omega, rfl, rfl, HM0.out ▸ World.ownsRow_made w5 #[] 0 (Nat.le_refl _) (by simp [maxLen]) rfl, below_box _ _⟩
  case round =>
    obtain ⟨k, v, hk, rfl, rfl, hown, hbel⟩ := hrel
    have HB := Lib.hid hbel
    have hsz := hbel.size
    have hkk : ((k + 1 : Nat) : Int) = (k : Int) + 1 := by omega
    by_cases hlt : k < 3
    · have z0 : wr.cell? ⟨ga, k + 1, none⟩ = some (.int .i64 (x (k + 1))) := (hbel.cell (p := ⟨ga, k + 1, none⟩) hla5).trans (HA5.out (k + 1) (by omega))
      have z1 : wr.cell? ⟨gb, k + 1, none⟩ = some (.int .i64 (a (k + 1))) := (hbel.cell (p := ⟨gb, k + 1, none⟩) hlb).trans (hcb.out (k + 1) (by omega))
      have na := lt_own hown hla5
      have nb := lt_own hown hlb
      have HO := Lib.hid hown
      obtain ⟨m1, m2⟩ := MX.out (k + 1) (by omega)
      obtain ⟨m3, m4⟩ := MA.out (k + 1) (by omega)
      have HMk := Lib.hid (HM.out k)
      have C := Lib.hid (fun w => Ld.max_any 0 (a (k + 1) - x (k + 1)) w)
      have hwr : IntKind.i64.wrap (a (k + 1) - x (k + 1)) = a (k + 1) - x (k + 1) := IntWalk.i64_in _ (by omega)
      generalize x (k + 1) = u at z0 m1 m2 hwr HMk C
      generalize a (k + 1) = t at z1 m3 m4 hwr HMk C
      generalize max 0 (t - u) = y at HMk C
      clear hbel hown
      have e0 : (0 : Int) ≤ (k : Int) + 1 := by omega
      have e1 : (k : Int) + 1 < 4 := by omega
      go_wp2_with fail
      go_region_held3 (fun w' => w'.cell? ⟨ga, k + 1, none⟩ = some (.int .i64 u) ∧ w'.cell? ⟨gb, k + 1, none⟩ = some (.int .i64 t))
        (first
          | go_keep
          | (go_split_ands
             refine ⟨?_, ?_⟩
             · (rw [hgrow.cell_far _ (by simp; omega) (Ne.symm na)]; assumption)
             · (rw [hgrow.cell_far _ (by simp; omega) (Ne.symm nb)]; assumption)))
        (first
          | (go_at_call 95; refine (C.out _).mono ?_; rintro e w' ⟨rfl, rfl⟩)
          | (refine step_append_lies _ (by rfl) _ _ _ (by rfl) w5.heap.size 2 i0 _ 1 8 Try.underlying22 HI.out.1 HI.out.2.1 HI.out.2.2.1 HI.out.2.2.2 rfl (by omega) v k (M k) (by rfl) ((HO.out.alloc _).drew)
              ⟨wr.heap.size, 0, none⟩ 1 1 [.int .i64 y] (by rfl) (by rfl) (World.news_of_block (cs := #[.int .i64 y]) (t := 2) (fr := (0, 0)) (heap_alloc_new wr _)) (by simp [Value.oneCell'])
              (by omega) (by unfold maxLen; omega) (by omega) (by simp; omega) (wr.heap.size + 1) (by simp) ?_; intro gg cap w6 hown1 hgrow hat hlt6))
      all_goals
        have HQ : Hid (Below w5.heap.size w5 w6) := Lib.hid ((((HB.out.alloc hsz _).drew)).grown hgrow (by simp; omega) fun g hg => (HO.out.lt g hg).1)
        have hown2 : w6.ownsRow w5.heap.size 2 1 (.slice (some ⟨gg, 0, none⟩) (k + 1) cap) (k + 1) (M (k + 1)) := by rw [HMk.out]; exact hown1
        have HO2 := Lib.hid hown2
        clear hgrow hat hlt6 hown1 hown2 z0 z1 na nb
        go_wp2_with fail
        go_roundw
        case rel => exact ⟨k + 1, _, by omega, rfl, by go_num, HO2.out, HQ.out⟩
        case measure => simp [intOf]; omega
    · obtain rfl : k = 3 := by omega
      have HF := Lib.hid (HR.out _ _ _ HB5.out hown hbel)
      clear hbel hown
      go_wp2_with fail
      exact HF.out
end Go.Proofs.Ytaoknbhpjnileaa.Ne

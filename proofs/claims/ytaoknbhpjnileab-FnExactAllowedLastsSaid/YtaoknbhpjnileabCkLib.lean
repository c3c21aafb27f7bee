/- Both functions AllowedLasts. -/
import Derived.Test.YtaoknbhpjnileabCiLib
import Derived.Test.YtaoknbhpjnileabCtLib
namespace Go.Proofs.Ytaoknbhpjnileab.Ch
open Go.RowKit Ft Is Ge Qb Fa Fi La Ll Lv Co

/-- Rows of two numbers each. -/
def Two (w : World) (A : Option Addr) (n : Nat) (d e : Nat → Int) : Prop :=
  0 < n → ∃ b off, A = some ⟨b, off, none⟩ ∧ b < w.heap.size ∧ ∀ i, i < n → w.cell? ⟨b, off + i * 2, none⟩ = some (.int .i64 (d i)) ∧ w.cell? ⟨b, off + i * 2 + 1, none⟩ = some (.int .i64 (e i))
theorem Two.below {w w' : World} {A : Option Addr} {n : Nat} {d e : Nat → Int} (h : Two w A n d e) (hb : Below w.heap.size w w') : Two w' A n d e := fun hn => by
  obtain ⟨b, off, rfl, hlt, hc⟩ := h hn
  exact ⟨b, off, rfl, Nat.lt_of_lt_of_le hlt hb.size, fun i hi => ⟨(hb.cell (p := ⟨b, off + i * 2, none⟩) hlt).trans (hc i hi).1, (hb.cell (p := ⟨b, off + i * 2 + 1, none⟩) hlt).trans (hc i hi).2⟩⟩
theorem two_of_row {w : World} {B : Nat} {v : Value} {l : List Nat} {cost : Nat → Int} (h : w.ownsRow B 135 2 v l.length (cc cost l)) : ∃ A cap, v = .slice A l.length cap ∧ Two w A l.length (fun i => ((l.getD i 0 : Nat) : Int)) (fun i => cost (l.getD i 0)) := by
  rcases h.2 with ⟨rfl, h0⟩ | ⟨g, cap, cur, rfl, hbg, hh, _⟩
  · exact ⟨none, 0, by rw [h0], fun h => absurd h (by omega)⟩
  · exact ⟨_, cap, rfl, fun _ => ⟨g, 0, rfl, lt_of_heap hh, fun i hi => by
      obtain ⟨g1, g2⟩ := cc_get cost l i hi
      rw [Nat.zero_add]
      exact ⟨(h.cellAt (i * 2) (by omega)).trans g1, (h.cellAt (i * 2 + 1) (by omega)).trans g2⟩⟩⟩
theorem info_num : (Try.prog.info? 2).map (fun i => (i.zero, i.size, i.bytes)) = some (some (.int .i64 0), 1, 8) := by kernel_rfl
/-- A new list of numbers. -/
def RowAt (n : Nat) (d : Nat → Int) (w : World) (e : Ending) (w' : World) : Prop := ∃ A cap, e = .returned (.slice A n cap) ∧ Hid (Own w' w.heap.size A n d) ∧ Below w.heap.size w w'
theorem row_own {n : Nat} {d : Nat → Int} {w w' : World} {v : Value} (h : w'.ownsRow w.heap.size 2 1 v n (upto d n)) (hb : Below w.heap.size w w') : RowAt n d w (.returned v) w' := by
  rcases h.2 with ⟨rfl, h0⟩ | ⟨g, cap, cur, rfl, hbg, hh, _⟩
  · exact ⟨none, 0, by rw [h0], Lib.hid fun h => absurd h (by omega), hb⟩
  · exact ⟨_, cap, rfl, Lib.hid fun _ => ⟨g, 0, rfl, hbg, lt_of_heap hh, fun i hi => by
      rw [Nat.zero_add]
      exact (h.cellAt i (by omega)).trans (upto_get d hi), fun i => Ge.blk_free hh i⟩, hb⟩

set_option maxRecDepth 100000 in
set_option maxHeartbeats 2000000 in
theorem indices_any (A : Option Addr) (n c : Nat) (d e : Nat → Int) (hn : n ≤ 1048576) (w : World) (hA : Two w A n d e) :
    Calls Try.prog 63 #[.slice A n c] w (RowAt n d w) := by
  obtain ⟨i0, hi0, hz0, hz1, hz2⟩ := info_parts info_num
  have hmk : (Instr.makeSlice 26 (.int .i64 0) (.int .i64 (n : Int))).run Try.prog w = _ := run_make w _ _ i0 _ Try.underlying26 hi0 hz0 .i64 .i64 0 n (by omega) (by omega) (by rw [hz2]; omega) (by omega)
  rw [hz1] at hmk
  simp only [Int.toNat_natCast] at hmk
  have HI := Lib.hid (And.intro hi0 (And.intro hz0 (And.intro hz1 hz2)))
  have HA := Lib.hid hA
  clear hi0 hz0 hz1 hz2 hA
  go_enter Try.func63, Try.ntmps63
  go_wp2_with fail
  clear hmk
  go_loopw [3, 5, 11] (fun o _ i wr => ∃ (k : Nat) (v : Value), k ≤ n ∧ v = o ∧ i = .int .i64 k ∧ Below w.heap.size w wr ∧ Hid (wr.ownsRow w.heap.size 2 1 v k (upto d k))) (fun _ _ i _ => n - (intOf i).toNat)
  case atStart => exact ⟨0, _, Nat.zero_le _, rfl, rfl, below_box _ _, Lib.hid (World.ownsRow_made w _ n (Nat.le_refl _) (by unfold maxLen; omega) (by rw [size_madeCells]; omega))⟩
  case round =>
    obtain ⟨k, v, hk, rfl, rfl, hbel, hown⟩ := hrel
    have HB := Lib.hid hbel
    by_cases hlt : k < n
    · obtain ⟨b, off, rfl, hb, hc⟩ := (HA.out.below hbel) (by omega)
      obtain ⟨x0, x1⟩ := hc k hlt
      have hzr := HB.out.size
      have HO := Lib.hid (hown.out.alloc (.cells #[.int .i64 (d k), .int .i64 (e k)] 135))
      have hB1 := Lib.hid (HB.out.alloc hzr (.cells #[.int .i64 (d k), .int .i64 (e k)] 135))
      clear hc hbel hk
      go_upto_region 5 with fail
      have KC := Lib.hid (heap_alloc_new wr (.cells #[.int .i64 (d k), .int .i64 (e k)] 135))
      generalize hw1 : wr.alloc _ = w1 at HO hB1 KC ⊢
      have lx := lt_of_heap KC.out
      obtain ⟨z0, z1⟩ := blk2 KC.out
      have hz := hB1.out.size
      clear x0 x1 hw1
      go_wp2_with (at_builtin; refine wpList_append_own _ rfl _ _ 26 rfl w.heap.size 2 i0 _ 1 8 Try.underlying26 HI.out.1 HI.out.2.1 HI.out.2.2.1 HI.out.2.2.2 rfl (by decide) _ _ _ rfl (HO.out.alloc _) ⟨w1.heap.size, 0, none⟩ 1 1 [.int .i64 (d k)] rfl rfl ?c1 ?c2 ?c3 ?c4 ?c5 ?_)
      case c1 => exact cell_one_new _ _ _
      case c2 => simp [Value.oneCell']
      case c3 => unfold maxLen; omega
      case c4 => omega
      case c5 => first | omega | (simp <;> omega)
      intro v' w2 hown2 hgrow _
      have HQ := Lib.hid ((hB1.out.alloc hz _).grown hgrow (by simp; omega) fun g hg => (HO.out.lt g hg).1)
      have HO2 : Hid (w2.ownsRow w.heap.size 2 1 v' (k + 1) (upto d (k + 1))) := Lib.hid (by rw [upto_snoc]; exact hown2)
      clear hown2 hgrow
      go_wp2_with fail
      go_roundw
      case rel => exact ⟨k + 1, _, by omega, rfl, by go_num, HQ.out, HO2⟩
      case measure => simp [intOf]; omega
    · obtain rfl : k = n := by omega
      have HF := Lib.hid (row_own hown.out hbel)
      clear hbel
      go_wp2_with fail
      go_ret
      exact HF.out

/-- What a call's arguments are worth. -/
noncomputable def okL (n : Nat) (N : Nat → ByteArray) (F : Nat → Nat → Int) (a : Nat → Int) (mn mx gi : Int) (m : Nat) (p : Nat → Int) : Bool := tv (LOk n N F) && (ftB (a 0) (a 1) (a 2) (a 3) && tv (FitOk mn mx gi m p))
theorem fe_list (n : Nat) (N : Nat → ByteArray) (F : Nat → Nat → Int) (a : Nat → Int) (mn mx gi : Int) (m : Nat) (p : Nat → Int) : feC n N F mn mx gi m p 1 (fun _ => a) = if okL n N F a mn mx gi m p then 0 else 1 := by
  have h2 : tv (Fs.Okay 1 (fun _ => a)) = ftB (a 0) (a 1) (a 2) (a 3) := by
    rw [Bool.eq_iff_iff, tv_iff]
    exact ⟨fun h => h.2 0 (by omega), fun h => ⟨by omega, fun _ _ => h⟩⟩
  unfold feC okL
  rw [h2]
set_option maxRecDepth 100000 in
set_option maxHeartbeats 2000000 in
theorem code_any (A1 : Option Addr) (n c1 : Nat) (N : Nat → ByteArray) (F : Nat → Nat → Int) (a : Nat → Int) (mn mx gi : Int) (A : Option Addr) (m c : Nat) (p : Nat → Int) (hn : n ≤ 1048576) (hm : m ≤ 1048576) (g : Nat) (w : World)
    (hg : w.heap[g]? = some (fiC mn mx gi A m c 37)) (h1 : Lasts w w.heap.size A1 n N F) (hA : Nums w w.heap.size A m p) :
    Calls Try.prog 62 #[.slice A1 n c1, ftV a, .pointer (some ⟨g, 0, none⟩)] w fun e w' => e = .returned (.bool (okL n N F a mn mx gi m p)) ∧ Below w.heap.size w w' := by
  have C1 := Lib.hid (fun w h => (spec_ok A1 n c1 N F hn w h).mono fun _ _ t => tells_tv t)
  have C2 := Lib.hid (fun w => foot_any (a 0) (a 1) (a 2) (a 3) w)
  have C3 := Lib.hid (fun g w hg hA => (spec_fit mn mx gi A m c p hm g w hg hA).mono fun _ _ t => tells_tv t)
  have HO : Hid (okL n N F a mn mx gi m p = (tv (LOk n N F) && (ftB (a 0) (a 1) (a 2) (a 3) && tv (FitOk mn mx gi m p)))) := Lib.hid rfl
  have KA := Lib.hid (heap_alloc_new w (ftC a 35))
  have HB := Lib.hid (below_box w (ftC a 35))
  have KG := Lib.hid (blk_keep HB.out hg)
  have H1 := Lib.hid h1
  have HA := Lib.hid hA
  clear hg h1 hA
  generalize okL n N F a mn mx gi m p = R at HO ⊢
  generalize tv (LOk n N F) = r1 at HO C1
  generalize ftB (a 0) (a 1) (a 2) (a 3) = r2 at HO C2
  generalize tv (FitOk mn mx gi m p) = r3 at HO C3
  go_enter Try.func62, Try.ntmps62
  go_upto_region 1 with fail
  generalize hw0 : w.alloc _ = w0 at KA HB KG ⊢
  clear hw0
  go_wp2_with fail
  refine (C1.out _ ((H1.out.below HB.out (Nat.le_refl _)).more HB.out.size)).mono ?_
  rintro e w1 ⟨rfl, b1⟩
  have HB1 := Lib.hid (below_then HB.out b1)
  have KA1 := Lib.hid (blk_keep b1 KA.out)
  have KG1 := Lib.hid (blk_keep b1 KG.out)
  clear b1 HB KA KG
  cases r1
  · go_wp2_with fail
    go_ret
    exact ⟨by rw [HO.out]; rfl, HB1.out⟩
  obtain ⟨y0, y1, y2, y3⟩ := Ge.blk4 KA1.out
  go_wp2_with fail
  refine (C2.out _).mono ?_
  rintro e w2 ⟨rfl, b2⟩
  have HB2 := Lib.hid (below_then HB1.out b2)
  have KG2 := Lib.hid (blk_keep b2 KG1.out)
  clear b2 HB1 KA1 KG1 y0 y1 y2 y3
  cases r2
  · go_wp2_with fail
    go_ret
    exact ⟨by rw [HO.out]; rfl, HB2.out⟩
  go_wp2_with fail
  refine (C3.out _ _ KG2.out ((HA.out.below HB2.out (Nat.le_refl _)).more HB2.out.size)).mono ?_
  rintro e w3 ⟨rfl, b3⟩
  have HB3 := Lib.hid (below_then HB2.out b3)
  clear b3
  cases r3
  all_goals
    go_wp2_with fail
    go_ret
    exact ⟨by rw [HO.out]; rfl, HB3.out⟩
end Go.Proofs.Ytaoknbhpjnileab.Ch

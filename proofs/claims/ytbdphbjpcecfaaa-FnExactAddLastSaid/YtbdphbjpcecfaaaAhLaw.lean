/- The walk of the law of AddLast. -/
import Derived.Test.YtbdphbjpcecfaaaAfLib
import Derived.Test.YtbdphbjpcecfaaaKbLib
import Derived.Deep.RegionHeld3
namespace Go.Proofs.Ytbdphbjpcecfaaa.Ad
open Go.RowKit Go.Shelf Ft Ge Qb La Ll Lv Pl Ks

/-- Numbers, by place. -/
def five (l b i h p : Int) : Nat → Int
  | 0 => l
  | 1 => b
  | 2 => i
  | 3 => h
  | _ => p
theorem ad_len (n : Nat) (N : Nat → ByteArray) (F : Nat → Nat → Int) (s : ByteArray) (f : Nat → Int) : adN n N F s f ≤ 31 := by
  unfold adN
  split
  · rename_i h
    by_cases ho : LOk n N F
    · have := ho.1; omega
    · rw [adC, tv_no ho] at h; simp at h
  · omega
theorem ownv_later {w' : World} {B B' : Nat} {A : Option Addr} {n : Nat} {V : Nat → Value} (h : OwnV w' B' A n V) (hs : B ≤ B') : OwnV w' B A n V := fun hp => by
  obtain ⟨b, off, e, h1, h2, h3, h4⟩ := h hp
  exact ⟨b, off, e, by omega, h2, h3, h4⟩
theorem own_of_copy {w : World} {g n : Nat} {arr : Array Value} {N : Nat → ByteArray} {F : Nat → Nat → Int} (h : w.heap[g]? = some (.cells arr 31 (0, 0))) (ha : Arr arr n n N F) : OwnV w g (some ⟨g, 0, none⟩) (n * 6) (Ks.lv N F) := fun _ =>
  ⟨g, 0, rfl, Nat.le_refl _, lt_of_heap h, fun i hi => by
    rw [Nat.zero_add, cell_of_row _ _ _ _ _ _ h]
    have t := ha.2 (i / 6) (by omega)
    unfold Ks.lv
    split
    · have e : i / 6 * 6 = i := by omega
      rw [e] at t
      exact t.1
    · have t2 := t.2 (i % 6 - 1) (by omega)
      rw [show i / 6 * 6 + (i % 6 - 1 + 1) = i by omega] at t2
      exact t2, fun i => blk_free h i⟩
theorem but_blk {g : Nat} {w w' : World} (h : But g w w') {k : Nat} {o : Obj} (hk : k ≠ g) (ho : w.heap[k]? = some o) : w'.heap[k]? = some o := (h.block k (lt_of_heap ho) hk).trans ho
set_option maxRecDepth 100000 in
set_option maxHeartbeats 4000000 in
theorem law (A : Option Addr) (n c : Nat) (N : Nat → ByteArray) (F : Nat → Nat → Int) (s : ByteArray) (l b i h q : Int) (w : World) (hA : Lasts w w.heap.size A n N F) (hs : s.size ≤ maxLen) (_ : (Lit.int .i64 l).wf = true) (_ : (Lit.int .i64 b).wf = true) (_ : (Lit.int .i64 i).wf = true) (_ : (Lit.int .i64 h).wf = true) (_ : (Lit.int .i64 q).wf = true) :
    Calls Try.prog 3 #[.slice A n c, .agg #[.string s, .int .i64 l, .int .i64 b, .int .i64 i, .int .i64 h, .int .i64 q]] w fun e w' => e = .returned (.bool true) ∧ Below w.heap.size w w' := by
  show Calls Try.prog 3 #[.slice A n c, laV s (five l b i h q)] w _
  generalize five l b i h q = f
  have HL := Lib.hid hA
  have CZ := Lib.hid (fun w h => sz_lasts A n c N F 1048576 (by omega) (by omega) w h)
  have CZ2 := Lib.hid (fun l h1 h2 w => sz_last s f l h1 h2 w)
  have CZ3 := Lib.hid (fun l h1 h2 h3 w => sz_last_big s f l h1 hs h2 h3 w)
  have TLn := Lib.hid (fun hn w h => to_lasts A n c N F hn w h)
  have CT := Lib.hid (fun w => to_last s f w)
  have CSn := Lib.hid (fun hn g w h => spec_add g n N F s f hs hn w h)
  have CIn := Lib.hid (fun hn g w h => impl_add g n N F s f hs hn w h)
  have CEn := Lib.hid (fun hn A1 A2 c1 c2 w h1 h2 => Ll.eq_lasts A1 A2 n c1 c2 N F hn w h1 h2)
  have hm := ad_len n N F s f
  unfold AdAt PairL at CSn CIn
  generalize adN n N F s f = m at CSn CIn hm
  generalize adC n N F s f = cd at CSn CIn
  have EQ := Lib.hid (fun A1 A2 c1 c2 w h1 h2 => Ks.eq_lasts A1 A2 m c1 c2 (iN N s (pl n N s)) (iF F f (pl n N s)) (by omega) w h1 h2)
  generalize Ks.lv (iN N s (pl n N s)) (iF F f (pl n N s)) = V at CSn CIn EQ
  have MK := Lib.hid (fun A c B w hB h => mark_lasts A m c 1 V (by omega) (by omega) (by omega) B w hB h)
  have HE := Lib.hid (fun A c w h => held_lasts A m c 1 (by omega) (by omega) (by omega) w h)
  have MBn := Lib.hid (fun hn g c w h => mark_but g n c 1 (Ks.lv N F) hn (by omega) (by omega) w h)
  have hM : 0 ≤ (1 : Int) + 6 * (m : Int) := by omega
  generalize (1 : Int) + 6 * (m : Int) = M at MK HE hM
  have hK : ¬ (1 : Int) + 6 * (n : Int) < 0 := by omega
  generalize (1 : Int) + 6 * (n : Int) = K at MBn hK
  generalize mkv 1 = V1 at MK HE MBn
  have n1 : (cd != cd) = false := by simp
  have n2 : (M != M) = false := by simp
  have kx := heap_alloc_new w (laC s f 24)
  have B0 := Lib.hid (below_box w (laC s f 24))
  clear hA
  simp only [laV, laC] at kx B0 CZ2 CZ3 CT CSn CIn ⊢
  generalize hx0 : f 0 = f0, f 1 = f1, f 2 = f2, f 3 = f3, f 4 = f4 at *
  clear hx0
  have KX := Lib.hid kx
  clear kx
  go_enter Try.func3, Try.ntmps3
  go_upto_region 2 with fail
  generalize hw1 : w.alloc _ = w1 at KX B0 ⊢
  clear hw1
  go_wp2_with fail
  refine (CZ.out _ ((HL.out.below B0.out (Nat.le_refl _)).more B0.out.size)).mono ?_
  rintro e w2 ⟨r, rfl, hr0, hr1, hr2, b2⟩
  have B2 := Lib.hid (below_then B0.out b2)
  have KX2 := Lib.hid (blk_keep b2 KX.out)
  clear b2 CZ KX B0
  by_cases hr : r < 0
  · go_wp2_with fail
    go_ret
    exact ⟨rfl, B2.out⟩
  have hn := hr2 (by omega)
  have TL := Lib.hid (TLn.out hn)
  have CS := Lib.hid (CSn.out hn)
  have CI := Lib.hid (CIn.out hn)
  have CE := Lib.hid (CEn.out hn)
  have MB := Lib.hid (MBn.out hn)
  clear hr2 TLn CSn CIn CEn MBn
  obtain ⟨v0, v1, v2, v3, v4, v5⟩ := Ge.blk6 KX2.out
  by_cases hz : r < (s.size : Int)
  · have CB := Lib.hid (CZ3.out r hz (by omega) hr1)
    clear CZ2 CZ3 TL CS CI CE MB EQ MK HE CT
    go_wp2_with fail
    refine (CB.out _).mono ?_
    rintro e w3 ⟨rfl, b3⟩
    have B3 := Lib.hid (below_then B2.out b3)
    clear b3
    go_wp2_with fail
    go_ret
    exact ⟨rfl, B3.out⟩
  have CB := Lib.hid (CZ2.out r (by omega) hr1)
  have hle : ¬ r - (s.size : Int) < 0 := by omega
  generalize r - (s.size : Int) = l at CB hle
  clear CZ2 CZ3
  go_wp2_with fail
  refine (CB.out _).mono ?_
  rintro e w3 ⟨rfl, b3⟩
  have B3 := Lib.hid (below_then B2.out b3)
  have KX3 := Lib.hid (blk_keep b3 KX2.out)
  clear b3 v0 v1 v2 v3 v4 v5 KX2 B2 CB hz hr hr0 hr1
  obtain ⟨v0, v1, v2, v3, v4, v5⟩ := Ge.blk6 KX3.out
  have lx := lt_of_heap KX3.out
  have HAt : Hid (∀ W, Below w3.heap.size w3 W → Lasts W W.heap.size A n N F) := Lib.hid fun W h => (HL.out.below (below_then B3.out h) (Nat.le_refl _)).more (below_then B3.out h).size
  go_upto_region 8 with fail
  go_cut [6, 7] (fun s8 s9 wx => ∃ A6 c6, s8 = .slice A6 m c6 ∧ s9 = .int .i64 cd ∧ Hid (OwnV wx w3.heap.size A6 (m * 6) V) ∧ Below w3.heap.size w3 wx)
  case first =>
    clear CI CE EQ MK MB HE hM hK n1 n2 KX3 B3 hle
    go_region_held3 (fun w' => w'.cell? ⟨w.heap.size, 0, none⟩ = some (.string s) ∧ w'.cell? ⟨w.heap.size, 1, none⟩ = some (.int .i64 f0) ∧ w'.cell? ⟨w.heap.size, 2, none⟩ = some (.int .i64 f1) ∧ w'.cell? ⟨w.heap.size, 3, none⟩ = some (.int .i64 f2) ∧ w'.cell? ⟨w.heap.size, 4, none⟩ = some (.int .i64 f3) ∧ w'.cell? ⟨w.heap.size, 5, none⟩ = some (.int .i64 f4))
      (first | (refine ⟨?_, ?_, ?_, ?_, ?_, ?_⟩ <;> (refine keep_of (w2 := w3) ?_ (by omega) (by assumption); (repeat (first | (with_reducible exact Below.refl _ _) | (with_reducible exact BN) | refine Below.drew ?_)))))
      (first | (go_at_call 11; (with_reducible refine (TL.out _ (HAt.out _ ?_)).mono ?_); (focus (repeat (first | (with_reducible exact Below.refl _ _) | (with_reducible exact BN) | refine Below.drew ?_))); rintro e wa ⟨g6, arr6, rfl, _, ba, k6, a6⟩; have HI6 := Lib.hid (lasts_of_copy HL.out k6.out a6.out); clear k6 a6; have BN := below_then (w0 := w3) ?_ ba; rotate_left; (focus (repeat (first | (with_reducible exact Below.refl _ _) | (with_reducible exact BN) | refine Below.drew ?_)))) | (go_at_call 12; (with_reducible refine (CT.out _).mono ?_); rintro e wa ⟨rfl, ba⟩; (try (have HI6 := Lib.hid (((by exact HI6 : Hid (Lasts _ _ _ _ _ _)).out.below ba (Nat.le_refl _)).more ba.size))); have BN := below_then (w0 := w3) ?_ ba; rotate_left; (focus (repeat (first | (with_reducible exact Below.refl _ _) | (with_reducible exact BN) | refine Below.drew ?_)))) | (go_at_call 10; (with_reducible refine (CS.out _ _ ?_).mono ?_); (focus (exact HI6.out)); rintro e wa ⟨A6, c6, rfl, H6, ba⟩; have H6 := Lib.hid (ownv_later H6.out (show w3.heap.size ≤ _ from ?_)); rotate_left; (focus (first | (have := BN.size; simpa using this) | omega)); have BN := below_then (w0 := w3) ?_ ba; rotate_left; (focus (repeat (first | (with_reducible exact Below.refl _ _) | (with_reducible exact BN) | refine Below.drew ?_)))))
    all_goals
      go_wp2_with fail
      go_meet
      refine ⟨A6, c6, rfl, rfl, ?_, ?_⟩
      · first | (with_reducible exact H6) | exact H6
      · first | (with_reducible exact BN) | (refine Below.drew ?_; with_reducible exact BN)
  case rest =>
  obtain ⟨A5, c5, rfl, rfl, HO5, bc⟩ := hcut
  have B5 := Lib.hid (below_then B3.out bc)
  have HN5 := Lib.hid HO5.out.vals
  have KX5 := Lib.hid (blk_keep bc KX3.out)
  clear bc v0 v1 v2 v3 v4 v5 lx KX3 B3 HO5 CS HAt
  rename World => w5
  go_wp2_with fail
  refine (TL.out _ ((HL.out.below B5.out (Nat.le_refl _)).more B5.out.size)).mono ?_
  rintro e w6 ⟨g6, arr6, rfl, hg6, b6, k6, a6⟩
  have B6 := Lib.hid (below_then B5.out b6)
  have KX6 := Lib.hid (blk_keep b6 KX5.out)
  have HN6 := Lib.hid (HN5.out.below b6 (Nat.le_refl _))
  have HI6 := Lib.hid (lasts_of_copy HL.out k6.out a6.out)
  have HC6 := Lib.hid (own_of_copy k6.out a6.out)
  have lg6 := lt_of_heap k6.out
  have lx5 := lt_of_heap KX5.out
  clear b6 KX5 B5 HN5 k6 a6
  obtain ⟨v0, v1, v2, v3, v4, v5⟩ := Ge.blk6 KX6.out
  go_wp2_with fail
  refine (CT.out _).mono ?_
  rintro e w7 ⟨rfl, b7⟩
  have B7 := Lib.hid (below_then B6.out b7)
  have KX7 := Lib.hid (blk_keep b7 KX6.out)
  have s7 := b7.size
  have HN7 := Lib.hid (HN6.out.below b7 (by omega))
  have HI7 := Lib.hid ((HI6.out.below b7 (Nat.le_refl _)).more b7.size)
  have HC7 := Lib.hid (HC6.out.below b7)
  clear b7 KX6 B6 HN6 HI6 HC6 v0 v1 v2 v3 v4 v5
  go_wp2_with fail
  refine (CI.out _ _ HI7.out).mono ?_
  rintro e w8 ⟨A8, c8, rfl, H8, b8⟩
  have B8 := Lib.hid (below_then B7.out b8)
  have KX8 := Lib.hid (blk_keep b8 KX7.out)
  have s8 := b8.size
  have HN8 := Lib.hid (HN7.out.below b8 (by omega))
  have HI8 := Lib.hid ((HI7.out.below b8 (Nat.le_refl _)).more b8.size)
  have HC8 := Lib.hid (HC7.out.below b8)
  clear b8 KX7 B7 HN7 HI7 HC7
  go_wp2_with fail
  refine (EQ.out _ _ _ _ _ H8.out.vals (HN8.out.more (by omega))).mono ?_
  rintro e w9 ⟨rfl, b9⟩
  have B9 := Lib.hid (below_then B8.out b9)
  have KX9 := Lib.hid (blk_keep b9 KX8.out)
  have s9 := b9.size
  have H9 := Lib.hid (H8.out.below b9)
  have HN9 := Lib.hid (HN8.out.below b9 (by omega))
  have HI9 := Lib.hid ((HI8.out.below b9 (Nat.le_refl _)).more b9.size)
  have HC9 := Lib.hid (HC8.out.below b9)
  clear b9 KX8 B8 HN8 HI8 HC8 H8
  go_wp2_with fail
  refine (TL.out _ ((HL.out.below B9.out (Nat.le_refl _)).more B9.out.size)).mono ?_
  rintro e w10 ⟨g10, arr10, rfl, hg10, b10, k10, a10⟩
  have B10 := Lib.hid (below_then B9.out b10)
  have KX10 := Lib.hid (blk_keep b10 KX9.out)
  have s10 := b10.size
  have H10 := Lib.hid (H9.out.below b10)
  have HN10 := Lib.hid (HN9.out.below b10 (by omega))
  have HI10 := Lib.hid ((HI9.out.below b10 (Nat.le_refl _)).more b10.size)
  have HC10 := Lib.hid (HC9.out.below b10)
  have HJ10 := Lib.hid (lasts_of_copy HL.out k10.out a10.out)
  clear b10 KX9 B9 HN9 HI9 HC9 H9 k10 a10
  go_wp2_with fail
  refine (CE.out _ _ _ _ _ HI10.out HJ10.out).mono ?_
  rintro e w11 ⟨rfl, b11⟩
  have B11 := Lib.hid (below_then B10.out b11)
  have KX11 := Lib.hid (blk_keep b11 KX10.out)
  have s11 := b11.size
  have H11 := Lib.hid (H10.out.below b11)
  have HN11 := Lib.hid (HN10.out.below b11 (by omega))
  have HC11 := Lib.hid (HC10.out.below b11)
  clear b11 KX10 B10 HN10 HI10 HC10 H10 HJ10
  go_wp2_with fail
  refine (MB.out _ _ _ HC11.out).mono ?_
  rintro e w12 ⟨rfl, _, b12⟩
  have B12 := Lib.hid (B11.out.trans (b12.below (by omega) B11.out.size))
  have KX12 := Lib.hid (but_blk b12 (by omega) KX11.out)
  have s12 := b12.size
  have H12 := Lib.hid (H11.out.but b12 (by omega))
  have HN12 := Lib.hid (HN11.out.but b12 (by omega))
  clear b12 KX11 B11 HN11 HC11 H11
  go_wp2_with fail
  refine (EQ.out _ _ _ _ _ H12.out.vals (HN12.out.more (by omega))).mono ?_
  rintro e w13 ⟨rfl, b13⟩
  have B13 := Lib.hid (below_then B12.out b13)
  have KX13 := Lib.hid (blk_keep b13 KX12.out)
  have s13 := b13.size
  have H13 := Lib.hid (H12.out.below b13)
  have HN13 := Lib.hid (HN12.out.below b13 (by omega))
  clear b13 KX12 B12 HN12 H12
  go_wp2_with fail
  refine (MK.out _ _ w7.heap.size _ (by omega) H13.out).mono ?_
  rintro e w14 ⟨rfl, h14, b14⟩
  have B14 := Lib.hid (B13.out.trans (b14.mono (by omega)))
  have KX14 := Lib.hid ((b14.block w.heap.size (by omega)).trans KX13.out)
  have s14 := b14.size
  have H14 := Lib.hid h14
  have HN14 := Lib.hid (HN13.out.below b14 (by omega))
  clear b14 h14 KX13 B13 HN13 H13
  go_wp2_with fail
  refine (HE.out _ _ _ H14.out.vals).mono ?_
  rintro e w15 ⟨rfl, b15⟩
  have B15 := Lib.hid (below_then B14.out b15)
  have KX15 := Lib.hid (blk_keep b15 KX14.out)
  have s15 := b15.size
  have H15 := Lib.hid (H14.out.below b15)
  have HN15 := Lib.hid (HN14.out.below b15 (by omega))
  clear b15 KX14 B14 HN14 H14
  obtain ⟨v0, v1, v2, v3, v4, v5⟩ := Ge.blk6 KX15.out
  have lx := lt_of_heap KX15.out
  have HAt : Hid (∀ W, Below w15.heap.size w15 W → Lasts W W.heap.size A n N F) := Lib.hid fun W h => (HL.out.below (below_then B15.out h) (Nat.le_refl _)).more (below_then B15.out h).size
  go_upto_region 27 with fail
  go_cut [14, 15] (fun s8 s9 wx => ∃ A6 c6, s8 = .slice A6 m c6 ∧ s9 = .int .i64 cd ∧ Hid (OwnV wx w15.heap.size A6 (m * 6) V) ∧ Below w15.heap.size w15 wx)
  case first =>
    clear CE EQ MK MB HE hM hK n1 n2 KX15 B15 hle H15 HN15
    go_region_held3 (fun w' => w'.cell? ⟨w.heap.size, 0, none⟩ = some (.string s) ∧ w'.cell? ⟨w.heap.size, 1, none⟩ = some (.int .i64 f0) ∧ w'.cell? ⟨w.heap.size, 2, none⟩ = some (.int .i64 f1) ∧ w'.cell? ⟨w.heap.size, 3, none⟩ = some (.int .i64 f2) ∧ w'.cell? ⟨w.heap.size, 4, none⟩ = some (.int .i64 f3) ∧ w'.cell? ⟨w.heap.size, 5, none⟩ = some (.int .i64 f4))
      (first | (refine ⟨?_, ?_, ?_, ?_, ?_, ?_⟩ <;> (refine keep_of (w2 := w15) ?_ (by omega) (by assumption); (repeat (first | (with_reducible exact Below.refl _ _) | (with_reducible exact BN) | refine Below.drew ?_)))))
      (first | (go_at_call 11; (with_reducible refine (TL.out _ (HAt.out _ ?_)).mono ?_); (focus (repeat (first | (with_reducible exact Below.refl _ _) | (with_reducible exact BN) | refine Below.drew ?_))); rintro e wa ⟨g6, arr6, rfl, _, ba, k6, a6⟩; have HI6 := Lib.hid (lasts_of_copy HL.out k6.out a6.out); clear k6 a6; have BN := below_then (w0 := w15) ?_ ba; rotate_left; (focus (repeat (first | (with_reducible exact Below.refl _ _) | (with_reducible exact BN) | refine Below.drew ?_)))) | (go_at_call 12; (with_reducible refine (CT.out _).mono ?_); rintro e wa ⟨rfl, ba⟩; (try (have HI6 := Lib.hid (((by exact HI6 : Hid (Lasts _ _ _ _ _ _)).out.below ba (Nat.le_refl _)).more ba.size))); have BN := below_then (w0 := w15) ?_ ba; rotate_left; (focus (repeat (first | (with_reducible exact Below.refl _ _) | (with_reducible exact BN) | refine Below.drew ?_)))) | (go_at_call 13; (with_reducible refine (CI.out _ _ ?_).mono ?_); (focus (exact HI6.out)); rintro e wa ⟨A6, c6, rfl, H6, ba⟩; have H6 := Lib.hid (ownv_later H6.out (show w15.heap.size ≤ _ from ?_)); rotate_left; (focus (first | (have := BN.size; simpa using this) | omega)); have BN := below_then (w0 := w15) ?_ ba; rotate_left; (focus (repeat (first | (with_reducible exact Below.refl _ _) | (with_reducible exact BN) | refine Below.drew ?_)))))
    all_goals
      go_wp2_with fail
      go_meet
      refine ⟨A6, c6, rfl, rfl, ?_, ?_⟩
      · first | (with_reducible exact H6) | exact H6
      · first | (with_reducible exact BN) | (refine Below.drew ?_; with_reducible exact BN)
  case rest =>
  obtain ⟨A17, c17, rfl, rfl, HO17, bc⟩ := hcut
  have B17 := Lib.hid (below_then B15.out bc)
  have HN17 := Lib.hid (HN15.out.below bc (by omega))
  have HM17 := Lib.hid (H15.out.below bc)
  have s17 := bc.size
  clear bc v0 v1 v2 v3 v4 v5 lx KX15 B15 H15 HN15 HAt
  rename World => w17
  go_wp2_with fail
  refine (EQ.out _ _ _ _ _ HO17.out.vals (HN17.out.more (by omega))).mono ?_
  rintro e w18 ⟨rfl, b18⟩
  have B18 := Lib.hid (below_then B17.out b18)
  have HM18 := Lib.hid (HM17.out.below b18)
  clear b18 HO17 HN17 HM17
  go_wp2_with fail
  refine (HE.out _ _ _ HM18.out.vals).mono ?_
  rintro e w19 ⟨rfl, b19⟩
  have B19 := Lib.hid (below_then B18.out b19)
  clear b19
  go_wp2_with fail
  go_ret
  exact ⟨rfl, B19.out⟩
end Go.Proofs.Ytbdphbjpcecfaaa.Ad

/- ConvertHalf: the nearest size of another scale, the spec's and the program's. -/
import Derived.Test.YtggbdpamjjgakabNrLib
import Derived.Deep.DeepCutAuto
namespace Go.Proofs.Ytggbdpamjjgakab.Cv
open Go.RowKit Ba Nh Sc Fr Lh Sr Sw Hf Nr

theorem blk5 {w : World} {g : Nat} {t : TypeId} {c0 c1 c2 c3 c4 : Value} (h : w.heap[g]? = some (.cells #[c0, c1, c2, c3, c4] t (0, 0))) :
    (w.cell? ⟨g, 0, none⟩ = some c0 ∧ w.cell? ⟨g, 1, none⟩ = some c1 ∧ w.cell? ⟨g, 2, none⟩ = some c2 ∧ w.cell? ⟨g, 3, none⟩ = some c3) ∧ w.cell? ⟨g, 4, none⟩ = some c4 :=
  ⟨⟨cell_of_row _ _ _ _ _ _ h, cell_of_row _ _ _ _ _ _ h, cell_of_row _ _ _ _ _ _ h, cell_of_row _ _ _ _ _ _ h⟩, cell_of_row _ _ _ _ _ _ h⟩
theorem blk_new_drew (w : World) (o : Obj) : ((w.alloc o).drew).heap[w.heap.size]? = some o := heap_alloc_new w o
theorem far {w : World} {a b i j : Nat} {v : Value} (h : a ≠ b) : (w.setCell ⟨a, i, none⟩ v).cell? ⟨b, j, none⟩ = w.cell? ⟨b, j, none⟩ := World.cell?_setCell_other _ _ _ _ (fun q => h (Addr.mk.inj q).1)
/-- The size of another scale that is nearest. -/
def conv (b n d half b' n' d' : Int) : Nat := nearest b' n' d' ((half + b) * n) d

set_option maxHeartbeats 4000000 in
set_option maxRecDepth 100000 in
theorem in_any (s : ByteArray) (b n d half : Int) (s' : ByteArray) (b' n' d' : Int) (v : scB s b n d = true) (v' : scB s' b' n' d' = true) (hh : inB half 0 120 = true) (w : World) :
    Calls Try.prog 67 #[.agg #[.string s, .int .i64 b, .int .i64 n, .int .i64 d, .int .i64 half], .agg #[.string s', .int .i64 b', .int .i64 n', .int .i64 d']] w fun e w' =>
      e = .returned (.agg #[.string s', .int .i64 b', .int .i64 n', .int .i64 d', .int .i64 (conv b n d half b' n' d' : Int)]) ∧ Below w.heap.size w w' := by
  obtain ⟨p1, p2, p3, p4⟩ := num_bd v hh
  obtain ⟨q1, q2, q3, q4⟩ := low_pos p1 p3
  have LN := Lib.hid fun w => len_yes s b n d half v hh w
  have NH := Lib.hid fun w => nearest_half s' b' n' d' _ _ v' q3 (show (half + b) * n / gc ((half + b) * n) d ≤ 220000 by omega) q1 (show d / gc ((half + b) * n) d ≤ 100 by omega) w
  rw [nearest_low p1 p3] at NH
  have HE : Hid (conv b n d half b' n' d' = nearest b' n' d' ((half + b) * n) d) := Lib.hid rfl
  clear p1 p2 p3 p4 q1 q2 q3 q4 v v' hh
  generalize (half + b) * n / gc ((half + b) * n) d = X at LN NH
  generalize d / gc ((half + b) * n) d = Y at LN NH
  generalize nearest b' n' d' ((half + b) * n) d = R at NH HE
  rw [HE.out]
  go_enter Try.func67, Try.ntmps67
  go_wp2_with fail
  obtain ⟨hb0, ka, kb, kr⟩ := boxes3 (Below.refl _ (((w.alloc (.cells #[.string s, .int .i64 b, .int .i64 n, .int .i64 d, .int .i64 half] 93)).alloc (.cells #[.string s', .int .i64 b', .int .i64 n', .int .i64 d'] 56)).alloc (.cells #[.string ⟨#[]⟩, .int .i64 0, .int .i64 0, .int .i64 0, .int .i64 0] 93)))
  have HB0 := Lib.hid hb0
  have KA := Lib.hid ka
  have KB := Lib.hid kb
  have KR := Lib.hid kr
  clear hb0 ka kb kr
  generalize ((w.alloc (.cells #[.string s, .int .i64 b, .int .i64 n, .int .i64 d, .int .i64 half] 93)).alloc (.cells #[.string s', .int .i64 b', .int .i64 n', .int .i64 d'] 56)).alloc (.cells #[.string ⟨#[]⟩, .int .i64 0, .int .i64 0, .int .i64 0, .int .i64 0] 93) = W0 at HB0 KA KB KR ⊢
  have la := lt_of_heap KA.out
  have lb := lt_of_heap KB.out
  have lr := lt_of_heap KR.out
  go_upto_region 2 with fail
  go_cut [5] (fun s5 wx => ∃ g : Nat, s5 = .pointer (some ⟨g, 0, none⟩) ∧ W0.heap.size ≤ g ∧ g < wx.heap.size ∧ Below W0.heap.size W0 wx ∧ Hid ((wx.cell? ⟨g, 0, none⟩ = some (.string s') ∧ wx.cell? ⟨g, 1, none⟩ = some (.int .i64 b') ∧ wx.cell? ⟨g, 2, none⟩ = some (.int .i64 n') ∧ wx.cell? ⟨g, 3, none⟩ = some (.int .i64 d')) ∧ wx.cell? ⟨g, 4, none⟩ = some (.int .i64 X) ∧ wx.cell? ⟨g, 5, none⟩ = some (.int .i64 Y)))
  case first =>
    obtain ⟨⟨x0, x1, x2, x3⟩, x4⟩ := blk5 KA.out
    obtain ⟨y0, y1, y2, y3⟩ := blk4 KB.out
    go_region_held3 (fun w' => w'.cell? ⟨w.heap.size, 0, none⟩ = some (.string s) ∧ w'.cell? ⟨w.heap.size, 1, none⟩ = some (.int .i64 b) ∧ w'.cell? ⟨w.heap.size, 2, none⟩ = some (.int .i64 n) ∧ w'.cell? ⟨w.heap.size, 3, none⟩ = some (.int .i64 d) ∧ w'.cell? ⟨w.heap.size, 4, none⟩ = some (.int .i64 half) ∧ w'.cell? ⟨w.heap.size + 1, 0, none⟩ = some (.string s') ∧ w'.cell? ⟨w.heap.size + 1, 1, none⟩ = some (.int .i64 b') ∧ w'.cell? ⟨w.heap.size + 1, 2, none⟩ = some (.int .i64 n') ∧ w'.cell? ⟨w.heap.size + 1, 3, none⟩ = some (.int .i64 d'))
      (first | (refine ⟨?_, ?_, ?_, ?_, ?_, ?_, ?_, ?_, ?_⟩ <;> (refine keep_of (w2 := W0) ?_ (by omega) (by assumption); (repeat (first | (with_reducible exact Below.refl _ _) | (with_reducible exact B1) | (with_reducible refine Below.drew ?_) | (with_reducible refine Below.alloc ?_ (by first | omega | (simp <;> omega)) _) | (with_reducible refine Below.setCell ?_ (by first | omega | (simp <;> omega)) _))))))
      (first | (go_at_call 60; refine (LN.out _).mono ?_; rintro e w1 ⟨rfl, b1⟩; have B1 := below_then (w0 := W0) ?_ b1; rotate_left; (focus (repeat (first | (with_reducible exact Below.refl _ _) | (with_reducible refine Below.drew ?_) | refine Below.alloc ?_ (by first | omega | (simp <;> omega)) _))); have q1 := B1.size; (try (have k5 := blk_keep (g := W0.heap.size) (o := .cells #[.string ⟨#[]⟩, .int .i64 0, .int .i64 0, .int .i64 0, .int .i64 0, .int .i64 0] 89) b1 ?_; rotate_left; (with_reducible exact blk_new_drew _ _); obtain ⟨⟨c0, c1, c2, c3⟩, c4, c5⟩ := blk6 k5; have f0 := blk_free k5 0; have f1 := blk_free k5 1; have f2 := blk_free k5 2; have f3 := blk_free k5 3; have f4 := blk_free k5 4; have f5 := blk_free k5 5; have l5 := lt_of_heap k5; clear k5))))
    all_goals
      go_wp2_with fail
      go_meet
      refine ⟨_, rfl, ?_, ?_, ?_, Lib.hid ?_⟩
      · first | omega | (simp <;> omega)
      · first | omega | (simp <;> omega)
      · (repeat (first | (with_reducible exact Below.refl _ _) | (with_reducible exact B1) | (with_reducible refine Below.drew ?_) | (with_reducible refine Below.alloc ?_ (by first | omega | (simp <;> omega)) _) | (with_reducible refine Below.setCell ?_ (by first | omega | (simp <;> omega)) _)))
      · go_simp
  case rest =>
    obtain ⟨g, rfl, hg, hgl, hbx, hcx⟩ := hcut
    have KB1 := Lib.hid (blk_keep hbx KB.out)
    have KR1 := Lib.hid (blk_keep hbx KR.out)
    have HB1 := Lib.hid (below_then HB0.out hbx)
    have lb1 := lt_of_heap KB1.out
    have lr1 := lt_of_heap KR1.out
    obtain ⟨⟨c0, c1, c2, c3⟩, c4, c5⟩ := hcx.out
    obtain ⟨y0, y1, y2, y3⟩ := blk4 KB1.out
    clear hbx
    go_wp2_with fail
    go_region_held3 (fun w' => w'.cell? ⟨w.heap.size + 1, 0, none⟩ = some (.string s') ∧ w'.cell? ⟨w.heap.size + 1, 1, none⟩ = some (.int .i64 b') ∧ w'.cell? ⟨w.heap.size + 1, 2, none⟩ = some (.int .i64 n') ∧ w'.cell? ⟨w.heap.size + 1, 3, none⟩ = some (.int .i64 d') ∧ w'.cell? ⟨g, 0, none⟩ = some (.string s') ∧ w'.cell? ⟨g, 1, none⟩ = some (.int .i64 b') ∧ w'.cell? ⟨g, 2, none⟩ = some (.int .i64 n') ∧ w'.cell? ⟨g, 3, none⟩ = some (.int .i64 d') ∧ w'.cell? ⟨g, 4, none⟩ = some (.int .i64 X) ∧ w'.cell? ⟨g, 5, none⟩ = some (.int .i64 Y))
      (first | (refine ⟨?_, ?_, ?_, ?_, ?_, ?_, ?_, ?_, ?_, ?_⟩ <;> ((repeat (rw [far (by omega)])); refine keep_of (w2 := wc) ?_ (by omega) (by assumption); (repeat (first | (with_reducible exact Below.refl _ _) | (with_reducible exact B2) | (with_reducible refine Below.drew ?_) | (with_reducible refine Below.setCell ?_ (by first | omega | (simp <;> omega)) _))))))
      (first | (go_at_call 90; refine (NH.out _).mono ?_; rintro e w2 ⟨rfl, b2⟩; have B2 := below_then (w0 := wc) ?_ b2; rotate_left; (focus (repeat (first | (with_reducible exact Below.refl _ _) | (with_reducible refine Below.drew ?_)))); have kr := blk_keep B2 KR1.out; obtain ⟨⟨z0, z1, z2, z3⟩, z4⟩ := blk5 kr; have f0 := blk_free kr 0; have f1 := blk_free kr 1; have f2 := blk_free kr 2; have f3 := blk_free kr 3; have f4 := blk_free kr 4; have lr2 := lt_of_heap kr; clear kr))
    all_goals
      have HB2 := Lib.hid (below_then HB1.out B2)
      clear B2 b2
      go_wp2_with fail
      exact bodyPost_ret (v := .agg #[.string s', .int .i64 b', .int .i64 n', .int .i64 d', .int .i64 R]) (by simp [results, Try.results67, go_sem, z0, z1, z2, z3, z4]) rfl ⟨rfl, by repeat (first | (with_reducible exact HB2.out) | (with_reducible refine Below.setCell ?_ (by first | omega | (simp <;> omega)) _))⟩

set_option maxHeartbeats 1000000 in
theorem spec_yes (s : ByteArray) (b n d half : Int) (s' : ByteArray) (b' n' d' : Int) (hs : s.size ≤ maxLen) (hs' : s'.size ≤ maxLen) (v : scB s b n d = true) (v' : scB s' b' n' d' = true) (hh : inB half 0 120 = true) (w : World) :
    Calls Try.prog 31 #[.agg #[.string s, .int .i64 b, .int .i64 n, .int .i64 d], .int .i64 half, .agg #[.string s', .int .i64 b', .int .i64 n', .int .i64 d']] w fun e w' =>
      e = .returned (.tuple #[.int .i64 (conv b n d half b' n' d' : Int), .int .i64 0]) ∧ Below w.heap.size w w' := by
  have C := Lib.hid fun w => ok_any s b n d hs w
  have D := Lib.hid fun w => ok_any s' b' n' d' hs' w
  rw [v] at C
  rw [v'] at D
  obtain ⟨p1, p2, p3, p4⟩ := num_bd v hh
  have hv := sc_of v
  have hbb := in_of hh
  have NH := Lib.hid fun w => spec_near s' b' n' d' ((half + b) * n) d v' p1 p2 p3 p4 w
  have HE : Hid (conv b n d half b' n' d' = nearest b' n' d' ((half + b) * n) d) := Lib.hid rfl
  rw [HE.out]
  clear HE
  generalize nearest b' n' d' ((half + b) * n) d = R at NH ⊢
  have q1 : 0 ≤ half + b := by omega
  have q2 : half + b ≤ 220 := by omega
  clear hv hbb v v' hs hs'
  go_enter Try.func31, Try.ntmps31
  go_wp2_with fail
  refine (C.out _).mono ?_
  rintro e w1 ⟨rfl, b1⟩
  obtain ⟨hb1, k1, r1⟩ := boxes2 b1
  have HB1 := Lib.hid hb1
  have K1 := Lib.hid k1
  have R1 := Lib.hid r1
  clear b1 hb1 k1 r1
  obtain ⟨y0, y1, y2, y3⟩ := blk4 R1.out
  go_wp2_with fail
  refine (D.out _).mono ?_
  rintro e w2 ⟨rfl, b2⟩
  have HB2 := Lib.hid (below_then HB1.out b2)
  have K2 := Lib.hid (blk_keep b2 K1.out)
  have R2 := Lib.hid (blk_keep b2 R1.out)
  clear b2 y0 y1 y2 y3 HB1 K1 R1
  obtain ⟨x0, x1, x2, x3⟩ := blk4 K2.out
  obtain ⟨y0, y1, y2, y3⟩ := blk4 R2.out
  go_wp2_with (go_at_call 65; refine (shalf_any _ _).mono ?_; rintro e w' ⟨rfl, rfl⟩)
  refine (NH.out _).mono ?_
  rintro e w3 ⟨rfl, b3⟩
  have HB3 := Lib.hid (below_then HB2.out b3)
  clear b3 x0 x1 x2 x3 y0 y1 y2 y3
  go_wp2_with fail
  go_ret2
  exact ⟨rfl, HB3.out⟩
set_option maxHeartbeats 1000000 in
theorem impl_yes (s : ByteArray) (b n d half : Int) (s' : ByteArray) (b' n' d' : Int) (hs : s.size ≤ maxLen) (hs' : s'.size ≤ maxLen) (v : scB s b n d = true) (v' : scB s' b' n' d' = true) (hh : inB half 0 120 = true) (w : World) :
    Calls Try.prog 32 #[.agg #[.string s, .int .i64 b, .int .i64 n, .int .i64 d], .int .i64 half, .agg #[.string s', .int .i64 b', .int .i64 n', .int .i64 d']] w fun e w' =>
      e = .returned (.tuple #[.int .i64 (conv b n d half b' n' d' : Int), .int .i64 0]) ∧ Below w.heap.size w w' := by
  have C := Lib.hid fun w => impl_ok s b n d hs w
  have D := Lib.hid fun w => impl_ok s' b' n' d' hs' w
  have IN := Lib.hid fun w => in_any s b n d half s' b' n' d' v v' hh w
  rw [v] at C
  rw [v'] at D
  generalize conv b n d half b' n' d' = R at IN ⊢
  have hfl : ∀ w, (Instr.field 93 (.agg #[.string s', .int .i64 b', .int .i64 n', .int .i64 d', .int .i64 (R : Int)]) 1).run Try.prog w = .ok (.int .i64 (R : Int)) w := fun _ => by kernel_rfl
  clear v v' hs hs'
  go_enter Try.func32, Try.ntmps32
  go_wp2_with fail
  refine (C.out _).mono ?_
  rintro e w1 ⟨rfl, b1⟩
  obtain ⟨hb1, k1, r1⟩ := boxes2 b1
  have HB1 := Lib.hid hb1
  have K1 := Lib.hid k1
  have R1 := Lib.hid r1
  clear b1 hb1 k1 r1
  obtain ⟨y0, y1, y2, y3⟩ := blk4 R1.out
  go_wp2_with fail
  refine (D.out _).mono ?_
  rintro e w2 ⟨rfl, b2⟩
  have HB2 := Lib.hid (below_then HB1.out b2)
  have K2 := Lib.hid (blk_keep b2 K1.out)
  have R2 := Lib.hid (blk_keep b2 R1.out)
  clear b2 y0 y1 y2 y3 HB1 K1 R1
  obtain ⟨x0, x1, x2, x3⟩ := blk4 K2.out
  obtain ⟨y0, y1, y2, y3⟩ := blk4 R2.out
  go_wp2_with (first | (go_at_call 59; refine (half_any _ _).mono ?_; rintro e w' ⟨rfl, rfl⟩) | (go_at_call 42; refine (arg_ok _).mono ?_; rintro e w' ⟨rfl, rfl⟩))
  refine (IN.out _).mono ?_
  rintro e w3 ⟨rfl, b3⟩
  have HB3 := Lib.hid (below_then HB2.out b3)
  clear b3 x0 x1 x2 x3 y0 y1 y2 y3
  go_wp2_with fail
  go_ret2
  exact ⟨rfl, HB3.out⟩
set_option maxHeartbeats 1000000 in
theorem spec_no (s : ByteArray) (b n d half : Int) (s' : ByteArray) (b' n' d' : Int) (hs : s.size ≤ maxLen) (hs' : s'.size ≤ maxLen) (ha : (argE (scB s b n d && scB s' b' n' d') (inB half 0 120) != 0) = true) (w : World) :
    Calls Try.prog 31 #[.agg #[.string s, .int .i64 b, .int .i64 n, .int .i64 d], .int .i64 half, .agg #[.string s', .int .i64 b', .int .i64 n', .int .i64 d']] w fun e w' =>
      e = .returned (.tuple #[.int .i64 0, .int .i64 (argE (scB s b n d && scB s' b' n' d') (inB half 0 120))]) ∧ Below w.heap.size w w' := by
  have C := Lib.hid fun w => ok_any s b n d hs w
  have D := Lib.hid fun w => ok_any s' b' n' d' hs' w
  clear hs hs'
  cases v : scB s b n d <;> rw [v] at C ha
  · clear ha D
    go_enter Try.func31, Try.ntmps31
    go_wp2_with fail
    refine (C.out _).mono ?_
    rintro e w1 ⟨rfl, b1⟩
    obtain ⟨hb1, k1, r1⟩ := boxes2 b1
    have HB1 := Lib.hid hb1
    clear b1 hb1 k1 r1
    go_wp2_with fail
    go_ret2
    exact ⟨rfl, HB1.out⟩
  · cases v' : scB s' b' n' d' <;> rw [v'] at D ha <;> cases hh : inB half 0 120 <;> rw [hh] at ha
    all_goals try (exact absurd ha (by decide))
    all_goals
      clear ha v v'
      go_enter Try.func31, Try.ntmps31
      go_wp2_with fail
      refine (C.out _).mono ?_
      rintro e w1 ⟨rfl, b1⟩
      obtain ⟨hb1, k1, r1⟩ := boxes2 b1
      have HB1 := Lib.hid hb1
      obtain ⟨y0, y1, y2, y3⟩ := blk4 r1
      clear b1 hb1 k1 r1
      go_wp2_with fail
      refine (D.out _).mono ?_
      rintro e w2 ⟨rfl, b2⟩
      have HB2 := Lib.hid (below_then HB1.out b2)
      clear b2 y0 y1 y2 y3 HB1
      go_wp2_with (go_at_call 65; refine (shalf_any _ _).mono ?_; rintro e w' ⟨rfl, rfl⟩)
      go_ret2
      exact ⟨rfl, HB2.out⟩
set_option maxHeartbeats 1000000 in
theorem impl_no (s : ByteArray) (b n d half : Int) (s' : ByteArray) (b' n' d' : Int) (hs : s.size ≤ maxLen) (hs' : s'.size ≤ maxLen) (ha : (argE (scB s b n d && scB s' b' n' d') (inB half 0 120) != 0) = true) (w : World) :
    Calls Try.prog 32 #[.agg #[.string s, .int .i64 b, .int .i64 n, .int .i64 d], .int .i64 half, .agg #[.string s', .int .i64 b', .int .i64 n', .int .i64 d']] w fun e w' =>
      e = .returned (.tuple #[.int .i64 0, .int .i64 (argE (scB s b n d && scB s' b' n' d') (inB half 0 120))]) ∧ Below w.heap.size w w' := by
  have C := Lib.hid fun w => impl_ok s b n d hs w
  have D := Lib.hid fun w => impl_ok s' b' n' d' hs' w
  clear hs hs'
  cases v : scB s b n d <;> rw [v] at C ha
  · clear D
    go_enter Try.func32, Try.ntmps32
    go_wp2_with fail
    refine (C.out _).mono ?_
    rintro e w1 ⟨rfl, b1⟩
    obtain ⟨hb1, k1, r1⟩ := boxes2 b1
    have HB1 := Lib.hid hb1
    clear b1 hb1 k1 r1
    go_wp2_with (first | (go_at_call 59; refine (half_any _ _).mono ?_; rintro e w' ⟨rfl, rfl⟩) | (go_at_call 42; refine (arg_inv _ _).mono ?_; rintro e w' ⟨rfl, rfl⟩))
    go_ret2
    exact ⟨rfl, HB1.out⟩
  · cases v' : scB s' b' n' d' <;> rw [v'] at D ha <;> cases hh : inB half 0 120 <;> rw [hh] at ha
    all_goals try (exact absurd ha (by decide))
    all_goals
      clear ha v v'
      go_enter Try.func32, Try.ntmps32
      go_wp2_with fail
      refine (C.out _).mono ?_
      rintro e w1 ⟨rfl, b1⟩
      obtain ⟨hb1, k1, r1⟩ := boxes2 b1
      have HB1 := Lib.hid hb1
      obtain ⟨y0, y1, y2, y3⟩ := blk4 r1
      clear b1 hb1 k1 r1
      go_wp2_with fail
      refine (D.out _).mono ?_
      rintro e w2 ⟨rfl, b2⟩
      have HB2 := Lib.hid (below_then HB1.out b2)
      clear b2 y0 y1 y2 y3 HB1
      go_wp2_with (first | (go_at_call 59; refine (half_any _ _).mono ?_; rintro e w' ⟨rfl, rfl⟩) | (go_at_call 42; refine (arg_any _ _ _).mono ?_; rintro e w' ⟨rfl, rfl⟩))
      go_ret2
      exact ⟨rfl, HB2.out⟩
/-- What ConvertHalf answers: half sizes and a code. -/
def cvB (s : ByteArray) (b n d half : Int) (s' : ByteArray) (b' n' d' : Int) : Bool := (scB s b n d && scB s' b' n' d') && inB half 0 120
def cvV (s : ByteArray) (b n d half : Int) (s' : ByteArray) (b' n' d' : Int) : Int := if cvB s b n d half s' b' n' d' then (conv b n d half b' n' d' : Int) else 0
def cvC (s : ByteArray) (b n d half : Int) (s' : ByteArray) (b' n' d' : Int) : Int := argE (scB s b n d && scB s' b' n' d') (inB half 0 120)
theorem arg_no {x y : Bool} (h : (x && y) = false) : (argE x y != 0) = true := by
  cases x <;> cases y <;> first | rfl | cases h
theorem spec_all (s : ByteArray) (b n d half : Int) (s' : ByteArray) (b' n' d' : Int) (hs : s.size ≤ maxLen) (hs' : s'.size ≤ maxLen) (w : World) :
    Calls Try.prog 31 #[.agg #[.string s, .int .i64 b, .int .i64 n, .int .i64 d], .int .i64 half, .agg #[.string s', .int .i64 b', .int .i64 n', .int .i64 d']] w fun e w' => e = .returned (.tuple #[.int .i64 (cvV s b n d half s' b' n' d'), .int .i64 (cvC s b n d half s' b' n' d')]) ∧ Below w.heap.size w w' := by
  unfold cvV cvC
  cases h : cvB s b n d half s' b' n' d'
  · exact spec_no s b n d half s' b' n' d' hs hs' (arg_no h) w
  · unfold cvB at h
    simp only [Bool.and_eq_true] at h
    rw [h.1.1, h.1.2, h.2]
    exact spec_yes s b n d half s' b' n' d' hs hs' h.1.1 h.1.2 h.2 w
theorem impl_all (s : ByteArray) (b n d half : Int) (s' : ByteArray) (b' n' d' : Int) (hs : s.size ≤ maxLen) (hs' : s'.size ≤ maxLen) (w : World) :
    Calls Try.prog 32 #[.agg #[.string s, .int .i64 b, .int .i64 n, .int .i64 d], .int .i64 half, .agg #[.string s', .int .i64 b', .int .i64 n', .int .i64 d']] w fun e w' => e = .returned (.tuple #[.int .i64 (cvV s b n d half s' b' n' d'), .int .i64 (cvC s b n d half s' b' n' d')]) ∧ Below w.heap.size w w' := by
  unfold cvV cvC
  cases h : cvB s b n d half s' b' n' d'
  · exact impl_no s b n d half s' b' n' d' hs hs' (arg_no h) w
  · unfold cvB at h
    simp only [Bool.and_eq_true] at h
    rw [h.1.1, h.1.2, h.2]
    exact impl_yes s b n d half s' b' n' d' hs hs' h.1.1 h.1.2 h.2 w
end Go.Proofs.Ytggbdpamjjgakab.Cv

/- ConvertHalf: the nearest size of another scale, the spec's and the program's. -/
import Derived.Test.YtggbdpamjjgakacNrLib
import Derived.Deep.DeepCutAuto
namespace Go.Proofs.Ytggbdpamjjgakac.Cv
open Go.RowKit Ba Nh Sc Fr Lh Sr Sw Hf Nr

theorem blk5 {w : World} {g : Nat} {t : TypeId} {c0 c1 c2 c3 c4 : Value} (h : w.heap[g]? = some (.cells #[c0, c1, c2, c3, c4] t (0, 0))) :
    (w.cell? ⟨g, 0, none⟩ = some c0 ∧ w.cell? ⟨g, 1, none⟩ = some c1 ∧ w.cell? ⟨g, 2, none⟩ = some c2 ∧ w.cell? ⟨g, 3, none⟩ = some c3) ∧ w.cell? ⟨g, 4, none⟩ = some c4 :=
  ⟨⟨cell_of_row _ _ _ _ _ _ h, cell_of_row _ _ _ _ _ _ h, cell_of_row _ _ _ _ _ _ h, cell_of_row _ _ _ _ _ _ h⟩, cell_of_row _ _ _ _ _ _ h⟩
theorem blk_new_drew (w : World) (o : Obj) : ((w.alloc o).drew).heap[w.heap.size]? = some o := heap_alloc_new w o
theorem far {w : World} {a b i j : Nat} {v : Value} (h : a ≠ b) : (w.setCell ⟨a, i, none⟩ v).cell? ⟨b, j, none⟩ = w.cell? ⟨b, j, none⟩ := World.cell?_setCell_other _ _ _ _ (fun q => h (Addr.mk.inj q).1)
/-- The size of another scale that is nearest. -/
def conv (b n d half b' n' d' : Int) : Nat := nearest b' n' d' ((half + b) * n) d

set_option maxHeartbeats 4000000 in
set_option maxRecDepth 100000 in
theorem in_any (s : ByteArray) (b n d half : Int) (s' : ByteArray) (b' n' d' : Int) (v : scB s b n d = true) (v' : scB s' b' n' d' = true) (hh : inB half 0 120 = true) (w : World) :
    Calls Try.prog 25 #[.agg #[.string s, .int .i64 b, .int .i64 n, .int .i64 d, .int .i64 half], .agg #[.string s', .int .i64 b', .int .i64 n', .int .i64 d']] w fun e w' =>
      e = .returned (.agg #[.string s', .int .i64 b', .int .i64 n', .int .i64 d', .int .i64 (conv b n d half b' n' d' : Int)]) ∧ Below w.heap.size w w' := by
  obtain ⟨p1, p2, p3, p4⟩ := num_bd v hh
  obtain ⟨q1, q2, q3, q4⟩ := low_pos p1 p3
  have LN := Lib.hid fun w => len_yes s b n d half v hh w
  have NH := Lib.hid fun w => nearest_half s' b' n' d' _ _ v' q3 (show (half + b) * n / gc ((half + b) * n) d ≤ 220000 by omega) q1 (show d / gc ((half + b) * n) d ≤ 100 by omega) w
  rw [nearest_low p1 p3] at NH
  have HE : Hid (conv b n d half b' n' d' = nearest b' n' d' ((half + b) * n) d) := Lib.hid rfl
  clear p1 p2 p3 p4 q1 q2 q3 q4 v v' hh
  generalize (half + b) * n / gc ((half + b) * n) d = X at LN NH
  generalize d / gc ((half + b) * n) d = Y at LN NH
  generalize nearest b' n' d' ((half + b) * n) d = R at NH HE
  rw [HE.out]
  go_enter Try.func25, Try.ntmps25
  go_wp2_with fail
  obtain ⟨hb0, ka, kb, kr⟩ := boxes3 (Below.refl _ (((w.alloc (.cells #[.string s, .int .i64 b, .int .i64 n, .int .i64 d, .int .i64 half] 46)).alloc (.cells #[.string s', .int .i64 b', .int .i64 n', .int .i64 d'] 28)).alloc (.cells #[.string ⟨#[]⟩, .int .i64 0, .int .i64 0, .int .i64 0, .int .i64 0] 46)))
  have HB0 := Lib.hid hb0
  have KA := Lib.hid ka
  have KB := Lib.hid kb
  have KR := Lib.hid kr
  clear hb0 ka kb kr
  generalize ((w.alloc (.cells #[.string s, .int .i64 b, .int .i64 n, .int .i64 d, .int .i64 half] 46)).alloc (.cells #[.string s', .int .i64 b', .int .i64 n', .int .i64 d'] 28)).alloc (.cells #[.string ⟨#[]⟩, .int .i64 0, .int .i64 0, .int .i64 0, .int .i64 0] 46) = W0 at HB0 KA KB KR ⊢
  have la := lt_of_heap KA.out
  have lb := lt_of_heap KB.out
  have lr := lt_of_heap KR.out
  go_upto_region 2 with fail
  go_cut [5] (fun s5 wx => ∃ g : Nat, s5 = .pointer (some ⟨g, 0, none⟩) ∧ W0.heap.size ≤ g ∧ g < wx.heap.size ∧ Below W0.heap.size W0 wx ∧ Hid ((wx.cell? ⟨g, 0, none⟩ = some (.string s') ∧ wx.cell? ⟨g, 1, none⟩ = some (.int .i64 b') ∧ wx.cell? ⟨g, 2, none⟩ = some (.int .i64 n') ∧ wx.cell? ⟨g, 3, none⟩ = some (.int .i64 d')) ∧ wx.cell? ⟨g, 4, none⟩ = some (.int .i64 X) ∧ wx.cell? ⟨g, 5, none⟩ = some (.int .i64 Y)))
  case first =>
    obtain ⟨⟨x0, x1, x2, x3⟩, x4⟩ := blk5 KA.out
    obtain ⟨y0, y1, y2, y3⟩ := blk4 KB.out
    go_region_held3 (fun w' => w'.cell? ⟨w.heap.size, 0, none⟩ = some (.string s) ∧ w'.cell? ⟨w.heap.size, 1, none⟩ = some (.int .i64 b) ∧ w'.cell? ⟨w.heap.size, 2, none⟩ = some (.int .i64 n) ∧ w'.cell? ⟨w.heap.size, 3, none⟩ = some (.int .i64 d) ∧ w'.cell? ⟨w.heap.size, 4, none⟩ = some (.int .i64 half) ∧ w'.cell? ⟨w.heap.size + 1, 0, none⟩ = some (.string s') ∧ w'.cell? ⟨w.heap.size + 1, 1, none⟩ = some (.int .i64 b') ∧ w'.cell? ⟨w.heap.size + 1, 2, none⟩ = some (.int .i64 n') ∧ w'.cell? ⟨w.heap.size + 1, 3, none⟩ = some (.int .i64 d'))
      (first | (refine ⟨?_, ?_, ?_, ?_, ?_, ?_, ?_, ?_, ?_⟩ <;> (refine keep_of (w2 := W0) ?_ (by omega) (by assumption); (repeat (first | (with_reducible exact Below.refl _ _) | (with_reducible exact B1) | (with_reducible refine Below.drew ?_) | (with_reducible refine Below.alloc ?_ (by first | omega | (simp <;> omega)) _) | (with_reducible refine Below.setCell ?_ (by first | omega | (simp <;> omega)) _))))))
      (first | (go_at_call 37; refine (LN.out _).mono ?_; rintro e w1 ⟨rfl, b1⟩; have B1 := below_then (w0 := W0) ?_ b1; rotate_left; (focus (repeat (first | (with_reducible exact Below.refl _ _) | (with_reducible refine Below.drew ?_) | refine Below.alloc ?_ (by first | omega | (simp <;> omega)) _))); have q1 := B1.size; (try (have k5 := blk_keep (g := W0.heap.size) (o := .cells #[.string ⟨#[]⟩, .int .i64 0, .int .i64 0, .int .i64 0, .int .i64 0, .int .i64 0] 58) b1 ?_; rotate_left; (with_reducible exact blk_new_drew _ _); obtain ⟨⟨c0, c1, c2, c3⟩, c4, c5⟩ := blk6 k5; have f0 := blk_free k5 0; have f1 := blk_free k5 1; have f2 := blk_free k5 2; have f3 := blk_free k5 3; have f4 := blk_free k5 4; have f5 := blk_free k5 5; have l5 := lt_of_heap k5; clear k5))))
    all_goals
      go_wp2_with fail
      go_meet
      refine ⟨_, rfl, ?_, ?_, ?_, Lib.hid ?_⟩
      · first | omega | (simp <;> omega)
      · first | omega | (simp <;> omega)
      · (repeat (first | (with_reducible exact Below.refl _ _) | (with_reducible exact B1) | (with_reducible refine Below.drew ?_) | (with_reducible refine Below.alloc ?_ (by first | omega | (simp <;> omega)) _) | (with_reducible refine Below.setCell ?_ (by first | omega | (simp <;> omega)) _)))
      · go_simp
  case rest =>
    obtain ⟨g, rfl, hg, hgl, hbx, hcx⟩ := hcut
    have KB1 := Lib.hid (blk_keep hbx KB.out)
    have KR1 := Lib.hid (blk_keep hbx KR.out)
    have HB1 := Lib.hid (below_then HB0.out hbx)
    have lb1 := lt_of_heap KB1.out
    have lr1 := lt_of_heap KR1.out
    obtain ⟨⟨c0, c1, c2, c3⟩, c4, c5⟩ := hcx.out
    obtain ⟨y0, y1, y2, y3⟩ := blk4 KB1.out
    clear hbx
    go_wp2_with fail
    go_region_held3 (fun w' => w'.cell? ⟨w.heap.size + 1, 0, none⟩ = some (.string s') ∧ w'.cell? ⟨w.heap.size + 1, 1, none⟩ = some (.int .i64 b') ∧ w'.cell? ⟨w.heap.size + 1, 2, none⟩ = some (.int .i64 n') ∧ w'.cell? ⟨w.heap.size + 1, 3, none⟩ = some (.int .i64 d') ∧ w'.cell? ⟨g, 0, none⟩ = some (.string s') ∧ w'.cell? ⟨g, 1, none⟩ = some (.int .i64 b') ∧ w'.cell? ⟨g, 2, none⟩ = some (.int .i64 n') ∧ w'.cell? ⟨g, 3, none⟩ = some (.int .i64 d') ∧ w'.cell? ⟨g, 4, none⟩ = some (.int .i64 X) ∧ w'.cell? ⟨g, 5, none⟩ = some (.int .i64 Y))
      (first | (refine ⟨?_, ?_, ?_, ?_, ?_, ?_, ?_, ?_, ?_, ?_⟩ <;> ((repeat (rw [far (by omega)])); refine keep_of (w2 := wc) ?_ (by omega) (by assumption); (repeat (first | (with_reducible exact Below.refl _ _) | (with_reducible exact B2) | (with_reducible refine Below.drew ?_) | (with_reducible refine Below.setCell ?_ (by first | omega | (simp <;> omega)) _))))))
      (first | (go_at_call 38; refine (NH.out _).mono ?_; rintro e w2 ⟨rfl, b2⟩; have B2 := below_then (w0 := wc) ?_ b2; rotate_left; (focus (repeat (first | (with_reducible exact Below.refl _ _) | (with_reducible refine Below.drew ?_)))); have kr := blk_keep B2 KR1.out; obtain ⟨⟨z0, z1, z2, z3⟩, z4⟩ := blk5 kr; have f0 := blk_free kr 0; have f1 := blk_free kr 1; have f2 := blk_free kr 2; have f3 := blk_free kr 3; have f4 := blk_free kr 4; have lr2 := lt_of_heap kr; clear kr))
    all_goals
      have HB2 := Lib.hid (below_then HB1.out B2)
      clear B2 b2
      go_wp2_with fail
      exact bodyPost_ret (v := .agg #[.string s', .int .i64 b', .int .i64 n', .int .i64 d', .int .i64 R]) (by simp [results, Try.results25, go_sem, z0, z1, z2, z3, z4]) rfl ⟨rfl, by repeat (first | (with_reducible exact HB2.out) | (with_reducible refine Below.setCell ?_ (by first | omega | (simp <;> omega)) _))⟩

/-- What ConvertHalf answers: half sizes and a code. -/
def cvB (s : ByteArray) (b n d half : Int) (s' : ByteArray) (b' n' d' : Int) : Bool := (scB s b n d && scB s' b' n' d') && inB half 0 120
def cvV (s : ByteArray) (b n d half : Int) (s' : ByteArray) (b' n' d' : Int) : Int := if cvB s b n d half s' b' n' d' then (conv b n d half b' n' d' : Int) else 0
def cvC (s : ByteArray) (b n d half : Int) (s' : ByteArray) (b' n' d' : Int) : Int := argE (scB s b n d && scB s' b' n' d') (inB half 0 120)
theorem arg_no {x y : Bool} (h : (x && y) = false) : (argE x y != 0) = true := by
  cases x <;> cases y <;> first | rfl | cases h
end Go.Proofs.Ytggbdpamjjgakac.Cv

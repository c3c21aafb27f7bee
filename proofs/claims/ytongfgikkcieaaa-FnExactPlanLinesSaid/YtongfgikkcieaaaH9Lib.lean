/- Hides: the spec's PlanLines. -/
import Derived.Test.YtongfgikkcieaaaH6Lib
import Derived.Test.YtongfgikkcieaaaH7Lib
import Derived.Laws.IdiomStrings
namespace Go.Proofs.Ytongfgikkcieaaa.H9
set_option linter.unusedVariables false
open Go.RowKit Ft Is Ge Qb Hd Ts Tx H2 H3 H5 H6 H7
open Go.Proofs.Ytongfgikkcieaaa.Nm (byt byt_of)

/-- A row of bytes, to be written. -/
def LineAt (w : World) (g n : Nat) (h : Nat → Int) : Prop := g < w.heap.size ∧ ∀ x, x < n → w.cell? ⟨g, x, none⟩ = some (.int .u8 (h x)) ∧ w.frozen? ⟨g, x, none⟩ = false
theorem LineAt.below {w w' : World} {g n : Nat} {h : Nat → Int} (H : LineAt w g n h) (hb : Below w.heap.size w w') : LineAt w' g n h :=
  ⟨Nat.lt_of_lt_of_le H.1 hb.size, fun x hx => ⟨(hb.cell (p := ⟨g, x, none⟩) H.1).trans (H.2 x hx).1, (hb.frozen (p := ⟨g, x, none⟩) H.1).trans (H.2 x hx).2⟩⟩
theorem LineAt.congr {w : World} {g n : Nat} {h k : Nat → Int} (H : LineAt w g n h) (e : ∀ x, x < n → h x = k x) : LineAt w g n k := ⟨H.1, fun x hx => by rw [← e x hx]; exact H.2 x hx⟩
theorem LineAt.put {w : World} {g n x : Nat} {h : Nat → Int} (H : LineAt w g n h) (hx : x < n) (v : Int) : LineAt (w.setCell ⟨g, x, none⟩ (.int .u8 v)) g n (fun z => if z = x then v else h z) :=
  ⟨by simpa using H.1, fun z hz => ⟨by
    by_cases e : z = x
    · subst e
      rw [World.cell?_setCell_same _ _ _ (H.2 z hz).1]
      simp
    · rw [World.cell?_setCell_other _ _ _ _ (show (⟨g, x, none⟩ : Addr) ≠ ⟨g, z, none⟩ from fun q => e (Addr.mk.inj q).2.1.symm), (H.2 z hz).1]; simp [e], (World.frozen?_setCell _ _ _ _).trans (H.2 z hz).2⟩⟩
theorem line_new (w : World) (s : ByteArray) (cap : Nat) (hc : s.size ≤ cap) : LineAt ((w.alloc (.cells (Go.bytesRow s cap) 5 ((Go.bytesRow s cap).size, (Go.bytesRow s cap).size + 1))).drew) w.heap.size s.size (byt s) := by
  show LineAt (w.drew.alloc (.cells (Go.bytesRow s cap) 5 ((Go.bytesRow s cap).size, (Go.bytesRow s cap).size + 1))) w.heap.size s.size (byt s)
  have hh : (w.drew.alloc (.cells (Go.bytesRow s cap) 5 ((Go.bytesRow s cap).size, (Go.bytesRow s cap).size + 1))).heap[w.heap.size]? = some (.cells (Go.bytesRow s cap) 5 ((Go.bytesRow s cap).size, (Go.bytesRow s cap).size + 1)) := heap_alloc_new w.drew _
  have hsz : (Go.bytesRow s cap).size = cap := by
    have : s.data.size = s.size := rfl
    simp [Go.bytesRow]; omega
  refine ⟨by show w.heap.size < _; simp, fun x hx => ⟨?_, ?_⟩⟩
  · rw [cell_of_row _ _ _ _ _ _ hh]
    have hx' : x < s.data.size := hx
    unfold Go.bytesRow
    rw [Array.getElem?_append_left (by simpa using hx'), byt_of s x hx]
    simp
    exact ⟨s.data[x], Array.getElem?_eq_getElem hx', rfl⟩
  · simp only [World.frozen?, hh]
    rw [hsz]
    simp
    omega
open Classical in
/-- Piece i covers field (y, x). -/
def cov (C : Nat) (g p : Nat → Int) (i y x : Nat) : Prop := 0 ≤ p i ∧ (((p i).toNat / C : Nat) : Int) ≤ (y : Int) ∧ (y : Int) ≤ (((p i).toNat / C : Nat) : Int) + g (i * 4 + 1) - 1 ∧ (((p i).toNat % C : Nat) : Int) ≤ (x : Int) ∧ (x : Int) < (((p i).toNat % C : Nat) : Int) + g (i * 4)
open Classical in
/-- A field of a plan's picture, i pieces drawn. -/
noncomputable def pix (f : Nat → ByteArray) (g p : Nat → Int) (y : Nat) : Nat → Nat → Int
  | 0, x => byt (f y) x
  | i + 1, x => if cov (f 0).size g p i y x then 48 + (i : Int) else pix f g p y i x
theorem pix_yes {f : Nat → ByteArray} {g p : Nat → Int} {y i x : Nat} (h : cov (f 0).size g p i y x) : pix f g p y (i + 1) x = 48 + (i : Int) := by simp [pix, h]
theorem pix_no {f : Nat → ByteArray} {g p : Nat → Int} {y i x : Nat} (h : ¬ cov (f 0).size g p i y x) : pix f g p y (i + 1) x = pix f g p y i x := by simp [pix, h]
theorem pix_in (f : Nat → ByteArray) (g p : Nat → Int) (y : Nat) : ∀ {i : Nat} (x : Nat), i ≤ 100 → 0 ≤ pix f g p y i x ∧ pix f g p y i x ≤ 255
  | 0, x, _ => by
    show 0 ≤ byt (f y) x ∧ byt (f y) x ≤ 255
    unfold Nm.byt
    split
    · have := UInt8.toNat_lt ((f y)[x]); omega
    · omega
  | i + 1, x, h => by
    have := pix_in f g p y (i := i) x (by omega)
    unfold pix
    split <;> omega
/-- A line of the picture. -/
noncomputable def plB (f : Nat → ByteArray) (g p : Nat → Int) (m y : Nat) : List UInt8 := (List.range (f 0).size).map fun x => UInt8.ofNat (pix f g p y m x).toNat
noncomputable def plS (f : Nat → ByteArray) (g p : Nat → Int) (m y : Nat) : ByteArray := ⟨(plB f g p m y).toArray⟩
theorem bytes_of_line {w : World} {b : Nat} {f : Nat → ByteArray} {g p : Nat → Int} {m y : Nat} (hm : m ≤ 100) (h : LineAt w b (f 0).size (pix f g p y m)) : Dc.BytesAt w b (plB f g p m y) := fun j hj => by
  have hj' : j < (f 0).size := by simpa [plB] using hj
  rw [(h.2 j hj').1]
  have := pix_in f g p y (i := m) j hm
  simp [plB]
  omega
noncomputable def pnN (n : Nat) (f : Nat → ByteArray) (k : Nat) (g : Nat → Int) (m : Nat) (p : Nat → Int) : Nat := if gdC n f k g m p = 0 then n else 0
theorem pn_le {n : Nat} {f : Nat → ByteArray} {k : Nat} {g : Nat → Int} {m : Nat} {p : Nat → Int} (hn : n ≤ 1048576) : pnN n f k g m p ≤ 1048576 := by unfold pnN; split <;> omega
/-- What a plan without a fault says of a piece that is cut. -/
theorem cut_fits {n : Nat} {f : Nat → ByteArray} {g p : Nat → Int} {m i : Nat} (h : flI n f g p m < 0) (hi : i < m) (h0 : 0 ≤ p i) : FitP n (f 0).size (qf f) (g (i * 4)) (g (i * 4 + 1)) (g (i * 4 + 2)) (p i).toNat := by
  rcases ff_cases (fun i => tv (WrongP n (f 0).size (qf f) g p i)) m with ⟨_, h2⟩ | ⟨q, _, _, _, h2⟩
  · have := h2 i hi
    by_cases q : FitP n (f 0).size (qf f) (g (i * 4)) (g (i * 4 + 1)) (g (i * 4 + 2)) (p i).toNat
    · exact q
    · rw [tv_yes ⟨h0, .inl q⟩] at this; cases this
  · unfold flI at h; omega
set_option maxRecDepth 100000 in
set_option maxHeartbeats 4000000 in
theorem spec_pn (A : Option Addr) (n c : Nat) (f : Nat → ByteArray) (G : Option Addr) (k gc : Nat) (g : Nat → Int) (P : Option Addr) (m pc : Nat) (p : Nat → Int) (hn : n ≤ 1048576) (hs : ∀ i, i < n → (f i).size ≤ 1048576) (hk : k ≤ 1048576) (hm : m ≤ 1048576) (w : World) (h : H6.Ask w A n f G k g P m p) :
    Calls Try.prog 50 #[.slice A n c, .slice G k gc, .slice P m pc] w (PairT (pnN n f k g m p) (plS f g p m) (gdC n f k g m p) w) := by
  have HH := Lib.hid h
  have C := Lib.hid (good A n c f G k gc g P m pc p hn hs hk hm w h)
  have V0 : Hid (¬ gdC n f k g m p = 0 → ∀ W, Below w.heap.size w W → PairT (pnN n f k g m p) (plS f g p m) (gdC n f k g m p) w (.returned (.tuple #[.slice none 0 0, .int .i64 (gdC n f k g m p)])) W) := Lib.hid fun h W hb => by
    unfold pnN; rw [if_neg h]; exact pairT_no hb _
  have V1 : Hid (gdC n f k g m p = 0 → ∀ w1 w' v, w'.ownsRow w1.heap.size 9 1 v n (uptoT (plS f g p m) n) → Below w.heap.size w w1 → Below w1.heap.size w1 w' → PairT (pnN n f k g m p) (plS f g p m) (gdC n f k g m p) w (.returned (.tuple #[v, .int .i64 0])) w') := Lib.hid fun h w1 w' v h1 h2 h3 => by
    unfold pnN; rw [if_pos h, h]; exact pairT_of_row h1 h2 h3
  have OK : Hid (gdC n f k g m p = 0 → HideP n f ∧ CutsP k g ∧ m = k ∧ ∀ i, i < m → 0 ≤ p i → ∃ (t W H : Nat), p i = (t : Int) ∧ t < 36 ∧ g (i * 4) = (W : Int) ∧ g (i * 4 + 1) = (H : Int) ∧ (1 ≤ W ∧ W ≤ 6) ∧ (1 ≤ H ∧ H ≤ 6) ∧ t % (f 0).size + W ≤ (f 0).size) := Lib.hid fun h => by
    obtain ⟨h0, h5⟩ := gd_ok h
    obtain ⟨h1, h2, h3, h4⟩ := plc_ok h0
    refine ⟨h1, h2, h4, fun i hi hp => ?_⟩
    obtain ⟨t, ht, htn⟩ := field_lt hp (h3 i hi)
    have hc := cu_in (h2.1 i (by omega))
    have hf := cut_fits h5 hi hp
    have h36 : n * (f 0).size ≤ 6 * 6 := Nat.mul_le_mul h1.2.2 h1.cols.2
    refine ⟨t, (g (i * 4)).toNat, (g (i * 4 + 1)).toNat, ht, by omega, by omega, by omega, by omega, by omega, ?_⟩
    have h6 := hf.2.1
    rw [ht, Int.toNat_natCast] at h6
    omega
  clear h
  obtain ⟨i0, hi0, hz0, hz1, hz2⟩ := info_parts info_str
  have HJn := Lib.hid (And.intro hi0 (And.intro hz0 (And.intro hz1 hz2)))
  have HU : Hid (∀ q, uptoT (plS f g p m) (q + 1) = uptoT (plS f g p m) q ++ [.string ⟨(plB f g p m q).toArray⟩]) := Lib.hid fun q => uptoT_snoc _ _
  have U0 := Lib.hid (fun w => rowT_zero w (plS f g p m))
  have BL := Lib.hid (fun (hm : m ≤ 100) w b y h => @bytes_of_line w b f g p m y hm h)
  have LB : Hid (∀ y, (plB f g p m y).length = (f 0).size) := Lib.hid fun y => by simp [plB]
  have P0 : Hid (∀ y x, pix f g p y 0 x = byt (f y) x) := Lib.hid fun y x => rfl
  have PS : Hid (∀ y i x, (cov (f 0).size g p i y x → pix f g p y (i + 1) x = 48 + (i : Int)) ∧ (¬ cov (f 0).size g p i y x → pix f g p y (i + 1) x = pix f g p y i x)) := Lib.hid fun y i x => ⟨fun h => pix_yes h, fun h => pix_no h⟩
  clear hi0 hz0 hz1 hz2
  generalize PairT (pnN n f k g m p) (plS f g p m) (gdC n f k g m p) w = Q at V0 V1 ⊢
  generalize gdC n f k g m p = cd at C V0 V1 OK
  generalize uptoT (plS f g p m) = UP at V1 HU U0
  generalize plB f g p m = PB at HU BL LB
  generalize pix f g p = PX at BL P0 PS
  go_enter Try.func50, Try.ntmps50
  go_wp2_with fail
  refine C.out.mono ?_
  rintro e w1 ⟨rfl, b1⟩
  have HB1 := Lib.hid b1
  clear b1 C
  by_cases h0 : cd = 0
  rotate_left
  · have hne : (cd != 0) = true := by simpa using h0
    have HF := Lib.hid (V0.out h0 _ HB1.out)
    clear V0 V1 OK
    go_wp2_with fail
    exact HF.out
  subst h0
  have VV := Lib.hid (V1.out rfl)
  obtain ⟨hH, hC, hmk, hfit⟩ := OK.out rfl
  have HFT := Lib.hid hfit
  have hc0 := hH.cols
  have hn6 := hH.2
  have hk4 := hC.2
  have hm4 : m ≤ 4 := by omega
  have hmk' : m ≤ k := by omega
  have BL := Lib.hid (BL.out (by omega))
  have HSZ := Lib.hid (fun y (hy : y < n) => (hH.1 y hy).1)
  obtain ⟨bk, off, rfl, hbk, hck⟩ := (HH.out.below HB1.out).rows (by omega)
  have y0 := hck 0 (by omega)
  rw [Nat.add_zero] at y0
  have e2 : (0 : Int) < (n : Int) := by omega
  have e3 : 0 < n := by omega
  clear V0 V1 OK hH hC hmk hfit hck
  have B0 := Lib.hid (below_box w1 (.cells #[] 9))
  have R0 := Lib.hid (U0.out w1)
  have CVS := Lib.hid (fun (w : World) (s : ByteArray) => Go.run_bytes_of_string w 9 65 5 s Try.underlying9 Try.underlying65 Try.underlying5)
  clear U0
  generalize hz0 : (f 0).size = Z at *
  have hzz : (f 0).size = Z := hz0
  go_wp2_with fail
  go_loopw [10, 11, 12, 13, 14] (fun o y _ _ _ wr => ∃ (q : Nat) (v : Value), q ≤ n ∧ v = o ∧ y = .int .i64 (q : Int) ∧ Hid (Below w1.heap.size w1 wr) ∧ Hid (wr.ownsRow w1.heap.size 9 1 v q (UP q))) (fun _ y _ _ _ _ => n - (intOf y).toNat)
  case atStart => exact ⟨0, _, Nat.zero_le _, rfl, rfl, B0, R0⟩
  case round =>
    obtain ⟨y, v, hy, rfl, rfl, HW, HO⟩ := hrel
    rename World => wo
    have f0 : (0 : Int) ≤ (y : Int) := Int.natCast_nonneg _
    by_cases hyl : y < n
    · have f1 : (y : Int) < (n : Int) := by omega
      have HX := Lib.hid (HH.out.below (below_then HB1.out HW.out))
      have HWB := Lib.hid (fun wv (hb : Below wo.heap.size wo wv) => HX.out.below hb)
      obtain ⟨b', off', hbo, hb', hc'⟩ := HX.out.rows (by omega)
      obtain ⟨rfl, rfl⟩ : bk = b' ∧ off = off' := by simpa using hbo
      have x0 := hc' y hyl
      have hsy := Lib.hid (HSZ.out y hyl)
      have CV := CVS.out wo (f y)
      have hcap := grownCap_ge wo (f y).size 0 5
      have HL0 := Lib.hid (line_new wo (f y) _ hcap)
      have HBL : Hid (∀ o, Below wo.heap.size wo ((wo.alloc o).drew)) := Lib.hid fun o => ((Below.refl wo.heap.size wo).alloc (Nat.le_refl _) o).drew
      have HUy := Lib.hid (HU.out y)
      have LBy := Lib.hid (LB.out y)
      have BLy := Lib.hid (fun w b h => BL.out w b y h)
      have P0y := Lib.hid (P0.out y)
      have PSy := Lib.hid (PS.out y)
      have hy1 : y + 1 ≤ n := by omega
      generalize f y = s at x0 hsy CV hcap HL0 P0y
      generalize PX y = PY at BLy P0y PSy
      generalize PB y = LN at HUy LBy BLy
      generalize grownCap wo s.size 0 5 = cap at CV hcap HL0
      clear hc' hbo hy
      go_upto_region 10 with fail
      clear CV x0
      generalize hwl : World.drew _ = wl at HL0 ⊢
      have HBW0 : Hid (Below wo.heap.size wo wl) := Lib.hid (by rw [← hwl]; exact HBL.out _)
      have HLN : Hid (LineAt wl wo.heap.size Z (PY 0)) := Lib.hid (by
        have := HL0.out
        rw [hsy.out] at this
        exact this.congr fun x hx => (P0y.out x).symm)
      clear hwl HL0 HBL hcap P0y
      generalize hgg : wo.heap.size = gl at HLN ⊢
      have hgl := Lib.hid hgg
      clear hgg
      go_wp2_with fail
      go_loopw [13, 14] (fun i _ wv => ∃ j : Nat, j ≤ m ∧ i = .int .i64 (j : Int) ∧ Hid (Below wo.heap.size wo wv) ∧ Hid (LineAt wv gl Z (PY j))) (fun i _ _ => m - (intOf i).toNat)
      case atStart => exact ⟨0, Nat.zero_le _, rfl, HBW0, HLN⟩
      case round =>
        obtain ⟨j, hj, rfl, HV, HLj⟩ := hrel
        rename World => wm
        have j0 : (0 : Int) ≤ (j : Int) := Int.natCast_nonneg _
        by_cases hjl : j < m
        · have j1 : (j : Int) < (m : Int) := by omega
          have j2 : (j : Int) < (k : Int) := by omega
          have hj1 : j + 1 ≤ m := by omega
          have hjk : j < k := by omega
          have PSj := Lib.hid (PSy.out j)
          obtain ⟨bp, op, rfl, hbp, hcp⟩ := HX.out.plan (by omega)
          obtain ⟨bg, og, rfl, hbg, hcg⟩ := HX.out.cuts (by omega)
          have KP : Hid (∀ wv, Below wo.heap.size wo wv → wv.cell? ⟨bp, op + j, none⟩ = some (.int .i64 (p j)) ∧ wv.cell? ⟨bg, og + j * 4, none⟩ = some (.int .i64 (g (j * 4))) ∧ wv.cell? ⟨bg, og + j * 4 + 1, none⟩ = some (.int .i64 (g (j * 4 + 1)))) := Lib.hid fun wv hb => by
            obtain ⟨g0, g1, _, _⟩ := Cut.cells_at hcg hjk
            exact ⟨(hb.cell (p := ⟨bp, op + j, none⟩) hbp).trans (hcp j hjl), (hb.cell (p := ⟨bg, og + j * 4, none⟩) hbg).trans g0, (hb.cell (p := ⟨bg, og + j * 4 + 1, none⟩) hbg).trans g1⟩
          obtain ⟨p0, g0, g1⟩ := KP.out wm HV.out
          have HVN := Lib.hid (fun q => below_then HV.out (He.below_drewN wm q))
          have HLNq : Hid (∀ q, LineAt (wm.drewN q) gl Z (PY j)) := Lib.hid fun q => HLj.out.below (He.below_drewN wm q)
          clear hcp hcg hj
          by_cases hp : p j < 0
          · have HN : Hid (∀ x, PY (j + 1) x = PY j x) := Lib.hid fun x => (PSj.out x).2 fun q => by have := q.1; omega
            generalize p j = pj at p0 hp
            clear g0 g1 KP
            go_upto_region 13 with fail
            go_quiet (fail)
            have HVq := Lib.hid (HVN.out nq)
            have HLq := Lib.hid ((HLNq.out nq).congr fun x _ => (HN.out x).symm)
            go_wp2_with fail
            go_roundw
            case rel => exact ⟨j + 1, hj1, by go_num, HVq, HLq⟩
            case measure => simp [intOf]; omega
          · obtain ⟨t, W, H, ht, ht36, hW, hH, hW6, hH6, hfit⟩ := HFT.out j hjl (by omega)
            have COV : Hid (∀ x, cov Z g p j y x ↔ (((t / Z : Nat) : Int) ≤ (y : Int) ∧ (y : Int) ≤ ((t / Z : Nat) : Int) + (H : Int) - 1) ∧ ((t % Z : Nat) ≤ x ∧ x < t % Z + W)) := Lib.hid fun x => by
              unfold cov
              rw [ht, hW, hH, Int.toNat_natCast]
              omega
            rw [ht] at p0 KP
            rw [hW] at g0 KP
            rw [hH] at g1 KP
            have D1 : ((t : Int) / (Z : Int)) = ((t / Z : Nat) : Int) := by rw [Int.natCast_ediv]
            have D2 : ((t : Int) % (Z : Int)) = ((t % Z : Nat) : Int) := by rw [Int.natCast_emod]
            have l1 : t / Z ≤ 36 := by have := Nat.div_le_self t Z; omega
            have t0 : (0 : Int) ≤ (t : Int) := Int.natCast_nonneg _
            have z1 : ¬ (Z : Int) = 0 := by omega
            have z2 : ¬ (Z : Int) = -1 := by omega
            have z3 : ((Z : Int) == 0) = false := beq_eq_false_iff_ne.2 z1
            have z4 : ((Z : Int) == -1) = false := beq_eq_false_iff_ne.2 z2
            have z5 : ¬ Z = 0 := by omega
            have hp' : ¬ (t : Int) < 0 := by omega
            clear hp ht hW hH
            generalize t / Z = r0 at COV D1 l1
            generalize t % Z = c0 at COV D2 hfit
            have CI := Lib.hid (fun w => Ba.in_any (y : Int) (r0 : Int) ((r0 : Int) + (H : Int) - 1) w)
            have CJ := Lib.hid (@Ba.in_of (y : Int) (r0 : Int) ((r0 : Int) + (H : Int) - 1))
            have CK : Hid (Ba.inB (y : Int) (r0 : Int) ((r0 : Int) + (H : Int) - 1) = false → ¬ ((r0 : Int) ≤ (y : Int) ∧ (y : Int) ≤ (r0 : Int) + (H : Int) - 1)) := Lib.hid fun h q => by rw [Ba.in_yes q.1 q.2] at h; cases h
            generalize Ba.inB (y : Int) (r0 : Int) ((r0 : Int) + (H : Int) - 1) = bb at CI CJ CK
            cases bb
            · have HN : Hid (∀ x, PY (j + 1) x = PY j x) := Lib.hid fun x => (PSj.out x).2 fun q => CK.out rfl ((COV.out x).1 q).1
              clear KP CJ CK
              go_upto_region 13 with fail
              go_quiet ((go_at_call 62; with_reducible exact Calls.quiet_of_same ((CI.out _).mono fun _ _ h => ⟨h.1, h.2.symm⟩)))
              have HVq := Lib.hid (HVN.out nq)
              have HLq := Lib.hid ((HLNq.out nq).congr fun x _ => (HN.out x).symm)
              go_wp2_with fail
              go_roundw
              case rel => exact ⟨j + 1, hj1, by go_num, HVq, HLq⟩
              case measure => simp [intOf]; omega
            · have hin := CJ.out rfl
              have HY : Hid (∀ x, (c0 ≤ x ∧ x < c0 + W → PY (j + 1) x = 48 + (j : Int)) ∧ (¬ (c0 ≤ x ∧ x < c0 + W) → PY (j + 1) x = PY j x)) := Lib.hid fun x => ⟨fun h => (PSj.out x).1 ((COV.out x).2 ⟨hin, h⟩), fun h => (PSj.out x).2 fun q => h ((COV.out x).1 q).2⟩
              clear CJ CK COV PSj
              go_upto_region 13 with fail
              go_quiet ((go_at_call 62; with_reducible exact Calls.quiet_of_same ((CI.out _).mono fun _ _ h => ⟨h.1, h.2.symm⟩)))
              have HVq := Lib.hid (HVN.out nq)
              have HLq := Lib.hid (HLNq.out nq)
              generalize wm.drewN nq = wn at HVq HLq ⊢
              have hu8 : IntKind.u8.wrap (48 + (j : Int)) = 48 + (j : Int) := by rw [IntKind.wrap_u8]; omega
              have HL0 : Hid (LineAt wn gl Z (fun z => if c0 ≤ z ∧ z < c0 + 0 then 48 + (j : Int) else PY j z)) := Lib.hid (HLq.out.congr fun x _ => by rw [if_neg (by omega)])
              obtain ⟨p0', g0', _⟩ := KP.out wn HVq.out
              clear p0 g0 g1 HVN HLNq HLq CI
              go_wp2_with fail
              clear p0' g0'
              go_loopw [14] (fun x wv => ∃ q : Nat, q ≤ W ∧ x = .int .i64 ((c0 + q : Nat) : Int) ∧ Hid (Below wo.heap.size wo wv) ∧ Hid (LineAt wv gl Z (fun z => if c0 ≤ z ∧ z < c0 + q then 48 + (j : Int) else PY j z))) (fun x _ => c0 + W - (intOf x).toNat)
              case atStart => exact ⟨0, Nat.zero_le _, by rw [Nat.add_zero], HVq, HL0⟩
              case round =>
                obtain ⟨q, hq, rfl, HVv, HLv⟩ := hrel
                obtain ⟨p0', g0', _⟩ := KP.out wr HVv.out
                have q0 : (0 : Int) ≤ ((c0 + q : Nat) : Int) := Int.natCast_nonneg _
                have HVd := Lib.hid (fun u => below_then HVv.out (He.below_drewN wr u))
                have HLd := Lib.hid (fun u => HLv.out.below (He.below_drewN wr u))
                by_cases hql : q < W
                · have q1 : ((c0 + q : Nat) : Int) < (c0 : Int) + (W : Int) := by omega
                  have q2 : ((c0 + q : Nat) : Int) < (s.size : Int) := by rw [hsy.out]; omega
                  have q3 : c0 + q < Z := by omega
                  have q4 : c0 + q < s.size := by rw [hsy.out]; exact q3
                  have hq1 : q + 1 ≤ W := by omega
                  have HXN : Hid (((c0 + q : Nat) : Int) + 1 = ((c0 + (q + 1) : Nat) : Int)) := Lib.hid (by omega)
                  have HMM : Hid ((c0 + W - (c0 + (q + 1))) < (c0 + W - (c0 + q))) := Lib.hid (by omega)
                  have HPT : Hid (∀ w, LineAt w gl Z (fun z => if c0 ≤ z ∧ z < c0 + q then 48 + (j : Int) else PY j z) → LineAt (w.setCell ⟨gl, c0 + q, none⟩ (.int .u8 (48 + (j : Int)))) gl Z (fun z => if c0 ≤ z ∧ z < c0 + (q + 1) then 48 + (j : Int) else PY j z)) := Lib.hid fun w h => (h.put q3 (48 + (j : Int))).congr fun x _ => by
                    by_cases e : x = c0 + q
                    · rw [if_pos e, if_pos (by omega)]
                    · rw [if_neg e]
                      by_cases e2 : c0 ≤ x ∧ x < c0 + q
                      · rw [if_pos e2, if_pos (by omega)]
                      · rw [if_neg e2, if_neg (by omega)]
                  have hgm : wo.heap.size ≤ gl := by rw [hgl.out]; exact Nat.le_refl _
                  go_upto_region 15 with fail
                  go_quiet (fail)
                  have HVw := Lib.hid (HVd.out nq)
                  have HLw := Lib.hid (HLd.out nq)
                  generalize wr.drewN nq = wp at HVw HLw ⊢
                  have hcx := (HLw.out.2 (c0 + q) q3).1
                  have hfx := (HLw.out.2 (c0 + q) q3).2
                  have HLx := Lib.hid (HPT.out wp HLw.out)
                  have HVx := Lib.hid (HVw.out.setCell (p := ⟨gl, c0 + q, none⟩) hgm (.int .u8 (48 + (j : Int))))
                  clear HVd HLd HPT HLw HVw p0' g0' HLv HVv
                  generalize (if c0 ≤ c0 + q ∧ c0 + q < c0 + q then 48 + (j : Int) else PY j (c0 + q)) = old at hcx
                  go_wp2_with fail
                  go_roundw
                  case rel => exact ⟨q + 1, hq1, by first | rw [HXN.out] | (congr 1; omega) | go_num, HVx, HLx⟩
                  case measure => simp only [intOf]; have := HMM.out; have := HXN.out; omega
                · obtain rfl : q = W := by omega
                  have q1 : ¬ ((c0 + q : Nat) : Int) < (c0 : Int) + (q : Int) := by omega
                  go_upto_region 15 with fail
                  go_quiet (fail)
                  have HVw := Lib.hid (HVd.out nq)
                  have HLw : Hid (LineAt (wr.drewN nq) gl Z (PY (j + 1))) := Lib.hid ((HLd.out nq).congr fun x _ => by
                    by_cases e2 : c0 ≤ x ∧ x < c0 + q
                    · rw [if_pos e2, (HY.out x).1 e2]
                    · rw [if_neg e2, (HY.out x).2 e2])
                  clear HVd HLd p0' g0' HLv HVv HY
                  go_wp2_with fail
                  go_roundw
                  case rel => exact ⟨j + 1, hj1, by go_num, HVw, HLw⟩
                  case measure => simp [intOf]; omega
        · obtain rfl : j = m := by omega
          have j1 : ¬ (j : Int) < (j : Int) := by omega
          have hgs := hgl.out
          have CV0 := Dc.conv_bytes wm gl cap LN (BLy.out wm gl HLj.out)
          rw [LBy.out, ← hsy.out] at CV0
          have HBW := Lib.hid (below_then HW.out HV.out)
          have HOW := Lib.hid (row_below HO.out HV.out)
          have hzw := HBW.out.size
          clear hgs hj
          go_wp2_with (at_builtin; refine wpList_append_own _ rfl _ _ 22 rfl w1.heap.size 9 i0 _ 1 16 Try.underlying22 HJn.out.1 HJn.out.2.1 HJn.out.2.2.1 HJn.out.2.2.2 rfl (by decide) _ _ _ rfl (HOW.out.alloc _) ⟨wm.heap.size, 0, none⟩ 1 1 [.string ⟨LN.toArray⟩] rfl rfl ?d1 ?d2 ?d3 ?d4 ?d5 ?_)
          try case d1 => exact Ow.cell_new _ _ _
          case d2 => simp [Value.oneCell']
          case d3 => unfold maxLen; omega
          case d4 => omega
          case d5 => first | omega | (simp <;> omega)
          intro v' w6 hown2 hgrow _
          have HQ := Lib.hid ((HBW.out.alloc hzw _).grown hgrow (by simp; omega) fun g hg => (HOW.out.lt g hg).1)
          have HO6 : Hid (w6.ownsRow w1.heap.size 9 1 v' (y + 1) (UP (y + 1))) := Lib.hid (by rw [HUy.out]; exact hown2)
          clear hown2 hgrow
          go_wp2_with fail
          go_roundw
          case rel => exact ⟨y + 1, _, hy1, rfl, by go_num, HQ, HO6⟩
          case measure => simp [intOf]; omega
    · obtain rfl : y = n := by omega
      have f1 : ¬ (y : Int) < (y : Int) := by omega
      have HF := Lib.hid (VV.out w1 wo v HO.out HB1.out HW.out)
      clear VV HU
      go_wp2_with fail
      exact HF.out
end Go.Proofs.Ytongfgikkcieaaa.H9

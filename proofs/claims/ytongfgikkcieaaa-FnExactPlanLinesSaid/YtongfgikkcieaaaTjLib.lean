/- Hides: the program's PlanLines, where the plan has no fault. -/
import Derived.Test.YtongfgikkcieaaaTiLib
namespace Go.Proofs.Ytongfgikkcieaaa.Tj
set_option linter.unusedVariables false
open Go.RowKit Go.Shelf Ft Is Ge Qb Hd Ts Tx H2 H5 H6 H7 H9 T1 T2 T3 T4 T5 T6 T7 T8 T9 Th Ti
open Go.Proofs.Ytongfgikkcieaaa.Nm (byt byt_of)
attribute [local go_sem] Oper.semAt_some

theorem boxed_own {β : Type} (B b : Nat) (t : TypeId) (v : Value) : OwnFrom B (fun (_ : β) W => Boxed W b t v) := fun _ A A' row hs hg hr => hs.kept hg (fun e => by
  obtain ⟨_, o, ho, hc⟩ := hr b e.symm
  rw [show A.heap[b]? = _ from hs] at ho
  cases ho
  cases hc)
theorem row_begin (w : World) (n : Nat) (hn : n ≤ 1048576) : (w.alloc (.cells (Go.madeCells #[Value.string ⟨#[]⟩] n) 9)).ownsRow w.heap.size 9 1 (.slice (some ⟨w.heap.size, 0, none⟩) 0 n) 0 [] :=
  ⟨rfl, .inr ⟨_, n, _, rfl, Nat.le_refl _, heap_alloc_new _ _, by omega, by unfold maxLen; omega, by rw [size_madeCells]; omega, rfl⟩⟩
theorem row_idx {PS : Nat → ByteArray} (n : Nat) : ((List.range n).map fun y => Value.string (PS (idx n y))) = uptoT PS n := by
  unfold uptoT
  apply List.map_congr_left
  intro y hy
  unfold idx
  rw [if_pos (List.mem_range.1 hy)]
set_option maxRecDepth 100000 in
set_option maxHeartbeats 1000000 in
theorem pn_ok (A : Option Addr) (n c : Nat) (f : Nat → ByteArray) (G : Option Addr) (k gc : Nat) (g : Nat → Int) (P : Option Addr) (m pc : Nat) (p : Nat → Int) (hn : n ≤ 1048576) (hs : ∀ i, i < n → (f i).size ≤ 1048576) (hk : k ≤ 1048576) (hm : m ≤ 1048576) (hcap : n ≤ c) (w : World) (h : H6.Ask w A n f G k g P m p) (hgood : gdC n f k g m p = 0) :
    Calls Try.prog 51 #[.slice A n c, .slice G k gc, .slice P m pc] w (PairT (pnN n f k g m p) (plS f g p m) (gdC n f k g m p) w) := by
  have SO : Hid (Calls Try.prog 79 #[.slice A n c, .slice G k gc, .slice P m pc] w fun e w' => ∃ P', e = .returned (.tuple #[lyV n (f 0).size (jnS f n) (gdN n (f 0).size (qf f) 0) (gdN n (f 0).size (qf f) 1) (gdN n (f 0).size (qf f) 2) (gdN n (f 0).size (qf f) 3) (.slice (some ⟨P', 0, none⟩) k k) (usN (f 0).size g p k) (-1), .int .i64 0]) ∧ Below w.heap.size w w' ∧ w.heap.size ≤ P' ∧ w'.heap[P']? = some (pcO k (foP (f 0).size g p))) := Lib.hid ((isound A n c f G k gc g P m pc p hn hs hk hm hcap w h).mono fun e w' hl => by
    rcases hl with ⟨h2, _⟩ | ⟨_, P', r⟩
    · exact absurd hgood h2
    · exact ⟨P', r⟩)
  have VV : Hid (∀ w1 w' v, w'.ownsRow w1.heap.size 9 1 v n (uptoT (plS f g p m) n) → Below w.heap.size w w1 → Below w1.heap.size w1 w' → PairT (pnN n f k g m p) (plS f g p m) (gdC n f k g m p) w (.returned (.tuple #[v, .int .i64 0])) w') := Lib.hid fun w1 w' v h1 h2 h3 => by
    unfold pnN; rw [if_pos hgood, hgood]; exact pairT_of_row h1 h2 h3
  obtain ⟨hH, hCu, rfl, hwr⟩ := Tg.us_any hgood
  have hal := hide_al hH
  have hC := hal.2.2
  have hn6 := hal.2.1
  have hjs := jn_size hal.1
  have h36 := size_36 hn6.2 hC.2
  have hk4 := hCu.2
  have hfl := (gd_ok hgood).2
  have hfit : ∀ i, i < m → 0 ≤ p i → FitP n (f 0).size (qf f) (g (i * 4)) (g (i * 4 + 1)) (g (i * 4 + 2)) (p i).toNat := fun i hi h0 => cut_fits hfl hi h0
  have LP := Lib.hid (fun (y x : Nat) (hy : y < n) (hx : x < (f 0).size) => lt_pix (m := m) hal hy hx (fun i hi => by have := cu_in (hCu.1 i hi); omega) hfit m (Nat.le_refl m))
  have CK := Lib.hid (fun (b cap W y : _) (hy : y < n) h => conv_chunk (W := W) (b := b) (D := (f 0).size) (y := y) (cap := cap) (f := f) (g := g) (p := p) (m := m) (n := n) (by omega) rfl hy h (fun x hx => LP.out y x hy hx))
  have FB := Lib.hid (fun i => foP_64 (f 0).size g p i)
  have LT0 : Hid (∀ z, lt (f 0).size (jnS f n) g p 0 z = byt (jnS f n) z) := Lib.hid fun z => rfl
  have LTS : Hid (∀ i z, lt (f 0).size (jnS f n) g p (i + 1) z = if (foP (f 0).size g p i).testBit z = true then 48 + (i : Int) else lt (f 0).size (jnS f n) g p i z) := Lib.hid fun i z => rfl
  have CVS := fun (w : World) (s : ByteArray) => Go.run_bytes_of_string w 9 65 5 s Try.underlying9 Try.underlying65 Try.underlying5
  obtain ⟨j0, hj0, hy0, hy1, hy2⟩ := info_parts info_str
  have HMK : Hid (∀ w : World, (Instr.makeSlice 22 (.int .i64 0) (.int .i64 (n : Int))).run Try.prog w = .ok (.slice (some ⟨w.heap.size, 0, none⟩) 0 n) (w.alloc (.cells (Go.madeCells (Value.string ⟨#[]⟩).cells (n * 1)) 9))) := Lib.hid fun w => by
    have := run_make w _ _ j0 _ Try.underlying22 hj0 hy0 .i64 .i64 0 n (by omega) (by omega) (by rw [hy2]; omega) (by omega)
    rw [hy1] at this
    simpa using this
  have HSZ : Hid ((jnS f n).size = n * (f 0).size) := Lib.hid hjs
  clear h hs hn hH hCu hwr hal hjs hfl hfit hgood LP
  generalize PairT (pnN n f m g m p) (plS f g p m) (gdC n f m g m p) w = Q at VV ⊢
  generalize plS f g p m = PS at VV CK
  generalize gdN n (f 0).size (qf f) 0 = g0 at SO
  generalize gdN n (f 0).size (qf f) 1 = g1 at SO
  generalize gdN n (f 0).size (qf f) 2 = g2 at SO
  generalize gdN n (f 0).size (qf f) 3 = g3 at SO
  generalize usN (f 0).size g p m = us at SO
  generalize lt (f 0).size (jnS f n) g p = LT at CK LT0 LTS
  generalize foP (f 0).size g p = FO at SO FB LTS
  generalize jnS f n = S at SO LT0 HSZ
  generalize (f 0).size = D at SO CK HSZ hC h36
  refine (callsIn_wide (n := 3)).1 ?_
  refine callsIn_of_wp_marks Try.func51 rfl trivial ?_ rfl
  simp only [Try.ntmps51, List.size_toArray, List.length_cons, List.length_nil, Nat.reduceAdd, Nat.reduceSub, Array.replicate_succ, Array.replicate_zero, List.push_toArray, List.append_toArray, List.nil_append, List.cons_append]
  gi_wp2
  refine ⟨trivial, ((callsIn_wide (n := 2)).2 SO.out).mono ?_⟩
  rintro e w1 ⟨P', rfl, b1, hP', hpp⟩
  have KL1 := heap_alloc_new w1 (lyC n D S g0 g1 g2 g3 (.slice (some ⟨P', 0, none⟩) m m) us (-1))
  have KP1 := blk_old (lyC n D S g0 g1 g2 g3 (.slice (some ⟨P', 0, none⟩) m m) us (-1)) hpp
  have B1 := below_then b1 (below_box w1 (lyC n D S g0 g1 g2 g3 (.slice (some ⟨P', 0, none⟩) m m) us (-1)))
  have CV := CVS (w1.alloc (lyC n D S g0 g1 g2 g3 (.slice (some ⟨P', 0, none⟩) m m) us (-1))) S
  have hcap2 := grownCap_ge (w1.alloc (lyC n D S g0 g1 g2 g3 (.slice (some ⟨P', 0, none⟩) m m) us (-1))) S.size 0 5
  generalize grownCap (w1.alloc (lyC n D S g0 g1 g2 g3 (.slice (some ⟨P', 0, none⟩) m m) us (-1))) S.size 0 5 = lc at CV hcap2
  have HL0 := line_new (w1.alloc (lyC n D S g0 g1 g2 g3 (.slice (some ⟨P', 0, none⟩) m m) us (-1))) S lc hcap2
  have hP1 := lt_of_heap hpp
  have hw1 := b1.size
  clear hpp b1 SO CVS
  gi_wp2
  rw [World.size_alloc] at HL0
  refine (?_ : ∀ wl : World, Below w.heap.size w wl → wl.heap[w1.heap.size]? = some (lyC n D S g0 g1 g2 g3 (.slice (some ⟨P', 0, none⟩) m m) us (-1)) → wl.heap[P']? = some (pcO m FO) → LineAt wl (w1.heap.size + 1) S.size (byt S) → Code.wpIn _ _ _ _ _ _ wl) _ ((below_then B1 ((Below.refl _ _).alloc (Nat.le_refl _) _)).drew) (blk_old _ KL1) (blk_old _ KP1) HL0
  intro wl BW KL KP HLl
  clear HL0 B1 KL1 KP1 CV
  generalize w1.heap.size = bl at KL HLl hP1 hw1 ⊢
  have hN36 : S.size ≤ 36 := by rw [HSZ.out]; exact h36
  have HLI : Hid (LineAt wl (bl + 1) S.size (LT 0)) := Lib.hid (HLl.congr fun x _ => (LT0.out x).symm)
  have hgl := HLl.1
  clear HLl
  gi_loopw [33] (fun x wr => ∃ i : Nat, i ≤ m ∧ x = .int .i64 (i : Int) ∧ Below (bl + 1) wl wr ∧ LineAt wr (bl + 1) S.size (LT i)) (fun x _ => m - (intOf x).toNat)
  case atStart => exact ⟨0, Nat.zero_le _, rfl, Below.refl _ _, HLI.out⟩
  case round =>
    obtain ⟨i, hi, rfl, HB, HL⟩ := hrel
    have i0 : (0 : Int) ≤ (i : Int) := Int.natCast_nonneg _
    by_cases hlt : i < m
    · have i1 : (i : Int) < (m : Int) := by omega
      have hi1 : i + 1 ≤ m := by omega
      have x0 : wr.cell? ⟨P', i, none⟩ = some (.int .u64 (FO i : Int)) := by
        rw [cell_of_row _ _ i _ _ _ ((HB.block P' (by omega)).trans KP), arr_get _ hlt]
      have FBi := FB.out i
      have LTi := Lib.hid (LTS.out i)
      have hu8 : IntKind.u8.wrap (48 + (i : Int)) = 48 + (i : Int) := by rw [IntKind.wrap_u8]; omega
      generalize FO i = fo at x0 FBi LTi
      have HL1 : LineAt wr (bl + 1) S.size (fun z => if z < 0 then LT (i + 1) z else LT i z) := HL.congr fun x _ => by rw [if_neg (by omega)]
      clear HL hi
      gi_wp2
      gi_loopw [40] (fun x wv => ∃ z : Nat, z ≤ S.size ∧ x = .int .i64 (z : Int) ∧ Below (bl + 1) wl wv ∧ LineAt wv (bl + 1) S.size (fun q => if q < z then LT (i + 1) q else LT i q)) (fun x _ => S.size - (intOf x).toNat)
      case atStart => exact ⟨0, Nat.zero_le _, rfl, HB, HL1⟩
      case round =>
        obtain ⟨z, hz, rfl, HV, HM⟩ := hrel
        have z0 : (0 : Int) ≤ (z : Int) := Int.natCast_nonneg _
        by_cases hzl : z < S.size
        · have z1 : (z : Int) < (S.size : Int) := by omega
          have hz1 : z + 1 ≤ S.size := by omega
          obtain ⟨c0, c1⟩ := HM.2 z hzl
          have IH := fun w => (callsIn_wide (n := 2)).2 (ihas fo z FBi (by omega) w)
          have NT : Hid (fo.testBit z = true → ∀ wv, LineAt wv (bl + 1) S.size (fun q => if q < z then LT (i + 1) q else LT i q) → LineAt (wv.setCell ⟨bl + 1, z, none⟩ (.int .u8 (48 + (i : Int)))) (bl + 1) S.size (fun q => if q < z + 1 then LT (i + 1) q else LT i q)) := Lib.hid fun hb wv hv => (hv.put hzl (48 + (i : Int))).congr fun x hx => by
            by_cases e : x = z
            · rw [if_pos e, if_pos (by omega), LTi.out, e, if_pos hb]
            · rw [if_neg e]
              by_cases e2 : x < z
              · rw [if_pos e2, if_pos (by omega)]
              · rw [if_neg e2, if_neg (by omega)]
          have NF : Hid (fo.testBit z = false → LineAt wr (bl + 1) S.size (fun q => if q < z + 1 then LT (i + 1) q else LT i q)) := Lib.hid fun hb => HM.congr fun x hx => by
            by_cases e : x = z
            · rw [if_neg (by omega), if_pos (by omega), LTi.out, e, hb]
              rfl
            · by_cases e2 : x < z
              · rw [if_pos e2, if_pos (by omega)]
              · rw [if_neg e2, if_neg (by omega)]
          generalize fo.testBit z = tb at IH NT NF
          clear hz
          gi_wp2
          refine ⟨trivial, (IH _).mono ?_⟩
          rintro e w' ⟨rfl, rfl⟩
          cases tb
          · have HD := NF.out (by first | rfl | trivial)
            clear NT NF IH c0 c1
            gi_wp2
            go_roundw
            case rel => exact ⟨z + 1, hz1, by go_num, HV, HD⟩
            case measure => simp [intOf]; omega
          · have HD := NT.out (by first | rfl | trivial) _ HM
            have HV2 := HV.setCell (p := ⟨bl + 1, z, none⟩) (Nat.le_refl _) (.int .u8 (48 + (i : Int)))
            clear NT NF IH HM
            gi_wp2
            go_roundw
            case rel => exact ⟨z + 1, hz1, by go_num, HV2, HD⟩
            case measure => simp [intOf]; omega
        · have hzz : z = S.size := by omega
          have f1 : ¬ (z : Int) < (S.size : Int) := by omega
          have HD : LineAt wr (bl + 1) S.size (LT (i + 1)) := HM.congr fun x hx => by rw [if_pos (by omega)]
          clear hzl hz hzz HM
          gi_wp2
          go_roundw
          case rel => exact ⟨i + 1, hi1, by go_num, HV, HD⟩
          case measure => simp [intOf]; omega
    · have him : i = m := by omega
      have f1 : ¬ (i : Int) < (m : Int) := by omega
      rw [him] at HL
      have HBw : Below w.heap.size w wr := BW.trans (HB.mono (by omega))
      have l1 : wr.cell? ⟨bl, 1, none⟩ = some (.int .i64 (D : Int)) := (blk10 ((HB.block bl (by omega)).trans KL)).2.1
      have hblw : bl < wr.heap.size := by have := HB.size; have := lt_of_heap KL; omega
      have hglw : bl + 1 < wr.heap.size := HL.1
      have hmk := HMK.out wr
      have CS := fun W => (callsIn_wide (n := 2)).2 (chunk (some ⟨bl + 1, 0, none⟩) S.size lc D hC W)
      clear HB KP KL BW hP1 hw1 hgl HLI him hlt hi
      gi_wp2
      refine ⟨trivial, (CS _).mono ?_⟩
      rintro e w3 ⟨rfl, rfl⟩
      gi_wp2
      obtain ⟨W0, hW0⟩ : ∃ W0, ((((wr.alloc (.cells (Go.madeCells #[Value.string ⟨#[]⟩] n) 9)).alloc (.cells #[.slice (some ⟨wr.heap.size, 0, none⟩) 0 n] 22)).alloc (.cells #[.slice (some ⟨bl + 1, 0, none⟩) S.size lc] 65)).alloc (.cells #[.int .i64 (D : Int)] 3)) = W0 := ⟨_, rfl⟩
      have bL0 := ((Boxed.new (wr.alloc (.cells (Go.madeCells #[Value.string ⟨#[]⟩] n) 9)) 22 (.slice (some ⟨wr.heap.size, 0, none⟩) 0 n)).alloc (.cells #[.slice (some ⟨bl + 1, 0, none⟩) S.size lc] 65)).alloc (.cells #[.int .i64 (D : Int)] 3)
      have bS0 := (Boxed.new ((wr.alloc (.cells (Go.madeCells #[Value.string ⟨#[]⟩] n) 9)).alloc (.cells #[.slice (some ⟨wr.heap.size, 0, none⟩) 0 n] 22)) 65 (.slice (some ⟨bl + 1, 0, none⟩) S.size lc)).alloc (.cells #[.int .i64 (D : Int)] 3)
      have bN0 := Boxed.new (((wr.alloc (.cells (Go.madeCells #[Value.string ⟨#[]⟩] n) 9)).alloc (.cells #[.slice (some ⟨wr.heap.size, 0, none⟩) 0 n] 22)).alloc (.cells #[.slice (some ⟨bl + 1, 0, none⟩) S.size lc] 65)) 3 (.int .i64 (D : Int))
      rw [World.size_alloc] at bL0
      rw [World.size_alloc, World.size_alloc] at bS0
      rw [World.size_alloc, World.size_alloc, World.size_alloc] at bN0
      have row0 := (((row_begin wr n (by omega)).alloc (.cells #[.slice (some ⟨wr.heap.size, 0, none⟩) 0 n] 22)).alloc (.cells #[.slice (some ⟨bl + 1, 0, none⟩) S.size lc] 65)).alloc (.cells #[.int .i64 (D : Int)] 3)
      have B0 : Below wr.heap.size wr ((((wr.alloc (.cells (Go.madeCells #[Value.string ⟨#[]⟩] n) 9)).alloc (.cells #[.slice (some ⟨wr.heap.size, 0, none⟩) 0 n] 22)).alloc (.cells #[.slice (some ⟨bl + 1, 0, none⟩) S.size lc] 65)).alloc (.cells #[.int .i64 (D : Int)] 3)) := ((((Below.refl _ wr).alloc (Nat.le_refl _) _).alloc (by simp) _).alloc (by simp; omega) _).alloc (by simp; omega) _
      have hsz : ((((wr.alloc (.cells (Go.madeCells #[Value.string ⟨#[]⟩] n) 9)).alloc (.cells #[.slice (some ⟨wr.heap.size, 0, none⟩) 0 n] 22)).alloc (.cells #[.slice (some ⟨bl + 1, 0, none⟩) S.size lc] 65)).alloc (.cells #[.int .i64 (D : Int)] 3)).heap.size = wr.heap.size + 4 := by simp
      rw [hW0] at bL0 bS0 bN0 row0 B0 hsz ⊢
      have HCK := Lib.hid (fun W (hb : Below wr.heap.size wr W) y (hy : y < n) => CK.out (bl + 1) D W y hy (by rw [← HSZ.out]; exact HL.below (hb.mono (Nat.le_refl _))))
      refine (?_ : ∀ T : Array Value, T = _ → Code.wpIn _ _ _ _ _ ⟨T, []⟩ _) _ rfl
      intro T hT
      refine wpIn_rangeFunc_ownH rfl (by omega) (gf := 109) (lb := #[.pointer (some ⟨wr.heap.size + 1 + 1, 0, none⟩), .pointer (some ⟨wr.heap.size + 1 + 1 + 1, 0, none⟩)]) (by rw [hT]; rfl) trivial (enters_of Try.func109 (by kernel_rfl) rfl)
        (stopsc 2 (by omega) (wr.heap.size + 1 + 1) (wr.heap.size + 1 + 1 + 1) (bl + 1) S.size lc D n HSZ.out hC hn6.2 hcap2 W0 bS0 bN0) kb_t (kb_b (by omega) (by omega)) (Below.refl _ _) (fun _ => rfl)
        (fun pre W => ((∃ v, Boxed W (wr.heap.size + 1) 22 v ∧ W.ownsRow wr.heap.size 9 1 v pre.length (pre.map fun y => Value.string (PS (idx n y)))) ∧ Below wr.heap.size wr W) ∧ (Boxed W (wr.heap.size + 1 + 1) 65 (.slice (some ⟨bl + 1, 0, none⟩) S.size lc) ∧ Boxed W (wr.heap.size + 1 + 1 + 1) 3 (.int .i64 (D : Int))))
        (fun _ _ _ => False)
        (OwnFrom.and (OwnFrom.and (Own.from (fun s A B row hs hg hr => by
          obtain ⟨v, h1, h2⟩ := hs
          exact holdsRow_own wr.heap.size (wr.heap.size + 1) 22 9 1 (fun pre : List Nat => pre.length) (fun pre => pre.map fun y => Value.string (PS (idx n y))) (fun _ _ => True) s A B row ⟨v, h1, h2, trivial⟩ hg hr |>.elim fun v h => ⟨v, h.1, h.2.1⟩) _) (ownFrom_below (Nat.le_refl _) (by omega))) (OwnFrom.and (fun s A A' row hs hg hr => boxed_own (β := Unit) _ _ _ _ () A A' row hs hg hr) (fun s A A' row hs hg hr => boxed_own (β := Unit) _ _ _ _ () A A' row hs hg hr)))
        (fun _ _ _ _ _ hs _ _ => hs)
        ⟨⟨⟨_, bL0, row0⟩, B0⟩, bS0, bN0⟩
        (fun x a' W => a' = { tmps := (T.setIfInBounds 62 (ck (bl + 1) D n x)).setIfInBounds 15 (ck (bl + 1) D n x), defers := [] })
        (fun _ _ _ _ _ _ h _ _ => h) ?assign ?body ?done ?stop
      case assign =>
        rintro l pre x W K hI hK
        subst hT
        gi_wp2
        exact hK _ _ ((KeepsOthers.refl _).from _) (kb_refl _ _ _ _ _ _ _) hI rfl
      case body =>
        rintro l pre x a' W hl ⟨r, hr⟩ ⟨⟨⟨v, hv, hrow⟩, hB⟩, hbS, hbN⟩ rfl hlt
        have hc := hv.cell
        have hidx : idx n x < n := by unfold idx; split <;> omega
        have hcv := HCK.out W hB (idx n x) hidx
        subst hT
        unfold ck
        simp only [List.setIfInBounds_toArray, List.set_cons_succ, List.set_cons_zero]
        have hplen : pre.length < n := hlt
        generalize idx n x * D = off at hcv ⊢
        obtain ⟨tx, htx⟩ : ∃ tx, PS (idx n x) = tx := ⟨_, rfl⟩
        rw [htx] at hcv
        gi_wp2_with (gi_at_builtin; refine wpListIn_append_own _ rfl _ _ 22 rfl wr.heap.size 9 j0 (.string ⟨#[]⟩) 1 16 Try.underlying22 hj0 hy0 hy1 hy2 rfl (by decide) _ _ _ rfl (hrow.alloc _) ⟨W.heap.size, 0, none⟩ 1 1 [.string tx] rfl rfl (Ow.cell_new _ _ _) (by simp [Value.oneCell']) (by unfold maxLen; omega) (by omega) (by have := hB.size; simp; omega) ?_; intro v' w1 hown' hgrow _; obtain ⟨g', cap', rfl⟩ := ownsRow_succ hown'; have hbS1 := (hbS.alloc _).kept hgrow (hbS.not_row (by decide) hrow); have hbN1 := (hbN.alloc _).kept hgrow (hbN.not_row (by decide) hrow); obtain ⟨hv1, hv2, hr2, hk2, hb2⟩ := hv.appended (by decide) hrow hB.size (by omega) hown' hgrow; have hc1 := hv1.cell; have hf1 := hv1.frozen)
        have hbS2 := box_set hbS1 (B' := wr.heap.size + 1) (u := .slice (some ⟨g', 0, none⟩) (pre.length + 1) cap') (by omega)
        have hbN2 := box_set hbN1 (B' := wr.heap.size + 1) (u := .slice (some ⟨g', 0, none⟩) (pre.length + 1) cap') (by omega)
        exact ⟨hk2.from _, ⟨fun _ => hbS2, fun _ => hbN2⟩, ⟨⟨⟨_, hv2, by simpa [htx] using hr2⟩, hB.trans hb2⟩, hbS2, hbN2⟩⟩
      case done =>
        rintro Dd ys W hD rfl ⟨⟨⟨v, hv, hrow⟩, hB⟩, hbS, hbN⟩ hK
        have hc := hv.cell
        subst hT
        gi_wp2
        refine ⟨by simp, .inl ⟨_, _, rfl, run_takeDeferred hK, ?_⟩⟩
        have hrow2 : W.ownsRow wr.heap.size 9 1 v n (uptoT PS n) := by
          have := hrow
          rw [row_idx, List.length_range] at this
          exact this
        exact ⟨.tuple #[v, .int .i64 0], by simp [results, Try.results51, go_sem], VV.out wr _ v (ownsRow_putObj hrow2 _ hK rfl) HBw (hB.trans (belowK_b (w := wr) (Nat.le_refl _) W Dd _ _ (by omega) hK rfl rfl))⟩
      case stop =>
        rintro D c pre W _ _ h _
        exact h.elim
theorem impl_pn (A : Option Addr) (n c : Nat) (f : Nat → ByteArray) (G : Option Addr) (k gc : Nat) (g : Nat → Int) (P : Option Addr) (m pc : Nat) (p : Nat → Int) (hn : n ≤ 1048576) (hs : ∀ i, i < n → (f i).size ≤ 1048576) (hk : k ≤ 1048576) (hm : m ≤ 1048576) (hcap : n ≤ c) (w : World) (h : H6.Ask w A n f G k g P m p) :
    Calls Try.prog 51 #[.slice A n c, .slice G k gc, .slice P m pc] w (PairT (pnN n f k g m p) (plS f g p m) (gdC n f k g m p) w) := by
  by_cases e : gdC n f k g m p = 0
  · exact pn_ok A n c f G k gc g P m pc p hn hs hk hm hcap w h e
  · exact pn_bad A n c f G k gc g P m pc p hn hs hk hm hcap w h e
theorem pn_small (n : Nat) (f : Nat → ByteArray) (k : Nat) (g : Nat → Int) (m : Nat) (p : Nat → Int) : pnN n f k g m p ≤ 1048576 := by
  unfold pnN
  split
  · rename_i h
    have := (Tg.us_any h).1.2
    omega
  · omega
end Go.Proofs.Ytongfgikkcieaaa.Tj

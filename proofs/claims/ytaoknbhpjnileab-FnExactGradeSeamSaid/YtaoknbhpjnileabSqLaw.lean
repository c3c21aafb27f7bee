/- The walk of the law of GradeSeam. -/
import Derived.Test.YtaoknbhpjnileabSqLib
namespace Go.Proofs.Ytaoknbhpjnileab.Sq
open Go.RowKit Ft Is Ge Qb Le Lc Lq On

/-- All lists of the law: both of the spec, both copies, both of the program. -/
structure St (w : World) (B l3 h3 l4 h4 lo mid hi : Nat) (Aw Bw X Y Ga Gb : Option Addr) (na nb n m : Nat) (da db fx fy ga gb : Nat → Int) : Prop where
  s0 : B ≤ w.heap.size
  o1 : B ≤ l3
  o2 : h3 ≤ l4
  o3 : h4 ≤ lo
  o4 : l3 ≤ h3
  o5 : l4 ≤ h4
  o6 : lo ≤ mid
  o7 : mid ≤ hi
  o8 : hi ≤ w.heap.size
  a : Nums w B Aw na da
  b : Nums w B Bw nb db
  x : OwnIn w l3 h3 X n fx
  y : OwnIn w l4 h4 Y m fy
  p : OwnIn w lo mid Ga na ga
  q : OwnIn w mid hi Gb nb gb
theorem St.below {w w' : World} {B l3 h3 l4 h4 lo mid hi : Nat} {Aw Bw X Y Ga Gb : Option Addr} {na nb n m : Nat} {da db fx fy ga gb : Nat → Int} (s : St w B l3 h3 l4 h4 lo mid hi Aw Bw X Y Ga Gb na nb n m da db fx fy ga gb) (hb : Below w.heap.size w w') : St w' B l3 h3 l4 h4 lo mid hi Aw Bw X Y Ga Gb na nb n m da db fx fy ga gb :=
  ⟨Nat.le_trans s.s0 hb.size, s.o1, s.o2, s.o3, s.o4, s.o5, s.o6, s.o7, Nat.le_trans s.o8 hb.size, s.a.below hb s.s0, s.b.below hb s.s0, s.x.below hb, s.y.below hb, s.p.below hb, s.q.below hb⟩
theorem St.mx {w w' : World} {B l3 h3 l4 h4 lo mid hi : Nat} {Aw Bw X Y Ga Gb : Option Addr} {na nb n m : Nat} {da db fx fy ga gb fn : Nat → Int} (s : St w B l3 h3 l4 h4 lo mid hi Aw Bw X Y Ga Gb na nb n m da db fx fy ga gb) (h : Span l3 h3 w w') (hn : OwnIn w' l3 h3 X n fn) : St w' B l3 h3 l4 h4 lo mid hi Aw Bw X Y Ga Gb na nb n m da db fn fy ga gb := by
  obtain ⟨s0, o1, o2, o3, o4, o5, o6, o7, o8, a, b, x, y, p, q⟩ := s
  exact ⟨Nat.le_trans s0 h.size, o1, o2, o3, o4, o5, o6, o7, Nat.le_trans o8 h.size, h.nums a o1, h.nums b o1, hn, h.own y (by omega), h.own p (by omega), h.own q (by omega)⟩
theorem St.my {w w' : World} {B l3 h3 l4 h4 lo mid hi : Nat} {Aw Bw X Y Ga Gb : Option Addr} {na nb n m : Nat} {da db fx fy ga gb fn : Nat → Int} (s : St w B l3 h3 l4 h4 lo mid hi Aw Bw X Y Ga Gb na nb n m da db fx fy ga gb) (h : Span l4 h4 w w') (hn : OwnIn w' l4 h4 Y m fn) : St w' B l3 h3 l4 h4 lo mid hi Aw Bw X Y Ga Gb na nb n m da db fx fn ga gb := by
  obtain ⟨s0, o1, o2, o3, o4, o5, o6, o7, o8, a, b, x, y, p, q⟩ := s
  exact ⟨Nat.le_trans s0 h.size, o1, o2, o3, o4, o5, o6, o7, Nat.le_trans o8 h.size, h.nums a (by omega), h.nums b (by omega), h.own x (by omega), hn, h.own p (by omega), h.own q (by omega)⟩
theorem St.mp {w w' : World} {B l3 h3 l4 h4 lo mid hi : Nat} {Aw Bw X Y Ga Gb : Option Addr} {na nb n m : Nat} {da db fx fy ga gb fn : Nat → Int} (s : St w B l3 h3 l4 h4 lo mid hi Aw Bw X Y Ga Gb na nb n m da db fx fy ga gb) (h : Span lo mid w w') (hn : OwnIn w' lo mid Ga na fn) : St w' B l3 h3 l4 h4 lo mid hi Aw Bw X Y Ga Gb na nb n m da db fx fy fn gb := by
  obtain ⟨s0, o1, o2, o3, o4, o5, o6, o7, o8, a, b, x, y, p, q⟩ := s
  exact ⟨Nat.le_trans s0 h.size, o1, o2, o3, o4, o5, o6, o7, Nat.le_trans o8 h.size, h.nums a (by omega), h.nums b (by omega), h.own x (by omega), h.own y (by omega), hn, h.own q (by omega)⟩
theorem St.mq {w w' : World} {B l3 h3 l4 h4 lo mid hi : Nat} {Aw Bw X Y Ga Gb : Option Addr} {na nb n m : Nat} {da db fx fy ga gb fn : Nat → Int} (s : St w B l3 h3 l4 h4 lo mid hi Aw Bw X Y Ga Gb na nb n m da db fx fy ga gb) (h : Span mid hi w w') (hn : OwnIn w' mid hi Gb nb fn) : St w' B l3 h3 l4 h4 lo mid hi Aw Bw X Y Ga Gb na nb n m da db fx fy ga fn := by
  obtain ⟨s0, o1, o2, o3, o4, o5, o6, o7, o8, a, b, x, y, p, q⟩ := s
  exact ⟨Nat.le_trans s0 h.size, o1, o2, o3, o4, o5, o6, o7, Nat.le_trans o8 h.size, h.nums a (by omega), h.nums b (by omega), h.own x (by omega), h.own y (by omega), h.own p (by omega), hn⟩

set_option maxRecDepth 100000 in
set_option maxHeartbeats 4000000 in
theorem core (A : Option Addr) (n c : Nat) (f : Nat → Int) (B : Option Addr) (m c' : Nat) (h : Nat → Int) (sum : Int) (hn : n ≤ 1048576) (hm : m ≤ 1048576) (na nb : Nat) (hna : na ≤ 1000) (hnb : nb ≤ 1000) (da db : Nat → Int) (cd : Int) (w : World) (hA : Nums w w.heap.size A n f) (hB : Nums w w.heap.size B m h)
    (CS : Hid (∀ A c B c' w, Nums w w.heap.size A n f → Nums w w.heap.size B m h → Calls Try.prog 47 #[.slice A n c, .slice B m c', .int .i64 sum] w (SeamAt na da nb db cd w)))
    (CI : Hid (∀ A c B c' w, Nums w w.heap.size A n f → Nums w w.heap.size B m h → Calls Try.prog 48 #[.slice A n c, .slice B m c', .int .i64 sum] w (SeamAt na da nb db cd w))) :
    Calls Try.prog 11 #[.slice A n c, .slice B m c', .int .i64 sum] w fun e w' => e = .returned (.bool true) ∧ Below w.heap.size w w' := by
  have HA := Lib.hid hA
  have HB := Lib.hid hB
  have TA := Lib.hid (fun w h => to_ints A n c f hn w h)
  have TB := Lib.hid (fun w h' => to_ints B m c' h hm w h')
  have MX := Lib.hid (fun A cap lo hi w h => mark_span A n cap 1 f hn (by omega) (by omega) lo hi w h)
  have MY := Lib.hid (fun A cap lo hi w h' => mark_span A m cap (Is.mk 1 n) h hm (by unfold Is.mk; omega) (by unfold Is.mk; omega) lo hi w h')
  have MP := Lib.hid (fun A cap lo hi w h => mark_span A na cap 1 da (by omega) (by omega) (by omega) lo hi w h)
  have MQ := Lib.hid (fun A cap lo hi w h => mark_span A nb cap (Is.mk 1 na) db (by omega) (by unfold Is.mk; omega) (by unfold Is.mk; omega) lo hi w h)
  have HP := Lib.hid (fun A cap B w h => held_ints A na cap 1 (by omega) (by omega) (by omega) B w h)
  have HQ := Lib.hid (fun A cap B w h => held_ints A nb cap (Is.mk 1 na) (by omega) (by unfold Is.mk; omega) (by unfold Is.mk; omega) B w h)
  have hk1 : 0 ≤ Is.mk (Is.mk 1 n) m := by unfold Is.mk; omega
  have hM1 : 0 ≤ Is.mk 1 na := by unfold Is.mk; omega
  have hM2 : 0 ≤ Is.mk (Is.mk 1 na) nb := by unfold Is.mk; omega
  have n1 : (cd != cd) = false := by simp
  have EA := Lib.hid (fun A1 A2 c1 c2 w h1 h2 => eq_ints A1 A2 na c1 c2 da (by omega) w h1 h2)
  have EB := Lib.hid (fun A1 A2 c1 c2 w h1 h2 => eq_ints A1 A2 nb c1 c2 db (by omega) w h1 h2)
  have EX := Lib.hid (fun A1 A2 c1 c2 w h1 h2 => eq_ints A1 A2 n c1 c2 f hn w h1 h2)
  have EY := Lib.hid (fun A1 A2 c1 c2 w h1 h2 => eq_ints A1 A2 m c1 c2 h hm w h1 h2)
  generalize Is.mk (Is.mk 1 n) m = K2 at MY hk1
  generalize hK1 : Is.mk 1 n = K1 at MX MY
  generalize hQ2 : Is.mk (Is.mk 1 na) nb = Q2 at MQ HQ hM2
  have n2 : (Q2 != Q2) = false := by simp
  generalize Is.mk (Is.mk 1 na) = fq at MQ HQ
  generalize Is.mk 1 na = Q1 at MP MQ HP HQ hM1
  clear hA hB hna hnb hK1 hQ2
  go_enter Try.func11, Try.ntmps11
  go_wp2_with fail
  refine (TA.out _ HA.out).mono ?_
  rintro e w1 ⟨g1, rfl, hg1, H1, b1⟩
  have HI1 := Lib.hid (at_nums H1.out)
  have HB1 := Lib.hid b1
  clear b1 hg1 H1
  go_wp2_with fail
  refine (TB.out _ ((HB.out.below HB1.out (Nat.le_refl _)).more HB1.out.size)).mono ?_
  rintro e w2 ⟨g2, rfl, hg2, H2, b2⟩
  have HJ2 := Lib.hid (at_nums H2.out)
  have HI2 := Lib.hid ((HI1.out.below b2 (Nat.le_refl _)).more b2.size)
  have HB2 := Lib.hid (below_then HB1.out b2)
  clear b2 hg2 H2 HI1 HB1
  go_wp2_with fail
  refine (CS.out _ _ _ _ _ HI2.out HJ2.out).mono ?_
  rintro e w3 ⟨A3, ca3, B3, cb3, mid3, rfl, hm1, hm2, OA3, OB3, b3⟩
  have NA3 := Lib.hid OA3.out.nums
  have NB3 := Lib.hid OB3.out.nums
  have HB3 := Lib.hid (below_then HB2.out b3)
  clear b3 OA3 OB3 HI2 HJ2 HB2 CS hm1 hm2 mid3
  go_wp2_with fail
  refine (TA.out _ ((HA.out.below HB3.out (Nat.le_refl _)).more HB3.out.size)).mono ?_
  rintro e w4 ⟨g4, rfl, hg4, H4, b4⟩
  have HB4 := Lib.hid (below_then HB3.out b4)
  have NA4 := Lib.hid (NA3.out.below b4 (Nat.le_refl _))
  have NB4 := Lib.hid (NB3.out.below b4 (Nat.le_refl _))
  have h34 := b4.size
  have hl4 := H4.out.1
  clear b4 NA3 NB3
  go_wp2_with fail
  refine (TB.out _ ((HB.out.below HB4.out (Nat.le_refl _)).more HB4.out.size)).mono ?_
  rintro e w5 ⟨g5, rfl, hg5, H5, b5⟩
  have HB5 := Lib.hid (below_then HB4.out b5)
  have NA5 := Lib.hid (NA4.out.below b5 h34)
  have NB5 := Lib.hid (NB4.out.below b5 h34)
  have H45 := Lib.hid (H4.out.below b5)
  have h45 := b5.size
  have hl5 := H5.out.1
  clear b5 NA4 NB4 H4
  go_wp2_with fail
  refine (CI.out _ _ _ _ _ (at_nums H45.out) (at_nums H5.out)).mono ?_
  rintro e w6 ⟨A6, ca6, B6, cb6, mid, rfl, hm1, hm2, OA6, OB6, b6⟩
  have HB6 := Lib.hid (below_then HB5.out b6)
  have S6 : Hid (St w6 w3.heap.size w3.heap.size w4.heap.size w4.heap.size w5.heap.size w5.heap.size mid w6.heap.size A3 B3 (some ⟨g4, 0, none⟩) (some ⟨g5, 0, none⟩) A6 B6 na nb n m da db f h da db) :=
    Lib.hid ⟨by have := b6.size; omega, Nat.le_refl _, Nat.le_refl _, Nat.le_refl _, h34, h45, hm1, hm2, Nat.le_refl _, NA5.out.below b6 (by omega), NB5.out.below b6 (by omega), at_own (H45.out.below b6) hg4 hl4, at_own (H5.out.below b6) hg5 hl5, OA6.out, OB6.out⟩
  have h03 := HB3.out.size
  clear b6 OA6 OB6 NA5 NB5 H45 H5 hg4 hl4 hg5 hl5 HB5 HB4 hm1 hm2
  generalize w4.heap.size = z4 at S6
  generalize w5.heap.size = z5 at S6
  generalize w6.heap.size = z6 at S6
  clear h34 h45
  go_wp2_with fail
  refine (EA.out _ _ _ _ _ S6.out.p.nums (S6.out.a.more S6.out.s0)).mono ?_
  rintro e w7 ⟨rfl, b7⟩
  have HB7 := Lib.hid (below_then HB6.out b7)
  have S7 := Lib.hid (S6.out.below b7)
  clear b7 HB6 S6
  go_wp2_with fail
  refine (EB.out _ _ _ _ _ S7.out.q.nums (S7.out.b.more S7.out.s0)).mono ?_
  rintro e w8 ⟨rfl, b8⟩
  have HB8 := Lib.hid (below_then HB7.out b8)
  have S8 := Lib.hid (S7.out.below b8)
  clear b8 HB7 S7
  go_wp2_with fail
  refine (TA.out _ ((HA.out.below HB8.out (Nat.le_refl _)).more HB8.out.size)).mono ?_
  rintro e w9 ⟨g9, rfl, hg9, H9, b9⟩
  have HB9 := Lib.hid (below_then HB8.out b9)
  have S9 := Lib.hid (S8.out.below b9)
  have C7 := Lib.hid (at_nums H9.out)
  clear b9 hg9 H9 HB8 S8
  go_wp2_with fail
  refine (EX.out _ _ _ _ _ S9.out.x.nums C7.out).mono ?_
  rintro e w10 ⟨rfl, b10⟩
  have HB10 := Lib.hid (below_then HB9.out b10)
  have S10 := Lib.hid (S9.out.below b10)
  clear b10 HB9 S9 C7
  go_wp2_with fail
  refine (TB.out _ ((HB.out.below HB10.out (Nat.le_refl _)).more HB10.out.size)).mono ?_
  rintro e w11 ⟨g11, rfl, hg11, H11, b11⟩
  have HB11 := Lib.hid (below_then HB10.out b11)
  have S11 := Lib.hid (S10.out.below b11)
  have C8 := Lib.hid (at_nums H11.out)
  clear b11 hg11 H11 HB10 S10
  go_wp2_with fail
  refine (EY.out _ _ _ _ _ S11.out.y.nums C8.out).mono ?_
  rintro e w12 ⟨rfl, b12⟩
  have HB12 := Lib.hid (below_then HB11.out b12)
  have S12 := Lib.hid (S11.out.below b12)
  clear b12 HB11 S11 C8
  go_wp2_with fail
  refine (MX.out _ _ _ _ _ S12.out.x).mono ?_
  rintro e w13 ⟨rfl, hm13, t13⟩
  have S13 := Lib.hid (S12.out.mx t13 hm13)
  have HB13 : Hid (Below w.heap.size w w13) := Lib.hid (HB12.out.trans (t13.below (by have := S12.out.o1; have := S12.out.o2; have := S12.out.o3; have := S12.out.o4; have := S12.out.o5; have := S12.out.o6; have := S12.out.o7; omega) HB12.out.size))
  clear t13 hm13 HB12 S12
  go_wp2_with fail
  refine (MY.out _ _ _ _ _ S13.out.y).mono ?_
  rintro e w14 ⟨rfl, hm14, t14⟩
  have S14 := Lib.hid (S13.out.my t14 hm14)
  have HB14 : Hid (Below w.heap.size w w14) := Lib.hid (HB13.out.trans (t14.below (by have := S13.out.o1; have := S13.out.o2; have := S13.out.o3; have := S13.out.o4; have := S13.out.o5; have := S13.out.o6; have := S13.out.o7; omega) HB13.out.size))
  clear t14 hm14 HB13 S13
  go_wp2_with fail
  refine (EA.out _ _ _ _ _ S14.out.p.nums (S14.out.a.more S14.out.s0)).mono ?_
  rintro e w15 ⟨rfl, b15⟩
  have HB15 := Lib.hid (below_then HB14.out b15)
  have S15 := Lib.hid (S14.out.below b15)
  clear b15 HB14 S14
  go_wp2_with fail
  refine (EB.out _ _ _ _ _ S15.out.q.nums (S15.out.b.more S15.out.s0)).mono ?_
  rintro e w16 ⟨rfl, b16⟩
  have HB16 := Lib.hid (below_then HB15.out b16)
  have S16 := Lib.hid (S15.out.below b16)
  clear b16 HB15 S15
  go_wp2_with fail
  refine (MP.out _ _ _ _ _ S16.out.p).mono ?_
  rintro e w17 ⟨rfl, hm17, t17⟩
  have S17 := Lib.hid (S16.out.mp t17 hm17)
  have HB17 : Hid (Below w.heap.size w w17) := Lib.hid (HB16.out.trans (t17.below (by have := S16.out.o1; have := S16.out.o2; have := S16.out.o3; have := S16.out.o4; have := S16.out.o5; have := S16.out.o6; have := S16.out.o7; omega) HB16.out.size))
  clear t17 hm17 HB16 S16
  go_wp2_with fail
  refine (MQ.out _ _ _ _ _ S17.out.q).mono ?_
  rintro e w18 ⟨rfl, hm18, t18⟩
  have S18 := Lib.hid (S17.out.mq t18 hm18)
  have HB18 : Hid (Below w.heap.size w w18) := Lib.hid (HB17.out.trans (t18.below (by have := S17.out.o1; have := S17.out.o2; have := S17.out.o3; have := S17.out.o4; have := S17.out.o5; have := S17.out.o6; have := S17.out.o7; omega) HB17.out.size))
  clear t18 hm18 HB17 S17
  go_wp2_with fail
  refine (HP.out _ _ _ _ S18.out.p.nums).mono ?_
  rintro e wq ⟨rfl, rfl⟩
  go_wp2_with fail
  refine (HQ.out _ _ _ _ S18.out.q.nums).mono ?_
  rintro e wq ⟨rfl, rfl⟩
  go_wp2_with fail
  refine (TA.out _ ((HA.out.below HB18.out (Nat.le_refl _)).more HB18.out.size)).mono ?_
  rintro e w19 ⟨g19, rfl, hg19, H19, b19⟩
  have HB19 := Lib.hid (below_then HB18.out b19)
  have S19 := Lib.hid (S18.out.below b19)
  have CA1 := Lib.hid (at_nums H19.out)
  clear b19 hg19 H19 HB18 S18
  go_wp2_with fail
  refine (TB.out _ ((HB.out.below HB19.out (Nat.le_refl _)).more HB19.out.size)).mono ?_
  rintro e w20 ⟨g20, rfl, hg20, H20, b20⟩
  have HB20 := Lib.hid (below_then HB19.out b20)
  have S20 := Lib.hid (S19.out.below b20)
  have CB1 := Lib.hid (at_nums H20.out)
  have CA2 := Lib.hid ((CA1.out.below b20 (Nat.le_refl _)).more b20.size)
  clear b20 hg20 H20 HB19 S19 CA1
  go_wp2_with fail
  refine (CI.out _ _ _ _ _ CA2.out CB1.out).mono ?_
  rintro e w21 ⟨A9, ca9, B9, cb9, mid9, rfl, hm1, hm2, OA9, OB9, b21⟩
  have HB21 := Lib.hid (below_then HB20.out b21)
  have S21 := Lib.hid (S20.out.below b21)
  have NA9 := Lib.hid OA9.out.nums
  have OB9' := OB9
  clear b21 HB20 S20 CA2 CB1 OA9 OB9 hm1 hm2
  go_wp2_with fail
  refine (EA.out _ _ _ _ _ NA9.out (S21.out.a.more S21.out.s0)).mono ?_
  rintro e w22 ⟨rfl, b22⟩
  have HB22 := Lib.hid (below_then HB21.out b22)
  have S22 := Lib.hid (S21.out.below b22)
  have NB9 := Lib.hid (OB9'.out.below b22).nums
  clear b22 HB21 S21 NA9 OB9'
  go_wp2_with fail
  refine (EB.out _ _ _ _ _ NB9.out (S22.out.b.more S22.out.s0)).mono ?_
  rintro e w23 ⟨rfl, b23⟩
  have HB23 := Lib.hid (below_then HB22.out b23)
  have S23 := Lib.hid (S22.out.below b23)
  clear b23 HB22 S22 NB9
  go_wp2_with fail
  refine (HP.out _ _ _ _ S23.out.p.nums).mono ?_
  rintro e wq ⟨rfl, rfl⟩
  go_wp2_with fail
  refine (HQ.out _ _ _ _ S23.out.q.nums).mono ?_
  rintro e wq ⟨rfl, rfl⟩
  go_wp2_with fail
  go_ret
  exact ⟨rfl, HB23.out⟩
theorem law (A : Option Addr) (n c : Nat) (f : Nat → Int) (B : Option Addr) (m c' : Nat) (h : Nat → Int) (sum : Int) (w : World) (hm : n ≤ maxLen) (hA : Nums w w.heap.size A n f) (hm' : m ≤ maxLen) (hB : Nums w w.heap.size B m h) (_ : (Lit.int .i64 sum).wf = true) :
    Calls Try.prog 11 #[.slice A n c, .slice B m c', .int .i64 sum] w fun e w' => e = .returned (.bool true) ∧ Below w.heap.size w w' := by
  unfold maxLen at hm hm'
  by_cases hbig : 1048576 < n
  · clear hA hB
    go_enter Try.func11, Try.ntmps11
    go_wp2_with fail
    go_ret
    exact ⟨rfl, Below.refl _ _⟩
  by_cases hbig2 : 1048576 < m
  · clear hA hB
    go_enter Try.func11, Try.ntmps11
    go_wp2_with fail
    go_ret
    exact ⟨rfl, Below.refl _ _⟩
  have hn : n ≤ 1048576 := by omega
  have hmm : m ≤ 1048576 := by omega
  have h20 : sqC n m f h sum = 0 → n ≤ 20 ∧ m ≤ 20 := fun hz => by
    have hq : sq n m f h sum = true := by
      cases hq : sq n m f h sum
      · unfold sqC at hz; rw [hq] at hz; simp at hz
      · rfl
    exact ⟨(sq_iff hq).1.1.1.2, (sq_iff hq).2.1.1.2⟩
  exact core A n c f B m c' h sum hn hmm _ _ (by split <;> omega) (by split <;> omega) _ _ _ w hA hB (Lib.hid fun A c B c' w h1 h2 => spec_sm A B n c m c' f h sum hn hmm w h1 h2) (Lib.hid fun A c B c' w h1 h2 => impl_sm A B n c m c' f h sum hn hmm w h1 h2)
end Go.Proofs.Ytaoknbhpjnileab.Sq

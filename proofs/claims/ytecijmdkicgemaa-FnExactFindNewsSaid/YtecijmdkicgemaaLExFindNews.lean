/- FnExactFindNews: the law's own walk. -/
import Derived.Test.YtecijmdkicgemaaFm
import Derived.Test.YtecijmdkicgemaaFzs
namespace Go.Proofs.Ytecijmdkicgemaa
open Go.RowKit
set_option linter.unusedVariables false
/-- What stands behind the program's answer. -/
structure LN (W5 : World) (g6 g7 n7 n8 : Nat) (b0 : Option Addr) (bc0 : Nat) (b1 : Option Addr) (bc1 : Nat) (b2 : Option Addr) (bc2 : Nat) (l m : List FO) (G : List ByteArray) (C : List FO) (A : List Int) (W : World) : Prop where
  hb : Below W5.heap.size W5 W
  z6 : IsFo W (some ⟨g6, 0, none⟩) l
  z7 : IsFo W (some ⟨g7, 0, none⟩) m
  f6 : FB W g6 (l.length * 2)
  f7 : FB W g7 (m.length * 2)
  t : OT W n7 (.slice b0 G.length bc0) (.slice b1 C.length bc1) (.slice b2 A.length bc2) G C A
  c : CL W n8 #[.slice b0 G.length bc0, .slice b1 C.length bc1, .slice b2 A.length bc2]
theorem LN.on {W5 : World} {g6 g7 n7 n8 : Nat} {b0 : Option Addr} {bc0 : Nat} {b1 : Option Addr} {bc1 : Nat} {b2 : Option Addr} {bc2 : Nat} {l m : List FO} {G : List ByteArray} {C : List FO} {A : List Int} {W W' : World} (h : LN W5 g6 g7 n7 n8 b0 bc0 b1 bc1 b2 bc2 l m G C A W) (hb : Below W.heap.size W W') : LN W5 g6 g7 n7 n8 b0 bc0 b1 bc1 b2 bc2 l m G C A W' :=
  ⟨bstep h.hb hb, h.z6.below hb, h.z7.below hb, h.f6.below hb, h.f7.below hb, h.t.on hb, h.c.below hb⟩
theorem OT.iv {w : World} {B : Nat} {b0 : Option Addr} {n0 bc0 : Nat} {b1 : Option Addr} {n1 bc1 : Nat} {b2 : Option Addr} {n2 bc2 : Nat} {G : List ByteArray} {C : List FO} {A : List Int} (h : OT w B (.slice b0 n0 bc0) (.slice b1 n1 bc1) (.slice b2 n2 bc2) G C A) : IT w b0 b1 b2 G C A := by
  obtain ⟨a0, c0, a1, c1, a2, c2, e0, e1, e2, T⟩ := h.it
  simp only [Value.slice.injEq] at e0 e1 e2
  rw [e0.1, e1.1, e2.1]; exact T
set_option maxRecDepth 100000 in
set_option maxHeartbeats 32000000 in
theorem lawExFindNews (a : Option Addr) (cap : Nat) (l : List FO) (a' : Option Addr) (cap' : Nat) (m : List FO) (w : World) (hw : FWide l) (h : IsFo w a l) (hw' : FWide m) (h' : IsFo w a' m) :
    Calls Try.prog 6 #[.slice a l.length cap, .slice a' m.length cap'] w fun e w' => e = .returned (.bool true) ∧ Below w.heap.size w w' := by
  have HF : Hid (IsFo w a l) := h
  have HM : Hid (IsFo w a' m) := h'
  obtain ⟨r, hr⟩ : ∃ r : Bool, r = true ↔ FOk l := by classical exact ⟨decide _, decide_eq_true_iff⟩
  obtain ⟨q, hq⟩ : ∃ q : Bool, q = true ↔ FOk m := by classical exact ⟨decide _, decide_eq_true_iff⟩
  have HR : Hid (r = true ↔ FOk l) := hr
  have HQ : Hid (q = true ↔ FOk m) := hq
  obtain ⟨G, hG⟩ : ∃ G, G = (if (r && q) = true then goneL l m l.length else []) := ⟨_, rfl⟩
  obtain ⟨C, hC⟩ : ∃ C, C = (if (r && q) = true then comeL m l m.length else []) := ⟨_, rfl⟩
  obtain ⟨A, hA⟩ : ∃ A, A = (if (r && q) = true then atL m l m.length else []) := ⟨_, rfl⟩
  have lG : G.length ≤ 12 := by
    rw [hG]; split
    · rename_i hh; rw [Bool.and_eq_true] at hh; exact Nat.le_trans (goneL_len _ _ _) (hr.1 hh.1).len
    · simp
  have lC : C.length ≤ 12 := by
    rw [hC]; split
    · rename_i hh; rw [Bool.and_eq_true] at hh; exact Nat.le_trans (comeL_len _ _ _) (hq.1 hh.2).len
    · simp
  have lA : A.length ≤ 12 := by
    rw [hA]; split
    · rename_i hh; rw [Bool.and_eq_true] at hh; exact Nat.le_trans (atL_len _ _ _) (hq.1 hh.2).len
    · simp
  have HG : Hid (G = (if (r && q) = true then goneL l m l.length else [])) := hG
  have HC : Hid (C = (if (r && q) = true then comeL m l m.length else [])) := hC
  have HA : Hid (A = (if (r && q) = true then atL m l m.length else [])) := hA
  clear h h' hr hq hG hC hA
  go_enter Try.func6, Try.ntmps6
  go_wp2_with fail
  refine (lawSzFoundsAt a cap l 1048576 w (by omega) (by omega) HF.out hw).mono ?_
  rintro e w1 ⟨⟨v, rfl, hv⟩, b1⟩
  by_cases hv0 : 0 ≤ v
  rotate_left
  · clear hv
    have hv1 : v < 0 := by omega
    go_wp2
    go_ret
    exact ⟨rfl, b1⟩
  have hv1 : ¬ v < 0 := by omega
  have hv2 : v ≤ 1048576 := by rcases hv with hv | hv; exact absurd hv hv1; exact hv.2.1
  have HSL : Hid (FSmall l) := by rcases hv with hv | hv; exact absurd hv hv1; exact hv.2.2
  clear hv
  go_wp2_with fail
  refine (lawSzFoundsAt a' cap' m v w1 hv0 hv2 (HM.out.below b1) hw').mono ?_
  rintro e w2 ⟨⟨v2, rfl, hv⟩, b2⟩
  have B2 := bstep b1 b2
  by_cases hu0 : 0 ≤ v2
  rotate_left
  · clear hv
    have hv1 : v2 < 0 := by omega
    go_wp2
    go_ret
    exact ⟨rfl, B2⟩
  have hu1 : ¬ v2 < 0 := by omega
  have HSM : Hid (FSmall m) := by rcases hv with hv | hv; exact absurd hv hu1; exact hv.2.2
  have hll : l.length ≤ 2000000 := by have := HSL.out.1; omega
  have hml : m.length ≤ 2000000 := by have := HSM.out.1; omega
  clear hv hw hw' b1 b2
  go_wp2_with fail
  refine (lawToFoundsF a cap l w2 (HF.out.below B2) hll).mono ?_
  rintro e w3 ⟨rfl, Z3, b3, _⟩
  have B3 := bstep B2 b3
  go_wp2_with fail
  refine (lawToFoundsF a' cap' m w3 (HM.out.below B3) hml).mono ?_
  rintro e w4 ⟨rfl, Z4, b4, _⟩
  have B4 := bstep B3 b4
  go_wp2_with fail
  refine (specNews _ l.length l _ m.length m w4 (Z3.below b4) Z4 HSL.out HSM.out r q HR.out HQ.out).mono ?_
  rintro e w5 ⟨⟨v, rfl, v0, v1, v2, rfl, O5⟩, b5⟩
  rw [← HG.out, ← HC.out, ← HA.out] at O5
  obtain ⟨a0, ac0, a1, ac1, a2, ac2, rfl, rfl, rfl, T5⟩ := O5.it
  have B5 := bstep B4 b5
  have HB5 : Hid (Below w.heap.size w (w5.alloc (.cells #[.slice a0 G.length ac0, .slice a1 C.length ac1, .slice a2 A.length ac2] 37))) := B5.alloc B5.size _
  have ha5 : Below w5.heap.size w5 (w5.alloc (.cells #[.slice a0 G.length ac0, .slice a1 C.length ac1, .slice a2 A.length ac2] 37)) := (Below.refl _ _).alloc (Nat.le_refl _) _
  have hx5 : CL (w5.alloc (.cells #[.slice a0 G.length ac0, .slice a1 C.length ac1, .slice a2 A.length ac2] 37)) w5.heap.size #[.slice a0 G.length ac0, .slice a1 C.length ac1, .slice a2 A.length ac2] := CL.new _ _ _
  have ht5 : IT (w5.alloc (.cells #[.slice a0 G.length ac0, .slice a1 C.length ac1, .slice a2 A.length ac2] 37)) a0 a1 a2 G C A := T5.on ha5
  have HX5 : Hid (∀ W, Below (w5.alloc (.cells #[.slice a0 G.length ac0, .slice a1 C.length ac1, .slice a2 A.length ac2] 37)).heap.size (w5.alloc (.cells #[.slice a0 G.length ac0, .slice a1 C.length ac1, .slice a2 A.length ac2] 37)) W → CL W w5.heap.size #[.slice a0 G.length ac0, .slice a1 C.length ac1, .slice a2 A.length ac2] ∧ IT W a0 a1 a2 G C A ∧ IsFo W a l ∧ IsFo W a' m) := fun W hW => ⟨hx5.below hW, ht5.on hW, HF.out.below (HB5.out.trans (hW.mono HB5.out.size)), HM.out.below (HB5.out.trans (hW.mono HB5.out.size))⟩
  clear ha5 hx5 ht5 O5 T5 B2 B3 B4 B5 b3 b4 b5 Z3 Z4
  go_wp2_with fail
  generalize w5.alloc (.cells #[.slice a0 G.length ac0, .slice a1 C.length ac1, .slice a2 A.length ac2] 37) = W5 at HB5 HX5 ⊢
  generalize w5.heap.size = n5 at HX5 ⊢
  refine (lawToFoundsF a cap l W5 (HX5.out _ (Below.refl _ _)).2.2.1 hll).mono ?_
  rintro e w6 ⟨rfl, Z6, b6, F6⟩
  obtain ⟨g6, hg6⟩ : ∃ g6, g6 = W5.heap.size := ⟨_, rfl⟩
  rw [← hg6] at Z6 F6 ⊢
  have H6 : Hid (g6 = W5.heap.size) := hg6
  clear hg6
  go_wp2_with fail
  refine (lawToFoundsF a' cap' m w6 (HX5.out _ b6).2.2.2 hml).mono ?_
  rintro e w7 ⟨rfl, Z7, b7, F7⟩
  obtain ⟨g7, hg7⟩ : ∃ g7, g7 = w6.heap.size := ⟨_, rfl⟩
  rw [← hg7] at Z7 F7 ⊢
  have H7 : Hid (g7 = w6.heap.size ∧ W5.heap.size < w6.heap.size ∧ w6.heap.size < w7.heap.size) := ⟨hg7, by rw [← H6.out]; exact F6.lt, by rw [← hg7]; exact F7.lt⟩
  have B7 : Hid (Below W5.heap.size W5 w7) := bstep b6 b7
  clear hg7
  go_wp2_with fail
  refine (implNews _ l.length l _ m.length m w7 (Z6.below b7) Z7 HSL.out HSM.out (Nat.le_refl _) (Nat.le_refl _) r q HR.out HQ.out).mono ?_
  rintro e w8 ⟨⟨v, rfl, v0, v1, v2, rfl, O8⟩, b8⟩
  rw [← HG.out, ← HC.out, ← HA.out] at O8
  obtain ⟨b0, bc0, b1, bc1, b2, bc2, rfl, rfl, rfl, T8⟩ := O8.it
  have ha8 : Below w8.heap.size w8 (w8.alloc (.cells #[.slice b0 G.length bc0, .slice b1 C.length bc1, .slice b2 A.length bc2] 37)) := (Below.refl _ _).alloc (Nat.le_refl _) _
  have K8 : LN W5 g6 g7 w7.heap.size w8.heap.size b0 bc0 b1 bc1 b2 bc2 l m G C A (w8.alloc (.cells #[.slice b0 G.length bc0, .slice b1 C.length bc1, .slice b2 A.length bc2] 37)) := ⟨bstep (bstep B7.out b8) ha8, ((Z6.below b7).below b8).below ha8, (Z7.below b8).below ha8, ((F6.below b7).below b8).below ha8, (F7.below b8).below ha8, O8.on ha8, CL.new _ _ _⟩
  have HK8 : Hid (LN W5 g6 g7 w7.heap.size w8.heap.size b0 bc0 b1 bc1 b2 bc2 l m G C A (w8.alloc (.cells #[.slice b0 G.length bc0, .slice b1 C.length bc1, .slice b2 A.length bc2] 37))) := K8
  have H8 : Hid (w7.heap.size ≤ w8.heap.size) := b8.size
  have X8 := (HX5.out _ (bstep B7.out b8)).1
  have x0 : World.cell? w8 ⟨n5, 0, none⟩ = some (.slice a0 G.length ac0) := (X8.2 0 _ rfl).1
  have x1 : World.cell? w8 ⟨n5, 1, none⟩ = some (.slice a1 C.length ac1) := (X8.2 1 _ rfl).1
  have x2 : World.cell? w8 ⟨n5, 2, none⟩ = some (.slice a2 A.length ac2) := (X8.2 2 _ rfl).1
  have hn5 : n5 < w8.heap.size := X8.1
  have HL8 : Hid ((∀ x, (Value.slice b0 G.length bc0).ownBlock = some x → x < w8.heap.size) ∧ (∀ x, (Value.slice b1 C.length bc1).ownBlock = some x → x < w8.heap.size) ∧ (∀ x, (Value.slice b2 A.length bc2).ownBlock = some x → x < w8.heap.size)) := ⟨fun x hx => (World.ownsRow.lt O8.a x hx).2, fun x hx => (World.ownsRow.lt O8.b x hx).2, fun x hx => (World.ownsRow.lt O8.c x hx).2⟩
  clear O8 T8 ha8 K8 b6 b7 b8 Z6 Z7 F6 F7 X8 B7
  go_wp2_with fail
  generalize w8.alloc (.cells #[.slice b0 G.length bc0, .slice b1 C.length bc1, .slice b2 A.length bc2] 37) = W8 at HK8 ⊢
  clear x0 x1 x2
  generalize w8.heap.size = n8 at HK8 H8 HL8 hn5 ⊢
  generalize w7.heap.size = n7 at HK8 H8 H7 ⊢
  refine (lawEqTurned b0 b1 b2 a0 a1 a2 bc0 bc1 bc2 ac0 ac1 ac2 G C A W8 HK8.out.t.iv (HX5.out _ HK8.out.hb).2.1 (by omega) (by omega) (by omega)).mono ?_
  rintro e w9 ⟨rfl, c9⟩
  have K9 := HK8.out.on c9
  clear c9 HK8
  go_wp2_with fail
  refine (lawToFoundsF a cap l w9 (HX5.out _ K9.hb).2.2.1 hll).mono ?_
  rintro e w10 ⟨rfl, Z10, c10, _⟩
  have K10 := K9.on c10
  clear c10 K9
  go_wp2_with fail
  refine (lawEqFounds _ _ _ _ l w10 K10.z6 Z10 hll).mono ?_
  rintro e w11 ⟨rfl, c11⟩
  have K11 := K10.on c11
  clear c11 K10 Z10
  go_wp2_with fail
  refine (lawToFoundsF a' cap' m w11 (HX5.out _ K11.hb).2.2.2 hml).mono ?_
  rintro e w12 ⟨rfl, Z12, c12, _⟩
  have K12 := K11.on c12
  clear c12 K11
  go_wp2_with fail
  refine (lawEqFounds _ _ _ _ m w12 K12.z7 Z12 hml).mono ?_
  rintro e w13 ⟨rfl, c13⟩
  have K13 := K12.on c13
  clear c13 K12 Z12
  go_wp2_with fail
  refine (lawMarkFounds g6 l.length l.length 1 w13 K13.f6 (by omega) (by omega) (by omega)).mono ?_
  rintro e w14 ⟨rfl, _, G14⟩
  have B14 : Below W5.heap.size W5 w14 := K13.hb.trans (grown_below G14 K13.hb.size (fun x hx => by cases hx; have := H6.out; omega))
  have T14 := K13.t.grown G14 (by have := H6.out; have := H7.out; omega)
  have C14 := K13.c.grown G14 (fun e => by cases e; have := H6.out; have := H7.out; have := H8.out; omega)
  have F14 := K13.f7.grown G14 (fun e => by cases e; have := H6.out; have := H7.out; omega)
  obtain ⟨p, hp⟩ : ∃ p, p = 1 + l.length * 2 := ⟨_, rfl⟩
  rw [← hp]
  have hpb : 0 < p ∧ p ≤ 5000000 := by omega
  obtain ⟨hpb1, hpb2⟩ := hpb
  clear hp K13 G14
  go_wp2_with fail
  refine (lawMarkFounds g7 m.length m.length p w14 F14 (by omega) (by omega) (by omega)).mono ?_
  rintro e w15 ⟨rfl, _, G15⟩
  have B15 : Below W5.heap.size W5 w15 := B14.trans (grown_below G15 B14.size (fun x hx => by cases hx; have := H7.out; omega))
  have T15 := T14.grown G15 (by have := H7.out; omega)
  have C15 := C14.grown G15 (fun e => by cases e; have := H7.out; have := H8.out; omega)
  obtain ⟨p2, hp2⟩ : ∃ p2, p2 = p + m.length * 2 := ⟨_, rfl⟩
  rw [← hp2]
  have hq0 : ¬ (p2 : Int) < 0 := by omega
  clear hp2 B14 T14 C14 F14 G15
  have X15 := (HX5.out _ B15).1
  have x0 : World.cell? w15 ⟨n5, 0, none⟩ = some (.slice a0 G.length ac0) := (X15.2 0 _ rfl).1
  have x1 : World.cell? w15 ⟨n5, 1, none⟩ = some (.slice a1 C.length ac1) := (X15.2 1 _ rfl).1
  have x2 : World.cell? w15 ⟨n5, 2, none⟩ = some (.slice a2 A.length ac2) := (X15.2 2 _ rfl).1
  have y0 : World.cell? w15 ⟨n8, 0, none⟩ = some (.slice b0 G.length bc0) := (C15.2 0 _ rfl).1
  have y1 : World.cell? w15 ⟨n8, 1, none⟩ = some (.slice b1 C.length bc1) := (C15.2 1 _ rfl).1
  have y2 : World.cell? w15 ⟨n8, 2, none⟩ = some (.slice b2 A.length bc2) := (C15.2 2 _ rfl).1
  have HT15 := Hid.of T15
  have HB15 := Hid.of B15
  have HC15 := Hid.of C15
  clear T15 B15 C15 X15
  go_wp2_with fail
  refine (lawEqTurned b0 b1 b2 a0 a1 a2 bc0 bc1 bc2 ac0 ac1 ac2 G C A w15 HT15.out.iv (HX5.out _ HB15.out).2.1 (by omega) (by omega) (by omega)).mono ?_
  rintro e w16 ⟨rfl, c16⟩
  have HT16 := Hid.of (HT15.out.on c16)
  have HB16 : Hid (Below W5.heap.size W5 w16) := bstep HB15.out c16
  have C16 := HC15.out.below c16
  have HC16 := Hid.of C16
  clear x0 x1 x2 y0 y1 y2 c16 HT15 HB15 HC15
  have y0 : World.cell? w16 ⟨n8, 0, none⟩ = some (.slice b0 G.length bc0) := (C16.2 0 _ rfl).1
  have y1 : World.cell? w16 ⟨n8, 1, none⟩ = some (.slice b1 C.length bc1) := (C16.2 1 _ rfl).1
  have y2 : World.cell? w16 ⟨n8, 2, none⟩ = some (.slice b2 A.length bc2) := (C16.2 2 _ rfl).1
  have hn7 : n7 ≤ w16.heap.size := by have := C16.1; have := H8.out; omega
  clear C16
  go_wp2_with fail
  refine (lawMarkTurned n7 b0 bc0 b1 bc1 b2 bc2 G C A 1 w16 HT16.out hn7 (by omega) (by omega) (by omega) (by omega) (by omega)).mono ?_
  rintro e w17 ⟨rfl, I17, b17, N17⟩
  have HI17 := Hid.of I17
  have HB17 : Hid (Below W5.heap.size W5 w17) := HB16.out.trans (b17.mono (by have := H7.out; omega))
  have C17 := N17 n8 _ HC16.out (fun e => by have := HL8.out.1 _ e; omega) (fun e => by have := HL8.out.2.1 _ e; omega) (fun e => by have := HL8.out.2.2 _ e; omega)
  have HC17 := Hid.of C17
  clear y0 y1 y2 I17 b17 N17 HB16 HC16 HT16 hn7
  obtain ⟨p3, hp3⟩ : ∃ p3, p3 = 1 + G.length + C.length * 2 + A.length := ⟨_, rfl⟩
  have HP3 : Hid (p3 = 1 + G.length + C.length * 2 + A.length) := hp3
  have hq3 : ¬ (p3 : Int) < 0 := by omega
  rw [← hp3]
  clear hp3
  have y0 : World.cell? w17 ⟨n8, 0, none⟩ = some (.slice b0 G.length bc0) := (C17.2 0 _ rfl).1
  have y1 : World.cell? w17 ⟨n8, 1, none⟩ = some (.slice b1 C.length bc1) := (C17.2 1 _ rfl).1
  have y2 : World.cell? w17 ⟨n8, 2, none⟩ = some (.slice b2 A.length bc2) := (C17.2 2 _ rfl).1
  clear C17
  go_wp2_with fail
  refine (lawHeldTurned b0 b1 b2 bc0 bc1 bc2 G.length C.length A.length 1 w17 HI17.out (by omega) (by omega) (by omega) (by omega) (by omega)).mono ?_
  rintro e w18 ⟨rfl, b18⟩
  have HI18 := Hid.of (HI17.out.on b18)
  have HB18 : Hid (Below W5.heap.size W5 w18) := bstep HB17.out b18
  have HC18 := Hid.of (HC17.out.below b18)
  rw [← HP3.out]
  clear y0 y1 y2 b18 HI17 HB17 HC17
  go_wp2_with fail
  refine (lawToFoundsF a cap l w18 (HX5.out _ HB18.out).2.2.1 hll).mono ?_
  rintro e w19 ⟨rfl, Z19, b19, _⟩
  go_wp2_with fail
  refine (lawToFoundsF a' cap' m w19 (HX5.out _ (bstep HB18.out b19)).2.2.2 hml).mono ?_
  rintro e w20 ⟨rfl, Z20, b20, _⟩
  go_wp2_with fail
  refine (implNews _ l.length l _ m.length m w20 (Z19.below b20) Z20 HSL.out HSM.out (Nat.le_refl _) (Nat.le_refl _) r q HR.out HQ.out).mono ?_
  rintro e w21 ⟨⟨v, rfl, v0, v1, v2, rfl, O21⟩, b21⟩
  rw [← HG.out, ← HC.out, ← HA.out] at O21
  obtain ⟨d0, dc0, d1, dc1, d2, dc2, rfl, rfl, rfl, T21⟩ := O21.it
  have b22 := bstep (bstep b19 b20) b21
  have B21 := bstep HB18.out b22
  have HA21 : Hid (Below w21.heap.size w21 (w21.alloc (.cells #[.slice d0 G.length dc0, .slice d1 C.length dc1, .slice d2 A.length dc2] 37))) := (Below.refl _ _).alloc (Nat.le_refl _) _
  have HT21 := Hid.of (T21.on HA21.out)
  have HI21 := Hid.of ((HI18.out.on b22).on HA21.out)
  have HC21 := Hid.of ((HC18.out.below b22).below HA21.out)
  have HB21 : Hid (Below W5.heap.size W5 (w21.alloc (.cells #[.slice d0 G.length dc0, .slice d1 C.length dc1, .slice d2 A.length dc2] 37))) := bstep B21 HA21.out
  have X21 := (HX5.out _ B21).1
  have x0 : World.cell? w21 ⟨n5, 0, none⟩ = some (.slice a0 G.length ac0) := (X21.2 0 _ rfl).1
  have x1 : World.cell? w21 ⟨n5, 1, none⟩ = some (.slice a1 C.length ac1) := (X21.2 1 _ rfl).1
  have x2 : World.cell? w21 ⟨n5, 2, none⟩ = some (.slice a2 A.length ac2) := (X21.2 2 _ rfl).1
  have hn21 : n5 < w21.heap.size := X21.1
  clear O21 T21 b19 b20 b21 b22 B21 X21 Z19 Z20 HI18 HB18 HC18
  go_wp2_with fail
  generalize w21.alloc (.cells #[.slice d0 G.length dc0, .slice d1 C.length dc1, .slice d2 A.length dc2] 37) = W21 at HT21 HI21 HC21 HB21 HA21 ⊢
  clear x0 x1 x2
  refine (lawEqTurned d0 d1 d2 a0 a1 a2 dc0 dc1 dc2 ac0 ac1 ac2 G C A W21 HT21.out (HX5.out _ HB21.out).2.1 (by omega) (by omega) (by omega)).mono ?_
  rintro e w22 ⟨rfl, c22⟩
  have HI22 := Hid.of (HI21.out.on c22)
  have C22 := HC21.out.below c22
  have HB22 : Hid (Below W5.heap.size W5 w22) := bstep HB21.out c22
  have y0 : World.cell? w22 ⟨n8, 0, none⟩ = some (.slice b0 G.length bc0) := (C22.2 0 _ rfl).1
  have y1 : World.cell? w22 ⟨n8, 1, none⟩ = some (.slice b1 C.length bc1) := (C22.2 1 _ rfl).1
  have y2 : World.cell? w22 ⟨n8, 2, none⟩ = some (.slice b2 A.length bc2) := (C22.2 2 _ rfl).1
  clear C22 c22 HI21 HC21 HB21 HT21 HA21
  go_wp2_with fail
  refine (lawHeldTurned b0 b1 b2 bc0 bc1 bc2 G.length C.length A.length 1 w22 HI22.out (by omega) (by omega) (by omega) (by omega) (by omega)).mono ?_
  rintro e w23 ⟨rfl, b23⟩
  have Bf := HB5.out.trans ((bstep HB22.out b23).mono HB5.out.size)
  rw [← HP3.out]
  clear y0 y1 y2 b23
  go_wp2
  go_ret
  exact ⟨rfl, Bf⟩
end Go.Proofs.Ytecijmdkicgemaa

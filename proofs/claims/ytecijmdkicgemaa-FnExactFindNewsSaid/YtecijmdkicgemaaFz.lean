/- What turned between two times of finding: the program's. -/
import Derived.Test.YtecijmdkicgemaaFy
import Derived.Maps.AppendAt
namespace Go.Proofs.Ytecijmdkicgemaa
open Go.RowKit
set_option linter.unusedVariables false
theorem foInfo : (Try.prog.info? 71).map (fun i => (i.zero, i.size, i.bytes)) = some (some (.agg #[.string ⟨#[]⟩, .int .i64 0]), 2, 24) := by kernel_rfl
/-- What turned, as it comes back. -/
def Turns (w W : World) (v : Value) (G : List ByteArray) (C : List FO) (A : List Int) : Prop := ∃ v0 v1 v2, v = .agg #[v0, v1, v2] ∧ OT W w.heap.size v0 v1 v2 G C A
theorem OT.base {w : World} {B B' : Nat} {v0 v1 v2 : Value} {G : List ByteArray} {C : List FO} {A : List Int} (h : OT w B v0 v1 v2 G C A) (hb : B' ≤ B) : OT w B' v0 v1 v2 G C A := ⟨row_base h.a hb, row_base h.b hb, row_base h.c hb⟩
theorem OT.none (w : World) (B : Nat) : OT w B (.slice none 0 0) (.slice none 0 0) (.slice none 0 0) [] [] [] := ⟨⟨rfl, .inl ⟨rfl, rfl⟩⟩, ⟨rfl, .inl ⟨rfl, rfl⟩⟩, ⟨rfl, .inl ⟨rfl, rfl⟩⟩⟩
set_option maxRecDepth 100000 in
set_option maxHeartbeats 16000000 in
theorem implNews (a : Option Addr) (cap : Nat) (l : List FO) (a' : Option Addr) (cap' : Nat) (m : List FO) (w : World) (h : IsFo w a l) (h' : IsFo w a' m) (hs : FSmall l) (hs' : FSmall m) (hc : l.length ≤ cap) (hc' : m.length ≤ cap') (r q : Bool) (hr : r = true ↔ FOk l) (hq : q = true ↔ FOk m) :
    Calls Try.prog 20 #[.slice a l.length cap, .slice a' m.length cap'] w fun e w' => (∃ v, e = .returned v ∧ Turns w w' v (if (r && q) = true then goneL l m l.length else []) (if (r && q) = true then comeL m l m.length else []) (if (r && q) = true then atL m l m.length else [])) ∧ Below w.heap.size w w' := by
  obtain ⟨i0, hi, hz0, hz1, hz2⟩ := info_parts strInfoF
  obtain ⟨i1, hi1, hz10, hz11, hz12⟩ := info_parts foInfo
  obtain ⟨i2, hi2, hz20, hz21, hz22⟩ := info_parts intInfo
  have HF : Hid (IsFo w a l) := h
  have HM : Hid (IsFo w a' m) := h'
  have HR : Hid (r = true ↔ FOk l) := hr
  have HQ : Hid (q = true ↔ FOk m) := hq
  have HS : Hid (FSmall l) := hs
  have HS' : Hid (FSmall m) := hs'
  have hr0 : CL (w.alloc (.cells #[.slice none 0 0, .slice none 0 0, .slice none 0 0] 37)) w.heap.size #[.slice none 0 0, .slice none 0 0, .slice none 0 0] := CL.new _ _ _
  have HC0 : Hid (CL (w.alloc (.cells #[.slice none 0 0, .slice none 0 0, .slice none 0 0] 37)) w.heap.size #[.slice none 0 0, .slice none 0 0, .slice none 0 0]) := hr0
  have HB0 : Hid (Below w.heap.size w (w.alloc (.cells #[.slice none 0 0, .slice none 0 0, .slice none 0 0] 37))) := (Below.refl _ _).alloc (Nat.le_refl _) _
  clear h h' hr hq hs hs' hr0
  go_enter Try.func20, Try.ntmps20
  go_wp2_with fail
  generalize w.alloc (.cells #[.slice none 0 0, .slice none 0 0, .slice none 0 0] 37) = W0 at HC0 HB0 ⊢
  refine (implFoundOk a cap l W0 (HF.out.below HB0.out) HS.out hc r HR.out).mono ?_
  rintro e w1 ⟨rfl, b1⟩
  have HC1 := Hid.of (HC0.out.below b1)
  have HB1 : Hid (Below w.heap.size w w1) := bstep HB0.out b1
  clear b1
  cases r with
  | false =>
    have HC := HC1
    have HBF := HB1
    have K := HC.out
    have x0 : World.cell? w1 ⟨w.heap.size, 0, none⟩ = some (.slice none 0 0) := (K.2 0 _ rfl).1
    have x1 : World.cell? w1 ⟨w.heap.size, 1, none⟩ = some (.slice none 0 0) := (K.2 1 _ rfl).1
    have x2 : World.cell? w1 ⟨w.heap.size, 2, none⟩ = some (.slice none 0 0) := (K.2 2 _ rfl).1
    have f0 : World.frozen? w1 ⟨w.heap.size, 0, none⟩ = false := (K.2 0 _ rfl).2
    have f1 : World.frozen? w1 ⟨w.heap.size, 1, none⟩ = false := (K.2 1 _ rfl).2
    have f2 : World.frozen? w1 ⟨w.heap.size, 2, none⟩ = false := (K.2 2 _ rfl).2
    clear K
    go_wp2
    refine bodyPost_ret (v := .agg #[.slice none 0 0, .slice none 0 0, .slice none 0 0]) (by simp [results, Try.results20, go_sem, *]) rfl ⟨⟨_, rfl, _, _, _, rfl, OT.none _ _⟩, ?_⟩
    repeat (first | with_reducible exact HBF.out | refine Below.setCell ?_ (by first | (simp; done) | (simp; omega)) _)
  | true =>
    go_wp2_with fail
    refine (implFoundOk a' cap' m w1 (HM.out.below HB1.out) HS'.out hc' q HQ.out).mono ?_
    rintro e w2 ⟨rfl, b2⟩
    have HC2 := Hid.of (HC1.out.below b2)
    have HB2 : Hid (Below w.heap.size w w2) := bstep HB1.out b2
    clear b2
    cases q with
    | false =>
      have HC := HC2
      have HBF := HB2
      have K := HC.out
      have x0 : World.cell? w2 ⟨w.heap.size, 0, none⟩ = some (.slice none 0 0) := (K.2 0 _ rfl).1
      have x1 : World.cell? w2 ⟨w.heap.size, 1, none⟩ = some (.slice none 0 0) := (K.2 1 _ rfl).1
      have x2 : World.cell? w2 ⟨w.heap.size, 2, none⟩ = some (.slice none 0 0) := (K.2 2 _ rfl).1
      have f0 : World.frozen? w2 ⟨w.heap.size, 0, none⟩ = false := (K.2 0 _ rfl).2
      have f1 : World.frozen? w2 ⟨w.heap.size, 1, none⟩ = false := (K.2 1 _ rfl).2
      have f2 : World.frozen? w2 ⟨w.heap.size, 2, none⟩ = false := (K.2 2 _ rfl).2
      clear K
      go_wp2
      refine bodyPost_ret (v := .agg #[.slice none 0 0, .slice none 0 0, .slice none 0 0]) (by simp [results, Try.results20, go_sem, *]) rfl ⟨⟨_, rfl, _, _, _, rfl, OT.none _ _⟩, ?_⟩
      repeat (first | with_reducible exact HBF.out | refine Below.setCell ?_ (by first | (simp; done) | (simp; omega)) _)
    | true =>
      have FL : FOk l := by first | exact HR.out.1 rfl | exact HR.out.1 trivial
      have FM : FOk m := by first | exact HQ.out.1 rfl | exact HQ.out.1 trivial
      have ll := FL.len
      have lm := FM.len
      have K2 : TU w w.heap.size w2.heap.size (.slice none 0 0) (.slice none 0 0) (.slice none 0 0) [] [] [] (w2.alloc (.cells #[.slice none 0 0, .slice none 0 0, .slice none 0 0] 37)) := ⟨HC2.out.below ((Below.refl _ _).alloc (Nat.le_refl _) _), CL.new _ _ _, OT.none _ _, HB2.out.alloc HB2.out.size _, Nat.le_refl _, HC2.out.1⟩
      clear FL FM HR HQ
      have hX : w.heap.size < w2.heap.size := HC2.out.1
      go_wp2
      generalize w2.alloc (.cells #[.slice none 0 0, .slice none 0 0, .slice none 0 0] 37) = W3 at K2 ⊢
      generalize w2.heap.size = X at K2 hX ⊢
      clear HC0 HB0 HC1 HB1 HC2 HB2
      go_loopw [7, 21] (fun _ i wr => ∃ (k : Nat) (v0 : Value), k ≤ l.length ∧ i = .int .i64 k ∧ TU w w.heap.size X v0 (.slice none 0 0) (.slice none 0 0) (goneL l m k) [] [] wr) (fun _ i _ => l.length - (intOf i).toNat)
      case atStart => exact ⟨0, _, by omega, rfl, K2⟩
      case round =>
        obtain ⟨k, v0, hk, rfl, K⟩ := hrel
        obtain ⟨a0, c0, _, _, _, _, rfl, _, _⟩ := K.at
        by_cases hlt : k < l.length
        · have G1 := HF.out.below K.hb
          rcases G1 with G1 | ⟨b, o, rfl, hbs, hcc⟩
          · rw [G1] at hlt; simp at hlt
          obtain ⟨e0, e1⟩ := hcc k hlt
          have hgl := goneL_len l m k
          have hi1' : (k : Int) < (l.length : Int) := by omega
          have hi0' : (0 : Int) ≤ (k : Int) := by omega
          have HK : Hid (TU w w.heap.size X (.slice a0 (goneL l m k).length c0) (.slice none 0 0) (.slice none 0 0) (goneL l m k) [] [] wr) := K
          have hXr : X < wr.heap.size := K.c.1
          have B8 : Hid (Below wr.heap.size wr (wr.alloc (.cells #[.string (fS l k), .int .i64 (fA l k)] 71))) := (Below.refl _ _).alloc (Nat.le_refl _) _
          clear hcc K
          cases he : inF m (fS l k, fA l k) with
          | true =>
            have HI := implIn a' cap' m (fS l k) (fA l k) (wr.alloc (.cells #[.string (fS l k), .int .i64 (fA l k)] 71)) ((HM.out.below HK.out.hb).below B8.out) (by omega) true he
            have HG : Hid (goneL l m (k + 1) = goneL l m k) := by unfold Hid goneL; rw [outF_yes he]
            go_wp2_with fail
            refine HI.mono ?_
            rintro e w5 ⟨rfl, b5⟩
            have K5 := HK.out.on (bstep B8.out b5)
            clear HI HK B8 b5 e0 e1
            go_wp2
            go_roundw
            case rel => exact ⟨k + 1, _, by omega, by go_num, by rw [HG.out]; exact K5⟩
            case measure => simp [intOf]; omega
          | false =>
            have HI := implIn a' cap' m (fS l k) (fA l k) (wr.alloc (.cells #[.string (fS l k), .int .i64 (fA l k)] 71)) ((HM.out.below HK.out.hb).below B8.out) (by omega) false he
            have HG : Hid (goneL l m (k + 1) = goneL l m k ++ [fS l k]) := by unfold Hid goneL; rw [outF_no he]; simp
            go_wp2_with fail
            refine HI.mono ?_
            rintro e w5 ⟨rfl, b5⟩
            have K5 := HK.out.on (bstep B8.out b5)
            have D5 := (CL.new wr #[.string (fS l k), .int .i64 (fA l k)] 71).below b5
            have d0 : World.cell? w5 ⟨wr.heap.size, 0, none⟩ = some (.string (fS l k)) := (D5.2 0 _ rfl).1
            have y0 : World.cell? w5 ⟨X, 0, none⟩ = some (.slice a0 (goneL l m k).length c0) := (K5.c.2 0 _ rfl).1
            have z0 := (K5.c.2 0 _ rfl).2
            have hX5 : X < w5.heap.size := K5.c.1
            clear HI HK B8 b5 e0 e1 D5
            go_wp2_with (first
              | (at_builtin; refine wpList_append_own _ rfl _ _ 34 rfl (X + 1) 9 i0 (.string ByteArray.empty) 1 16 Try.underlying34 hi hz0 hz1 hz2 rfl (by decide) _ _ _ rfl (World.ownsRow.alloc K5.t.a _) ⟨_, 0, none⟩ 1 1 [.string (fS l k)] rfl rfl (cell_one_new _ _ _) (by simp [Value.oneCell']) (by unfold maxLen; omega) (by omega) (by simp; omega) ?_; intro v' w6 hown hgrow _; obtain ⟨ga, gc, ge⟩ := row_shape hown; subst ge; have K6 := TU.up0 (K5.on ((Below.refl _ _).alloc (Nat.le_refl _) _)) hown hgrow; have KC := (TU.keepC (B := 0) (K5.on ((Below.refl _ _).alloc (Nat.le_refl _) _)) (World.ownsRow.alloc K5.t.a _) hgrow).2.1; have q0 := (KC.2 0 _ rfl).1; have q1 := (KC.2 0 _ rfl).2; clear hown hgrow K5 KC))
            go_roundw
            case rel => exact ⟨k + 1, _, by omega, by go_num, by rw [HG.out]; exact K6⟩
            case measure => simp [intOf]; omega
        · have hkk : k = l.length := by omega
          subst hkk
          have HL1 : Hid (goneL l m l.length = goneL l m l.length) := rfl
          have hgl := goneL_len l m l.length
          generalize hGG : goneL l m l.length = G at K hgl
          have HGG : Hid (goneL l m l.length = G) := hGG
          clear hGG HL1
          go_wp2
          go_loopw [8, 9, 39] (fun _ _ i wr => ∃ (k : Nat) (v1 v2 : Value), k ≤ m.length ∧ i = .int .i64 k ∧ TU w w.heap.size X (.slice a0 G.length c0) v1 v2 G (comeL m l k) (atL m l k) wr) (fun _ _ i _ => m.length - (intOf i).toNat)
          case atStart => exact ⟨0, _, _, by omega, rfl, K⟩
          case round =>
            obtain ⟨k, v1, v2, hk, rfl, K⟩ := hrel
            obtain ⟨_, _, a1, c1, a2, c2, _, rfl, rfl⟩ := K.at
            by_cases hlt : k < m.length
            · have G1 := HM.out.below K.hb
              rcases G1 with G1 | ⟨b, o, rfl, hbs, hcc⟩
              · rw [G1] at hlt; simp at hlt
              obtain ⟨e0, e1⟩ := hcc k hlt
              have hcl := comeL_len m l k
              have hal := atL_len m l k
              have hi1' : (k : Int) < (m.length : Int) := by omega
              have hi0' : (0 : Int) ≤ (k : Int) := by omega
              have HK : Hid (TU w w.heap.size X (.slice a0 G.length c0) (.slice a1 (comeL m l k).length c1) (.slice a2 (atL m l k).length c2) G (comeL m l k) (atL m l k) wr) := K
              have hXr : X < wr.heap.size := K.c.1
              have B8 : Hid (Below wr.heap.size wr (wr.alloc (.cells #[.string (fS m k), .int .i64 (fA m k)] 71))) := (Below.refl _ _).alloc (Nat.le_refl _) _
              clear hcc K
              cases he : inF l (fS m k, fA m k) with
              | true =>
                have HI := implIn a cap l (fS m k) (fA m k) (wr.alloc (.cells #[.string (fS m k), .int .i64 (fA m k)] 71)) ((HF.out.below HK.out.hb).below B8.out) (by omega) true he
                have HG : Hid (comeL m l (k + 1) = comeL m l k ∧ atL m l (k + 1) = atL m l k) := by unfold Hid comeL atL; rw [outF_yes he]; exact ⟨rfl, rfl⟩
                go_wp2_with fail
                refine HI.mono ?_
                rintro e w5 ⟨rfl, b5⟩
                have K5 := HK.out.on (bstep B8.out b5)
                clear HI HK B8 b5 e0 e1
                go_wp2
                go_roundw
                case rel => exact ⟨k + 1, _, _, by omega, by go_num, by rw [HG.out.1, HG.out.2]; exact K5⟩
                case measure => simp [intOf]; omega
              | false =>
                have HI := implIn a cap l (fS m k) (fA m k) (wr.alloc (.cells #[.string (fS m k), .int .i64 (fA m k)] 71)) ((HF.out.below HK.out.hb).below B8.out) (by omega) false he
                have HG : Hid (comeL m l (k + 1) = comeL m l k ++ [(fS m k, fA m k)] ∧ atL m l (k + 1) = atL m l k ++ [(k : Int)]) := by unfold Hid comeL atL; rw [outF_no he]; simp [fo']
                go_wp2_with fail
                refine HI.mono ?_
                rintro e w5 ⟨rfl, b5⟩
                have K5 := HK.out.on (bstep B8.out b5)
                have D5 := (CL.new wr #[.string (fS m k), .int .i64 (fA m k)] 71).below b5
                have d0 : World.cell? w5 ⟨wr.heap.size, 0, none⟩ = some (.string (fS m k)) := (D5.2 0 _ rfl).1
                have d1 : World.cell? w5 ⟨wr.heap.size, 1, none⟩ = some (.int .i64 (fA m k)) := (D5.2 1 _ rfl).1
                have y1 : World.cell? w5 ⟨X, 1, none⟩ = some (.slice a1 (comeL m l k).length c1) := (K5.c.2 1 _ rfl).1
                have hX5 : X < w5.heap.size := K5.c.1
                clear HI HK B8 b5 e0 e1 D5
                go_wp2_with (first
                  | (at_builtin; refine wpList_append_own _ rfl _ _ 30 rfl (X + 1) 71 i1 (.agg #[.string ⟨#[]⟩, .int .i64 0]) 2 24 Try.underlying30 hi1 hz10 hz11 hz12 rfl (by decide) _ _ _ rfl (World.ownsRow.alloc K5.t.b _) ⟨_, 0, none⟩ 1 1 [.string (fS m k), .int .i64 (fA m k)] rfl rfl (news_two (two_new _ _ _ _).1 (two_new _ _ _ _).2) (by simp [Value.oneCell']) (by unfold maxLen; omega) (by omega) (by simp; omega) ?_; intro v' w6 hown hgrow _; obtain ⟨ga, gc, ge⟩ := row_shape hown; subst ge; have K6 := TU.up1 (K5.on ((Below.refl _ _).alloc (Nat.le_refl _) _)) hown hgrow; have KC := (TU.keepC (B := 0) (K5.on ((Below.refl _ _).alloc (Nat.le_refl _) _)) (World.ownsRow.alloc K5.t.b _) hgrow).2.1; have q0 := (KC.2 1 _ rfl).1; have q1 := (KC.2 1 _ rfl).2; have p0 : World.cell? w6 ⟨X, 2, none⟩ = some (.slice a2 (atL m l k).length c2) := (KC.2 2 _ rfl).1; have p1 := (KC.2 2 _ rfl).2; have hX6 : X < w6.heap.size := KC.1; clear hown hgrow K5 KC)
                  | (at_builtin; refine wpList_append_own _ rfl _ _ 35 rfl (X + 1) 3 i2 (.int .i64 0) 1 8 Try.underlying35 hi2 hz20 hz21 hz22 rfl (by decide) _ _ _ rfl (World.ownsRow.alloc K6.t.c _) ⟨_, 0, none⟩ 1 1 [.int .i64 k] rfl rfl (by have cn := cell_one_new (w6.setCell ⟨X, 1, none⟩ (.slice ga ((comeL m l k).length + 1) gc)) (.int .i64 k) 3; rw [show (w6.setCell ⟨X, 1, none⟩ (.slice ga ((comeL m l k).length + 1) gc)).heap.size = w6.heap.size from by simp] at cn; exact cn) (by simp [Value.oneCell']) (by unfold maxLen; omega) (by omega) (by simp; omega) ?_; intro v' w6 hown hgrow _; obtain ⟨ga, gc, ge⟩ := row_shape hown; subst ge; have K7 := TU.up2 (K6.on ((Below.refl _ _).alloc (Nat.le_refl _) _)) hown hgrow; have KC := (TU.keepC (B := 0) (K6.on ((Below.refl _ _).alloc (Nat.le_refl _) _)) (World.ownsRow.alloc K6.t.c _) hgrow).2.1; have q2 := (KC.2 2 _ rfl).1; have q3 := (KC.2 2 _ rfl).2; clear hown hgrow K6 KC))
                go_roundw
                case rel => exact ⟨k + 1, _, _, by omega, by go_num, by rw [HG.out.1, HG.out.2]; exact K7⟩
                case measure => simp [intOf]; omega
            · have hkk : k = m.length := by omega
              subst hkk
              have x0 : World.cell? wr ⟨X, 0, none⟩ = some (.slice a0 G.length c0) := (K.c.2 0 _ rfl).1
              have x1 : World.cell? wr ⟨X, 1, none⟩ = some (.slice a1 (comeL m l m.length).length c1) := (K.c.2 1 _ rfl).1
              have x2 : World.cell? wr ⟨X, 2, none⟩ = some (.slice a2 (atL m l m.length).length c2) := (K.c.2 2 _ rfl).1
              have r0 : World.cell? wr ⟨w.heap.size, 0, none⟩ = some (.slice none 0 0) := (K.r.2 0 _ rfl).1
              have r1 : World.cell? wr ⟨w.heap.size, 1, none⟩ = some (.slice none 0 0) := (K.r.2 1 _ rfl).1
              have r2 : World.cell? wr ⟨w.heap.size, 2, none⟩ = some (.slice none 0 0) := (K.r.2 2 _ rfl).1
              have f0 : World.frozen? wr ⟨w.heap.size, 0, none⟩ = false := (K.r.2 0 _ rfl).2
              have f1 : World.frozen? wr ⟨w.heap.size, 1, none⟩ = false := (K.r.2 1 _ rfl).2
              have f2 : World.frozen? wr ⟨w.heap.size, 2, none⟩ = false := (K.r.2 2 _ rfl).2
              have KD := K.done (.slice a0 G.length c0) (.slice a1 (comeL m l m.length).length c1) (.slice a2 (atL m l m.length).length c2)
              have HD := Hid.of KD
              have hGe := HGG.out
              clear K KD
              go_wp2
              refine bodyPost_ret (v := .agg #[.slice a0 G.length c0, .slice a1 (comeL m l m.length).length c1, .slice a2 (atL m l m.length).length c2]) (by simp [results, Try.results20, go_sem, *]) rfl ⟨⟨_, rfl, _, _, _, rfl, ?_⟩, ?_⟩
              · exact HD.out.1
              · exact HD.out.2
end Go.Proofs.Ytecijmdkicgemaa

/- How many guests said something: the law's own walk. -/
import Derived.Test.YthmekfijpfghkaaVia
import Derived.Deep.RegionHeldLaw
import Derived.Test.YthmekfijpfghkaaVh
import Derived.Test.YthmekfijpfghkaaVha
namespace Go.Proofs.Ythmekfijpfghkaa
open Go.RowKit
set_option linter.unusedVariables false
/-- A meeting's cells at two places, and what they lead to. -/
structure MKS (w : World) (b b' : Nat) (q : Mt) (n k : Mm) (W : World) : Prop where
  c : CF W b #[.string q.e.id, .string q.e.ti, .string q.e.zn, .int .i64 q.e.st, .int .i64 q.e.lo, .int .i64 q.e.r.f, .int .i64 q.e.r.ev, .int .i64 q.e.r.ct, .int .i64 q.e.r.un, .slice n.m.r.a0 q.e.r.ds.length n.m.r.c0, .slice n.m.r.a1 q.e.r.da.length n.m.r.c1, .slice n.m.r.a2 q.e.r.mo.length n.m.r.c2, .slice n.m.r.a3 q.e.r.pl.length n.m.r.c3, .int .i64 q.e.r.wk, .slice n.m.ao q.e.ou.length n.m.co, .slice n.m.av q.e.ov.length n.m.cv, .string q.ho, .slice n.ag q.gu.length n.cg, .int .i64 q.sq, .bool q.of]
  d : CF W b' #[.string q.e.id, .string q.e.ti, .string q.e.zn, .int .i64 q.e.st, .int .i64 q.e.lo, .int .i64 q.e.r.f, .int .i64 q.e.r.ev, .int .i64 q.e.r.ct, .int .i64 q.e.r.un, .slice k.m.r.a0 q.e.r.ds.length k.m.r.c0, .slice k.m.r.a1 q.e.r.da.length k.m.r.c1, .slice k.m.r.a2 q.e.r.mo.length k.m.r.c2, .slice k.m.r.a3 q.e.r.pl.length k.m.r.c3, .int .i64 q.e.r.wk, .slice k.m.ao q.e.ou.length k.m.co, .slice k.m.av q.e.ov.length k.m.cv, .string q.ho, .slice k.ag q.gu.length k.cg, .int .i64 q.sq, .bool q.of]
  hm : MMem W q n
  hn : MMem W q k
  hb : Below w.heap.size w W
theorem MKS.on {w W W' : World} {b b' : Nat} {q : Mt} {n k : Mm} (h : MKS w b b' q n k W) (hb : Below W.heap.size W W') : MKS w b b' q n k W' :=
  ⟨h.c.below hb, h.d.below hb, h.hm.below hb, h.hn.below hb, bstep h.hb hb⟩
theorem lawMeetSize : (Try.prog.info? 31).map (fun i => i.size) = some 20 := by kernel_rfl
set_option maxRecDepth 100000 in
set_option maxHeartbeats 16000000 in
theorem lawExMeetCount (q : Mt) (n : Mm) (a : Int) (w : World) (hm : MMem w q n) (hw : MWide q) :
    Calls Try.prog 3 #[.agg #[.string q.e.id, .string q.e.ti, .string q.e.zn, .int .i64 q.e.st, .int .i64 q.e.lo, .int .i64 q.e.r.f, .int .i64 q.e.r.ev, .int .i64 q.e.r.ct, .int .i64 q.e.r.un, .slice n.m.r.a0 q.e.r.ds.length n.m.r.c0, .slice n.m.r.a1 q.e.r.da.length n.m.r.c1, .slice n.m.r.a2 q.e.r.mo.length n.m.r.c2, .slice n.m.r.a3 q.e.r.pl.length n.m.r.c3, .int .i64 q.e.r.wk, .slice n.m.ao q.e.ou.length n.m.co, .slice n.m.av q.e.ov.length n.m.cv, .string q.ho, .slice n.ag q.gu.length n.cg, .int .i64 q.sq, .bool q.of], .int .i64 a] w fun z w' => z = .returned (.bool true) ∧ Below w.heap.size w w' := by
  obtain ⟨W0, hW0⟩ : ∃ W0, W0 = w.alloc (.cells #[.string q.e.id, .string q.e.ti, .string q.e.zn, .int .i64 q.e.st, .int .i64 q.e.lo, .int .i64 q.e.r.f, .int .i64 q.e.r.ev, .int .i64 q.e.r.ct, .int .i64 q.e.r.un, .slice n.m.r.a0 q.e.r.ds.length n.m.r.c0, .slice n.m.r.a1 q.e.r.da.length n.m.r.c1, .slice n.m.r.a2 q.e.r.mo.length n.m.r.c2, .slice n.m.r.a3 q.e.r.pl.length n.m.r.c3, .int .i64 q.e.r.wk, .slice n.m.ao q.e.ou.length n.m.co, .slice n.m.av q.e.ov.length n.m.cv, .string q.ho, .slice n.ag q.gu.length n.cg, .int .i64 q.sq, .bool q.of] 31) := ⟨_, rfl⟩
  have hb0 : Below w.heap.size w W0 := by rw [hW0]; exact (Below.refl _ w).alloc (Nat.le_refl _) _
  have HW0 : Hid (W0 = w.alloc (.cells #[.string q.e.id, .string q.e.ti, .string q.e.zn, .int .i64 q.e.st, .int .i64 q.e.lo, .int .i64 q.e.r.f, .int .i64 q.e.r.ev, .int .i64 q.e.r.ct, .int .i64 q.e.r.un, .slice n.m.r.a0 q.e.r.ds.length n.m.r.c0, .slice n.m.r.a1 q.e.r.da.length n.m.r.c1, .slice n.m.r.a2 q.e.r.mo.length n.m.r.c2, .slice n.m.r.a3 q.e.r.pl.length n.m.r.c3, .int .i64 q.e.r.wk, .slice n.m.ao q.e.ou.length n.m.co, .slice n.m.av q.e.ov.length n.m.cv, .string q.ho, .slice n.ag q.gu.length n.cg, .int .i64 q.sq, .bool q.of] 31)) := hW0
  have HC0 : Hid (CF W0 w.heap.size #[.string q.e.id, .string q.e.ti, .string q.e.zn, .int .i64 q.e.st, .int .i64 q.e.lo, .int .i64 q.e.r.f, .int .i64 q.e.r.ev, .int .i64 q.e.r.ct, .int .i64 q.e.r.un, .slice n.m.r.a0 q.e.r.ds.length n.m.r.c0, .slice n.m.r.a1 q.e.r.da.length n.m.r.c1, .slice n.m.r.a2 q.e.r.mo.length n.m.r.c2, .slice n.m.r.a3 q.e.r.pl.length n.m.r.c3, .int .i64 q.e.r.wk, .slice n.m.ao q.e.ou.length n.m.co, .slice n.m.av q.e.ov.length n.m.cv, .string q.ho, .slice n.ag q.gu.length n.cg, .int .i64 q.sq, .bool q.of]) := by unfold Hid; rw [hW0]; exact CF.new _ _ _
  have HB0 : Hid (Below w.heap.size w W0) := hb0
  have HM0 : Hid (MMem W0 q n) := hm.below hb0
  clear hW0 hb0 hm
  go_enter Try.func3, Try.ntmps3
  go_upto_region 2 with fail
  rw [← HW0.out]
  refine wp_region_lit ?_
  refine wpList_load_mid rfl 31 (.tmp 2) rfl w.heap.size 0 rfl [.string q.e.id, .string q.e.ti, .string q.e.zn, .int .i64 q.e.st, .int .i64 q.e.lo, .int .i64 q.e.r.f, .int .i64 q.e.r.ev, .int .i64 q.e.r.ct, .int .i64 q.e.r.un, .slice n.m.r.a0 q.e.r.ds.length n.m.r.c0, .slice n.m.r.a1 q.e.r.da.length n.m.r.c1, .slice n.m.r.a2 q.e.r.mo.length n.m.r.c2, .slice n.m.r.a3 q.e.r.pl.length n.m.r.c3, .int .i64 q.e.r.wk, .slice n.m.ao q.e.ou.length n.m.co, .slice n.m.av q.e.ov.length n.m.cv, .string q.ho, .slice n.ag q.gu.length n.cg, .int .i64 q.sq, .bool q.of] _ HC0.out.range Try.underlying31 rfl lawMeetSize ?_
  go_wp2_with fail
  refine (lawSzMeet q n _ W0 HM0.out hw (by omega) (by omega)).mono ?_
  rintro z w1 ⟨⟨l, rfl, l0, l1, hsm⟩, b1⟩
  have HB1 : Hid (Below W0.heap.size W0 w1) := b1
  by_cases hl : 0 ≤ l
  · have HS : Hid (MSmall q) := hsm hl
    have hl2 : ¬ l < 0 := by omega
    have C1 := HC0.out.below b1
    have zs := HS.out.2.2.1
    have hgl : q.gu.length ≤ 2000000 := by omega
    clear hsm hw b1 zs
    as_aux_lemma =>
      go_upto_region 5 with fail
      refine wp_region_lit ?_
      refine wpList_load_mid rfl 31 (.tmp 2) rfl w.heap.size 0 rfl [.string q.e.id, .string q.e.ti, .string q.e.zn, .int .i64 q.e.st, .int .i64 q.e.lo, .int .i64 q.e.r.f, .int .i64 q.e.r.ev, .int .i64 q.e.r.ct, .int .i64 q.e.r.un, .slice n.m.r.a0 q.e.r.ds.length n.m.r.c0, .slice n.m.r.a1 q.e.r.da.length n.m.r.c1, .slice n.m.r.a2 q.e.r.mo.length n.m.r.c2, .slice n.m.r.a3 q.e.r.pl.length n.m.r.c3, .int .i64 q.e.r.wk, .slice n.m.ao q.e.ou.length n.m.co, .slice n.m.av q.e.ov.length n.m.cv, .string q.ho, .slice n.ag q.gu.length n.cg, .int .i64 q.sq, .bool q.of] _ C1.range Try.underlying31 rfl lawMeetSize ?_
      go_wp2_with fail
      refine (lawToMeet q n w1 (HM0.out.below HB1.out) HS.out).mono ?_
      rintro z w2 ⟨n2, rfl, o2, b2⟩
      have HB2 : Hid (Below W0.heap.size W0 w2) := bstep HB1.out b2
      have ra2 := o2.mem
      clear o2 b2 C1
      as_aux_lemma =>
        go_wp2_with fail
        refine (specMeetCount q n2 a w2 ra2 hgl).mono ?_
        rintro z w3 ⟨rfl, b3⟩
        have HB3 : Hid (Below W0.heap.size W0 w3) := bstep HB2.out b3
        have C3 := HC0.out.below HB3.out
        clear b3 ra2
        as_aux_lemma =>
          go_upto_region 6 with fail
          refine wp_region_lit ?_
          refine wpList_load_mid rfl 31 (.tmp 2) rfl w.heap.size 0 rfl [.string q.e.id, .string q.e.ti, .string q.e.zn, .int .i64 q.e.st, .int .i64 q.e.lo, .int .i64 q.e.r.f, .int .i64 q.e.r.ev, .int .i64 q.e.r.ct, .int .i64 q.e.r.un, .slice n.m.r.a0 q.e.r.ds.length n.m.r.c0, .slice n.m.r.a1 q.e.r.da.length n.m.r.c1, .slice n.m.r.a2 q.e.r.mo.length n.m.r.c2, .slice n.m.r.a3 q.e.r.pl.length n.m.r.c3, .int .i64 q.e.r.wk, .slice n.m.ao q.e.ou.length n.m.co, .slice n.m.av q.e.ov.length n.m.cv, .string q.ho, .slice n.ag q.gu.length n.cg, .int .i64 q.sq, .bool q.of] _ C3.range Try.underlying31 rfl lawMeetSize ?_
          go_wp2_with fail
          refine (lawToMeet q n w3 (HM0.out.below HB3.out) HS.out).mono ?_
          rintro z w4 ⟨n4, rfl, o4, b4⟩
          have HB4 : Hid (Below W0.heap.size W0 w4) := bstep HB3.out b4
          have o4m := o4.mem
          clear o4 b4
          dsimp only
          refine ‹∀ (a : Act) (w : World), wpList Try.prog _ _ _ a w → _› _ _ ?_
          refine wpList_plain rfl fun K hK => ?_
          go_simp
          refine hK _ _ ?_
          clear hK K
          refine wpList_store_mid rfl 42 (.tmp 7) (.tmp 19) rfl w4.heap.size 0 #[.string q.e.id, .string q.e.ti, .string q.e.zn, .int .i64 q.e.st, .int .i64 q.e.lo, .int .i64 q.e.r.f, .int .i64 q.e.r.ev, .int .i64 q.e.r.ct, .int .i64 q.e.r.un, .slice n4.m.r.a0 q.e.r.ds.length n4.m.r.c0, .slice n4.m.r.a1 q.e.r.da.length n4.m.r.c1, .slice n4.m.r.a2 q.e.r.mo.length n4.m.r.c2, .slice n4.m.r.a3 q.e.r.pl.length n4.m.r.c3, .int .i64 q.e.r.wk, .slice n4.m.ao q.e.ou.length n4.m.co, .slice n4.m.av q.e.ov.length n4.m.cv, .string q.ho, .slice n4.ag q.gu.length n4.cg, .int .i64 q.sq, .bool q.of] rfl rfl (CF.there (CF.new w4 #[.string ⟨#[]⟩, .string ⟨#[]⟩, .string ⟨#[]⟩, .int .i64 0, .int .i64 0, .int .i64 0, .int .i64 0, .int .i64 0, .int .i64 0, .slice none 0 0, .slice none 0 0, .slice none 0 0, .slice none 0 0, .int .i64 0, .slice none 0 0, .slice none 0 0, .string ⟨#[]⟩, .slice none 0 0, .int .i64 0, .bool false] 42) _ rfl) meetSize (by simp [Value.oneCell']) ?_
          have b5 : Below w4.heap.size w4 ((w4.alloc (.cells #[.string ⟨#[]⟩, .string ⟨#[]⟩, .string ⟨#[]⟩, .int .i64 0, .int .i64 0, .int .i64 0, .int .i64 0, .int .i64 0, .int .i64 0, .slice none 0 0, .slice none 0 0, .slice none 0 0, .slice none 0 0, .int .i64 0, .slice none 0 0, .slice none 0 0, .string ⟨#[]⟩, .slice none 0 0, .int .i64 0, .bool false] 42)).setCells w4.heap.size 0 (#[.string q.e.id, .string q.e.ti, .string q.e.zn, .int .i64 q.e.st, .int .i64 q.e.lo, .int .i64 q.e.r.f, .int .i64 q.e.r.ev, .int .i64 q.e.r.ct, .int .i64 q.e.r.un, .slice n4.m.r.a0 q.e.r.ds.length n4.m.r.c0, .slice n4.m.r.a1 q.e.r.da.length n4.m.r.c1, .slice n4.m.r.a2 q.e.r.mo.length n4.m.r.c2, .slice n4.m.r.a3 q.e.r.pl.length n4.m.r.c3, .int .i64 q.e.r.wk, .slice n4.m.ao q.e.ou.length n4.m.co, .slice n4.m.av q.e.ov.length n4.m.cv, .string q.ho, .slice n4.ag q.gu.length n4.cg, .int .i64 q.sq, .bool q.of] : Array Value).toList) := Below.setCells (Nat.le_refl _) _ _ _ ((Below.refl _ _).alloc (Nat.le_refl _) _)
          have HC5 : Hid (CF ((w4.alloc (.cells #[.string ⟨#[]⟩, .string ⟨#[]⟩, .string ⟨#[]⟩, .int .i64 0, .int .i64 0, .int .i64 0, .int .i64 0, .int .i64 0, .int .i64 0, .slice none 0 0, .slice none 0 0, .slice none 0 0, .slice none 0 0, .int .i64 0, .slice none 0 0, .slice none 0 0, .string ⟨#[]⟩, .slice none 0 0, .int .i64 0, .bool false] 42)).setCells w4.heap.size 0 (#[.string q.e.id, .string q.e.ti, .string q.e.zn, .int .i64 q.e.st, .int .i64 q.e.lo, .int .i64 q.e.r.f, .int .i64 q.e.r.ev, .int .i64 q.e.r.ct, .int .i64 q.e.r.un, .slice n4.m.r.a0 q.e.r.ds.length n4.m.r.c0, .slice n4.m.r.a1 q.e.r.da.length n4.m.r.c1, .slice n4.m.r.a2 q.e.r.mo.length n4.m.r.c2, .slice n4.m.r.a3 q.e.r.pl.length n4.m.r.c3, .int .i64 q.e.r.wk, .slice n4.m.ao q.e.ou.length n4.m.co, .slice n4.m.av q.e.ov.length n4.m.cv, .string q.ho, .slice n4.ag q.gu.length n4.cg, .int .i64 q.sq, .bool q.of] : Array Value).toList) w4.heap.size #[.string q.e.id, .string q.e.ti, .string q.e.zn, .int .i64 q.e.st, .int .i64 q.e.lo, .int .i64 q.e.r.f, .int .i64 q.e.r.ev, .int .i64 q.e.r.ct, .int .i64 q.e.r.un, .slice n4.m.r.a0 q.e.r.ds.length n4.m.r.c0, .slice n4.m.r.a1 q.e.r.da.length n4.m.r.c1, .slice n4.m.r.a2 q.e.r.mo.length n4.m.r.c2, .slice n4.m.r.a3 q.e.r.pl.length n4.m.r.c3, .int .i64 q.e.r.wk, .slice n4.m.ao q.e.ou.length n4.m.co, .slice n4.m.av q.e.ov.length n4.m.cv, .string q.ho, .slice n4.ag q.gu.length n4.cg, .int .i64 q.sq, .bool q.of]) := (CF.new w4 #[.string ⟨#[]⟩, .string ⟨#[]⟩, .string ⟨#[]⟩, .int .i64 0, .int .i64 0, .int .i64 0, .int .i64 0, .int .i64 0, .int .i64 0, .slice none 0 0, .slice none 0 0, .slice none 0 0, .slice none 0 0, .int .i64 0, .slice none 0 0, .slice none 0 0, .string ⟨#[]⟩, .slice none 0 0, .int .i64 0, .bool false] 42).setCells #[.string q.e.id, .string q.e.ti, .string q.e.zn, .int .i64 q.e.st, .int .i64 q.e.lo, .int .i64 q.e.r.f, .int .i64 q.e.r.ev, .int .i64 q.e.r.ct, .int .i64 q.e.r.un, .slice n4.m.r.a0 q.e.r.ds.length n4.m.r.c0, .slice n4.m.r.a1 q.e.r.da.length n4.m.r.c1, .slice n4.m.r.a2 q.e.r.mo.length n4.m.r.c2, .slice n4.m.r.a3 q.e.r.pl.length n4.m.r.c3, .int .i64 q.e.r.wk, .slice n4.m.ao q.e.ou.length n4.m.co, .slice n4.m.av q.e.ov.length n4.m.cv, .string q.ho, .slice n4.ag q.gu.length n4.cg, .int .i64 q.sq, .bool q.of] rfl
          generalize (w4.alloc (.cells #[.string ⟨#[]⟩, .string ⟨#[]⟩, .string ⟨#[]⟩, .int .i64 0, .int .i64 0, .int .i64 0, .int .i64 0, .int .i64 0, .int .i64 0, .slice none 0 0, .slice none 0 0, .slice none 0 0, .slice none 0 0, .int .i64 0, .slice none 0 0, .slice none 0 0, .string ⟨#[]⟩, .slice none 0 0, .int .i64 0, .bool false] 42)).setCells w4.heap.size 0 (#[.string q.e.id, .string q.e.ti, .string q.e.zn, .int .i64 q.e.st, .int .i64 q.e.lo, .int .i64 q.e.r.f, .int .i64 q.e.r.ev, .int .i64 q.e.r.ct, .int .i64 q.e.r.un, .slice n4.m.r.a0 q.e.r.ds.length n4.m.r.c0, .slice n4.m.r.a1 q.e.r.da.length n4.m.r.c1, .slice n4.m.r.a2 q.e.r.mo.length n4.m.r.c2, .slice n4.m.r.a3 q.e.r.pl.length n4.m.r.c3, .int .i64 q.e.r.wk, .slice n4.m.ao q.e.ou.length n4.m.co, .slice n4.m.av q.e.ov.length n4.m.cv, .string q.ho, .slice n4.ag q.gu.length n4.cg, .int .i64 q.sq, .bool q.of] : Array Value).toList = W5 at b5 HC5 ⊢
          have HB5 : Hid (Below W0.heap.size W0 W5) := bstep HB4.out b5
          have HM5 : Hid (MMem W5 q n4) := o4m.below b5
          clear o4m b5 C3
          as_aux_lemma =>
            go_upto_region 7 with fail
            refine wp_region_lit ?_
            refine wpList_load_mid rfl 42 (.tmp 7) rfl w4.heap.size 0 rfl [.string q.e.id, .string q.e.ti, .string q.e.zn, .int .i64 q.e.st, .int .i64 q.e.lo, .int .i64 q.e.r.f, .int .i64 q.e.r.ev, .int .i64 q.e.r.ct, .int .i64 q.e.r.un, .slice n4.m.r.a0 q.e.r.ds.length n4.m.r.c0, .slice n4.m.r.a1 q.e.r.da.length n4.m.r.c1, .slice n4.m.r.a2 q.e.r.mo.length n4.m.r.c2, .slice n4.m.r.a3 q.e.r.pl.length n4.m.r.c3, .int .i64 q.e.r.wk, .slice n4.m.ao q.e.ou.length n4.m.co, .slice n4.m.av q.e.ov.length n4.m.cv, .string q.ho, .slice n4.ag q.gu.length n4.cg, .int .i64 q.sq, .bool q.of] _ HC5.out.range Try.underlying42 rfl meetSize ?_
            go_wp2_with fail
            refine (implMeetCount q n4 a W5 HM5.out hgl).mono ?_
            rintro z w6 ⟨rfl, b6⟩
            have K : MKS W0 w.heap.size w4.heap.size q n n4 w6 := ⟨HC0.out.below (bstep HB5.out b6), HC5.out.below b6, HM0.out.below (bstep HB5.out b6), HM5.out.below b6, bstep HB5.out b6⟩
            have HK : Hid (∀ W, Below w6.heap.size w6 W → MKS W0 w.heap.size w4.heap.size q n n4 W) := fun W hb => K.on hb
            clear b6 K HC5
            as_aux_lemma =>
              go_upto_region 10 with fail
              refine wp_region_held_drew (S := fun w' => Below w6.heap.size w6 w') (by kernel_rfl) ((Below.refl _ _).drew) (fun hHeld => ?_)
              refine wpAnyH_take (i := 0) (oi := { dst := some 26, op := Op.load 42 (Operand.tmp 7), type := 42, pos := "exact.go:4427", after := #[], guard := none }) (v := .agg ([.string q.e.id, .string q.e.ti, .string q.e.zn, .int .i64 q.e.st, .int .i64 q.e.lo, .int .i64 q.e.r.f, .int .i64 q.e.r.ev, .int .i64 q.e.r.ct, .int .i64 q.e.r.un, .slice n4.m.r.a0 q.e.r.ds.length n4.m.r.c0, .slice n4.m.r.a1 q.e.r.da.length n4.m.r.c1, .slice n4.m.r.a2 q.e.r.mo.length n4.m.r.c2, .slice n4.m.r.a3 q.e.r.pl.length n4.m.r.c3, .int .i64 q.e.r.wk, .slice n4.m.ao q.e.ou.length n4.m.co, .slice n4.m.av q.e.ov.length n4.m.cv, .string q.ho, .slice n4.ag q.gu.length n4.cg, .int .i64 q.sq, .bool q.of] : List Value).toArray) rfl (by kernel_rfl) (by kernel_rfl) (by kernel_rfl) (fun _ _ _ h => h) (yieldsIf_load_mid rfl 42 (.tmp 7) rfl w4.heap.size 0 rfl [.string q.e.id, .string q.e.ti, .string q.e.zn, .int .i64 q.e.st, .int .i64 q.e.lo, .int .i64 q.e.r.f, .int .i64 q.e.r.ev, .int .i64 q.e.r.ct, .int .i64 q.e.r.un, .slice n4.m.r.a0 q.e.r.ds.length n4.m.r.c0, .slice n4.m.r.a1 q.e.r.da.length n4.m.r.c1, .slice n4.m.r.a2 q.e.r.mo.length n4.m.r.c2, .slice n4.m.r.a3 q.e.r.pl.length n4.m.r.c3, .int .i64 q.e.r.wk, .slice n4.m.ao q.e.ou.length n4.m.co, .slice n4.m.av q.e.ov.length n4.m.cv, .string q.ho, .slice n4.ag q.gu.length n4.cg, .int .i64 q.sq, .bool q.of] _ (fun w' hb => (HK.out w' hb).d.range) Try.underlying42 rfl meetSize) hHeld ?_
              (try simp only [Act.put, List.setIfInBounds_toArray, List.set_cons_zero, List.set_cons_succ])
              refine wpAnyH_take (i := 1) (oi := { dst := some 27, op := Op.load 31 (Operand.tmp 2), type := 31, pos := "exact.go:4427", after := #[], guard := none }) (v := .agg ([.string q.e.id, .string q.e.ti, .string q.e.zn, .int .i64 q.e.st, .int .i64 q.e.lo, .int .i64 q.e.r.f, .int .i64 q.e.r.ev, .int .i64 q.e.r.ct, .int .i64 q.e.r.un, .slice n.m.r.a0 q.e.r.ds.length n.m.r.c0, .slice n.m.r.a1 q.e.r.da.length n.m.r.c1, .slice n.m.r.a2 q.e.r.mo.length n.m.r.c2, .slice n.m.r.a3 q.e.r.pl.length n.m.r.c3, .int .i64 q.e.r.wk, .slice n.m.ao q.e.ou.length n.m.co, .slice n.m.av q.e.ov.length n.m.cv, .string q.ho, .slice n.ag q.gu.length n.cg, .int .i64 q.sq, .bool q.of] : List Value).toArray) rfl (by kernel_rfl) (by kernel_rfl) (by kernel_rfl) (fun _ _ _ h => h) (yieldsIf_load_mid rfl 31 (.tmp 2) rfl w.heap.size 0 rfl [.string q.e.id, .string q.e.ti, .string q.e.zn, .int .i64 q.e.st, .int .i64 q.e.lo, .int .i64 q.e.r.f, .int .i64 q.e.r.ev, .int .i64 q.e.r.ct, .int .i64 q.e.r.un, .slice n.m.r.a0 q.e.r.ds.length n.m.r.c0, .slice n.m.r.a1 q.e.r.da.length n.m.r.c1, .slice n.m.r.a2 q.e.r.mo.length n.m.r.c2, .slice n.m.r.a3 q.e.r.pl.length n.m.r.c3, .int .i64 q.e.r.wk, .slice n.m.ao q.e.ou.length n.m.co, .slice n.m.av q.e.ov.length n.m.cv, .string q.ho, .slice n.ag q.gu.length n.cg, .int .i64 q.sq, .bool q.of] _ (fun w' hb => (HK.out w' hb).c.range) Try.underlying31 rfl lawMeetSize) hHeld ?_
              (try simp only [Act.put, List.setIfInBounds_toArray, List.set_cons_zero, List.set_cons_succ])
              refine wpAnyH_ready (rs := [2]) (by kernel_rfl) (by simp) ?_
              refine AllReadyH.cons (o := { dst := some 28, op := Op.call { callee := Callee.value (Operand.func 10), args := #[Operand.tmp 27], argTypes := #[31] }, type := 42, pos := "exact.go:4427", after := #[{ on := 1, ground := Ground.data }], guard := none }) rfl (fun K hK => ?_) ?_
              · go_simp
                go_at_call 10
                refine (lawToMeet q n _ (HK.out _ hHeld).hm HS.out).mono ?_
                rintro z y7 ⟨n7, rfl, o7, hb7⟩
                have hz7 := bstep hHeld hb7
                clear hb7
                refine hK.out _ _ hz7 (fun hHeld => ?_)
                clear hK K
                (try simp only [Act.put, List.setIfInBounds_toArray, List.set_cons_zero, List.set_cons_succ])
                refine wpAnyH_ready (rs := [3]) (by kernel_rfl) (by simp) ?_
                refine AllReadyH.cons (o := { dst := some 29, op := Op.call { callee := Callee.value (Operand.func 12), args := #[Operand.tmp 26, Operand.tmp 28], argTypes := #[42, 42] }, type := 4, pos := "exact.go:4427", after := #[{ on := 0, ground := Ground.data }, { on := 2, ground := Ground.data }, { on := 2, ground := Ground.chain }], guard := none }) rfl (fun K hK => ?_) ?_
                · go_simp
                  go_at_call 12
                  refine (lawEqMeet q n4 n7 _ (HK.out _ hHeld).hn o7.mem HS.out).mono ?_
                  rintro z y8 ⟨rfl, hb8⟩
                  have hz8 := bstep hHeld hb8
                  clear hb8
                  refine hK.out _ _ hz8 (fun hHeld => ?_)
                  clear hK K
                  (try simp only [Act.put, List.setIfInBounds_toArray, List.set_cons_zero, List.set_cons_succ])
                  refine wpAnyH_take (i := 4) (oi := { dst := some 30, op := Op.unOp UnOp.not 4 (Operand.tmp 29), type := 4, pos := "exact.go:4427", after := #[{ on := 3, ground := Ground.data }], guard := none }) (v := ?_) rfl (by kernel_rfl) (by kernel_rfl) (by kernel_rfl) (fun _ _ _ h => h) (Or.inl ⟨by rfl, ?_⟩) hHeld ?_
                  rotate_left
                  · (intro w7 hC7; go_simp; first | done | rfl)
                  (try simp only [Act.put, List.setIfInBounds_toArray, List.set_cons_zero, List.set_cons_succ])
                  refine wpAnyH_done (by kernel_rfl) ?_ _
                  go_wp2
                  go_ret
                  exact ⟨rfl, HB0.out.trans ((HK.out _ hHeld).hb.mono HB0.out.size)⟩
                exact AllReadyH.nil
              exact AllReadyH.nil
  · have hl2 : l < 0 := by omega
    clear hsm
    go_wp2
    go_ret
    exact ⟨rfl, HB0.out.trans (b1.mono HB0.out.size)⟩
end Go.Proofs.Ythmekfijpfghkaa

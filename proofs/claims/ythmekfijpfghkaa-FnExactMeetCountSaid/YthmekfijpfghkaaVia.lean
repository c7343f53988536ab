/- How many guests said something: both sides, and the law's own walk. -/
import Derived.Test.YthmekfijpfghkaaVhb
namespace Go.Proofs.Ythmekfijpfghkaa
open Go.RowKit
set_option linter.unusedVariables false
/-- How many of the first so many guests said something. -/
def cntG (l : List GuR) (x : Int) : Nat → Nat
  | 0 => 0
  | k + 1 => if (uAt l k).s = x then cntG l x k + 1 else cntG l x k
theorem cntG_le (l : List GuR) (x : Int) (k : Nat) : cntG l x k ≤ k := by
  induction k with
  | zero => exact Nat.le_refl _
  | succ k ih => unfold cntG; split <;> omega
theorem cntG_yes {l : List GuR} {x : Int} {k : Nat} (h : (uAt l k).s = x) : cntG l x (k + 1) = cntG l x k + 1 := if_pos h
theorem cntG_no {l : List GuR} {x : Int} {k : Nat} (h : ¬ (uAt l k).s = x) : cntG l x (k + 1) = cntG l x k := if_neg h
set_option maxHeartbeats 8000000 in
theorem implMeetCount (q : Mt) (n : Mm) (x : Int) (w : World) (hm : MMem w q n) (hl : q.gu.length ≤ 2000000) :
    Calls Try.prog 11 #[.agg #[.string q.e.id, .string q.e.ti, .string q.e.zn, .int .i64 q.e.st, .int .i64 q.e.lo, .int .i64 q.e.r.f, .int .i64 q.e.r.ev, .int .i64 q.e.r.ct, .int .i64 q.e.r.un, .slice n.m.r.a0 q.e.r.ds.length n.m.r.c0, .slice n.m.r.a1 q.e.r.da.length n.m.r.c1, .slice n.m.r.a2 q.e.r.mo.length n.m.r.c2, .slice n.m.r.a3 q.e.r.pl.length n.m.r.c3, .int .i64 q.e.r.wk, .slice n.m.ao q.e.ou.length n.m.co, .slice n.m.av q.e.ov.length n.m.cv, .string q.ho, .slice n.ag q.gu.length n.cg, .int .i64 q.sq, .bool q.of], .int .i64 x] w fun z w' => z = .returned (.int .i64 (cntG q.gu x q.gu.length)) ∧ Below w.heap.size w w' := by
  obtain ⟨W0, hW0⟩ : ∃ W0, W0 = w.alloc (.cells #[.string q.e.id, .string q.e.ti, .string q.e.zn, .int .i64 q.e.st, .int .i64 q.e.lo, .int .i64 q.e.r.f, .int .i64 q.e.r.ev, .int .i64 q.e.r.ct, .int .i64 q.e.r.un, .slice n.m.r.a0 q.e.r.ds.length n.m.r.c0, .slice n.m.r.a1 q.e.r.da.length n.m.r.c1, .slice n.m.r.a2 q.e.r.mo.length n.m.r.c2, .slice n.m.r.a3 q.e.r.pl.length n.m.r.c3, .int .i64 q.e.r.wk, .slice n.m.ao q.e.ou.length n.m.co, .slice n.m.av q.e.ov.length n.m.cv, .string q.ho, .slice n.ag q.gu.length n.cg, .int .i64 q.sq, .bool q.of] 42) := ⟨_, rfl⟩
  have hb0 : Below w.heap.size w W0 := by rw [hW0]; exact (Below.refl _ w).alloc (Nat.le_refl _) _
  have HW0 : Hid (W0 = w.alloc (.cells #[.string q.e.id, .string q.e.ti, .string q.e.zn, .int .i64 q.e.st, .int .i64 q.e.lo, .int .i64 q.e.r.f, .int .i64 q.e.r.ev, .int .i64 q.e.r.ct, .int .i64 q.e.r.un, .slice n.m.r.a0 q.e.r.ds.length n.m.r.c0, .slice n.m.r.a1 q.e.r.da.length n.m.r.c1, .slice n.m.r.a2 q.e.r.mo.length n.m.r.c2, .slice n.m.r.a3 q.e.r.pl.length n.m.r.c3, .int .i64 q.e.r.wk, .slice n.m.ao q.e.ou.length n.m.co, .slice n.m.av q.e.ov.length n.m.cv, .string q.ho, .slice n.ag q.gu.length n.cg, .int .i64 q.sq, .bool q.of] 42)) := hW0
  have HC0 : Hid (CF W0 w.heap.size #[.string q.e.id, .string q.e.ti, .string q.e.zn, .int .i64 q.e.st, .int .i64 q.e.lo, .int .i64 q.e.r.f, .int .i64 q.e.r.ev, .int .i64 q.e.r.ct, .int .i64 q.e.r.un, .slice n.m.r.a0 q.e.r.ds.length n.m.r.c0, .slice n.m.r.a1 q.e.r.da.length n.m.r.c1, .slice n.m.r.a2 q.e.r.mo.length n.m.r.c2, .slice n.m.r.a3 q.e.r.pl.length n.m.r.c3, .int .i64 q.e.r.wk, .slice n.m.ao q.e.ou.length n.m.co, .slice n.m.av q.e.ov.length n.m.cv, .string q.ho, .slice n.ag q.gu.length n.cg, .int .i64 q.sq, .bool q.of]) := by unfold Hid; rw [hW0]; exact CF.new _ _ _
  have HB0 : Hid (Below w.heap.size w W0) := hb0
  have HG : Hid (IsGuests W0 n.ag q.gu) := hm.g.below hb0
  clear hW0 hb0 hm
  go_enter Try.func11, Try.ntmps11
  go_wp2
  rw [← HW0.out]
  go_loopw [5, 11] (fun c i wr => ∃ k : Nat, k ≤ q.gu.length ∧ i = .int .i64 k ∧ c = .int .i64 (cntG q.gu x k : Nat) ∧ Below W0.heap.size W0 wr) (fun _ i _ => q.gu.length - (intOf i).toNat)
  case atStart => exact ⟨0, by omega, rfl, rfl, Below.refl _ _⟩
  case round =>
    obtain ⟨k, hk, rfl, rfl, hb⟩ := hrel
    have cl := cntG_le q.gu x k
    have HB : Hid (Below W0.heap.size W0 wr) := hb
    have x17 := ((HC0.out.below hb).2 17 _ rfl).1
    clear hb
    by_cases hlt : k < q.gu.length
    · have G1 := HG.out.below HB.out
      rcases G1 with G1 | ⟨b, o, hag, hbs, hc⟩
      · rw [G1] at hlt; simp at hlt
      rw [hag] at x17 ⊢
      obtain ⟨c0, c1, c2⟩ := hc k hlt
      clear hc
      have hi1 : (k : Int) < (q.gu.length : Int) := by omega
      have hi0 : (0 : Int) ≤ (k : Int) := by omega
      by_cases he : (uAt q.gu k).s = x
      · have HV : Hid (cntG q.gu x (k + 1) = cntG q.gu x k + 1) := cntG_yes he
        have he2 : ((uAt q.gu k).s == x) = true := by simpa using he
        clear he
        go_wp2
        go_roundw
        case rel => exact ⟨k + 1, by omega, by go_num, by rw [HV.out]; go_num, bstep HB.out ((Below.refl _ _).alloc (Nat.le_refl _) _)⟩
        case measure => simp [intOf]; omega
      · have HV : Hid (cntG q.gu x (k + 1) = cntG q.gu x k) := cntG_no he
        have he2 : ((uAt q.gu k).s == x) = false := by simpa using he
        clear he
        go_wp2
        go_roundw
        case rel => exact ⟨k + 1, by omega, by go_num, by rw [HV.out], bstep HB.out ((Below.refl _ _).alloc (Nat.le_refl _) _)⟩
        case measure => simp [intOf]; omega
    · have hkk : k = q.gu.length := by omega
      subst hkk
      go_wp2
      go_ret
      exact ⟨rfl, bstep HB0.out HB.out⟩
set_option maxHeartbeats 8000000 in
theorem specMeetCount (q : Mt) (n : Mm) (x : Int) (w : World) (hm : MMem w q n) (hl : q.gu.length ≤ 2000000) :
    Calls Try.prog 9 #[.agg #[.string q.e.id, .string q.e.ti, .string q.e.zn, .int .i64 q.e.st, .int .i64 q.e.lo, .int .i64 q.e.r.f, .int .i64 q.e.r.ev, .int .i64 q.e.r.ct, .int .i64 q.e.r.un, .slice n.m.r.a0 q.e.r.ds.length n.m.r.c0, .slice n.m.r.a1 q.e.r.da.length n.m.r.c1, .slice n.m.r.a2 q.e.r.mo.length n.m.r.c2, .slice n.m.r.a3 q.e.r.pl.length n.m.r.c3, .int .i64 q.e.r.wk, .slice n.m.ao q.e.ou.length n.m.co, .slice n.m.av q.e.ov.length n.m.cv, .string q.ho, .slice n.ag q.gu.length n.cg, .int .i64 q.sq, .bool q.of], .int .i64 x] w fun z w' => z = .returned (.int .i64 (cntG q.gu x q.gu.length)) ∧ Below w.heap.size w w' := by
  obtain ⟨W0, hW0⟩ : ∃ W0, W0 = w.alloc (.cells #[.string q.e.id, .string q.e.ti, .string q.e.zn, .int .i64 q.e.st, .int .i64 q.e.lo, .int .i64 q.e.r.f, .int .i64 q.e.r.ev, .int .i64 q.e.r.ct, .int .i64 q.e.r.un, .slice n.m.r.a0 q.e.r.ds.length n.m.r.c0, .slice n.m.r.a1 q.e.r.da.length n.m.r.c1, .slice n.m.r.a2 q.e.r.mo.length n.m.r.c2, .slice n.m.r.a3 q.e.r.pl.length n.m.r.c3, .int .i64 q.e.r.wk, .slice n.m.ao q.e.ou.length n.m.co, .slice n.m.av q.e.ov.length n.m.cv, .string q.ho, .slice n.ag q.gu.length n.cg, .int .i64 q.sq, .bool q.of] 42) := ⟨_, rfl⟩
  have hb0 : Below w.heap.size w W0 := by rw [hW0]; exact (Below.refl _ w).alloc (Nat.le_refl _) _
  have HW0 : Hid (W0 = w.alloc (.cells #[.string q.e.id, .string q.e.ti, .string q.e.zn, .int .i64 q.e.st, .int .i64 q.e.lo, .int .i64 q.e.r.f, .int .i64 q.e.r.ev, .int .i64 q.e.r.ct, .int .i64 q.e.r.un, .slice n.m.r.a0 q.e.r.ds.length n.m.r.c0, .slice n.m.r.a1 q.e.r.da.length n.m.r.c1, .slice n.m.r.a2 q.e.r.mo.length n.m.r.c2, .slice n.m.r.a3 q.e.r.pl.length n.m.r.c3, .int .i64 q.e.r.wk, .slice n.m.ao q.e.ou.length n.m.co, .slice n.m.av q.e.ov.length n.m.cv, .string q.ho, .slice n.ag q.gu.length n.cg, .int .i64 q.sq, .bool q.of] 42)) := hW0
  have HC0 : Hid (CF W0 w.heap.size #[.string q.e.id, .string q.e.ti, .string q.e.zn, .int .i64 q.e.st, .int .i64 q.e.lo, .int .i64 q.e.r.f, .int .i64 q.e.r.ev, .int .i64 q.e.r.ct, .int .i64 q.e.r.un, .slice n.m.r.a0 q.e.r.ds.length n.m.r.c0, .slice n.m.r.a1 q.e.r.da.length n.m.r.c1, .slice n.m.r.a2 q.e.r.mo.length n.m.r.c2, .slice n.m.r.a3 q.e.r.pl.length n.m.r.c3, .int .i64 q.e.r.wk, .slice n.m.ao q.e.ou.length n.m.co, .slice n.m.av q.e.ov.length n.m.cv, .string q.ho, .slice n.ag q.gu.length n.cg, .int .i64 q.sq, .bool q.of]) := by unfold Hid; rw [hW0]; exact CF.new _ _ _
  have HB0 : Hid (Below w.heap.size w W0) := hb0
  have HG : Hid (IsGuests W0 n.ag q.gu) := hm.g.below hb0
  clear hW0 hb0 hm
  go_enter Try.func9, Try.ntmps9
  go_wp2
  rw [← HW0.out]
  go_loopw [5, 6] (fun c i wr => ∃ k : Nat, k ≤ q.gu.length ∧ i = .int .i64 k ∧ c = .int .i64 (cntG q.gu x k : Nat) ∧ Below W0.heap.size W0 wr) (fun _ i _ => q.gu.length - (intOf i).toNat)
  case atStart => exact ⟨0, by omega, rfl, rfl, Below.refl _ _⟩
  case round =>
    obtain ⟨k, hk, rfl, rfl, hb⟩ := hrel
    have cl := cntG_le q.gu x k
    have HB : Hid (Below W0.heap.size W0 wr) := hb
    have x17 := ((HC0.out.below hb).2 17 _ rfl).1
    clear hb
    by_cases hlt : k < q.gu.length
    · have G1 := HG.out.below HB.out
      rcases G1 with G1 | ⟨b, o, hag, hbs, hc⟩
      · rw [G1] at hlt; simp at hlt
      rw [hag] at x17 ⊢
      obtain ⟨c0, c1, c2⟩ := hc k hlt
      clear hc
      have hi1 : (k : Int) < (q.gu.length : Int) := by omega
      have hi0 : (0 : Int) ≤ (k : Int) := by omega
      by_cases he : (uAt q.gu k).s = x
      · have HV : Hid (cntG q.gu x (k + 1) = cntG q.gu x k + 1) := cntG_yes he
        have he2 : ((uAt q.gu k).s == x) = true := by simpa using he
        clear he
        go_wp2
        go_roundw
        case rel => exact ⟨k + 1, by omega, by go_num, by rw [HV.out]; go_num, HB.out⟩
        case measure => simp [intOf]; omega
      · have HV : Hid (cntG q.gu x (k + 1) = cntG q.gu x k) := cntG_no he
        have he2 : ((uAt q.gu k).s == x) = false := by simpa using he
        clear he
        go_wp2
        go_roundw
        case rel => exact ⟨k + 1, by omega, by go_num, by rw [HV.out], HB.out⟩
        case measure => simp [intOf]; omega
    · have hkk : k = q.gu.length := by omega
      subst hkk
      go_wp2
      go_ret
      exact ⟨rfl, bstep HB0.out HB.out⟩
end Go.Proofs.Ythmekfijpfghkaa

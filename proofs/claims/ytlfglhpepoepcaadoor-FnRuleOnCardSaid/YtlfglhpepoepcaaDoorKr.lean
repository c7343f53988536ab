/- A range over a function whose iterator keeps blocks of its own: what each side leaves alone, and the caller's law. -/
import Derived.RangeFuncNested
import Derived.RangeFuncBound
import Derived.RangeFuncCalls
import Derived.RangeFuncLeaves
import Derived.Test.YtlfglhpepoepcaaDoorBs
namespace Go.Proofs.YtlfglhpepoepcaaDoor
open Go.RowKit
set_option linter.unusedVariables false

/-- All blocks below n, and those of C, lie as they lay. -/
structure Agree (n : Nat) (C : Nat → Prop) (w w' : World) : Prop where
  os : w'.os = w.os
  tape : w'.tape = w.tape
  output : w'.output = w.output
  size : w.heap.size ≤ w'.heap.size
  block : ∀ k, k < n ∨ C k → w'.heap[k]? = w.heap[k]?
/-- The blocks of Kp, and all from n on but those of C, lie as they lay. -/
structure Rest (n : Nat) (Kp C : Nat → Prop) (w w' : World) : Prop where
  os : w'.os = w.os
  tape : w'.tape = w.tape
  output : w'.output = w.output
  size : w.heap.size ≤ w'.heap.size
  block : ∀ k, k < w.heap.size → (Kp k ∨ n ≤ k ∧ ¬ C k) → w'.heap[k]? = w.heap[k]?
theorem Agree.refl (n : Nat) (C : Nat → Prop) (w : World) : Agree n C w w := ⟨rfl, rfl, rfl, Nat.le_refl _, fun _ _ => rfl⟩
theorem Agree.trans {n : Nat} {C : Nat → Prop} {a b c : World} (h : Agree n C a b) (k : Agree n C b c) : Agree n C a c :=
  ⟨k.os.trans h.os, k.tape.trans h.tape, k.output.trans h.output, Nat.le_trans h.size k.size, fun i hi => (k.block i hi).trans (h.block i hi)⟩
theorem Agree.mono {n n' : Nat} {C C' : Nat → Prop} {a b : World} (h : Agree n C a b) (hn : n' ≤ n) (hC : ∀ k, C' k → k < n ∨ C k) : Agree n' C' a b :=
  ⟨h.os, h.tape, h.output, h.size, fun k hk => h.block k (by rcases hk with hk | hk; exact .inl (by omega); exact hC k hk)⟩
theorem Agree.of_below {n : Nat} {C : Nat → Prop} {a b : World} (h : Below a.heap.size a b) (hn : n ≤ a.heap.size) (hC : ∀ k, C k → k < a.heap.size) : Agree n C a b :=
  ⟨h.os, h.tape, h.output, h.size, fun k hk => h.block k (by rcases hk with hk | hk; omega; exact hC k hk)⟩
theorem Agree.below {n m : Nat} {C : Nat → Prop} {a b : World} (h : Agree n C a b) (hm : m ≤ n) : Below m a b :=
  ⟨h.os, h.tape, h.output, h.size, fun k hk => h.block k (.inl (by omega))⟩
theorem Agree.putObj {n : Nat} {C : Nat → Prop} (w : World) (r : Nat) (o : Obj) (hr : n ≤ r) (hC : ¬ C r) : Agree n C w (w.putObj r o) :=
  ⟨rfl, rfl, rfl, by simp, fun k hk => World.putObj_heap_other (by rintro rfl; rcases hk with hk | hk; omega; exact hC hk)⟩
theorem Agree.setCell {n : Nat} {C : Nat → Prop} (w : World) (p : Addr) (v : Value) (hr : n ≤ p.block) (hC : ¬ C p.block) : Agree n C w (w.setCell p v) :=
  ⟨rfl, rfl, rfl, by show w.heap.size ≤ (w.heap.modify _ _).size; rw [Array.size_modify]; exact Nat.le_refl _,
    fun k hk => Below.heap_setCell w p v k (by rintro rfl; rcases hk with hk | hk; omega; exact hC hk)⟩
theorem Rest.refl (n : Nat) (Kp C : Nat → Prop) (w : World) : Rest n Kp C w w := ⟨rfl, rfl, rfl, Nat.le_refl _, fun _ _ _ => rfl⟩
theorem Rest.of_below {n : Nat} {Kp C : Nat → Prop} {a b : World} (h : Below a.heap.size a b) : Rest n Kp C a b :=
  ⟨h.os, h.tape, h.output, h.size, fun k hk _ => h.block k hk⟩
theorem Rest.trans {n : Nat} {Kp C C' : Nat → Prop} {a b c : World} (h : Rest n Kp C a b) (k : Rest n Kp C' b c) (hC : ∀ i, i < a.heap.size → C' i → C i) : Rest n Kp C a c :=
  ⟨k.os.trans h.os, k.tape.trans h.tape, k.output.trans h.output, Nat.le_trans h.size k.size,
    fun i hl hi => (k.block i (Nat.lt_of_lt_of_le hl h.size) (by rcases hi with hi | hi; exact .inl hi; exact .inr ⟨hi.1, fun h' => hi.2 (hC i hl h')⟩)).trans (h.block i hl hi)⟩
theorem Rest.mono {n n' : Nat} {Kp Kp' C C' : Nat → Prop} {a b : World} (h : Rest n Kp C a b) (hk : ∀ k, k < a.heap.size → (Kp' k ∨ n' ≤ k ∧ ¬ C' k) → Kp k ∨ n ≤ k ∧ ¬ C k) : Rest n' Kp' C' a b :=
  ⟨h.os, h.tape, h.output, h.size, fun k hl hi => h.block k hl (hk k hl hi)⟩
theorem Rest.setCell {n : Nat} {Kp C : Nat → Prop} (w : World) (p : Addr) (v : Value) (hp : ¬ (Kp p.block ∨ n ≤ p.block ∧ ¬ C p.block)) : Rest n Kp C w (w.setCell p v) :=
  ⟨rfl, rfl, rfl, by show w.heap.size ≤ (w.heap.modify _ _).size; rw [Array.size_modify]; exact Nat.le_refl _,
    fun k hk hi => Below.heap_setCell w p v k (by rintro rfl; exact hp hi)⟩

/-- What an iterator's rounds owe it: n is where its own blocks begin, Kp those ahead of these that it reads, C those that rounds laid and may write; Nx: what may come next. -/
def ItYield {α : Type} (F : Fence) (m : Nat) (P : Program) (l : Nat) (encs : α → Array Value) (Nx : List α → α → Prop) (n : Nat) (Kp : Nat → Prop) (J Jx : List α → (Nat → Prop) → World → Prop) : Prop :=
  ∀ pre x C W1, n ≤ W1.heap.size → (∀ k, C k → n ≤ k ∧ k < W1.heap.size) → J pre C W1 → Nx pre x →
    YieldAt F m P l (encs x) W1 fun e W' => ∃ C' : Nat → Prop, (∀ k, C' k → C k ∨ W1.heap.size ≤ k) ∧ (∀ k, C' k → k < W'.heap.size) ∧ Rest n Kp C W1 W' ∧
      ((e = .returned (.bool true) ∧ J (pre ++ [x]) C' W') ∨ (e = .returned (.bool false) ∧ Jx (pre ++ [x]) C' W'))
def ItOwn {α : Type} (F : Fence) (n : Nat) (P : Program) (g : Nat) (lb : Array Value) (encs : α → Array Value) (Nx : List α → α → Prop) (Kp : Nat → Prop) (S Sp : List α → Prop) (w : World) : Prop :=
  ∀ (l : Nat) (J Jx : List α → (Nat → Prop) → World → Prop) (W : World), Below w.heap.size w W →
    (∀ s C A B, J s C A → Agree W.heap.size C A B → J s C B) → (∀ s C A B, Jx s C A → Agree W.heap.size C A B → Jx s C B) →
    ItYield F (n - 1) P l encs Nx W.heap.size Kp J Jx → J [] (fun _ => False) W →
    CallsIn F n P g (#[.func (.yield l) #[] #[]] ++ lb) W fun e W' => (∃ v, e = .returned v) ∧ ((∃ xs C, S xs ∧ J xs C W') ∨ (∃ pre C, Sp pre ∧ Jx pre C W'))

/-- How a round's body may be left. -/
def itPost {α : Type} (n : Nat) (Kp : Nat → Prop) (I : List α → (Nat → Prop) → World → Prop) (Ix : Code → List α → (Nat → Prop) → World → Prop) (xs : List α) (C : Nat → Prop) (W : World) : Exit → Act → World → Prop
  | .normal, _, W' => ∃ C' : Nat → Prop, (∀ k, C' k → C k ∨ W.heap.size ≤ k) ∧ (∀ k, C' k → k < W'.heap.size) ∧ Rest n Kp C W W' ∧ I xs C' W'
  | .ret, _, W' => ∃ C' : Nat → Prop, (∀ k, C' k → C k ∨ W.heap.size ≤ k) ∧ (∀ k, C' k → k < W'.heap.size) ∧ Rest n Kp C W W' ∧ Ix .ret xs C' W'
  | .exit id, _, W' => ∃ C' : Nat → Prop, (∀ k, C' k → C k ∨ W.heap.size ≤ k) ∧ (∀ k, C' k → k < W'.heap.size) ∧ Rest n Kp C W W' ∧ Ix (.exit id) xs C' W'
  | .goto t, _, W' => ∃ C' : Nat → Prop, (∀ k, C' k → C k ∨ W.heap.size ≤ k) ∧ (∀ k, C' k → k < W'.heap.size) ∧ Rest n Kp C W W' ∧ Ix (.goto t) xs C' W'
  | .panic _, _, _ => False
  | .outgrown, _, _ => False

variable {F : Fence} {n : Nat} {P : Program}
/-- The caller's law: an outermost loop over an iterator with blocks of its own; Ax: what the assignment to the loop's variables leaves. -/
theorem wpIn_range_it {α : Type} {g : Operand} {ps : Array Tmp} {assign body : Code} {Q : Exit → Act → World → Prop} {a : Act} {w : World}
    (hro : F.round = none) (h1 : F.depth.isSome = true → 1 ≤ n) {gf : Nat} {lb : Array Value} (hg : a.eval g = .func (.func gf) #[] lb) (hFg : F.fn gf) (eg : ∀ args w, (callFunc gf args).run P w = .ok (.enter gf args) w)
    {encs : α → Array Value} {Nx : List α → α → Prop} {Kp : Nat → Prop} {S Sp : List α → Prop} {w0 : World} (hseq : ItOwn F (n - 1) P gf lb encs Nx Kp S Sp w0) (hKp : ∀ k, Kp k → k < w.heap.size) (hb0 : Below w0.heap.size w0 w) (hps : ∀ x, (encs x).size = ps.size)
    (I : List α → (Nat → Prop) → World → Prop) (Ix : Code → List α → (Nat → Prop) → World → Prop)
    (hI : ∀ s C A B, I s C A → Agree w.heap.size C A B → I s C B) (hIx : ∀ c s C A B, Ix c s C A → Agree w.heap.size C A B → Ix c s C B) (h0 : I [] (fun _ => False) w)
    (Ax : α → Act → Nat → World → Prop) (hAx : ∀ x a' b A B, Ax x a' b A → (∀ k, b ≤ k → B.heap[k]? = A.heap[k]?) → Ax x a' b B)
    (hassign : ∀ (l : Nat) (x : α) (W : World) (K : Act → World → Prop), w.heap.size ≤ W.heap.size → (∀ a' W', Below W.heap.size W W' → Ax x a' W.heap.size W' → K a' W') →
      assign.wpIn (F.inRound l) (n - 1 - 1) P (Exit.then K (fun _ _ _ => False)) { tmps := (ps.zip (encs x)).foldl (fun t (p, v) => t.setIfInBounds p v) a.tmps, defers := [] } W)
    (hbody : ∀ (l : Nat) (pre : List α) (x : α) (a' : Act) (b : Nat) (C : Nat → Prop) (W : World), w.heap.size + 2 ≤ b → b ≤ W.heap.size → (∀ k, C k → w.heap.size + 2 ≤ k ∧ k < b) → I pre C W → Ax x a' b W → Nx pre x →
      body.wpIn (F.inRound l) (n - 1 - 1) P (itPost w.heap.size Kp I Ix (pre ++ [x]) C W) a' W)
    (hdone : ∀ (xs : List α) (C : Nat → Prop) (W : World), (∀ k, C k → w.heap.size + 2 ≤ k) → S xs → I xs C W → W.heap[w.heap.size]? = some (.deferred (some [])) → Q .normal { a with defers := { target := .collected w.heap.size, args := #[] } :: a.defers } W)
    (hstop : ∀ (c : Code) (pre : List α) (C : Nat → Prop) (W : World), (∀ k, C k → w.heap.size + 2 ≤ k) → Sp pre → Ix c pre C W → W.heap[w.heap.size]? = some (.deferred (some [])) → c.wpIn F n P Q { a with defers := { target := .collected w.heap.size, args := #[] } :: a.defers } W) :
    (Code.rangeFunc g ps assign body).wpIn F n P Q a w := by
  refine wpIn_rangeFunc ?_
  intro fn hfn
  rw [hro]
  obtain ⟨rec, hrec⟩ : ∃ rec : LoopState → Option Code → Loop, rec = fun st pe => { state := st, pending := pe, fn, tmps := a.tmps, params := ps, assign, body, defers := w.heap.size } := ⟨_, rfl⟩
  obtain ⟨W1, hW1⟩ : ∃ W1, (w.alloc (.deferred (some []))).alloc (.loop (rec .ready none)) = W1 := ⟨_, rfl⟩
  have hsz : W1.heap.size = w.heap.size + 2 := by rw [← hW1]; simp
  have hbw : Below w.heap.size w W1 := by rw [← hW1]; exact ((Below.refl _ w).alloc (Nat.le_refl _) _).alloc (by simp) _
  have hL1 : W1.heap[w.heap.size + 1]? = some (.loop (rec .ready none)) := by
    rw [← hW1]; have := World.alloc_heap_new (w.alloc (.deferred (some []))) (.loop (rec .ready none)); rwa [World.size_alloc] at this
  have hK1 : W1.heap[w.heap.size]? = some (.deferred (some [])) := by
    rw [← hW1]; exact (Below.heap_alloc _ _ _ (by simp)).trans (World.alloc_heap_new w _)
  have hI1 : I [] (fun _ => False) W1 := hI _ _ _ _ h0 (Agree.of_below hbw (Nat.le_refl _) (fun _ h => h.elim))
  refine ⟨w.heap.size + 1, [{ target := .collected w.heap.size, args := #[] }], W1, { target := .fn (.func gf) lb, args := #[.func (.yield (w.heap.size + 1)) #[] #[]] }, W1, gf,
    #[.func (.yield (w.heap.size + 1)) #[] #[]] ++ lb, W1, ?_, ?_, ?_, ?_, h1, ?_⟩
  · rw [← hW1, hrec]; exact run_enterLoop_outer _ _ _ _ _
  · simp only [resolve, hg]
    simp [go_sem]
  · intro f' hf'; simp [Target.leads] at hf'; subst hf'; exact hFg
  · simp [invoke, go_sem, eg]
  · refine (hseq (w.heap.size + 1)
      (fun pre C W => I pre C W ∧ (∀ k, C k → w.heap.size + 2 ≤ k) ∧ W.heap[w.heap.size + 1]? = some (.loop (rec .ready none)) ∧ W.heap[w.heap.size]? = some (.deferred (some [])))
      (fun pre C W => ∃ c, Ix c pre C W ∧ (∀ k, C k → w.heap.size + 2 ≤ k) ∧ W.heap[w.heap.size + 1]? = some (.loop (rec .done (some c))) ∧ W.heap[w.heap.size]? = some (.deferred (some [])))
      W1 (hb0.trans (hbw.mono hb0.size)) ?_ ?_ ?_ ⟨hI1, fun _ h => h.elim, hL1, hK1⟩).mono ?_
    · rintro s C A B ⟨hi, hc, hl, hk⟩ hab
      rw [hsz] at hab
      exact ⟨hI _ _ _ _ hi (hab.mono (by omega) (fun k hk => .inr hk)), hc, (hab.block _ (.inl (by omega))).trans hl, (hab.block _ (.inl (by omega))).trans hk⟩
    · rintro s C A B ⟨c, hi, hc, hl, hk⟩ hab
      rw [hsz] at hab
      exact ⟨c, hIx _ _ _ _ _ hi (hab.mono (by omega) (fun k hk => .inr hk)), hc, (hab.block _ (.inl (by omega))).trans hl, (hab.block _ (.inl (by omega))).trans hk⟩
    · -- one round
      rintro pre x C W hWn hCW ⟨hi, hc, hl, hk⟩ hlen
      rw [hsz] at hWn
      have hlt : w.heap.size + 1 < W.heap.size := by omega
      have hy := run_yield (P := P) (args := encs x) hl (by rw [hrec]; exact hps x)
      rw [hrec] at hy
      refine ⟨fn, _, assign, body, hy, roundIn_of_wpIn hfn (hassign _ x W _ (by omega) ?_)⟩
      clear hy
      intro a' Wa hba hax
      have hla : Wa.heap[w.heap.size + 1]? = some (.loop (rec .ready none)) := (hba.block _ (by omega)).trans hl
      have hka : Wa.heap[w.heap.size]? = some (.deferred (some [])) := (hba.block _ (by omega)).trans hk
      have hia : I pre C Wa := hI _ _ _ _ hi (Agree.of_below hba (by omega) (fun k hk => (hCW k hk).2))
      refine ⟨_, run_beginRound hla (by rw [hrec]), ?_⟩
      have hsa := hba.size
      have hl2 : (Wa.putObj (w.heap.size + 1) (.loop { rec .ready none with state := .busy })).heap[w.heap.size + 1]? = some (.loop { rec .ready none with state := .busy }) := World.putObj_heap_same (by omega)
      have hk2 : (Wa.putObj (w.heap.size + 1) (.loop { rec .ready none with state := .busy })).heap[w.heap.size]? = some (.deferred (some [])) := (World.putObj_heap_other (by omega)).trans hka
      have hi2 : I pre C (Wa.putObj (w.heap.size + 1) (.loop { rec .ready none with state := .busy })) :=
        hI _ _ _ _ hia (Agree.putObj _ _ _ (by omega) (fun h => by have := hc _ h; omega))
      have hax2 : Ax x a' W.heap.size (Wa.putObj (w.heap.size + 1) (.loop { rec .ready none with state := .busy })) :=
        hAx _ _ _ _ _ hax (fun k hk => World.putObj_heap_other (by omega))
      refine wpIn_mono (hbody _ pre x a' W.heap.size C _ (by omega) (by rw [World.putObj_size]; exact hsa) (fun k hk => ⟨hc k hk, (hCW k hk).2⟩) hi2 hax2 hlen) ?_
      have hCl : ¬ C (w.heap.size + 1) := fun h => by have := hc _ h; omega
      have hCd : ¬ C w.heap.size := fun h => by have := hc _ h; omega
      have fin : ∀ (jump : Option Code) (C' : Nat → Prop) (W3 : World), (∀ k, C' k → C k ∨ (Wa.putObj (w.heap.size + 1) (.loop { rec .ready none with state := .busy })).heap.size ≤ k) → (∀ k, C' k → k < W3.heap.size) →
          Rest w.heap.size Kp C (Wa.putObj (w.heap.size + 1) (.loop { rec .ready none with state := .busy })) W3 →
          (Instr.endRound (w.heap.size + 1) jump).run P W3 = .ok (.bool jump.isNone) (W3.putObj (w.heap.size + 1) (.loop (rec (if jump.isNone then .ready else .done) jump))) ∧
          (∀ k, C' k → w.heap.size + 2 ≤ k) ∧ (∀ k, C' k → C k ∨ W.heap.size ≤ k) ∧ (∀ k, C' k → k < (W3.putObj (w.heap.size + 1) (.loop (rec (if jump.isNone then .ready else .done) jump))).heap.size) ∧
          Rest W1.heap.size Kp C W (W3.putObj (w.heap.size + 1) (.loop (rec (if jump.isNone then .ready else .done) jump))) ∧
          Agree w.heap.size C' W3 (W3.putObj (w.heap.size + 1) (.loop (rec (if jump.isNone then .ready else .done) jump))) ∧
          (W3.putObj (w.heap.size + 1) (.loop (rec (if jump.isNone then .ready else .done) jump))).heap[w.heap.size + 1]? = some (.loop (rec (if jump.isNone then .ready else .done) jump)) ∧
          (W3.putObj (w.heap.size + 1) (.loop (rec (if jump.isNone then .ready else .done) jump))).heap[w.heap.size]? = some (.deferred (some [])) := fun jump C' W3 hC1 hC2 hr3 => by
        rw [World.putObj_size] at hC1
        have hs3 := hr3.size
        rw [World.putObj_size] at hs3
        have hl3 := (hr3.block (w.heap.size + 1) (by rw [World.putObj_size]; omega) (.inr ⟨by omega, hCl⟩)).trans hl2
        have hk3 := (hr3.block w.heap.size (by rw [World.putObj_size]; omega) (.inr ⟨by omega, hCd⟩)).trans hk2
        have hC3 : ∀ k, C' k → w.heap.size + 2 ≤ k := fun k hk' => by rcases hC1 k hk' with h | h; exact hc k h; omega
        have := run_endRound (P := P) jump hl3
        refine ⟨by rw [hrec] at this ⊢; exact this, hC3, fun k hk' => ?_, fun k hk' => by rw [World.putObj_size]; exact hC2 k hk', ?_, Agree.putObj _ _ _ (by omega) (fun h => by have := hC3 _ h; omega), World.putObj_heap_same (by omega), (World.putObj_heap_other (by omega)).trans hk3⟩
        · rcases hC1 k hk' with h | h
          · exact .inl h
          · exact .inr (by omega)
        · refine ⟨hr3.os.trans hba.os, hr3.tape.trans hba.tape, hr3.output.trans hba.output, by rw [World.putObj_size]; omega, fun k h1 h2 => ?_⟩
          rw [hsz] at h2
          have hk' : k ≠ w.heap.size + 1 := by
            rcases h2 with h2 | h2
            · have := hKp k h2; omega
            · omega
          rw [World.putObj_heap_other hk', hr3.block k (by rw [World.putObj_size]; omega) (by rcases h2 with h2 | h2; exact .inl h2; exact .inr ⟨by omega, h2.2⟩), World.putObj_heap_other hk']
          exact hba.block k h1
      rintro e a3 W3 hp
      cases e with
      | normal =>
        obtain ⟨C', hC1, hC2, hr3, hi3⟩ := hp
        obtain ⟨hr, hC3, hC4, hC5, hr4, hag, hl4, hk4⟩ := fin none C' W3 hC1 hC2 hr3
        exact ⟨_, _, hr, C', hC4, hC5, hr4, .inl ⟨rfl, hI _ _ _ _ hi3 hag, hC3, hl4, hk4⟩⟩
      | ret =>
        obtain ⟨C', hC1, hC2, hr3, hi3⟩ := hp
        obtain ⟨hr, hC3, hC4, hC5, hr4, hag, hl4, hk4⟩ := fin (some .ret) C' W3 hC1 hC2 hr3
        exact ⟨_, _, hr, C', hC4, hC5, hr4, .inr ⟨rfl, .ret, hIx _ _ _ _ _ hi3 hag, hC3, hl4, hk4⟩⟩
      | exit id =>
        obtain ⟨C', hC1, hC2, hr3, hi3⟩ := hp
        obtain ⟨hr, hC3, hC4, hC5, hr4, hag, hl4, hk4⟩ := fin (some (.exit id)) C' W3 hC1 hC2 hr3
        exact ⟨_, _, hr, C', hC4, hC5, hr4, .inr ⟨rfl, .exit id, hIx _ _ _ _ _ hi3 hag, hC3, hl4, hk4⟩⟩
      | goto t =>
        obtain ⟨C', hC1, hC2, hr3, hi3⟩ := hp
        obtain ⟨hr, hC3, hC4, hC5, hr4, hag, hl4, hk4⟩ := fin (some (.goto t)) C' W3 hC1 hC2 hr3
        exact ⟨_, _, hr, C', hC4, hC5, hr4, .inr ⟨rfl, .goto t, hIx _ _ _ _ _ hi3 hag, hC3, hl4, hk4⟩⟩
      | panic ch => exact hp.elim
      | outgrown => exact hp.elim
    · -- behind the iterator
      rintro e W2 ⟨⟨v, rfl⟩, (⟨xs, C, hS, hi, hc, hl, hk⟩ | ⟨pre, C, hSp, c, hi, hc, hl, hk⟩)⟩
      · exact ⟨none, _, by have := run_endLoop (P := P) hl (by rw [hrec]; simp); rw [hrec] at this; exact this,
          hdone xs C _ hc hS (hI _ _ _ _ hi (Agree.putObj _ _ _ (by omega) (fun h => by have := hc _ h; omega))) ((World.putObj_heap_other (by omega)).trans hk)⟩
      · exact ⟨some c, _, by have := run_endLoop (P := P) hl (by rw [hrec]; simp); rw [hrec] at this; exact this,
          hstop c pre C _ hc hSp (hIx _ _ _ _ _ hi (Agree.putObj _ _ _ (by omega) (fun h => by have := hc _ h; omega))) ((World.putObj_heap_other (by omega)).trans hk)⟩
end Go.Proofs.YtlfglhpepoepcaaDoor

/- The text of a rule: what stands while the program puts it together. -/
import Derived.Test.YtdcohpokfdaknaaDoorPb
import Derived.Test.YtdcohpokfdaknaaDoorTs
import Derived.Deep.DeepCutAuto
import Derived.Deep.RegionWith
namespace Go.Proofs.YtdcohpokfdaknaaDoor
open Go.RowKit
set_option linter.unusedVariables false
/-- How often something comes, as a word. -/
def fqT (f : Nat) : ByteArray := match f with
  | 0 => ⟨#[68, 65, 73, 76, 89]⟩ | 1 => ⟨#[87, 69, 69, 75, 76, 89]⟩ | 2 => ⟨#[77, 79, 78, 84, 72, 76, 89]⟩ | _ => ⟨#[89, 69, 65, 82, 76, 89]⟩
theorem fqT_size (f : Nat) : (fqT f).size ≤ 7 := by unfold fqT; split <;> decide
def Fq (w : World) : Prop := ∀ d, d < 4 → w.cell? ⟨0, d, none⟩ = some (.string (fqT d))
theorem Fq.on {w w' : World} (h : Fq w) (hb : Below w.heap.size w w') : Fq w' := fun d hd => by
  rw [hb.cell (p := ⟨0, d, none⟩) (cell_lt (h 0 (by omega)))]; exact h d hd
/-- A rule's nine cells. -/
def R9 (w : World) (b : Nat) (v0 v1 v2 v3 v4 v5 v6 v7 v8 : Value) : Prop := w.cell? ⟨b, 0, none⟩ = some v0 ∧ w.cell? ⟨b, 1, none⟩ = some v1 ∧ w.cell? ⟨b, 2, none⟩ = some v2 ∧ w.cell? ⟨b, 3, none⟩ = some v3 ∧ w.cell? ⟨b, 4, none⟩ = some v4 ∧ w.cell? ⟨b, 5, none⟩ = some v5 ∧ w.cell? ⟨b, 6, none⟩ = some v6 ∧ w.cell? ⟨b, 7, none⟩ = some v7 ∧ w.cell? ⟨b, 8, none⟩ = some v8
theorem R9.keep {w w' : World} {b B : Nat} {v0 v1 v2 v3 v4 v5 v6 v7 v8 : Value} (h : R9 w b v0 v1 v2 v3 v4 v5 v6 v7 v8) (hb : Below B w w') (hB : b < B) : R9 w' b v0 v1 v2 v3 v4 v5 v6 v7 v8 := by
  obtain ⟨c0, c1, c2, c3, c4, c5, c6, c7, c8⟩ := h
  have k : ∀ i, w'.cell? ⟨b, i, none⟩ = w.cell? ⟨b, i, none⟩ := fun i => hb.cell (p := ⟨b, i, none⟩) hB
  exact ⟨by rw [k]; exact c0, by rw [k]; exact c1, by rw [k]; exact c2, by rw [k]; exact c3, by rw [k]; exact c4, by rw [k]; exact c5, by rw [k]; exact c6, by rw [k]; exact c7, by rw [k]; exact c8⟩
theorem R9.new (w : World) (v0 v1 v2 v3 v4 v5 v6 v7 v8 : Value) (T : TypeId) : R9 (w.alloc (.cells #[v0, v1, v2, v3, v4, v5, v6, v7, v8] T)) w.heap.size v0 v1 v2 v3 v4 v5 v6 v7 v8 := ⟨by simp, by simp, by simp, by simp, by simp, by simp, by simp, by simp, by simp⟩
/-- One, or none. -/
def opt (c : Bool) (x : ByteArray) : List ByteArray := if c = true then [x] else []
theorem opt_len (c : Bool) (x : ByteArray) : (opt c x).length ≤ 1 := by unfold opt; split <;> simp
/-- Few texts, and small ones. -/
def Sm (l : List ByteArray) (n : Nat) : Prop := l.length ≤ n ∧ ∀ x ∈ l, x.size ≤ 100
theorem Sm.more {l : List ByteArray} {n : Nat} (h : Sm l n) (c : Bool) {x : ByteArray} (hx : x.size ≤ 100) : Sm (l ++ opt c x) (n + 1) := by
  refine ⟨by rw [List.length_append]; have := opt_len c x; have := h.1; omega, fun z hz => ?_⟩
  rcases List.mem_append.1 hz with q | q
  · exact h.2 z q
  · unfold opt at q
    split at q
    · rw [List.mem_singleton.1 q]; exact hx
    · simp at q
theorem ptT_size {name : ByteArray} {vals : List ByteArray} (hn : name.size ≤ 20) (hs : (joinT comma vals).size ≤ 60) : (ptT name vals).size ≤ 100 := by
  unfold ptT
  rw [ByteArray.size_append, ByteArray.size_append]
  have : eqS.size = 1 := rfl
  omega
theorem semi_size (l : List ByteArray) (h : ∀ x ∈ l, x.size ≤ 100) : (joinT semi l).size ≤ 101 * l.length := by
  have key : ∀ r : List ByteArray, (∀ x ∈ r, x.size ≤ 100) → (joinR semi r).size ≤ 101 * r.length := fun r => by
    induction r with
    | nil => intro _; simp [joinR]
    | cons x r ih =>
      intro hr
      have a := ih (fun y hy => hr y (List.mem_cons_of_mem _ hy))
      have b := hr x List.mem_cons_self
      have c : semi.size = 1 := rfl
      show (semi ++ x ++ joinR semi r).size ≤ _
      rw [ByteArray.size_append, ByteArray.size_append, List.length_cons]
      omega
  cases l with
  | nil => simp [joinT_nil]
  | cons x r =>
    rw [joinT_cons, ByteArray.size_append, List.length_cons]
    have a := key r (fun y hy => h y (List.mem_cons_of_mem _ hy))
    have b := h x List.mem_cons_self
    omega
theorem one_size {x : ByteArray} {n : Nat} (h : x.size ≤ n) : (joinT comma [x]).size ≤ n := by rw [joinT_one]; exact h
theorem nums_size (l : List Int) (h8 : l.length ≤ 8) (hb : ∀ i, i < l.length → -1000 < gi l i ∧ gi l i < 1000) : (joinT comma (numsT l)).size ≤ 60 := by
  have a := joinT_size (numsT l) 4 (fun x hx => (numsT_in l hb l.length x (by rw [List.take_length]; exact hx)).1)
  have b := numsT_len l l.length (Nat.le_refl _)
  rw [List.take_length] at b
  rw [b] at a
  omega
theorem bys_size (l : List (Int × Int)) (h8 : l.length ≤ 8) (hb : ∀ i, i < l.length → (-1000 < tAt l i ∧ tAt l i < 1000) ∧ 0 ≤ tSh l i ∧ tSh l i ≤ 6) : (joinT comma (bysT l)).size ≤ 60 := by
  have each : ∀ x ∈ bysT l, x.size ≤ 6 := fun x hx => by
    unfold bysT at hx
    obtain ⟨p, hp, rfl⟩ := List.mem_map.1 hx
    obtain ⟨i, hi, rfl⟩ := List.getElem_of_mem hp
    have q := hb i hi
    have e : tAt l i = l[i].1 := by simp [tAt, hi]
    have w2 := wkT_size (l[i].2).toNat
    unfold byT
    split
    · omega
    · have := numT_size (n := l[i].1) (by omega) (by omega)
      rw [ByteArray.size_append]; omega
  have a := joinT_size (bysT l) 6 each
  have b := bysT_len l l.length (Nat.le_refl _)
  rw [List.take_length] at b
  rw [b] at a
  omega
theorem OS.lit1 (w : World) (B : Nat) (s : ByteArray) (hB : B ≤ w.heap.size) : OS (w.alloc (.cells #[.string s] 9)) B (.slice (some ⟨w.heap.size, 0, none⟩) 1 1) [s] :=
  ⟨by simp, .inr ⟨w.heap.size, 1, #[.string s], rfl, hB, heap_alloc_new w _, by simp, by unfold maxLen; simp, by simp, by simp⟩⟩
theorem OS.lit1e (w : World) (s : ByteArray) (n : Nat) (hn : w.heap.size = n) : OS (w.alloc (.cells #[.string s] 9)) 0 (.slice (some ⟨n, 0, none⟩) 1 1) [s] := by subst hn; exact OS.lit1 w 0 s (Nat.zero_le _)
/-- A rule's bounds. -/
theorem ru_bds {f ev ct un : Int} {ds : List (Int × Int)} {da mo pl : List Int} {wk : Int} (h : ruB f ev ct un ds da mo pl wk = true) :
    ((1 ≤ f ∧ f ≤ 4) ∧ (1 ≤ ev ∧ ev ≤ 100) ∧ (0 ≤ ct ∧ ct ≤ 500) ∧ (0 ≤ un ∧ un ≤ 3652058) ∧ (0 ≤ wk ∧ wk ≤ 6)) ∧ (ds.length ≤ 8 ∧ da.length ≤ 8 ∧ mo.length ≤ 8 ∧ pl.length ≤ 8) ∧
    (∀ i, i < ds.length → (-1000 < tAt ds i ∧ tAt ds i < 1000) ∧ 0 ≤ tSh ds i ∧ tSh ds i ≤ 6) ∧ (∀ i, i < da.length → -1000 < gi da i ∧ gi da i < 1000) ∧ (∀ i, i < mo.length → -1000 < gi mo i ∧ gi mo i < 1000) ∧ (∀ i, i < pl.length → -1000 < gi pl i ∧ gi pl i < 1000) := by
  unfold ruB at h
  simp only [Bool.and_eq_true] at h
  obtain ⟨h1, h2, h3⟩ := h
  obtain ⟨q1, q2, q3, q4, _, q6⟩ := (of_iff _ _ _ _ _).1 h1
  unfold dsB at h2
  unfold liB nuB at h3
  simp only [Bool.and_eq_true, decide_eq_true_eq] at h2 h3
  obtain ⟨_, _, ⟨n1, d1⟩, ⟨n2, d2⟩, n3, d3⟩ := h3
  have nm := numM_in f mo.length
  refine ⟨⟨q1, q2, q3, q4, q6⟩, ⟨h2.1, n1, n2, n3⟩, fun i hi => ?_, fun i hi => ?_, fun i hi => ?_, fun i hi => ?_⟩
  · have q := (dsA_iff _ _).1 h2.2 i hi
    unfold dstB at q
    simp only [Bool.and_eq_true, in_iff] at q
    omega
  · have q := (nst_iff _ _ _ _).1 ((nuA_iff _ _ _).1 d1 i hi); omega
  · have q := (nst_iff _ _ _ _).1 ((nuA_iff _ _ _).1 d2 i hi); omega
  · have q := (nst_iff _ _ _ _).1 ((nuA_iff _ _ _).1 d3 i hi); omega
/-- What stands all along: a rule's cells, the parts so far, and all from before. -/
structure RS (w : World) (rb pb : Nat) (v0 v1 v2 v3 v4 v5 v6 v7 v8 : Value) (l : List ByteArray) (W : World) : Prop where
  c : R9 W rb v0 v1 v2 v3 v4 v5 v6 v7 v8
  p : PS W pb l
  lo : w.heap.size ≤ rb
  lt : rb < pb
  b : Below w.heap.size w W
theorem RS.on {w W W' : World} {rb pb : Nat} {v0 v1 v2 v3 v4 v5 v6 v7 v8 : Value} {l : List ByteArray} (h : RS w rb pb v0 v1 v2 v3 v4 v5 v6 v7 v8 l W) (hb : Below W.heap.size W W') : RS w rb pb v0 v1 v2 v3 v4 v5 v6 v7 v8 l W' :=
  ⟨h.c.keep hb (cell_lt h.c.1), h.p.on hb, h.lo, h.lt, bstep h.b hb⟩
theorem RS.put {w W W' : World} {rb pb : Nat} {v0 v1 v2 v3 v4 v5 v6 v7 v8 : Value} {l l' : List ByteArray} (h : RS w rb pb v0 v1 v2 v3 v4 v5 v6 v7 v8 l W) (hp : PS W' pb l') (hb : Below pb W W') : RS w rb pb v0 v1 v2 v3 v4 v5 v6 v7 v8 l' W' :=
  ⟨h.c.keep hb h.lt, hp, h.lo, h.lt, h.b.trans (hb.mono (by have := h.lo; have := h.lt; omega))⟩
theorem implPut (there : Bool) (name : ByteArray) (V : Value) (vals l : List ByteArray) (pb B : Nat) (w : World) (hP : PS w pb l) (hV : OS w B V vals) (hv : vals.length ≤ 1000) (hs : (joinT comma vals).size ≤ 1000) (hn : name.size ≤ 20) (hl : l.length ≤ 20) :
    Calls Tryd.prog 16 #[.bool there, .string name, V, .pointer (some ⟨pb, 0, none⟩)] w fun e w' => e = .returned (.tuple #[]) ∧ PS w' pb (l ++ opt there (ptT name vals)) ∧ Below pb w w' := by
  cases there with
  | true => exact implPut_yes name V vals l pb B w hP hV hv hs hn hl
  | false =>
    refine (implPut_no name V pb w).mono fun e w' ⟨he, hw⟩ => ?_
    subst hw
    exact ⟨he, by unfold opt; simpa using hP, Below.refl _ _⟩
end Go.Proofs.YtdcohpokfdaknaaDoor

/- Edges are sorted. -/
import Derived.Test.YtkbgbccehijckaaSe
namespace Go.Proofs.Ytkbgbccehijckaa
open Go.RowKit Go.Sort Go.Shelf
set_option linter.unusedVariables false
theorem or_edC (x y : Int × Int) : (if cmI x.1 y.1 = 0 then cmI y.2 x.2 else cmI x.1 y.1) = edC x y := rfl
theorem gw_cell {w w' : World} (h : Gw w w') (b o : Nat) (hb : b < w.heap.size) : w'.cell? ⟨b, o, none⟩ = w.cell? ⟨b, o, none⟩ := by
  obtain ⟨q, os, rfl⟩ := h
  exact cell?_grow _ _ _ hb
abbrev ES (w : World) (x1 x2 y1 y2 : Int) (w' : World) : Prop := w'.cell? ⟨w.heap.size, 0, none⟩ = some (.int .i64 x1) ∧ w'.cell? ⟨w.heap.size, 1, none⟩ = some (.int .i64 x2) ∧ w'.cell? ⟨w.heap.size + 1, 0, none⟩ = some (.int .i64 y1) ∧ w'.cell? ⟨w.heap.size + 1, 1, none⟩ = some (.int .i64 y2) ∧ Gw w w'
theorem ES.drew {w w' : World} {x1 x2 y1 y2 : Int} (h : ES w x1 x2 y1 y2 w') : ES w x1 x2 y1 y2 w'.drew := ⟨h.1, h.2.1, h.2.2.1, h.2.2.2.1, h.2.2.2.2.drew⟩
theorem ES.alloc {w w' : World} {x1 x2 y1 y2 : Int} (h : ES w x1 x2 y1 y2 w') (o : Obj) : ES w x1 x2 y1 y2 (w'.alloc o) := by
  obtain ⟨a, b, c, d, g⟩ := h
  exact ⟨by rw [World.cell?_alloc_past _ _ _ (cell_lt a)]; exact a, by rw [World.cell?_alloc_past _ _ _ (cell_lt b)]; exact b, by rw [World.cell?_alloc_past _ _ _ (cell_lt c)]; exact c, by rw [World.cell?_alloc_past _ _ _ (cell_lt d)]; exact d, g.alloc o⟩
set_option maxRecDepth 100000 in
set_option maxHeartbeats 4000000 in
theorem implEdgeOrder (x y : Int × Int) (w : World) : Calls Try.prog 60 #[.agg #[.int .i64 x.1, .int .i64 x.2], .agg #[.int .i64 y.1, .int .i64 y.2]] w fun e w' => e = .returned (.int .i64 (edC x y)) ∧ Gw w w' := by
  obtain ⟨x1, x2⟩ := x
  obtain ⟨y1, y2⟩ := y
  generalize hr : edC (x1, x2) (y1, y2) = r
  simp only
  have K : ES w x1 x2 y1 y2 ((w.alloc (.cells #[.int .i64 x1, .int .i64 x2] 74)).alloc (.cells #[.int .i64 y1, .int .i64 y2] 74)) :=
    ⟨by simp [World.cell?_alloc_at, World.cell?_alloc_past], by simp [World.cell?_alloc_at, World.cell?_alloc_past], by simp [World.cell?_alloc_at], by simp [World.cell?_alloc_at], ((Gw.refl w).alloc _).alloc _⟩
  have OR3 := libOr (w.heap.size + 1 + 1) (cmI x1 y1) (cmI y2 x2) (((w.alloc (.cells #[.int .i64 x1, .int .i64 x2] 74)).alloc (.cells #[.int .i64 y1, .int .i64 y2] 74)).alloc (.cells #[.int .i64 (cmI x1 y1), .int .i64 (cmI y2 x2)] 3)).drew (by simp [go_sem, World.cell?_alloc_at]) (by simp [go_sem, World.cell?_alloc_at])
  rw [show (if cmI x1 y1 = 0 then cmI y2 x2 else cmI x1 y1) = r from hr] at OR3
  clear hr
  go_enter Try.func60, Try.ntmps60
  go_wp2
  go_region_held (fun w' => w'.cell? ⟨w.heap.size, 0, none⟩ = some (.int .i64 x1) ∧ w'.cell? ⟨w.heap.size, 1, none⟩ = some (.int .i64 x2) ∧ w'.cell? ⟨w.heap.size + 1, 0, none⟩ = some (.int .i64 y1) ∧ w'.cell? ⟨w.heap.size + 1, 1, none⟩ = some (.int .i64 y2) ∧ Gw w w')
    (first | assumption | exact ES.drew K | exact ES.drew (ES.alloc K _) | fail)
    (first
      | (go_at_call 67; refine (libCompare _ _ _).mono ?_; rintro e w3 ⟨rfl, rfl⟩)
      | (go_at_call 66; refine OR3.mono ?_; rintro e w3 ⟨rfl, rfl⟩))
  all_goals (go_wp2; go_ret; exact ⟨rfl, ES.drew (ES.alloc K _) |>.2.2.2.2⟩)
end Go.Proofs.Ytkbgbccehijckaa

/-
  One number appended to a row that a call owns: what is known behind it.
-/
import Derived.Test.YtcenffndclpjoaaCounts
namespace Go.Proofs.Ytcenffndclpjoaa
open Go.RowKit

theorem Own.asRow {w : World} {lo L : Nat} {v : Value} {ys : List Int} (h : Own w lo v ys) (hL : ys.length = L) : Hid (w.ownsRow lo 3 1 v L (ints ys)) := by
  subst hL; exact h
theorem app_int {wr w2 : World} {lo L : Nat} {v v1 : Value} {ys : List Int} {x : Int} (hlo : lo ≤ wr.heap.size) (ho : Own wr lo v ys) (hL : ys.length = L)
    (hown : w2.ownsRow lo 3 1 v1 (L + 1) (ints ys ++ [.int .i64 x])) (hg : (wr.alloc (.cells #[.int .i64 x] 3)).grownBy w2 v.ownBlock) : Own w2 lo v1 (ys ++ [x]) ∧ Below lo wr w2 := by
  refine ⟨?_, ((Below.refl _ _).alloc hlo _).grown hg (by simp; omega) (fun j hj => (ho.lt j hj).1)⟩
  unfold Own
  rw [List.length_append, hL]
  unfold ints at hown ⊢
  rw [List.map_append]
  exact hown
theorem cell_kept {w w' : World} {row : Option Nat} (hg : w.grownBy w' row) {a : Addr} {v : Value} (hc : w.cell? a = some v) (hne : row ≠ some a.block) : w'.cell? a = some v :=
  (World.cell?_of_block (hg.block _ (World.block_lt_of_cell? w _ hc) (fun e => hne e.symm))).trans hc
theorem Rd.kept_ {w w' : World} {row : Option Nat} {A : Option Addr} {n : Nat} {xs : List Int} (h : Rd w A n xs) (hg : w.grownBy w' row) (hne : ∀ ad : Addr, A = some ad → row ≠ some ad.block) : Rd w' A n xs :=
  ⟨h.1, fun hn => by
    obtain ⟨ad, e, hc⟩ := h.2 hn
    exact ⟨ad, e, fun j hj => cell_kept hg (hc j hj) (by rw [add_block]; exact hne ad e)⟩⟩
theorem Box.kept_ {w w' : World} {row : Option Nat} {b : Nat} {t : TypeId} {u u' : Value} (h : Box w b t u u') (hg : w.grownBy w' row) (hne : row ≠ some b) : Box w' b t u u' :=
  (hg.block b h.lt (fun e => hne e.symm)).trans h
theorem Box.over {w w' : World} {b lo : Nat} {t : TypeId} {u u' : Value} (h : Box w b t u u') (hb : Below lo w w') (hlt : b < lo) : Box w' b t u u' := (hb.block b hlt).trans h
theorem Rd.over {w w' : World} {A : Option Addr} {n lo : Nat} {xs : List Int} (h : Rd w A n xs) (hb : Below lo w w') (hlt : ∀ ad : Addr, A = some ad → 0 < n → ad.block < lo) : Rd w' A n xs :=
  ⟨h.1, fun hn => by
    obtain ⟨ad, e, hc⟩ := h.2 hn
    exact ⟨ad, e, fun j hj => (hb.cell (by rw [add_block]; exact hlt ad e hn)).trans (hc j hj)⟩⟩
theorem Own.over {w w' : World} {lo lo2 : Nat} {v : Value} {xs : List Int} (h : Own w lo v xs) (hb : Below lo2 w w') (hlt : ∀ k, v.ownBlock = some k → k < lo2) : Own w' lo v xs := by
  refine ⟨h.1, ?_⟩
  rcases h.2 with hn | ⟨g, cap, cur, rfl, h1, hg, rest⟩
  · exact .inl hn
  · refine .inr ⟨g, cap, cur, rfl, h1, ?_, rest⟩
    rw [hb.block g (hlt g rfl)]
    exact hg

end Go.Proofs.Ytcenffndclpjoaa

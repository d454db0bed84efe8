/-
  An append into a field of a box: what else stands.
-/
import Derived.Test.YtcenffndclpjoaaAppI
import Derived.Test.YtcenffndclpjoaaKitM
import Derived.Deep.RegionLaw
import Derived.Deep.AppendLies
namespace Go.Proofs.Ytcenffndclpjoaa
open Go.RowKit

theorem Own.of_block {w w' : World} {lo : Nat} {v : Value} {xs : List Int} (h : Own w lo v xs) (hb : ∀ q, v.ownBlock = some q → w'.heap[q]? = w.heap[q]?) : Own w' lo v xs := by
  refine ⟨h.1, ?_⟩
  rcases h.2 with hn | ⟨g, cap, cur, rfl, h1, hg, rest⟩
  · exact .inl hn
  · refine .inr ⟨g, cap, cur, rfl, h1, ?_, rest⟩
    rw [hb g rfl]
    exact hg
/-- Behind an append to row g and a store of its new value into block S all other blocks are as they were. -/
theorem app_store {wr wv w7 : World} {S g j lo : Nat} (u : Value) (hal : Below wr.heap.size wr wv) (hg : wv.grownBy w7 (some g)) (hlg : lo ≤ g) (hlS : lo ≤ S) (hlw : lo ≤ wr.heap.size) :
    (∀ q, q < wr.heap.size → q ≠ g → q ≠ S → (w7.setCell ⟨S, j, none⟩ u).heap[q]? = wr.heap[q]?) ∧ Below lo wr (w7.setCell ⟨S, j, none⟩ u) ∧ wr.heap.size ≤ (w7.setCell ⟨S, j, none⟩ u).heap.size := by
  have hgs := grown_set w7 S j u
  have h1 := hal.size
  have h2 := hg.size
  refine ⟨fun q hq hqg hqS => ?_, ?_, by have := hgs.size; omega⟩
  · rw [hgs.block q (by omega) (by intro e; injection e with e; omega), hg.block q (by omega) (by intro e; injection e with e; omega), hal.block q hq]
  · exact ((hal.mono hlw).grown hg (by omega) (fun r e => by injection e with e; omega)).setCell hlS _

theorem app_fld {wr wv w7 : World} {S g m cg lo : Nat} {T : TypeId} {u u' : Value} (j : Nat) (nv : Value) (hv : Box wr S T u u') (hal : Below wr.heap.size wr wv) (hg : wv.grownBy w7 (Value.ownBlock (.slice (some ⟨g, 0, none⟩) m cg))) (hne : g ≠ S) (hlg : lo ≤ g) (hlS : lo ≤ S) (hlw : lo ≤ wr.heap.size) :
    Box w7 S T u u' ∧ (∀ q, q < wr.heap.size → q ≠ g → q ≠ S → (w7.setCell ⟨S, j, none⟩ nv).heap[q]? = wr.heap[q]?) ∧ Below lo wr (w7.setCell ⟨S, j, none⟩ nv) ∧ wr.heap.size ≤ (w7.setCell ⟨S, j, none⟩ nv).heap.size :=
  ⟨(hv.below hal).kept_ hg (fun e => hne (by have e' : (some g : Option Nat) = some S := e; injection e')), app_store nv hal hg hlg hlS hlw⟩

theorem Rd.of_block {w w' : World} {A : Option Addr} {n : Nat} {xs : List Int} (h : Rd w A n xs) (hb : ∀ ad : Addr, A = some ad → 0 < n → w'.heap[ad.block]? = w.heap[ad.block]?) : Rd w' A n xs := by
  refine ⟨h.1, fun hn => ?_⟩
  obtain ⟨ad, e, hc⟩ := h.2 hn
  refine ⟨ad, e, fun j hj => ?_⟩
  rw [← hc j hj]
  have := hb ad e hn
  simp only [World.cell?, add_block, this]

end Go.Proofs.Ytcenffndclpjoaa

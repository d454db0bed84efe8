/-
  The library's Collect over the program's cycles, and PermCycles.
  Contracts of the small functions of package laws that compare, mark and look at slices of slices of ints.
-/
import Derived.Test.YtcenffndclpjoaaSign
import Derived.Test.YtcenffndclpjoaaMarkSS
namespace Go.Proofs.Ytcenffndclpjoaa
open Go.RowKit Go.Shelf
attribute [local go_sem] Oper.semAt_some

theorem ownsRow_same {w w' : World} {base : Nat} {e : TypeId} {size n : Nat} {v : Value} {xs : List Value} (h : w.ownsRow base e size v n xs)
    (hs : ∀ (g : Nat) (cs : Array Value), w.heap[g]? = some (.cells cs e (0, 0)) → w'.heap[g]? = some (.cells cs e (0, 0))) : w'.ownsRow base e size v n xs := by
  obtain ⟨h1, h2⟩ := h
  refine ⟨h1, ?_⟩
  rcases h2 with h2 | ⟨g, cap, cur, hv, hg, hh, r⟩
  · exact .inl h2
  · exact .inr ⟨g, cap, cur, hv, hg, hs g cur hh, r⟩
theorem OwnSS.same {w w' : World} {lo hi : Nat} {v : Value} {xss : List (List Int)} (h : OwnSS w lo hi v xss)
    (hs : ∀ (g : Nat) (cs : Array Value) (t : TypeId), t = 23 ∨ t = 3 → w.heap[g]? = some (.cells cs t (0, 0)) → w'.heap[g]? = some (.cells cs t (0, 0))) : OwnSS w' lo hi v xss := by
  obtain ⟨vs, hl, ho, hr, hd⟩ := h
  exact ⟨vs, hl, ownsRow_same ho (fun g cs => hs g cs _ (.inl rfl)), fun j hj => ⟨ownsRow_same (hr j hj).1 (fun g cs => hs g cs _ (.inr rfl)), (hr j hj).2⟩, hd⟩
theorem box_set_other {W : World} {b : Nat} {t t' : TypeId} {cs cs' : Array Value} {u : Value} (hb : W.heap[b]? = some (.cells cs' t' (0, 0))) (ht : t ≠ t') {g : Nat} (h : W.heap[g]? = some (.cells cs t (0, 0))) : (W.setCell ⟨b, 0, none⟩ u).heap[g]? = some (.cells cs t (0, 0)) := by
  refine (Below.heap_setCell W ⟨b, 0, none⟩ u g (fun e => ?_)).trans h
  dsimp only at e
  subst e
  rw [h] at hb
  injection hb with hb
  injection hb with _ hb
  exact ht hb
theorem box_grown {w w' : World} {base : Nat} {e t : TypeId} {size n b : Nat} {v : Value} {xs : List Value} {cs : Array Value} (h : w.heap[b]? = some (.cells cs t (0, 0))) (ho : w.ownsRow base e size v n xs) (hg : w.grownBy w' v.ownBlock) (hne : t ≠ e) : w'.heap[b]? = some (.cells cs t (0, 0)) :=
  (hg.block b (Array.getElem?_eq_some_iff.1 h).1 (fun e' => by
    obtain ⟨_, cs', hh⟩ := row_kind ho b e'.symm
    rw [h] at hh
    injection hh with hh
    injection hh with _ hh
    exact hne hh)).trans h
theorem box_alloc {w : World} {b : Nat} {o o' : Obj} (h : w.heap[b]? = some o) : (w.alloc o').heap[b]? = some o := (Below.heap_alloc w o' b (Array.getElem?_eq_some_iff.1 h).1).trans h

theorem cycR_len {p : List Int} {ys : List (List Int)} {ok : Bool} (h : cycR p = (ok, ys)) : ys.length ≤ 12 ∧ total ys ≤ 1000 := by
  unfold cycR at h
  split at h
  · rename_i hb
    injection h with _ h
    have h12 := (Vld_of hb).2.1
    have h1 := cyclesL_len (p := p)
    have h2 := cycAll_total p (List.range' 0 p.length) []
    rw [List.length_range'] at h2
    rw [← h]
    exact ⟨by omega, by unfold cyclesL; omega⟩
  · injection h with _ h; rw [← h]; exact ⟨by simp, by simp [total]⟩

end Go.Proofs.Ytcenffndclpjoaa

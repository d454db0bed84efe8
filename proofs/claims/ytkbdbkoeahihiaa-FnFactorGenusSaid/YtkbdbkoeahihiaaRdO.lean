/-
  Lists of lists whose rows own their blocks: read, owned, appended to.
-/
import Derived.Test.YtkbdbkoeahihiaaMarkSS
import Derived.Laws.AppendOwn
namespace Go.Proofs.Ytkbdbkoeahihiaa
open Go.RowKit

/-- The values vs are rows that hold the lists xss. -/
def RowsV (w : World) (vs : List Value) (xss : List (List Int)) : Prop := vs.length = xss.length ∧ ∀ j, j < xss.length → Own w 0 (vs.getD j undef) (xss.getD j [])
theorem RowsV.nil (w : World) : RowsV w [] [] := ⟨rfl, fun j hj => absurd hj (by simp)⟩
theorem RowsV.below {w w' : World} {vs : List Value} {xss : List (List Int)} (h : RowsV w vs xss) (hb : Below w.heap.size w w') : RowsV w' vs xss := ⟨h.1, fun j hj => (h.2 j hj).below hb⟩
theorem RowsV.drewN {w : World} {vs : List Value} {xss : List (List Int)} (h : RowsV w vs xss) (k : Nat) : RowsV (w.drewN k) vs xss := ⟨h.1, fun j hj => (h.2 j hj).drewN k⟩
/-- A write into a row of rows, or to a row out of their reach, leaves them. -/
theorem RowsV.grown {w w' : World} {vs : List Value} {xss : List (List Int)} {lo n : Nat} {v : Value} {us : List Value} (h : RowsV w vs xss) (ho : w.ownsRow lo 23 1 v n us) (hg : w.grownBy w' v.ownBlock) : RowsV w' vs xss := by
  refine ⟨h.1, fun j hj => (h.2 j hj).grown hg ?_⟩
  cases hu : (vs.getD j undef).ownBlock with
  | none => exact .inl rfl
  | some k =>
    refine .inr fun e => ?_
    obtain ⟨_, cs, h1⟩ := row_kind (h.2 j hj) k hu
    obtain ⟨_, cs', h2⟩ := row_kind ho k e.symm
    rw [h1] at h2
    exact absurd h2 (by simp)
theorem getD_app_l {α} {l m : List α} {d : α} {j : Nat} (h : j < l.length) : (l ++ m).getD j d = l.getD j d := by simp [List.getD, List.getElem?_append_left h]
theorem getD_app_r {α} {l m : List α} {d : α} {j : Nat} (h : l.length ≤ j) : (l ++ m).getD j d = m.getD (j - l.length) d := by simp [List.getD, List.getElem?_append_right h]
theorem RowsV.append {w : World} {vs us : List Value} {xss yss : List (List Int)} (h : RowsV w vs xss) (k : RowsV w us yss) : RowsV w (vs ++ us) (xss ++ yss) := by
  refine ⟨by simp [h.1, k.1], fun j hj => ?_⟩
  rw [List.length_append] at hj
  by_cases hlt : j < xss.length
  · rw [getD_app_l (by rw [h.1]; exact hlt), getD_app_l hlt]; exact h.2 j hlt
  · rw [getD_app_r (by rw [h.1]; omega), getD_app_r (by omega), h.1]; exact k.2 _ (by omega)
theorem RowsV.one {w : World} {lo : Nat} {u : Value} {xs : List Int} (h : Own w lo u xs) : RowsV w [u] [xs] := by
  refine ⟨rfl, fun j hj => ?_⟩
  obtain rfl : j = 0 := by simp at hj; omega
  exact h.mono (Nat.zero_le _)
theorem RowsV.snoc {w : World} {lo : Nat} {vs : List Value} {xss : List (List Int)} {u : Value} {xs : List Int} (h : RowsV w vs xss) (k : Own w lo u xs) : RowsV w (vs ++ [u]) (xss ++ [xs]) := h.append (.one k)

/-- A slice that reads as rows that own their blocks. -/
def RdO (w : World) (A : Option Addr) (n : Nat) (xss : List (List Int)) : Prop :=
  xss.length = n ∧ (0 < n → ∃ ad : Addr, A = some ad ∧ ∀ j, j < n → ∃ v, w.cell? (ad.add j) = some v ∧ Own w 0 v (xss.getD j []))
theorem RdO.rd {w : World} {A : Option Addr} {n : Nat} {xss : List (List Int)} (h : RdO w A n xss) : RdSS w A n xss := by
  refine ⟨h.1, fun hp => ?_⟩
  obtain ⟨ad, e, hc⟩ := h.2 hp
  refine ⟨ad, e, fun j hj => ?_⟩
  obtain ⟨v, hv, ho⟩ := hc j hj
  obtain ⟨Aj, cj, rfl, hrd, hm⟩ := ho.form
  exact ⟨Aj, cj, hv, hrd, hm⟩
theorem RdO.below {w w' : World} {A : Option Addr} {n : Nat} {xss : List (List Int)} (h : RdO w A n xss) (hb : Below w.heap.size w w') : RdO w' A n xss := by
  refine ⟨h.1, fun hp => ?_⟩
  obtain ⟨ad, e, hc⟩ := h.2 hp
  refine ⟨ad, e, fun j hj => ?_⟩
  obtain ⟨v, hv, ho⟩ := hc j hj
  exact ⟨v, (hb.cell (World.block_lt_of_cell? w _ hv)).trans hv, ho.below hb⟩
theorem RdO.drewN {w : World} {A : Option Addr} {n : Nat} {xss : List (List Int)} (h : RdO w A n xss) (k : Nat) : RdO (w.drewN k) A n xss := by
  refine ⟨h.1, fun hp => ?_⟩
  obtain ⟨ad, e, hc⟩ := h.2 hp
  refine ⟨ad, e, fun j hj => ?_⟩
  obtain ⟨v, hv, ho⟩ := hc j hj
  exact ⟨v, hv, ho.drewN k⟩
/-- A row of it. -/
theorem RdO.at_ {w : World} {A : Option Addr} {n : Nat} {xss : List (List Int)} {k : Nat} (h : RdO w A n xss) (hk : k < n) :
    ∃ (ad : Addr) (Ak : Option Addr) (nk ck : Nat), A = some ad ∧ w.cell? (ad.add k) = some (.slice Ak nk ck) ∧ (xss.getD k []).length = nk ∧ Own w 0 (.slice Ak nk ck) (xss.getD k []) := by
  obtain ⟨ad, e, hc⟩ := h.2 (by omega)
  obtain ⟨v, hv, ho⟩ := hc k hk
  obtain ⟨Aj, cj, rfl, hrd, hm⟩ := ho.form
  exact ⟨ad, Aj, _, cj, e, hv, rfl, ho⟩
/-- Its values, for an append of all of them. -/
theorem RdO.news {w : World} {ad : Addr} {n : Nat} {xss : List (List Int)} (h : RdO w (some ad) n xss) :
    ∃ us : List Value, us.length = n ∧ RowsV w us xss ∧ ∀ j u, us[j]? = some u → w.cell? (ad.add j) = some u := by
  by_cases hp : 0 < n
  · obtain ⟨ad', e, hc⟩ := h.2 hp
    injection e with e; subst e
    refine ⟨(List.range n).map fun j => (w.cell? (ad.add j)).getD undef, by simp, ⟨by simp [h.1], fun j hj => ?_⟩, fun j u hu => ?_⟩
    · obtain ⟨v, hv, ho⟩ := hc j (by rw [h.1] at hj; exact hj)
      have : ((List.range n).map fun j => (w.cell? (ad.add j)).getD undef).getD j undef = v := by
        simp [List.getD, List.getElem?_range (show j < n by rw [h.1] at hj; exact hj), hv]
      rw [this]; exact ho
    · have hj : j < n := by
        have := (List.getElem?_eq_some_iff.1 hu).1
        simpa using this
      obtain ⟨v, hv, ho⟩ := hc j hj
      simp [List.getElem?_range hj, hv] at hu
      rw [← hu]; exact hv
  · have h0 : n = 0 := by omega
    subst h0
    have hx : xss = [] := List.length_eq_zero_iff.1 h.1
    subst hx
    exact ⟨[], rfl, .nil w, fun j u hu => by simp at hu⟩

/-- A call owns a row of rows. -/
def RowO (w : World) (lo : Nat) (v : Value) (xss : List (List Int)) : Prop := ∃ vs : List Value, w.ownsRow lo 23 1 v xss.length vs ∧ RowsV w vs xss
theorem RowO.below {w w' : World} {lo : Nat} {v : Value} {xss : List (List Int)} (h : RowO w lo v xss) (hb : Below w.heap.size w w') : RowO w' lo v xss := by
  obtain ⟨vs, ho, hr⟩ := h
  exact ⟨vs, World.ownsRow.kept ho (row := none) ⟨hb.os, hb.tape, hb.output, hb.size, fun k hk _ => hb.block k hk⟩ (by cases v.ownBlock <;> simp), hr.below hb⟩
theorem RowO.mono {w : World} {lo lo' : Nat} {v : Value} {xss : List (List Int)} (h : RowO w lo v xss) (hl : lo' ≤ lo) : RowO w lo' v xss := by
  obtain ⟨vs, ho, hr⟩ := h
  refine ⟨vs, ⟨ho.1, ?_⟩, hr⟩
  rcases ho.2 with h2 | ⟨g, cap, cur, hv, hg, r⟩
  · exact .inl h2
  · exact .inr ⟨g, cap, cur, hv, by omega, r⟩
theorem RowO.form {w : World} {lo n : Nat} {v : Value} {xss : List (List Int)} (h : RowO w lo v xss) (hn : xss.length = n) : ∃ A c, v = .slice A n c ∧ RdO w A n xss := by
  obtain ⟨vs, ho, hr⟩ := h
  subst hn
  rcases ho.2 with ⟨rfl, hl⟩ | ⟨g, cap, cur, rfl, hg, hh, hn, hm, hs⟩
  · exact ⟨none, 0, by rw [hl], rfl, fun hp => absurd hp (by omega)⟩
  · refine ⟨_, cap, rfl, rfl, fun hp => ⟨_, rfl, fun j hj => ⟨vs.getD j undef, ?_, hr.2 j hj⟩⟩⟩
    have hg : (vs)[j]? = some (vs.getD j undef) := by simp [List.getD, List.getElem?_eq_getElem (show j < vs.length by rw [hr.1]; exact hj)]
    exact World.ownsRow.cells ho rfl j _ hg
theorem RowO.empty {w : World} {lo : Nat} (h : lo ≤ w.heap.size) : RowO (w.alloc (.cells #[] 23)) lo (.slice (some ⟨w.heap.size, 0, none⟩) 0 0) [] :=
  ⟨[], World.ownsRow_lit w #[] 0 h (Nat.zero_le _) rfl, .nil _⟩
theorem RowO.lt {w : World} {lo : Nat} {v : Value} {xss : List (List Int)} (h : RowO w lo v xss) : ∀ k, v.ownBlock = some k → lo ≤ k ∧ k < w.heap.size := by
  obtain ⟨vs, ho, _⟩ := h
  exact World.ownsRow.lt ho
/-- Behind an append of rows. -/
theorem RowO.added {w w' : World} {lo n m : Nat} {v v' : Value} {vs us : List Value} {xss yss : List (List Int)} (hn : xss.length = n) (ho : w.ownsRow lo 23 1 v n vs) (hr : RowsV w vs xss) (hu : RowsV w us yss)
    (h' : w'.ownsRow lo 23 1 v' (n + m) (vs ++ us)) (hm : yss.length = m) (hg : w.grownBy w' v.ownBlock) : RowO w' lo v' (xss ++ yss) :=
  ⟨vs ++ us, by rw [List.length_append, hm, hn]; exact h', (hr.grown ho hg).append (hu.grown ho hg)⟩
theorem OwnSS.rdo {w : World} {lo hi n c : Nat} {A : Option Addr} {xss : List (List Int)} (h : OwnSS w lo hi (.slice A n c) xss) (hn : xss.length = n) : RdO w A n xss := by
  obtain ⟨vs, hl, ho, hr, _⟩ := h
  have : RowO w lo (.slice A n c) xss := ⟨vs, ho, hl, fun j hj => (hr j hj).1.mono (Nat.zero_le _)⟩
  obtain ⟨A', c', e, h⟩ := this.form hn
  simp only [Value.slice.injEq] at e
  obtain ⟨rfl, -, -⟩ := e
  exact h
theorem Rows.rdo {w : World} {g n : Nat} {xss : List (List Int)} (h : Rows w g n n xss) (hn : xss.length = n) : RdO w (some ⟨g, 0, none⟩) n xss := by
  refine ⟨hn, fun hp => ⟨_, rfl, fun j hj => ?_⟩⟩
  obtain ⟨Aj, nj, cj, h1, h2, h3⟩ := h.row hj
  refine ⟨_, ?_, h2.mono (Nat.zero_le _)⟩
  rwa [show (⟨g, 0, none⟩ : Addr).add j = ⟨g, j, none⟩ from by unfold Addr.add; split <;> simp_all]

end Go.Proofs.Ytkbdbkoeahihiaa

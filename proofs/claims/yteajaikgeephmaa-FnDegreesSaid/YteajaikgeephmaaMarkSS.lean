/-
  Slices of slices of ints that a call owns: to mark, to look at.
-/
import Derived.Test.YteajaikgeephmaaRowsSS
import Derived.Test.YteajaikgeephmaaSeen
namespace Go.Proofs.Yteajaikgeephmaa
open Go.RowKit

theorem row_kind {w : World} {base : Nat} {e : TypeId} {size n : Nat} {v : Value} {xs : List Value} (h : w.ownsRow base e size v n xs) : ∀ g, v.ownBlock = some g → base ≤ g ∧ ∃ cs, w.heap[g]? = some (.cells cs e (0, 0)) := by
  intro g hg
  rcases h.2 with ⟨rfl, _⟩ | ⟨g', cap, cur, rfl, hb, hh, _⟩
  · simp [Value.ownBlock] at hg
  · have : g' = g := by simpa [Value.ownBlock] using hg
    subst this
    exact ⟨hb, cur, hh⟩
theorem OwnSS.rd {w : World} {lo hi n c : Nat} {A : Option Addr} {xss : List (List Int)} (h : OwnSS w lo hi (.slice A n c) xss) (hn : xss.length = n) : RdSS w A n xss := by
  obtain ⟨vs, hl, ho, hr, _⟩ := h
  refine ⟨hn, fun hp => ?_⟩
  have ho' := ho
  rcases ho.2 with ⟨hv, h0⟩ | ⟨g, cap, cur, hv, _⟩
  · omega
  · simp only [Value.slice.injEq] at hv
    obtain ⟨rfl, h1, h2⟩ := hv
    refine ⟨_, rfl, fun j hj => ?_⟩
    obtain ⟨Aj, cj, hv, hrd, hm⟩ := (hr j (by omega)).1.form
    refine ⟨Aj, cj, ?_, hrd, hm⟩
    have hg : (vs)[j]? = some (vs.getD j undef) := by simp [List.getD, List.getElem?_eq_getElem (show j < vs.length by omega)]
    rw [← hv]
    exact ho'.cells (g := g) rfl j _ hg

/-- The rows, marked with the numbers from m on. -/
def marksSS (m : Int) : List (List Int) → List (List Int)
  | [] => []
  | xs :: r => marks m xs.length :: marksSS (m + xs.length) r
theorem marksSS_len (xss : List (List Int)) : ∀ m, (marksSS m xss).length = xss.length := by
  induction xss with
  | nil => intro m; rfl
  | cons x r ih => intro m; simp [marksSS, ih]
theorem marksSS_get (xss : List (List Int)) : ∀ (m : Int) (k : Nat), k < xss.length → (marksSS m xss).getD k [] = marks (m + total (xss.take k)) (xss.getD k []).length := by
  induction xss with
  | nil => intro m k hk; exact absurd hk (by simp)
  | cons x r ih =>
    intro m k hk
    cases k with
    | zero => simp [marksSS, total]
    | succ k =>
      have := ih (m + x.length) k (by simpa using hk)
      simp only [marksSS, List.getD_cons_succ, List.take_succ_cons, total]
      rw [this]
      congr 1
      omega
theorem marksSS_get_len {xss : List (List Int)} {m : Int} {k : Nat} (hk : k < xss.length) : ((marksSS m xss).getD k []).length = (xss.getD k []).length := by rw [marksSS_get xss m k hk, marks_len]

/-- As OwnSS, the rows told by a function. -/
def OwnRows (w : World) (lo hi : Nat) (v : Value) (n : Nat) (f : Nat → List Int) : Prop :=
  ∃ vs : List Value, vs.length = n ∧ w.ownsRow lo 23 1 v n vs ∧ (∀ j, j < n → Own w lo (vs.getD j undef) (f j) ∧ ∀ k, (vs.getD j undef).ownBlock = some k → k < hi) ∧
    ∀ j, j < n → ∀ i, i < j → (vs.getD i undef).ownBlock = none ∨ (vs.getD i undef).ownBlock ≠ (vs.getD j undef).ownBlock
theorem OwnSS.rows {w : World} {lo hi n : Nat} {v : Value} {xss : List (List Int)} (h : OwnSS w lo hi v xss) (hn : xss.length = n) : OwnRows w lo hi v n (fun j => xss.getD j []) := by subst hn; exact h
theorem OwnRows.ss {w : World} {lo hi n : Nat} {v : Value} {xss : List (List Int)} (h : OwnRows w lo hi v n (fun j => xss.getD j [])) (hn : xss.length = n) : OwnSS w lo hi v xss := by subst hn; exact h
theorem OwnRows.congr {w : World} {lo hi n : Nat} {v : Value} {f f' : Nat → List Int} (h : OwnRows w lo hi v n f) (he : ∀ j, j < n → f j = f' j) : OwnRows w lo hi v n f' := by
  obtain ⟨vs, hl, ho, hr, hd⟩ := h
  exact ⟨vs, hl, ho, fun j hj => by rw [← he j hj]; exact hr j hj, hd⟩
theorem OwnRows.row {w : World} {lo hi n c k : Nat} {A : Option Addr} {f : Nat → List Int} (h : OwnRows w lo hi (.slice A n c) n f) (hk : k < n) :
    ∃ (g : Nat) (Ak : Option Addr) (ck nk : Nat), A = some ⟨g, 0, none⟩ ∧ w.cell? ⟨g, k, none⟩ = some (.slice Ak nk ck) ∧ (f k).length = nk ∧ Own w lo (.slice Ak nk ck) (f k) ∧
      ∀ (w' : World) (ys : List Int), Own w' lo (.slice Ak nk ck) ys → w.grownBy w' (Value.ownBlock (.slice Ak nk ck)) → OwnRows w' lo hi (.slice A n c) n (fun j => if j = k then ys else f j) := by
  obtain ⟨vs, hl, ho, hr, hd⟩ := h
  have ho' := ho
  rcases ho.2 with ⟨hv, h0⟩ | ⟨g, cap, cur, hv, _⟩
  · omega
  · simp only [Value.slice.injEq, true_and] at hv
    obtain ⟨rfl, rfl⟩ := hv
    obtain ⟨Ak, ck, hv, hrd, hm⟩ := (hr k hk).1.form
    have hg : vs[k]? = some (vs.getD k undef) := by simp [List.getD, List.getElem?_eq_getElem (show k < vs.length by omega)]
    have hcell := ho'.cellAt k (by omega)
    rw [hg, hv] at hcell
    refine ⟨g, Ak, ck, _, rfl, hcell, rfl, by rw [← hv]; exact (hr k hk).1, fun w' ys hy hgr => ⟨vs, hl, ho.kept hgr ?_, fun j hj => ?_, hd⟩⟩
    · refine .inr fun e => ?_
      obtain ⟨_, cs, h2⟩ := row_kind ho g rfl
      have h3 : Value.ownBlock (.slice Ak (f k).length ck) = some g := e.symm
      rw [← hv] at h3
      obtain ⟨_, cs', h4⟩ := row_kind (hr k hk).1 g h3
      rw [h2] at h4
      injection h4 with h4
      injection h4 with _ h4
      exact absurd h4 (by decide)
    · by_cases e : j = k
      · subst e
        simp only [if_true]
        rw [hv]
        exact ⟨hy, by rw [← hv]; exact (hr j hj).2⟩
      · simp only [if_neg e]
        refine ⟨(hr j hj).1.grown hgr ?_, (hr j hj).2⟩
        rw [← hv]
        rcases Nat.lt_or_ge j k with hlt | hge
        · exact hd k hk j hlt
        · rcases hd j hj k (by omega) with h | h
          · cases hb : (vs.getD j undef).ownBlock with
            | none => exact .inl rfl
            | some q => exact .inr (by rw [h]; simp)
          · exact .inr (fun e' => h e'.symm)
theorem OwnSS.under {w w' : World} {lo hi B : Nat} {v : Value} {xss : List (List Int)} (h : OwnSS w lo hi v xss) (hB : hi ≤ B) (ho' : ∀ k, v.ownBlock = some k → k < B) (hb : Below B w w') : OwnSS w' lo hi v xss := by
  obtain ⟨vs, hl, ho, hr, hd⟩ := h
  have key : ∀ {e : TypeId} {size n : Nat} {u : Value} {xs : List Value}, w.ownsRow lo e size u n xs → (∀ k, u.ownBlock = some k → k < B) → w'.ownsRow lo e size u n xs := fun {e size n u xs} h hu => by
    obtain ⟨h1, h2⟩ := h
    refine ⟨h1, ?_⟩
    rcases h2 with h2 | ⟨g, cap, cur, rfl, hg, hh, r⟩
    · exact .inl h2
    · exact .inr ⟨g, cap, cur, rfl, hg, (hb.block g (hu g rfl)).trans hh, r⟩
  exact ⟨vs, hl, key ho ho', fun j hj => ⟨key (hr j hj).1 (fun k hk => Nat.lt_of_lt_of_le ((hr j hj).2 k hk) hB), (hr j hj).2⟩, hd⟩

theorem OwnSS.over {w w' : World} {lo hi : Nat} {row : Option Nat} {v : Value} {xss : List (List Int)} (h : OwnSS w lo hi v xss) (hg : w.grownBy w' row) (hr : ∀ k, row = some k → k < lo) : OwnSS w' lo hi v xss := by
  have ne : ∀ {e : TypeId} {size n : Nat} {u : Value} {xs : List Value}, w.ownsRow lo e size u n xs → u.ownBlock = none ∨ u.ownBlock ≠ row := fun {e size n u xs} h => by
    cases hu : u.ownBlock with
    | none => exact .inl rfl
    | some k =>
      refine .inr fun e' => ?_
      have a := (h.lt k hu).1
      have b := hr k e'.symm
      omega
  obtain ⟨vs, hl, ho, hrr, hd⟩ := h
  exact ⟨vs, hl, ho.kept hg (ne ho), fun j hj => ⟨(hrr j hj).1.grown hg (ne (hrr j hj).1), (hrr j hj).2⟩, hd⟩

theorem cycFrom_len (p : List Int) : ∀ (f : Nat) (vis : List Nat) (k : Nat), (cycFrom p f vis k).length ≤ f := by
  intro f
  induction f with
  | zero => intro vis k; simp [cycFrom]
  | succ f ih =>
    intro vis k
    rw [cycFrom]
    split
    · simp
    · simpa using ih _ _
theorem cycAll_total (p : List Int) : ∀ (is : List Nat) (vis : List Nat), total (cycAll p is vis) ≤ 13 * is.length := by
  intro is
  induction is with
  | nil => intro vis; simp [cycAll, total]
  | cons i is ih =>
    intro vis
    rw [cycAll]
    split
    · have := ih vis; simp only [List.length_cons]; omega
    · have h1 := ih (after (cycFrom p 13 vis i) vis)
      have h2 := cycFrom_len p 13 vis i
      simp only [total, List.length_cons]
      omega
end Go.Proofs.Yteajaikgeephmaa

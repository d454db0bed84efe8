/-
  A slice of slices of ints that reads as a list of lists: to compare, to count, to copy.
  Slices of slices of ints that a call owns: to mark, to look at.
-/
import Derived.Test.YtcenffndclpjoaaKit
import Derived.Test.YtcenffndclpjoaaSeen
namespace Go.Proofs.Ytcenffndclpjoaa
open Go.RowKit

/-- The slice value with the address A and n elements reads as the list of lists xss. -/
def RdSS (w : World) (A : Option Addr) (n : Nat) (xss : List (List Int)) : Prop :=
  xss.length = n ∧ (0 < n → ∃ ad : Addr, A = some ad ∧ ∀ j, j < n → ∃ Aj cj, w.cell? (ad.add j) = some (.slice Aj (xss.getD j []).length cj) ∧ Rd w Aj (xss.getD j []).length (xss.getD j []) ∧ (xss.getD j []).length ≤ maxLen)
theorem RdSS.at_ {w : World} {A : Option Addr} {n : Nat} {xss : List (List Int)} {k : Nat} (h : RdSS w A n xss) (hk : k < n) :
    ∃ (ad : Addr) (Aj : Option Addr) (cj nj : Nat), A = some ad ∧ w.cell? (ad.add k) = some (.slice Aj nj cj) ∧ Rd w Aj nj (xss.getD k []) ∧ nj ≤ maxLen := by
  obtain ⟨ad, e, hc⟩ := h.2 (by omega)
  obtain ⟨Aj, cj, h1, h2, h3⟩ := hc k hk
  exact ⟨ad, Aj, cj, _, e, h1, h2, h3⟩
theorem RdSS.drewN {w : World} {A : Option Addr} {n : Nat} {xss : List (List Int)} (h : RdSS w A n xss) (k : Nat) : RdSS (w.drewN k) A n xss := h
/-- How many elements in all. -/
def total : List (List Int) → Nat
  | [] => 0
  | xs :: r => xs.length + total r
theorem total_append (a b : List (List Int)) : total (a ++ b) = total a + total b := by
  induction a with
  | nil => simp [total]
  | cons x a ih => simp only [List.cons_append, total, ih]; omega
theorem total_take_succ {xss : List (List Int)} {k : Nat} (h : k < xss.length) : total (xss.take (k + 1)) = total (xss.take k) + (xss.getD k []).length := by
  rw [List.take_succ_eq_append_getElem h, total_append]
  simp [total, List.getD, h]
theorem total_take_le (xss : List (List Int)) (k : Nat) : total (xss.take k) ≤ total xss := by
  have := total_append (xss.take k) (xss.drop k)
  rw [List.take_append_drop] at this
  omega
theorem total_all (xss : List (List Int)) {n : Nat} (h : xss.length = n) : total (xss.take n) = total xss := by rw [← h, List.take_length]
theorem total_ge {xss : List (List Int)} {k : Nat} (h : k < xss.length) : (xss.getD k []).length ≤ total xss := by
  have a := total_take_succ h
  have b := total_take_le xss (k + 1)
  omega
theorem RdSS.keep {w w' : World} {A : Option Addr} {n : Nat} {xss : List (List Int)} (h : RdSS w A n xss) (hk : ∀ p : Addr, p.block < w.heap.size → w'.cell? p = w.cell? p) : RdSS w' A n xss :=
  ⟨h.1, fun hn => by
    obtain ⟨ad, e, hc⟩ := h.2 hn
    refine ⟨ad, e, fun j hj => ?_⟩
    obtain ⟨Aj, cj, h1, h2, h3⟩ := hc j hj
    exact ⟨Aj, cj, (hk _ (World.block_lt_of_cell? w _ h1)).trans h1, h2.keep hk, h3⟩⟩
theorem RdSS.below {w w' : World} {A : Option Addr} {n : Nat} {xss : List (List Int)} (h : RdSS w A n xss) (hb : Below w.heap.size w w') : RdSS w' A n xss := h.keep fun _ hp => hb.cell hp

/-- .. of an argument that was opened. -/
theorem RdSS.of_rows {w : World} {a : Addr} {base len cap : Nat} {A : Nat → Option Addr} {L C : Nat → Nat} {Z : Nat → List Int} (hl : len ≤ cap)
    (h : ∀ r, r < cap → w.cell? (a.add r) = some (.slice (A r) (L r) (C r)) ∧ L r ≤ C r ∧ C r ≤ maxLen ∧ (Z r).length = C r ∧ (∀ n ∈ Z r, (Lit.int .i64 n).wf = true) ∧ (A r = none → C r = 0) ∧
      ∀ a', A r = some a' → base ≤ a'.block ∧ ∀ c, c < C r → w.cell? (a'.add c) = some (.int .i64 ((Z r).getD c 0))) : RdSS w (some a) len ((List.range len).map fun r => (Z r).take (L r)) := by
  refine ⟨by simp, fun _ => ⟨a, rfl, fun j hj => ?_⟩⟩
  obtain ⟨h1, h2, h3, h4, -, h6, h7⟩ := h j (by omega)
  have e : ((List.range len).map fun r => (Z r).take (L r)).getD j [] = (Z j).take (L j) := by simp [List.getD, hj]
  have el : ((Z j).take (L j)).length = L j := by rw [List.length_take]; omega
  rw [e, el]
  refine ⟨A j, C j, h1, ?_, Nat.le_trans h2 h3⟩
  cases hA : A j with
  | none =>
    have := h6 hA
    exact ⟨el, fun hp => absurd hp (by omega)⟩
  | some a' => exact Rd.of_row h2 h4 (fun i hi => (h7 a' hA).2 i (by rw [h4] at hi; exact hi))

theorem info_sliceR : (Try.prog.info? 23).map (fun i => (i.zero, i.size, i.bytes)) = some (some (.slice none 0 0), 1, 24) := by kernel_rfl

/-- Block g holds n rows, those before k read as xss. -/
def Rows (w : World) (g n : Nat) (k : Nat) (xss : List (List Int)) : Prop :=
  ∃ vs : List Value, vs.length = n ∧ w.ownsRow g 23 1 (.slice (some ⟨g, 0, none⟩) n n) n vs ∧ ∀ j, j < k → Own w (g + 1) (vs.getD j undef) (xss.getD j [])
theorem Rows.made {w : World} {g n : Nat} {xss : List (List Int)} (h : w.ownsRow g 23 1 (.slice (some ⟨g, 0, none⟩) n n) n (madeCells (Value.slice none 0 0).cells (n * 1)).toList) : Rows w g n 0 xss := by
  have e : (Value.slice none 0 0).cells = #[Value.slice none 0 0] := rfl
  rw [e, Nat.mul_one, toList_madeCells_one] at h
  exact ⟨_, by simp, h, fun j hj => absurd hj (by omega)⟩
theorem Rows.below {w w' : World} {g n k : Nat} {xss : List (List Int)} (h : Rows w g n k xss) (hb : Below w.heap.size w w') : Rows w' g n k xss := by
  obtain ⟨vs, hl, ho, hr⟩ := h
  exact ⟨vs, hl, World.ownsRow.kept ho (row := none) ⟨hb.os, hb.tape, hb.output, hb.size, fun k hk _ => hb.block k hk⟩ (by simp [Value.ownBlock]), fun j hj => (hr j hj).below hb⟩
theorem Rows.at_ {w : World} {g n k : Nat} {xss : List (List Int)} (h : Rows w g n k xss) {i : Nat} (hi : i < n) : ∃ v, w.cell? ⟨g, i, none⟩ = some v ∧ w.frozen? ⟨g, i, none⟩ = false := by
  obtain ⟨vs, hl, ho, hr⟩ := h
  refine ⟨vs.getD i undef, ?_, World.ownsRow.frozenAt ho i⟩
  rw [World.ownsRow.cellAt ho i (by omega)]
  simp [List.getD, List.getElem?_eq_getElem (show i < vs.length by omega)]
theorem Rows.put {w : World} {g n k : Nat} {xss : List (List Int)} {u : Value} (h : Rows w g n k xss) (hk : k < n) (hu : Own w (g + 1) u (xss.getD k [])) :
    Rows (w.setCell ⟨g, k, none⟩ u) g n (k + 1) xss ∧ w.grownBy (w.setCell ⟨g, k, none⟩ u) (some g) := by
  obtain ⟨vs, hl, ho, hr⟩ := h
  have hs := World.ownsRow.stored ho k u
  have key : ∀ {x : Value} {ys : List Int}, Own w (g + 1) x ys → Own (w.setCell ⟨g, k, none⟩ u) (g + 1) x ys := fun {x ys} hx => by
    refine hx.grown hs.2 ?_
    cases hb : x.ownBlock with
    | none => exact .inl rfl
    | some b => exact .inr fun e => by cases e; have := (hx.lt g hb).1; omega
  refine ⟨⟨vs.set k u, by simp [hl], hs.1, fun j hj => ?_⟩, hs.2⟩
  by_cases e : j = k
  · subst e
    have : (vs.set j u).getD j undef = u := by simp [List.getD, hl, hk]
    rw [this]; exact key hu
  · have : (vs.set k u).getD j undef = vs.getD j undef := by simp [List.getD, Ne.symm e]
    rw [this]; exact key (hr j (by omega))
theorem Rows.rd {w : World} {g n : Nat} {xss : List (List Int)} (h : Rows w g n n xss) (hn : xss.length = n) : RdSS w (some ⟨g, 0, none⟩) n xss := by
  obtain ⟨vs, hl, ho, hr⟩ := h
  refine ⟨hn, fun hp => ⟨_, rfl, fun j hj => ?_⟩⟩
  obtain ⟨Aj, cj, hv, hrd, hm⟩ := (hr j hj).form
  refine ⟨Aj, cj, ?_, hrd, hm⟩
  have hg : (vs)[j]? = some (vs.getD j undef) := by simp [List.getD, List.getElem?_eq_getElem (show j < vs.length by omega)]
  rw [← hv]
  exact ho.cells (g := g) rfl j _ hg

/-- A row of it. -/
theorem Rows.row {w : World} {g n : Nat} {xss : List (List Int)} (h : Rows w g n n xss) {j : Nat} (hj : j < n) :
    ∃ Aj nj cj, w.cell? ⟨g, j, none⟩ = some (.slice Aj nj cj) ∧ Own w (g + 1) (.slice Aj nj cj) (xss.getD j []) ∧ (xss.getD j []).length = nj := by
  obtain ⟨vs, hl, ho, hr⟩ := h
  obtain ⟨Aj, cj, hv, -, -⟩ := (hr j hj).form
  have hc := World.ownsRow.cellAt ho j (by omega)
  have h1 := hr j hj
  rw [hv] at h1
  refine ⟨Aj, _, cj, ?_, h1, rfl⟩
  rw [hc, ← hv]
  simp [List.getD, List.getElem?_eq_getElem (show j < vs.length by omega)]

end Go.Proofs.Ytcenffndclpjoaa

namespace Go.Proofs.Ytcenffndclpjoaa
open Go.RowKit

theorem row_kind {w : World} {base : Nat} {e : TypeId} {size n : Nat} {v : Value} {xs : List Value} (h : w.ownsRow base e size v n xs) : ∀ g, v.ownBlock = some g → base ≤ g ∧ ∃ cs, w.heap[g]? = some (.cells cs e (0, 0)) := by
  intro g hg
  rcases h.2 with ⟨rfl, _⟩ | ⟨g', cap, cur, rfl, hb, hh, _⟩
  · simp [Value.ownBlock] at hg
  · have : g' = g := by simpa [Value.ownBlock] using hg
    subst this
    exact ⟨hb, cur, hh⟩
theorem OwnSS.rd {w : World} {lo hi n c : Nat} {A : Option Addr} {xss : List (List Int)} (h : OwnSS w lo hi (.slice A n c) xss) (hn : xss.length = n) : RdSS w A n xss := by
  obtain ⟨vs, hl, ho, hr, _⟩ := h
  refine ⟨hn, fun hp => ?_⟩
  have ho' := ho
  rcases ho.2 with ⟨hv, h0⟩ | ⟨g, cap, cur, hv, _⟩
  · omega
  · simp only [Value.slice.injEq] at hv
    obtain ⟨rfl, h1, h2⟩ := hv
    refine ⟨_, rfl, fun j hj => ?_⟩
    obtain ⟨Aj, cj, hv, hrd, hm⟩ := (hr j (by omega)).1.form
    refine ⟨Aj, cj, ?_, hrd, hm⟩
    have hg : (vs)[j]? = some (vs.getD j undef) := by simp [List.getD, List.getElem?_eq_getElem (show j < vs.length by omega)]
    rw [← hv]
    exact ho'.cells (g := g) rfl j _ hg

/-- The rows, marked with the numbers from m on. -/
def marksSS (m : Int) : List (List Int) → List (List Int)
  | [] => []
  | xs :: r => marks m xs.length :: marksSS (m + xs.length) r
theorem marksSS_len (xss : List (List Int)) : ∀ m, (marksSS m xss).length = xss.length := by
  induction xss with
  | nil => intro m; rfl
  | cons x r ih => intro m; simp [marksSS, ih]
theorem marksSS_get (xss : List (List Int)) : ∀ (m : Int) (k : Nat), k < xss.length → (marksSS m xss).getD k [] = marks (m + total (xss.take k)) (xss.getD k []).length := by
  induction xss with
  | nil => intro m k hk; exact absurd hk (by simp)
  | cons x r ih =>
    intro m k hk
    cases k with
    | zero => simp [marksSS, total]
    | succ k =>
      have := ih (m + x.length) k (by simpa using hk)
      simp only [marksSS, List.getD_cons_succ, List.take_succ_cons, total]
      rw [this]
      congr 1
      omega
theorem marksSS_get_len {xss : List (List Int)} {m : Int} {k : Nat} (hk : k < xss.length) : ((marksSS m xss).getD k []).length = (xss.getD k []).length := by rw [marksSS_get xss m k hk, marks_len]

/-- As OwnSS, the rows told by a function. -/
def OwnRows (w : World) (lo hi : Nat) (v : Value) (n : Nat) (f : Nat → List Int) : Prop :=
  ∃ vs : List Value, vs.length = n ∧ w.ownsRow lo 23 1 v n vs ∧ (∀ j, j < n → Own w lo (vs.getD j undef) (f j) ∧ ∀ k, (vs.getD j undef).ownBlock = some k → k < hi) ∧
    ∀ j, j < n → ∀ i, i < j → (vs.getD i undef).ownBlock = none ∨ (vs.getD i undef).ownBlock ≠ (vs.getD j undef).ownBlock
theorem OwnSS.rows {w : World} {lo hi n : Nat} {v : Value} {xss : List (List Int)} (h : OwnSS w lo hi v xss) (hn : xss.length = n) : OwnRows w lo hi v n (fun j => xss.getD j []) := by subst hn; exact h
theorem OwnRows.ss {w : World} {lo hi n : Nat} {v : Value} {xss : List (List Int)} (h : OwnRows w lo hi v n (fun j => xss.getD j [])) (hn : xss.length = n) : OwnSS w lo hi v xss := by subst hn; exact h
theorem OwnRows.congr {w : World} {lo hi n : Nat} {v : Value} {f f' : Nat → List Int} (h : OwnRows w lo hi v n f) (he : ∀ j, j < n → f j = f' j) : OwnRows w lo hi v n f' := by
  obtain ⟨vs, hl, ho, hr, hd⟩ := h
  exact ⟨vs, hl, ho, fun j hj => by rw [← he j hj]; exact hr j hj, hd⟩
theorem OwnRows.row {w : World} {lo hi n c k : Nat} {A : Option Addr} {f : Nat → List Int} (h : OwnRows w lo hi (.slice A n c) n f) (hk : k < n) :
    ∃ (g : Nat) (Ak : Option Addr) (ck nk : Nat), A = some ⟨g, 0, none⟩ ∧ w.cell? ⟨g, k, none⟩ = some (.slice Ak nk ck) ∧ (f k).length = nk ∧ Own w lo (.slice Ak nk ck) (f k) ∧
      ∀ (w' : World) (ys : List Int), Own w' lo (.slice Ak nk ck) ys → w.grownBy w' (Value.ownBlock (.slice Ak nk ck)) → OwnRows w' lo hi (.slice A n c) n (fun j => if j = k then ys else f j) := by
  obtain ⟨vs, hl, ho, hr, hd⟩ := h
  have ho' := ho
  rcases ho.2 with ⟨hv, h0⟩ | ⟨g, cap, cur, hv, _⟩
  · omega
  · simp only [Value.slice.injEq, true_and] at hv
    obtain ⟨rfl, rfl⟩ := hv
    obtain ⟨Ak, ck, hv, hrd, hm⟩ := (hr k hk).1.form
    have hg : vs[k]? = some (vs.getD k undef) := by simp [List.getD, List.getElem?_eq_getElem (show k < vs.length by omega)]
    have hcell := ho'.cellAt k (by omega)
    rw [hg, hv] at hcell
    refine ⟨g, Ak, ck, _, rfl, hcell, rfl, by rw [← hv]; exact (hr k hk).1, fun w' ys hy hgr => ⟨vs, hl, ho.kept hgr ?_, fun j hj => ?_, hd⟩⟩
    · refine .inr fun e => ?_
      obtain ⟨_, cs, h2⟩ := row_kind ho g rfl
      have h3 : Value.ownBlock (.slice Ak (f k).length ck) = some g := e.symm
      rw [← hv] at h3
      obtain ⟨_, cs', h4⟩ := row_kind (hr k hk).1 g h3
      rw [h2] at h4
      injection h4 with h4
      injection h4 with _ h4
      exact absurd h4 (by decide)
    · by_cases e : j = k
      · subst e
        simp only [if_true]
        rw [hv]
        exact ⟨hy, by rw [← hv]; exact (hr j hj).2⟩
      · simp only [if_neg e]
        refine ⟨(hr j hj).1.grown hgr ?_, (hr j hj).2⟩
        rw [← hv]
        rcases Nat.lt_or_ge j k with hlt | hge
        · exact hd k hk j hlt
        · rcases hd j hj k (by omega) with h | h
          · cases hb : (vs.getD j undef).ownBlock with
            | none => exact .inl rfl
            | some q => exact .inr (by rw [h]; simp)
          · exact .inr (fun e' => h e'.symm)
theorem OwnSS.under {w w' : World} {lo hi B : Nat} {v : Value} {xss : List (List Int)} (h : OwnSS w lo hi v xss) (hB : hi ≤ B) (ho' : ∀ k, v.ownBlock = some k → k < B) (hb : Below B w w') : OwnSS w' lo hi v xss := by
  obtain ⟨vs, hl, ho, hr, hd⟩ := h
  have key : ∀ {e : TypeId} {size n : Nat} {u : Value} {xs : List Value}, w.ownsRow lo e size u n xs → (∀ k, u.ownBlock = some k → k < B) → w'.ownsRow lo e size u n xs := fun {e size n u xs} h hu => by
    obtain ⟨h1, h2⟩ := h
    refine ⟨h1, ?_⟩
    rcases h2 with h2 | ⟨g, cap, cur, rfl, hg, hh, r⟩
    · exact .inl h2
    · exact .inr ⟨g, cap, cur, rfl, hg, (hb.block g (hu g rfl)).trans hh, r⟩
  exact ⟨vs, hl, key ho ho', fun j hj => ⟨key (hr j hj).1 (fun k hk => Nat.lt_of_lt_of_le ((hr j hj).2 k hk) hB), (hr j hj).2⟩, hd⟩

theorem OwnSS.over {w w' : World} {lo hi : Nat} {row : Option Nat} {v : Value} {xss : List (List Int)} (h : OwnSS w lo hi v xss) (hg : w.grownBy w' row) (hr : ∀ k, row = some k → k < lo) : OwnSS w' lo hi v xss := by
  have ne : ∀ {e : TypeId} {size n : Nat} {u : Value} {xs : List Value}, w.ownsRow lo e size u n xs → u.ownBlock = none ∨ u.ownBlock ≠ row := fun {e size n u xs} h => by
    cases hu : u.ownBlock with
    | none => exact .inl rfl
    | some k =>
      refine .inr fun e' => ?_
      have a := (h.lt k hu).1
      have b := hr k e'.symm
      omega
  obtain ⟨vs, hl, ho, hrr, hd⟩ := h
  exact ⟨vs, hl, ho.kept hg (ne ho), fun j hj => ⟨(hrr j hj).1.grown hg (ne (hrr j hj).1), (hrr j hj).2⟩, hd⟩

theorem cycFrom_len (p : List Int) : ∀ (f : Nat) (vis : List Nat) (k : Nat), (cycFrom p f vis k).length ≤ f := by
  intro f
  induction f with
  | zero => intro vis k; simp [cycFrom]
  | succ f ih =>
    intro vis k
    rw [cycFrom]
    split
    · simp
    · simpa using ih _ _
theorem cycAll_total (p : List Int) : ∀ (is : List Nat) (vis : List Nat), total (cycAll p is vis) ≤ 13 * is.length := by
  intro is
  induction is with
  | nil => intro vis; simp [cycAll, total]
  | cons i is ih =>
    intro vis
    rw [cycAll]
    split
    · have := ih vis; simp only [List.length_cons]; omega
    · have h1 := ih (after (cycFrom p 13 vis i) vis)
      have h2 := cycFrom_len p 13 vis i
      simp only [total, List.length_cons]
      omega
end Go.Proofs.Ytcenffndclpjoaa

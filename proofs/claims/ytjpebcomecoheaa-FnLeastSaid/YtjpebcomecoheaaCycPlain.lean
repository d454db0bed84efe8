/-
  Plain: the cycles of a permutation, found by going along it and marking points.
-/
import Derived.Test.YtjpebcomecoheaaPlain
namespace Go.Proofs.Ytjpebcomecoheaa

theorem nodup_len : ∀ (n : Nat) (l : List Nat), l.Nodup → (∀ j, j ∈ l → j < n) → l.length ≤ n := by
  intro n
  induction n with
  | zero =>
    intro l _ h
    cases l with
    | nil => simp
    | cons a l => exact absurd (h a (by simp)) (by omega)
  | succ n ih =>
    intro l hn h
    have h1 := ih (l.erase n) (hn.erase n) (fun j hj => by
      have h2 := (hn.mem_erase_iff).1 hj
      have := h j h2.2
      have := h2.1
      omega)
    have h2 : l.length ≤ (l.erase n).length + 1 := by rw [List.length_erase]; split <;> omega
    omega

/-- From k on along p, up to the first point that is marked. -/
def cycFrom (p : List Int) : Nat → List Nat → Nat → List Int
  | 0, _, _ => []
  | f + 1, vis, k => if k ∈ vis then [] else (k : Int) :: cycFrom p f (k :: vis) (gn p k)

def after (c : List Int) (vis : List Nat) : List Nat := (c.map Int.toNat).reverse ++ vis
theorem after_nil (vis : List Nat) : after [] vis = vis := rfl
theorem after_snoc (c : List Int) (k : Nat) (vis : List Nat) : after (c ++ [(k : Int)]) vis = k :: after c vis := by simp [after]

/-- All cycles that begin at one of the points is. -/
def cycAll (p : List Int) : List Nat → List Nat → List (List Int)
  | [], _ => []
  | i :: is, vis => if i ∈ vis then cycAll p is vis else cycFrom p 13 vis i :: cycAll p is (after (cycFrom p 13 vis i) vis)
def cyclesL (p : List Int) : List (List Int) := cycAll p (List.range' 0 p.length) []

/-- The inner loop: what has been gathered, what is marked, where it stands. -/
structure Inner (p : List Int) (n : Nat) (vis0 : List Nat) (i : Nat) (acc : List Int) (vis : List Nat) (k : Nat) : Prop where
  eq : ∃ f, cycFrom p 13 vis0 i = acc ++ cycFrom p f vis k ∧ 13 ≤ f + vis.length
  vis_eq : vis = after acc vis0
  nodup : vis.Nodup
  lt : ∀ j, j ∈ vis → j < n
  klt : k < n

theorem Inner.start {p : List Int} {n i : Nat} {vis0 : List Nat} (hn : vis0.Nodup) (hl : ∀ j, j ∈ vis0 → j < n) (hi : i < n) : Inner p n vis0 i [] vis0 i :=
  ⟨⟨13, rfl, by omega⟩, rfl, hn, hl, hi⟩
theorem Inner.step {p : List Int} {n i k : Nat} {vis0 vis : List Nat} {acc : List Int} (h : Inner p n vis0 i acc vis k) (hp : Vld p) (hpn : p.length = n) (hk : k ∉ vis) :
    Inner p n vis0 i (acc ++ [(k : Int)]) (k :: vis) (gn p k) := by
  obtain ⟨⟨f, he, hf⟩, hv, hnd, hlt, hkn⟩ := h
  have hlen := nodup_len n vis hnd hlt
  have h12 : n ≤ 12 := by rw [← hpn]; exact hp.2.1
  cases f with
  | zero => omega
  | succ f =>
    have hcf : cycFrom p (f + 1) vis k = (k : Int) :: cycFrom p f (k :: vis) (gn p k) := by rw [cycFrom, if_neg hk]
    rw [hcf] at he
    refine ⟨⟨f, by rw [he, List.append_assoc]; rfl, by simp; omega⟩, by rw [after_snoc, hv], List.nodup_cons.2 ⟨hk, hnd⟩, fun j hj => ?_, by rw [← hpn]; exact hp.gn_lt (by omega)⟩
    rcases List.mem_cons.1 hj with rfl | hj
    · exact hkn
    · exact hlt j hj
theorem Inner.done {p : List Int} {n i k : Nat} {vis0 vis : List Nat} {acc : List Int} (h : Inner p n vis0 i acc vis k) (h12 : n ≤ 12) (hk : k ∈ vis) : cycFrom p 13 vis0 i = acc := by
  obtain ⟨⟨f, he, hf⟩, hv, hnd, hlt, hkn⟩ := h
  have hlen := nodup_len n vis hnd hlt
  cases f with
  | zero => omega
  | succ f =>
    have hcf : cycFrom p (f + 1) vis k = [] := by rw [cycFrom, if_pos hk]
    rw [he, hcf, List.append_nil]
theorem Inner.len {p : List Int} {n i k : Nat} {vis0 vis : List Nat} {acc : List Int} (h : Inner p n vis0 i acc vis k) : acc.length ≤ n := by
  have := nodup_len n vis h.nodup h.lt
  rw [h.vis_eq] at this
  simp [after] at this
  omega

/-- The outer loop: what has been found, what is marked, where it stands. -/
structure Outer (p : List Int) (n : Nat) (out : List (List Int)) (vis : List Nat) (i : Nat) : Prop where
  eq : cyclesL p = out ++ cycAll p (List.range' i (n - i)) vis
  nodup : vis.Nodup
  lt : ∀ j, j ∈ vis → j < n
  le : i ≤ n
  few : out.length ≤ i
theorem Outer.start {p : List Int} {n : Nat} (hn : p.length = n) : Outer p n [] [] 0 :=
  ⟨by simp [cyclesL, hn], List.nodup_nil, fun j hj => (by cases hj), Nat.zero_le _, Nat.le_refl _⟩
theorem Outer.skip {p : List Int} {n i : Nat} {out : List (List Int)} {vis : List Nat} (h : Outer p n out vis i) (hi : i < n) (hv : i ∈ vis) : Outer p n out vis (i + 1) := by
  obtain ⟨he, hnd, hlt, hle, hf⟩ := h
  refine ⟨?_, hnd, hlt, by omega, by omega⟩
  rw [he, show n - i = (n - (i + 1)) + 1 from by omega, List.range'_succ, cycAll, if_pos hv]
theorem Outer.take {p : List Int} {n i k : Nat} {out : List (List Int)} {vis vis' : List Nat} {acc : List Int} (h : Outer p n out vis i) (hi : i < n) (h12 : n ≤ 12) (hv : i ∉ vis) (hin : Inner p n vis i acc vis' k) (hk : k ∈ vis') :
    Outer p n (out ++ [acc]) vis' (i + 1) := by
  obtain ⟨he, hnd, hlt, hle, hf⟩ := h
  have hc := hin.done h12 hk
  refine ⟨?_, hin.nodup, hin.lt, by omega, by simp; omega⟩
  rw [he, show n - i = (n - (i + 1)) + 1 from by omega, List.range'_succ, cycAll, if_neg hv, hc, hin.vis_eq, List.append_assoc]
  rfl
theorem Outer.done {p : List Int} {n : Nat} {out : List (List Int)} {vis : List Nat} (h : Outer p n out vis n) : cyclesL p = out := by
  rw [h.eq, Nat.sub_self]; simp [cycAll]

end Go.Proofs.Ytjpebcomecoheaa

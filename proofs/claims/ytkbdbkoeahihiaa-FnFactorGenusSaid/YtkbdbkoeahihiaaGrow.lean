/-
  The program's tree of lists, by contract.
-/
import Derived.Test.YtkbdbkoeahihiaaLong
import Derived.Deep.RegionHeldLaw
import Derived.Deep.AppendLies
import Derived.Deep.RegionLaw
namespace Go.Proofs.Ytkbdbkoeahihiaa
open Go.RowKit
set_option linter.unusedVariables false
attribute [local go_sem] Oper.semAt_some

/-- As Tr, all its blocks from lo on, before hi. -/
def TrL : Nat → World → Nat → Nat → Nat → List Value → Prop
  | 0, _, _, _, _, _ => False
  | f + 1, w, lo, hi, B, ps => ∃ (A : Option Addr) (n c : Nat) (kv : Value) (bs : List Nat) (pss : List (List Value)), lo ≤ B ∧ B < hi ∧
      w.heap[B]? = some (.cells #[.slice A n c, kv] 99 (0, 0)) ∧ w.ownsRow lo 73 1 kv bs.length (ptrs bs) ∧ (∀ k, kv.ownBlock = some k → k < hi) ∧ pss.length = bs.length ∧
      (∀ j, j < bs.length → TrL f w lo hi (bs.getD j 0) (pss.getD j [])) ∧ ps = (if bs.length = 0 then [.slice A n c] else pss.flatten)
theorem ownsRow_mono {w : World} {lo lo' : Nat} {e : TypeId} {size n : Nat} {v : Value} {xs : List Value} (h : w.ownsRow lo e size v n xs) (hh : lo' ≤ lo) : w.ownsRow lo' e size v n xs := by
  obtain ⟨h1, h2⟩ := h
  refine ⟨h1, ?_⟩
  rcases h2 with h2 | ⟨g, cap, cur, hv, hg, r⟩
  · exact .inl h2
  · exact .inr ⟨g, cap, cur, hv, by omega, r⟩
theorem TrL.tr : ∀ {f : Nat} {w : World} {lo hi B : Nat} {ps : List Value}, TrL f w lo hi B ps → Tr f w B ps
  | 0, _, _, _, _, _, h => h.elim
  | f + 1, w, lo, hi, B, ps, ⟨A, n, c, kv, bs, pss, _, _, h1, h2, _, h3, h4, h5⟩ => ⟨A, n, c, kv, bs, pss, h1, ownsRow_mono h2 (Nat.zero_le _), h3, fun j hj => (h4 j hj).tr, h5⟩
theorem TrL.fix : ∀ {f : Nat} {w w' : World} {lo hi B : Nat} {ps : List Value}, TrL f w lo hi B ps → Fix lo hi w w' → TrL f w' lo hi B ps
  | 0, _, _, _, _, _, _, h, _ => h.elim
  | f + 1, w, w', lo, hi, B, ps, ⟨A, n, c, kv, bs, pss, a, b, h1, h2, h2', h3, h4, h5⟩, hf =>
    ⟨A, n, c, kv, bs, pss, a, b, (hf B a b).trans h1, ownsRow_fix h2 h2' hf, h2', h3, fun j hj => (h4 j hj).fix hf, h5⟩
theorem TrL.wide : ∀ {f : Nat} {w : World} {lo hi lo' hi' B : Nat} {ps : List Value}, TrL f w lo hi B ps → lo' ≤ lo → hi ≤ hi' → TrL f w lo' hi' B ps
  | 0, _, _, _, _, _, _, _, h, _, _ => h.elim
  | f + 1, w, lo, hi, lo', hi', B, ps, ⟨A, n, c, kv, bs, pss, a, b, h1, h2, h2', h3, h4, h5⟩, hl, hh =>
    ⟨A, n, c, kv, bs, pss, by omega, by omega, h1, ownsRow_mono h2 hl, fun k hk => Nat.lt_of_lt_of_le (h2' k hk) hh, h3, fun j hj => (h4 j hj).wide hl hh, h5⟩
theorem TrL.up : ∀ {f : Nat} {w : World} {lo hi B : Nat} {ps : List Value}, TrL f w lo hi B ps → TrL (f + 1) w lo hi B ps
  | 0, _, _, _, _, _, h => h.elim
  | f + 1, w, lo, hi, B, ps, ⟨A, n, c, kv, bs, pss, a, b, h1, h2, h2', h3, h4, h5⟩ => ⟨A, n, c, kv, bs, pss, a, b, h1, h2, h2', h3, fun j hj => (h4 j hj).up, h5⟩
theorem TrL.le {f f' : Nat} {w : World} {lo hi B : Nat} {ps : List Value} (h : TrL f w lo hi B ps) (hf : f ≤ f') : TrL f' w lo hi B ps := by
  induction hf with
  | refl => exact h
  | step _ ih => exact ih.up

theorem flatMap_same {α β : Type} {l : List α} {f g : α → List β} (h : ∀ x ∈ l, f x = g x) : l.flatMap f = l.flatMap g := by
  induction l with
  | nil => rfl
  | cons a l ih => rw [List.flatMap_cons, List.flatMap_cons, h a (by simp), ih (fun x hx => h x (by simp [hx]))]
theorem ptsOf_fuel : ∀ f : Nat, f < 8 → ∀ n : Nat, n ≤ f → ∀ most : Nat, most < 8 → ptsOf f n most = ptsOf 7 n most := by decide +kernel
/-- The ways to go on from a list, the first i firsts. -/
def extTo (xs : List Int) (d M i : Nat) : List (List Int) := (List.range i).flatMap fun j => (ptsOf 7 (d - (M - j)) (M - j)).map fun r => (xs ++ [((M - j : Nat) : Int)]) ++ r
theorem extTo_succ (xs : List Int) (d M i : Nat) : extTo xs d M (i + 1) = extTo xs d M i ++ (ptsOf 7 (d - (M - i)) (M - i)).map fun r => (xs ++ [((M - i : Nat) : Int)]) ++ r := by simp [extTo, List.range_succ]
def ext (xs : List Int) (d most : Nat) : List (List Int) := (ptsOf 7 d most).map (xs ++ ·)
theorem ptsOf_step (f n most : Nat) : ptsOf (f + 1) (n + 1) most = (List.range (min (n + 1) most)).flatMap fun i => (ptsOf f (n + 1 - (min (n + 1) most - i)) (min (n + 1) most - i)).map (((min (n + 1) most - i : Nat) : Int) :: ·) := rfl
theorem ext_to (xs : List Int) (d most M : Nat) (hd : 0 < d) (hd6 : d ≤ 6) (hm : most < 8) (hM : min d most = M) : ext xs d most = extTo xs d M M := by
  subst hM
  obtain ⟨n, rfl⟩ : ∃ n, d = n + 1 := ⟨d - 1, by omega⟩
  have e : ptsOf 7 (n + 1) most = (List.range (min (n + 1) most)).flatMap fun i => (ptsOf 7 (n + 1 - (min (n + 1) most - i)) (min (n + 1) most - i)).map (((min (n + 1) most - i : Nat) : Int) :: ·) := by
    rw [show ptsOf 7 (n + 1) most = ptsOf (6 + 1) (n + 1) most from rfl, ptsOf_step]
    apply flatMap_same
    intro i hi
    have := List.mem_range.1 hi
    rw [ptsOf_fuel 6 (by omega) _ (by omega) _ (by omega)]
  rw [ext, extTo, e, List.map_flatMap]
  apply flatMap_same
  intro i hi
  simp [List.map_map, Function.comp_def]

/-- What follows a list, by the closure. -/
theorem follows_any (ad : Addr) (np c Bn : Nat) (xs : List Int) (N : Nat) (w : World) (hb : w.heap[Bn]? = some (.cells #[.int .i64 N] 3 (0, 0))) (h : Rd w (some ad) np xs) (hp : LoP xs) (hN : N ≤ 6) {M : Nat} (hM : mostI xs N = M) :
    Calls Try.prog 72 #[.slice (some ad) np c, .pointer (some ⟨Bn, 0, none⟩)] w (LongerPost w xs M) := by
  have hc : w.cell? ⟨Bn, 0, none⟩ = some (.int .i64 N) := by simp [World.cell?, hb]
  have HL := Lib.hid (longer_any ad np c xs N w h hp hN hM)
  clear hb h hp hM
  go_enter Try.func72, Try.ntmps72
  go_wp2_with fail
  refine HL.out.mono ?_
  rintro e w1 ⟨v, vs, rfl, ho, hr, hb⟩
  have HO := Lib.hid ho; have HR := Lib.hid hr; have HB := Lib.hid hb; clear ho hr hb
  go_wp2_with fail
  go_ret
  exact ⟨v, vs, rfl, HO.out, HR.out, HB.out⟩

theorem RowsOwn.join {w : World} {lo hi : Nat} {vs us : List Value} {xss yss : List (List Int)} (h : RowsOwn w lo hi vs xss) (k : RowsOwn w lo hi us yss) (hc : ∀ x ∈ vs, ∀ y ∈ us, x.ownBlock = none ∨ x.ownBlock ≠ y.ownBlock) : RowsOwn w lo hi (vs ++ us) (xss ++ yss) := by
  have hl := h.1
  have kl := k.1
  have gl : ∀ {j}, j < xss.length → (vs ++ us).getD j undef = vs.getD j undef ∧ (xss ++ yss).getD j [] = xss.getD j [] := fun {j} hj => ⟨getD_append_left _ _ _ (by omega), getD_append_left' _ _ _ hj⟩
  have gr : ∀ {j}, xss.length ≤ j → (vs ++ us).getD j undef = us.getD (j - xss.length) undef ∧ (xss ++ yss).getD j [] = yss.getD (j - xss.length) [] := fun {j} hj => by
    constructor
    · rw [List.getD_eq_getElem?_getD, List.getElem?_append_right (by omega), hl, ← List.getD_eq_getElem?_getD]
    · rw [List.getD_eq_getElem?_getD, List.getElem?_append_right hj, ← List.getD_eq_getElem?_getD]
  have mem : ∀ {l : List Value} {j}, j < l.length → l.getD j undef ∈ l := fun {l j} hj => by
    rw [List.getD_eq_getElem?_getD, List.getElem?_eq_getElem hj]; exact List.getElem_mem hj
  refine ⟨by simp [hl, kl], fun j hj => ?_, fun j hj i hij => ?_⟩
  · rw [List.length_append] at hj
    by_cases e : j < xss.length
    · rw [(gl e).1, (gl e).2]; exact h.2.1 j e
    · rw [(gr (Nat.not_lt.1 e)).1, (gr (Nat.not_lt.1 e)).2]; exact k.2.1 _ (by omega)
  · rw [List.length_append] at hj
    by_cases e : j < xss.length
    · rw [(gl e).1, (gl (j := i) (by omega)).1]
      exact h.2.2 j e i hij
    · rw [(gr (Nat.not_lt.1 e)).1]
      by_cases e' : i < xss.length
      · rw [(gl e').1]
        exact hc _ (mem (by omega)) _ (mem (by omega))
      · rw [(gr (Nat.not_lt.1 e')).1]
        exact k.2.2 _ (by omega) _ (by omega)

def GrowPost (w : World) (v : Value) (xs : List Int) (d most : Nat) : Ending → World → Prop := fun e w' =>
  ∃ B ps, e = .returned (.pointer (some ⟨B, 0, none⟩)) ∧ Below w.heap.size w w' ∧ TrL (d + 1) w' w.heap.size w'.heap.size B ps ∧ (d = 0 → ps = [v]) ∧ (0 < d → RowsOwn w' w.heap.size w'.heap.size ps (ext xs d most))
def AllG (d : Nat) : Prop := ∀ (ad : Addr) (np c Bn : Nat) (xs : List Int) (N most : Nat) (w : World), w.heap[Bn]? = some (.cells #[.int .i64 N] 3 (0, 0)) → Rd w (some ad) np xs → LoP xs → N ≤ 6 → (N : Int) - sumI xs = d → 1 ≤ most → most ≤ 6 → mostI xs N = ((min d most : Nat) : Int) →
  Calls Try.prog 71 #[.slice (some ad) np c, .func (.func 72) #[] #[.pointer (some ⟨Bn, 0, none⟩)]] w (GrowPost w (.slice (some ad) np c) xs d most)

theorem below_ofD {B k : Nat} {w w' : World} (h : Below B (w.drewN k) w') : Below B w w' := ⟨h.os, h.tape, h.output, h.size, h.block⟩
theorem boxG_alloc {w : World} {b : Nat} {o o' : Obj} (h : w.heap[b]? = some o) : (w.alloc o').heap[b]? = some o := (Below.heap_alloc w o' b (Array.getElem?_eq_some_iff.1 h).1).trans h
theorem boxG_grown {w w' : World} {base : Nat} {e t : TypeId} {size n b : Nat} {v : Value} {xs : List Value} {cs : Array Value} (h : w.heap[b]? = some (.cells cs t (0, 0))) (ho : w.ownsRow base e size v n xs) (hg : w.grownBy w' v.ownBlock) (hne : t ≠ e) : w'.heap[b]? = some (.cells cs t (0, 0)) := by
  refine (hg.block b (Array.getElem?_eq_some_iff.1 h).1 (fun e' => ?_)).trans h
  rcases ho.2 with ⟨rfl, _⟩ | ⟨g, cap, cur, rfl, _, hh, _⟩
  · simp [Value.ownBlock] at e'
  · obtain rfl : b = g := by simpa [Value.ownBlock] using e'
    rw [h] at hh
    injection hh with hh
    injection hh with _ hh
    exact hne hh
theorem heap_alloc_newG (w : World) (o : Obj) : (w.alloc o).heap[w.heap.size]? = some o := by
  show (w.heap.push o)[w.heap.size]? = _
  rw [Array.getElem?_push, if_pos rfl]
/-- What stands after k kids. -/
structure Kids (w w1 : World) (s1 : Nat) (v : Value) (vs : List Value) (xs : List Int) (d M : Nat) (wr : World) (k : Nat) (kv : Value) (bs : List Nat) (pss : List (List Value)) : Prop where
  bl : bs.length = k
  pl : pss.length = k
  nd : wr.heap[w.heap.size]? = some (.cells #[v, kv] 99 (0, 0))
  row : wr.ownsRow s1 73 1 kv k (ptrs bs)
  kid : ∀ j, j < k → ∃ lo hi, TrL d wr lo hi (bs.getD j 0) (pss.getD j []) ∧ s1 ≤ lo ∧ hi ≤ wr.heap.size ∧ ∀ g, kv.ownBlock = some g → g < lo ∨ hi ≤ g
  fx : Fix (w.heap.size + 1) s1 w1 wr
  be : Below w.heap.size w wr
  sz : s1 ≤ wr.heap.size
  own : RowsOwn wr w.heap.size wr.heap.size pss.flatten (extTo xs d M k)
  far : ∀ y ∈ pss.flatten, ∀ g, y.ownBlock = some g → (∃ j, j < k ∧ (vs.getD j undef).ownBlock = some g) ∨ s1 ≤ g

theorem RowsOwn.mem {w : World} {lo hi : Nat} {vs : List Value} {xss : List (List Int)} (h : RowsOwn w lo hi vs xss) {y : Value} (hy : y ∈ vs) : ∃ ys, Own w lo y ys ∧ ∀ k, y.ownBlock = some k → k < hi := by
  obtain ⟨j, hj, rfl⟩ := List.mem_iff_getElem.1 hy
  have := h.2.1 j (by rw [← h.1]; exact hj)
  rw [List.getD_eq_getElem?_getD, List.getElem?_eq_getElem hj] at this
  exact ⟨_, this⟩
theorem own_same {w w' : World} {lo : Nat} {y : Value} {ys : List Int} (h : Own w lo y ys) (hs : ∀ (b : Nat) (cs : Array Value), w.heap[b]? = some (.cells cs 3 (0, 0)) → w'.heap[b]? = some (.cells cs 3 (0, 0))) : Own w' lo y ys := by
  obtain ⟨h1, h2⟩ := h
  refine ⟨h1, ?_⟩
  rcases h2 with h2 | ⟨g, cap, cur, hv, hg, hh, r⟩
  · exact .inl h2
  · exact .inr ⟨g, cap, cur, hv, hg, hs g cur hh, r⟩
theorem row_kindG {w : World} {base : Nat} {e : TypeId} {size n : Nat} {v : Value} {xs : List Value} (h : w.ownsRow base e size v n xs) {g : Nat} (hg : v.ownBlock = some g) : ∃ cs, w.heap[g]? = some (.cells cs e (0, 0)) := by
  rcases h.2 with ⟨rfl, _⟩ | ⟨g', cap, cur, rfl, _, hh, _⟩
  · simp [Value.ownBlock] at hg
  · obtain rfl : g' = g := by simpa [Value.ownBlock] using hg
    exact ⟨cur, hh⟩

theorem Kids.more {w w1 wr w2 w3 : World} {s1 s0 d d' M k B g cap ckv x gk ck np : Nat} {Akv : Option Addr} {v : Value} {vs ps : List Value} {xs : List Int} {bs : List Nat} {pss : List (List Value)} {o : Obj}
    (hK : Kids w w1 s1 v vs xs d M wr k (.slice Akv k ckv) bs pss) (hs0 : s0 = w.heap.size + 1) (hs01 : s0 ≤ s1) (hRO : RowsOwn w1 s0 s1 vs (longL xs M M)) (hkM : k < M)
    (hVK : vs.getD k undef = .slice (some ⟨gk, 0, none⟩) (np + 1) ck) (hOWN : Own wr s0 (.slice (some ⟨gk, 0, none⟩) (np + 1) ck) (xs ++ [(x : Int)])) (hGS : s0 ≤ gk ∧ gk < s1) (hx : M - k = x) (hx1 : 1 ≤ x) (hxd : x ≤ d) (hd : d - x = d')
    (BL : Below wr.heap.size wr w2) (HTR : TrL (d' + 1) w2 wr.heap.size w2.heap.size B ps) (HL0 : d' = 0 → ps = [.slice (some ⟨gk, 0, none⟩) (np + 1) ck]) (HL1 : 0 < d' → RowsOwn w2 wr.heap.size w2.heap.size ps (ext (xs ++ [(x : Int)]) d' x))
    (HR2 : w2.ownsRow s1 73 1 (.slice Akv k ckv) k (ptrs bs))
    (HN2 : w2.heap[w.heap.size]? = some (.cells #[v, .slice Akv k ckv] 99 (0, 0)))
    (HN3 : w3.heap[w.heap.size]? = some (.cells #[v, .slice Akv k ckv] 99 (0, 0)))
    (HOW3 : w3.ownsRow s1 73 1 (.slice (some ⟨g, 0, none⟩) (k + 1) cap) (k + 1) (ptrs bs ++ [.pointer (some ⟨B, 0, none⟩)]))
    (HGR3 : (w2.alloc o).grownBy w3 (Value.slice Akv k ckv).ownBlock) (HAT : (Value.slice Akv k ckv).ownBlock = some g ∨ g = w2.heap.size + 1) :
    Kids w w1 s1 v vs xs d M (w3.setCell ⟨w.heap.size, 1, none⟩ (.slice (some ⟨g, 0, none⟩) (k + 1) cap)) (k + 1) (.slice (some ⟨g, 0, none⟩) (k + 1) cap) (bs ++ [B]) (pss ++ [ps]) := by
  obtain ⟨w4, hw4⟩ : ∃ w4, w3.setCell ⟨w.heap.size, 1, none⟩ (.slice (some ⟨g, 0, none⟩) (k + 1) cap) = w4 := ⟨_, rfl⟩
  have hz4 : w4.heap.size = w3.heap.size := by rw [← hw4]; simp [World.setCell]
  have hz3 := HGR3.size
  rw [World.size_alloc] at hz3
  have hz2 := BL.size
  have hzr := hK.sz
  have hkb : ∀ b, (Value.slice Akv k ckv).ownBlock = some b → s1 ≤ b ∧ b < wr.heap.size := fun b hb => hK.row.lt b hb
  have h34 : ∀ i, i ≠ w.heap.size → w4.heap[i]? = w3.heap[i]? := fun i hi => by rw [← hw4]; exact Below.heap_setCell w3 ⟨w.heap.size, 1, none⟩ _ i hi
  have hX : ∀ i, i < w2.heap.size → i ≠ w.heap.size → (Value.slice Akv k ckv).ownBlock ≠ some i → w4.heap[i]? = w2.heap[i]? := fun i h1 h2 h3 =>
    (h34 i h2).trans ((HGR3.block i (by rw [World.size_alloc]; omega) (fun e => h3 e.symm)).trans (Below.heap_alloc w2 o i h1))
  have hI2 : ∀ (b : Nat) (cs : Array Value), w2.heap[b]? = some (.cells cs 3 (0, 0)) → w4.heap[b]? = some (.cells cs 3 (0, 0)) := fun b cs hb => by
    refine (hX b (Array.getElem?_eq_some_iff.1 hb).1 (fun e => ?_) (fun e => ?_)).trans hb
    · subst e
      rw [HN2] at hb
      injection hb with hb
      injection hb with _ hb
      all_goals exact absurd hb (by decide)
    · obtain ⟨cs', hc⟩ := row_kindG HR2 e
      rw [hc] at hb
      injection hb with hb
      injection hb with _ hb
      all_goals exact absurd hb (by decide)
  have hI : ∀ (b : Nat) (cs : Array Value), wr.heap[b]? = some (.cells cs 3 (0, 0)) → w4.heap[b]? = some (.cells cs 3 (0, 0)) := fun b cs hb =>
    hI2 b cs ((BL.block b (Array.getElem?_eq_some_iff.1 hb).1).trans hb)
  rw [hw4]
  have fk : ∀ {l : List (List Value)} {q : List Value}, (l ++ [q]).flatten = l.flatten ++ q := fun {l q} => by simp
  -- the new leaves
  have hnew : RowsOwn w4 w.heap.size w4.heap.size ps (ext (xs ++ [(x : Int)]) d' x) ∧ ∀ y ∈ ps, ∀ b, y.ownBlock = some b → (d' = 0 ∧ b = gk) ∨ (wr.heap.size ≤ b) := by
    by_cases h0 : d' = 0
    · rw [HL0 h0]
      subst h0
      have e : ext (xs ++ [(x : Int)]) 0 x = [xs ++ [(x : Int)]] := by simp [ext, ptsOf]
      rw [e]
      refine ⟨RowsOwn.one ((own_same hOWN hI).mono (by omega)) (fun b hb => by cases hb; show gk < _; omega), fun y hy b hb => ?_⟩
      simp only [List.mem_singleton] at hy
      subst hy
      cases hb
      exact .inl ⟨rfl, rfl⟩
    · have h1 := HL1 (by omega)
      refine ⟨((h1.map (fun y ys hy _ => own_same hy hI2)).mono (by have := hK.be.size; omega)).more (by omega), fun y hy b hb => .inr ?_⟩
      obtain ⟨ys, ho, _⟩ := h1.mem hy
      exact (ho.lt b hb).1
  refine { bl := by simp [hK.bl], pl := by simp [hK.pl], nd := ?_, row := ?_, kid := ?_, fx := ?_, be := ?_, sz := by omega, own := ?_, far := ?_ }
  · rw [← hw4]
    exact heap_setCell_same w3 w.heap.size 1 #[v, .slice Akv k ckv] _ _ HN3
  · have e : ptrs (bs ++ [B]) = ptrs bs ++ [.pointer (some ⟨B, 0, none⟩)] := by simp [ptrs]
    rw [e]
    exact ownsRow_fix HOW3 (fun q hq => (HOW3.lt q hq).2) (fun i h1 _ => h34 i (by omega))
  · intro j hj
    by_cases e : j < k
    · obtain ⟨lo, hi, h1, h2, h3, h4⟩ := hK.kid j e
      have e1 : (bs ++ [B]).getD j 0 = bs.getD j 0 := by simp [List.getD, List.getElem?_append_left (show j < bs.length by rw [hK.bl]; exact e)]
      have e2 : (pss ++ [ps]).getD j [] = pss.getD j [] := by simp [List.getD, List.getElem?_append_left (show j < pss.length by rw [hK.pl]; exact e)]
      rw [e1, e2]
      refine ⟨lo, hi, h1.fix (fun i a b => (hX i (by omega) (by omega) (fun q => by have := h4 i q; omega)).trans (BL.block i (by omega))), h2, by omega, fun b hb => ?_⟩
      obtain rfl : g = b := by simpa [Value.ownBlock] using hb
      rcases HAT with q | q
      · exact h4 g q
      · exact .inr (by omega)
    · obtain rfl : j = k := by omega
      have e1 : (bs ++ [B]).getD j 0 = B := by simp [List.getD, ← hK.bl]
      have e2 : (pss ++ [ps]).getD j [] = ps := by simp [List.getD, ← hK.pl]
      rw [e1, e2]
      refine ⟨wr.heap.size, w2.heap.size, (HTR.le (by omega)).fix (fun i a b => hX i b (by omega) (fun q => by have := hkb i q; omega)), hzr, by omega, fun b hb => ?_⟩
      obtain rfl : g = b := by simpa [Value.ownBlock] using hb
      rcases HAT with q | q
      · exact .inl (hkb g q).2
      · exact .inr (by omega)
  · exact hK.fx.trans (fun i a b => (hX i (by omega) (by omega) (fun q => by have := hkb i q; omega)).trans (BL.block i (by omega)))
  · rw [← hw4]
    exact (((hK.be.trans (BL.mono hK.be.size)).alloc (by have := hK.be.size; omega) _).grown HGR3 (by rw [World.size_alloc]; have := hK.be.size; omega) (fun b hb => by have := hkb b hb; have := hK.be.size; omega)).setCell (p := ⟨w.heap.size, 1, none⟩) (Nat.le_refl _) _
  · rw [fk, extTo_succ]
    have e : ((ptsOf 7 (d - (M - k)) (M - k)).map fun r => (xs ++ [((M - k : Nat) : Int)]) ++ r) = ext (xs ++ [(x : Int)]) d' x := by rw [hx, hd]; rfl
    rw [e]
    refine RowsOwn.join ((hK.own.map (fun y ys hy _ => own_same hy hI)).more (by omega)) hnew.1 (fun y hy z hz => ?_)
    cases hb : y.ownBlock with
    | none => exact .inl rfl
    | some b =>
      refine .inr fun e' => ?_
      have hz' := hnew.2 z hz b e'.symm
      obtain ⟨ys, _, hlt⟩ := hK.own.mem hy
      have h1 := hlt b hb
      have h2 := hK.far y hy b hb
      rcases hz' with ⟨_, rfl⟩ | hz'
      · rcases h2 with ⟨j, hj, hjb⟩ | h2
        · have := hRO.2.2 k (by rw [longL_len]; exact hkM) j hj
          rw [hjb, hVK] at this
          simp [Value.ownBlock] at this
        · omega
      · omega
  · intro y hy b hb
    rw [fk] at hy
    rcases List.mem_append.1 hy with hy | hy
    · rcases hK.far y hy b hb with ⟨j, hj, h⟩ | h
      · exact .inl ⟨j, by omega, h⟩
      · exact .inr h
    · rcases hnew.2 y hy b hb with ⟨_, rfl⟩ | h
      · exact .inl ⟨k, by omega, by rw [hVK]; rfl⟩
      · exact .inr (by omega)

theorem kid_ok {xs : List Int} (hp : LoP xs) {N d x d' : Nat} (hN : N ≤ 6) (hs : (N : Int) - sumI xs = d) (h1 : 1 ≤ x) (hx : x ≤ d) (hd : d - x = d') :
    LoP (xs ++ [(x : Int)]) ∧ (N : Int) - sumI (xs ++ [(x : Int)]) = d' ∧ mostI (xs ++ [(x : Int)]) N = ((min d' x : Nat) : Int) := by
  have e : sumI (xs ++ [(x : Int)]) = sumI xs + x := by rw [sumI_append]; simp [sumI]
  have g1 : ∀ j, j < xs.length → gi (xs ++ [(x : Int)]) j = gi xs j := fun j hj => by simp [gi, List.getD, List.getElem?_append_left hj]
  have g2 : gi (xs ++ [(x : Int)]) xs.length = x := by simp [gi, List.getD]
  refine ⟨⟨fun j hj => ?_, by rw [e]; omega⟩, by rw [e]; omega, ?_⟩
  · rw [List.length_append] at hj
    by_cases hj' : j < xs.length
    · rw [g1 j hj']; exact hp.1 j hj'
    · have : j = xs.length := by simp at hj; omega
      rw [this, g2]; omega
  · rw [mostI, if_neg (by simp), e, List.length_append, show xs.length + [(x : Int)].length - 1 = xs.length from by simp, g2]
    omega

set_option maxRecDepth 20000 in
set_option maxHeartbeats 3200000 in
theorem allG_step (d : Nat) (hd6 : d ≤ 6) (ih : ∀ d', d' < d → AllG d') : AllG d := by
  intro ad np c Bn xs N most w hbx hr hp hN hs hm1 hm6 hM
  obtain ⟨i2, hinf2, hv0, hv1, hv2⟩ := info_parts info_nodep
  obtain ⟨M, hMe⟩ : ∃ M, min d most = M := ⟨_, rfl⟩
  rw [hMe] at hM
  have hM6 : M ≤ 6 := by omega
  have hMd : M ≤ d := by omega
  have IH := Lib.hid ih; have HR := Lib.hid hr; have HP := Lib.hid hp; have HMM := Lib.hid hM; have HME := Lib.hid hMe; have HSUM := Lib.hid hs; have HBX := Lib.hid hbx
  clear ih hr hp hM hMe hs hbx
  go_enter Try.func71, Try.ntmps71
  go_wp2_with fail
  obtain ⟨w0, hw0⟩ : ∃ w0, w.alloc (.cells #[.slice (some ad) np c, .slice none 0 0] 99) = w0 := ⟨_, rfl⟩
  rw [hw0]
  have hb0 : Below w.heap.size w w0 := hw0 ▸ (Below.refl _ _).alloc (Nat.le_refl _) _
  have hz0 : w0.heap.size = w.heap.size + 1 := by rw [← hw0]; simp
  have hn0 : w0.heap[w.heap.size]? = some (.cells #[.slice (some ad) np c, .slice none 0 0] 99 (0, 0)) := by rw [← hw0]; exact heap_alloc_newG w _
  have hbn : Bn < w.heap.size := (Array.getElem?_eq_some_iff.1 HBX.out).1
  refine (follows_any ad np c Bn xs N w0 ((hb0.block Bn hbn).trans HBX.out) (HR.out.below hb0) HP.out hN HMM.out).mono ?_
  rintro e w1 ⟨v0, vs, rfl, ho, hro, hb⟩
  have hs01 := hb.size
  obtain ⟨A0, c0, rfl⟩ : ∃ A0 c0, v0 = .slice A0 M c0 := by
    rcases ho.2 with ⟨rfl, hl⟩ | ⟨g, cap, cur, rfl, _⟩
    · exact ⟨none, 0, by rw [hl]⟩
    · exact ⟨_, cap, rfl⟩
  have HVO := Lib.hid ho; have HRO := Lib.hid hro
  obtain ⟨s1, hs1⟩ : ∃ s1, w1.heap.size = s1 := ⟨_, rfl⟩
  have KS : Hid (Kids w w1 s1 (.slice (some ad) np c) vs xs d M w1 0 (.slice none 0 0) [] []) := {
    bl := rfl
    pl := rfl
    nd := (hb.block _ (by omega)).trans hn0
    row := World.ownsRow_nil w1 _ _ _
    kid := fun j hj => absurd hj (by omega)
    fx := Fix.refl _ _ _
    be := hb0.trans (hb.mono (by omega))
    sz := by omega
    own := RowsOwn.nil _ _ _
    far := fun y hy => by simp at hy }
  have HZ : Hid (w0.heap.size = w.heap.size + 1 ∧ w0.heap.size ≤ s1 ∧ Bn < w.heap.size) := ⟨hz0, by omega, hbn⟩
  have HS1 := Lib.hid hs1
  clear hw0 hb0 hz0 hn0 hbn ho hro hb hs01 hs1
  go_wp2_with fail
  go_loopw [15] (fun i wr => ∃ (k : Nat) (kv : Value) (bs : List Nat) (pss : List (List Value)), k ≤ M ∧ i = .int .i64 k ∧ Hid (Kids w w1 s1 (.slice (some ad) np c) vs xs d M wr k kv bs pss)) (fun i _ => M - (intOf i).toNat)
  case atStart => exact ⟨0, _, _, _, Nat.zero_le _, rfl, KS⟩
  case round =>
    clear KS
    obtain ⟨k, kv, bs, pss, hk, rfl, KS⟩ := hrel
    by_cases hlt : k < M
    · obtain ⟨x, hx⟩ : ∃ x, M - k = x := ⟨_, rfl⟩
      have hx1 : 1 ≤ x := by omega
      have hxd : x ≤ d := by omega
      obtain ⟨d', hd'⟩ : ∃ d', d - x = d' := ⟨_, rfl⟩
      have hK := KS.out
      -- the kid's list
      have hvl : vs.length = M := by have := HRO.out.1; rwa [longL_len] at this
      have hown := (HRO.out.2.1 k (by rw [longL_len]; exact hlt))
      have hlk : (longL xs M M).getD k [] = xs ++ [(x : Int)] := by simp [longL, List.getD, hlt, hx]
      rw [hlk] at hown
      obtain ⟨Ak, ck, hvk, -, -⟩ := hown.1.form' (n := np + 1) (by rw [List.length_append, HR.out.1]; rfl)
      rw [hvk] at hown
      obtain ⟨gk, hgk, hgk0, -, -⟩ := hown.1.cellAt (k := 0) (by rw [List.length_append, HR.out.1]; rfl) (by omega)
      subst hgk
      have hgs := hown.2 gk rfl
      rw [HS1.out] at hgs
      have hzz := HZ.out
      have hownr : Own wr w0.heap.size (.slice (some ⟨gk, 0, none⟩) (np + 1) ck) (xs ++ [(x : Int)]) := ownsRow_fix hown.1 (fun q hq => by cases hq; exact hgs) (by rw [hzz.1]; exact hK.fx)
      -- where it stands
      have hA0 : ∃ g0, A0 = some ⟨g0, 0, none⟩ ∧ w0.heap.size ≤ g0 ∧ g0 < s1 ∧ w1.cell? ⟨g0, k, none⟩ = some (.slice (some ⟨gk, 0, none⟩) (np + 1) ck) := by
        have ho := HVO.out
        rcases ho.2 with ⟨hv, h0⟩ | ⟨g, cap, cur, hv, hg, hh, _⟩
        · omega
        · simp only [Value.slice.injEq, true_and] at hv
          obtain ⟨rfl, rfl⟩ := hv
          refine ⟨g, rfl, hg, by rw [← HS1.out]; exact (Array.getElem?_eq_some_iff.1 hh).1, ?_⟩
          rw [World.ownsRow.cellAt ho k (by omega), ← hvk]
          simp [List.getD, List.getElem?_eq_getElem (show k < vs.length by omega)]
      obtain ⟨g0, rfl, hg0, hg0s, hck⟩ := hA0
      have hck' : wr.cell? ⟨g0, k, none⟩ = some (.slice (some ⟨gk, 0, none⟩) (np + 1) ck) := (World.cell?_of_block (w := w1) (w' := wr) (hK.fx g0 (by omega) hg0s)).trans hck
      obtain ⟨Akv, ckv, hkv⟩ : ∃ A c, kv = .slice A k c := by
        rcases hK.row.2 with ⟨rfl, hl⟩ | ⟨g, cap, cur, rfl, _⟩
        · exact ⟨none, 0, by rw [hl]⟩
        · exact ⟨_, cap, rfl⟩
      subst hkv
      have c1 : wr.cell? ⟨w.heap.size, 1, none⟩ = some (.slice Akv k ckv) := cell_of_block2_1 hK.nd
      have HCG : Hid (∀ W : World, Below wr.heap.size wr W → wr.heap.size ≤ W.heap.size → Calls Try.prog 71 #[.slice (some ⟨gk, 0, none⟩) (np + 1) ck, .func (.func 72) #[] #[.pointer (some ⟨Bn, 0, none⟩)]] W (GrowPost W (.slice (some ⟨gk, 0, none⟩) (np + 1) ck) (xs ++ [(x : Int)]) d' x)) := fun W hW _ => by
        have hp' := kid_ok HP.out (N := N) hN HSUM.out hx1 hxd hd'
        refine IH.out d' (by omega) ⟨gk, 0, none⟩ (np + 1) ck Bn (xs ++ [(x : Int)]) N x W ?_ ?_ hp'.1 hN hp'.2.1 hx1 (by omega) hp'.2.2
        · exact (hW.block Bn (by have := hK.sz; omega)).trans ((hK.be.block Bn hzz.2.2).trans HBX.out)
        · exact (hownr.rd (by rw [List.length_append, HR.out.1]; rfl)).below hW
      have HVK := Lib.hid hvk; have HOWN := Lib.hid hownr; have HXX := Lib.hid hx; have HDD := Lib.hid hd'; have HGS : Hid (w0.heap.size ≤ gk ∧ gk < s1) := ⟨hgk0, hgs⟩
      have hwz := hK.be.size
      clear hvk hown hlk hownr hck hvl hzz hx hd' hK hgk0 hgs hg0 hg0s
      have HND : Hid (wr.heap[w.heap.size]? = some (.cells #[.slice (some ad) np c, .slice Akv k ckv] 99 (0, 0))) := KS.out.nd
      have HROW : Hid (wr.ownsRow s1 73 1 (.slice Akv k ckv) k (ptrs bs)) := KS.out.row
      have hsz := KS.out.sz
      go_wp2_with fail
      go_region_law (first
        | (refine step_append_lies (o := ⟨some 28, _, _, _, _, _⟩) (hgd := rfl) (s := .tmp 23) (x := .tmp 27) (t := 97) (ho := rfl) (base := s1) (e := 73) (i := i2) (z := .pointer none) (size := 1) (bytes := 8) (ht := Try.underlying97) (hi := hinf2) (hz := hv0) (hsize := hv1) (hby := hv2) (hzs := rfl) (hsz := by decide) (v := .slice Akv k ckv) (n := k) (xs := ptrs bs) (hs := by simp [Act.eval]) (hown := World.ownsRow.alloc HR2.out _) (ad := ⟨w2.heap.size, 0, none⟩) (m := 1) (c := 1) (news := [.pointer (some ⟨B, 0, none⟩)]) (hx := by simp [Act.eval]) (hl := rfl) (hnews := cell_one_new _ _ _) (h1 := by intro u hu; simp at hu; subst hu; rfl) (hm := by omega) (h63 := by unfold maxLen; omega) (hbytes := by omega) (hbase := by simp; omega) (H := w2.heap.size + 1) (hH := by simp) (h := ?_); intro g cap w3 hown hgrow hat hlt3; have hnd3 := boxG_grown (boxG_alloc (o' := .cells #[.pointer (some ⟨B, 0, none⟩)] 73) HN2.out) (World.ownsRow.alloc HR2.out _) hgrow (by decide); have HN3 := Lib.hid hnd3; have c3' := cell_of_block2_1 hnd3; have f3 : w3.frozen? ⟨w.heap.size, 1, none⟩ = false := frozen_of_row w3 w.heap.size 1 _ _ hnd3; have HOW3 := Lib.hid hown; have HGR3 := Lib.hid hgrow; have HAT := Lib.hid hat; clear hown hgrow hat hnd3)
        | (go_simp; go_at_call 71; refine (HCG.out _ (below_drewN (Below.refl _ _) _) (Nat.le_refl _)).mono ?_; rintro e w2 ⟨B, ps, rfl, bl, htr, hl0, hl1⟩; have BL := Lib.hid (below_ofD bl); have HTR := Lib.hid htr; have HL0 := Lib.hid hl0; have HL1 := Lib.hid hl1; have hn2 := (BL.out.block w.heap.size (Array.getElem?_eq_some_iff.1 HND.out).1).trans HND.out; have HN2 := Lib.hid hn2; have c1' := cell_of_block2_1 hn2; have c2' := cell_of_block2_1 (boxG_alloc (o' := .cells #[.pointer (some ⟨B, 0, none⟩)] 73) hn2); have hws := BL.out.size; have HR2 := Lib.hid (ownsRow_fix HROW.out (fun q hq => (HROW.out.lt q hq).2) (Fix.below BL.out (Nat.le_refl _))); clear bl htr hl0 hl1 hn2; go_simp)
        | fail)
      all_goals
        have KN := Lib.hid (KS.out.more HZ.out.1 HZ.out.2.1 (HS1.out ▸ HRO.out) hlt HVK.out HOWN.out HGS.out HXX.out hx1 hxd HDD.out BL.out HTR.out HL0.out HL1.out HR2.out HN2.out HN3.out HOW3.out HGR3.out HAT.out)
        go_wp2_with fail
        go_roundw
        case rel => exact ⟨k + 1, _, _, _, by omega, by go_num, KN⟩
        case measure => simp [intOf]; omega
    · obtain rfl : k = M := by omega
      go_wp2_with fail
      go_ret
      refine ⟨_, _, rfl, KS.out.be, ⟨some ad, np, c, kv, bs, pss, Nat.le_refl _, ?_, KS.out.nd, ?_, ?_, ?_, ?_, rfl⟩, ?_, ?_⟩
      · exact (Array.getElem?_eq_some_iff.1 KS.out.nd).1
      · rw [KS.out.bl]; exact ownsRow_mono KS.out.row (by have := HZ.out; omega)
      · exact fun g hg => (KS.out.row.lt g hg).2
      · rw [KS.out.bl, KS.out.pl]
      · intro j hj
        rw [KS.out.bl] at hj
        obtain ⟨lo, hi, h1, h2, h3, _⟩ := KS.out.kid j hj
        exact h1.wide (by have := HZ.out; omega) h3
      · intro h0
        rw [if_pos (by rw [KS.out.bl]; omega)]
      · intro h0
        have hk0 : k ≠ 0 := by have := HME.out; omega
        rw [if_neg (by rw [KS.out.bl]; exact hk0), ext_to xs d most k h0 hd6 (by omega) HME.out]
        exact KS.out.own

end Go.Proofs.Ytkbdbkoeahihiaa

/-
  Tables of characters, class sizes and degrees; FactorCount by them.
-/
import Derived.Test.YtlgfedkoefhjjaaFacN
import Derived.Test.YtlgfedkoefhjjaaLawN
namespace Go.Proofs.Ytlgfedkoefhjjaa
open Go.RowKit

/-- A number for a partition. -/
def ky (a : List Int) : Nat := a.foldl (fun k x => 7 * k + x.toNat) 0
def look (k : Nat) : List (Nat × Int) → Int
  | [] => 0
  | (i, v) :: r => bif Nat.beq i k then v else look k r
def look2 (k : Nat) : List (Nat × List (Nat × Int)) → List (Nat × Int)
  | [] => []
  | (i, v) :: r => bif Nat.beq i k then v else look2 k r
def chTab : List (Nat × List (Nat × Int)) := [
  (1, [(1, 1)]),
  (2, [(2, 1), (8, 1)]),
  (8, [(2, -1), (8, 1)]),
  (3, [(3, 1), (15, 1), (57, 1)]),
  (15, [(3, -1), (15, 0), (57, 2)]),
  (57, [(3, 1), (15, -1), (57, 1)]),
  (4, [(4, 1), (22, 1), (16, 1), (106, 1), (400, 1)]),
  (22, [(4, -1), (22, 0), (16, -1), (106, 1), (400, 3)]),
  (16, [(4, 0), (22, -1), (16, 2), (106, 0), (400, 2)]),
  (106, [(4, 1), (22, 0), (16, -1), (106, -1), (400, 3)]),
  (400, [(4, -1), (22, 1), (16, 1), (106, -1), (400, 1)]),
  (5, [(5, 1), (29, 1), (23, 1), (155, 1), (113, 1), (743, 1), (2801, 1)]),
  (29, [(5, -1), (29, 0), (23, -1), (155, 1), (113, 0), (743, 2), (2801, 4)]),
  (23, [(5, 0), (29, -1), (23, 1), (155, -1), (113, 1), (743, 1), (2801, 5)]),
  (155, [(5, 1), (29, 0), (23, 0), (155, 0), (113, -2), (743, 0), (2801, 6)]),
  (113, [(5, 0), (29, 1), (23, -1), (155, -1), (113, 1), (743, -1), (2801, 5)]),
  (743, [(5, -1), (29, 0), (23, 1), (155, 1), (113, 0), (743, -2), (2801, 4)]),
  (2801, [(5, 1), (29, -1), (23, -1), (155, 1), (113, 1), (743, -1), (2801, 1)]),
  (6, [(6, 1), (36, 1), (30, 1), (204, 1), (24, 1), (162, 1), (1086, 1), (114, 1), (792, 1), (5202, 1), (19608, 1)]),
  (36, [(6, -1), (36, 0), (30, -1), (204, 1), (24, -1), (162, 0), (1086, 2), (114, -1), (792, 1), (5202, 3), (19608, 5)]),
  (30, [(6, 0), (36, -1), (30, 1), (204, -1), (24, 0), (162, 0), (1086, 0), (114, 3), (792, 1), (5202, 3), (19608, 9)]),
  (204, [(6, 1), (36, 0), (30, 0), (204, 0), (24, 1), (162, -1), (1086, 1), (114, -2), (792, -2), (5202, 2), (19608, 10)]),
  (24, [(6, 0), (36, 0), (30, -1), (204, -1), (24, 2), (162, 1), (1086, -1), (114, -3), (792, 1), (5202, 1), (19608, 5)]),
  (162, [(6, 0), (36, 1), (30, 0), (204, 0), (24, -2), (162, 0), (1086, -2), (114, 0), (792, 0), (5202, 0), (19608, 16)]),
  (1086, [(6, -1), (36, 0), (30, 0), (204, 0), (24, 1), (162, 1), (1086, 1), (114, 2), (792, -2), (5202, -2), (19608, 10)]),
  (114, [(6, 0), (36, 0), (30, -1), (204, 1), (24, 2), (162, -1), (1086, -1), (114, 3), (792, 1), (5202, -1), (19608, 5)]),
  (792, [(6, 0), (36, -1), (30, 1), (204, 1), (24, 0), (162, 0), (1086, 0), (114, -3), (792, 1), (5202, -3), (19608, 9)]),
  (5202, [(6, 1), (36, 0), (30, -1), (204, -1), (24, -1), (162, 0), (1086, 2), (114, 1), (792, 1), (5202, -3), (19608, 5)]),
  (19608, [(6, -1), (36, 1), (30, 1), (204, -1), (24, 1), (162, -1), (1086, 1), (114, -1), (792, 1), (5202, -1), (19608, 1)])]
def csTab : List (Nat × Int) := [(1, 1), (2, 1), (8, 1), (3, 2), (15, 3), (57, 1), (4, 6), (22, 8), (16, 3), (106, 6), (400, 1), (5, 24), (29, 30), (23, 20), (155, 20), (113, 15), (743, 10), (2801, 1), (6, 120), (36, 144), (30, 90), (204, 90), (24, 40), (162, 120), (1086, 40), (114, 15), (792, 45), (5202, 15), (19608, 1)]
def dgTab : List (Nat × Int) := [(1, 1), (2, 1), (8, 1), (3, 1), (15, 2), (57, 1), (4, 1), (22, 3), (16, 2), (106, 3), (400, 1), (5, 1), (29, 4), (23, 5), (155, 6), (113, 5), (743, 4), (2801, 1), (6, 1), (36, 5), (30, 9), (204, 10), (24, 5), (162, 16), (1086, 10), (114, 5), (792, 9), (5202, 5), (19608, 1)]
def chT (a b : List Int) : Int := look (ky b) (look2 (ky a) chTab)
def csT (a : List Int) : Int := look (ky a) csTab
def dgT (a : List Int) : Int := look (ky a) dgTab
set_option maxHeartbeats 0 in
theorem chT_all : ∀ q ∈ pairPts, chr q.1 q.2 = chT q.1 q.2 := by decide +kernel
theorem csT_all : ∀ a ∈ allPts, cs a = csT a := by decide +kernel
theorem dgT_all : ∀ a ∈ allPts, dg a = dgT a := by decide +kernel
theorem chT_of {a b : List Int} (h : PairOk a b) : chr a b = chT a b := chT_all _ (h.1.pair h.2.1 h.2.2)
theorem csT_of {a : List Int} (h : Pt a) : cs a = csT a := csT_all _ h.all
theorem dgT_of {a : List Int} (h : Pt a) : dg a = dgT a := dgT_all _ h.all

def prdT (a : List Int) (xss : List (List Int)) : Nat → Int
  | 0 => IntKind.i64.wrap (dgT a * dgT a)
  | j + 1 => IntKind.i64.wrap (prdT a xss j * IntKind.i64.wrap ((IntKind.i64.wrap (csT (row xss j) * chT a (row xss j))).tdiv (dgT a)))
def sumT (L : List (List Int)) (xss : List (List Int)) : Nat → Int
  | 0 => 0
  | i + 1 => IntKind.i64.wrap (sumT L xss i + prdT (L.getD i []) xss xss.length)
def fcT (xss : List (List Int)) : Int := IntKind.i64.wrap ((sumT (shapesOf xss) xss (shapesOf xss).length).tdiv (fct (sumI (row xss 0)).toNat))
theorem prdT_of {a : List Int} {xss : List (List Int)} (ha : Pt a) (h : ∀ j, j < xss.length → PairOk a (row xss j)) : ∀ j, j ≤ xss.length → prdF a xss j = prdT a xss j := by
  intro j
  induction j with
  | zero => intro _; rw [prdF, prdT, dgT_of ha]
  | succ j ih =>
    intro hj
    have hp := h j (by omega)
    rw [prdF, prdT, ih (by omega), dgT_of ha, csT_of hp.2.1, chT_of hp]
theorem fcT_of {xss : List (List Int)} (h : tyB xss = true) : fcR xss = fcT xss := by
  have hok : TyOk xss := by simpa [tyB] using h
  rw [fcR, if_pos h, fcT]
  have hs := (hok.pair (j := 0) hok.1).1.sum
  have hsh := shapes_in (sumI (row xss 0)).toNat (by omega) (by omega)
  have key : ∀ i, i ≤ (shapesOf xss).length → sumF (shapesOf xss) xss i = sumT (shapesOf xss) xss i := by
    intro i
    induction i with
    | zero => intro _; rfl
    | succ i ih =>
      intro hi
      have hm : (shapesOf xss).getD i [] ∈ shapesOf xss := by
        rw [List.getD_eq_getElem?_getD, List.getElem?_eq_getElem (by omega)]; exact List.getElem_mem _
      obtain ⟨h1, h2⟩ := hsh _ hm
      have hpa := Pt_of h1
      rw [sumF, sumT, ih (by omega), prdT_of hpa (fun j hj => ?_) _ (Nat.le_refl _)]
      have hp := hok.pair hj
      exact ⟨hpa, hp.2.1, by rw [h2, ← hp.2.2]; omega⟩
  rw [key _ (Nat.le_refl _)]

end Go.Proofs.Ytlgfedkoefhjjaa

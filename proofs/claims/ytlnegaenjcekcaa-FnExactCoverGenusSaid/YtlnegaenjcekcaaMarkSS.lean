/-
  A slice of slices of ints that reads as a list of lists: to compare, to count, to copy.
  Slices of slices of ints that a call owns: to mark, to look at.
-/
import Derived.Test.YtlnegaenjcekcaaKit
import Derived.Test.YtlnegaenjcekcaaSeen
namespace Go.Proofs.Ytlnegaenjcekcaa
open Go.RowKit

/-- The slice value with the address A and n elements reads as the list of lists xss. -/
def RdSS (w : World) (A : Option Addr) (n : Nat) (xss : List (List Int)) : Prop :=
  xss.length = n ∧ (0 < n → ∃ ad : Addr, A = some ad ∧ ∀ j, j < n → ∃ Aj cj, w.cell? (ad.add j) = some (.slice Aj (xss.getD j []).length cj) ∧ Rd w Aj (xss.getD j []).length (xss.getD j []) ∧ (xss.getD j []).length ≤ maxLen)
theorem RdSS.at_ {w : World} {A : Option Addr} {n : Nat} {xss : List (List Int)} {k : Nat} (h : RdSS w A n xss) (hk : k < n) :
    ∃ (ad : Addr) (Aj : Option Addr) (cj nj : Nat), A = some ad ∧ w.cell? (ad.add k) = some (.slice Aj nj cj) ∧ Rd w Aj nj (xss.getD k []) ∧ nj ≤ maxLen := by
  obtain ⟨ad, e, hc⟩ := h.2 (by omega)
  obtain ⟨Aj, cj, h1, h2, h3⟩ := hc k hk
  exact ⟨ad, Aj, cj, _, e, h1, h2, h3⟩
theorem RdSS.drewN {w : World} {A : Option Addr} {n : Nat} {xss : List (List Int)} (h : RdSS w A n xss) (k : Nat) : RdSS (w.drewN k) A n xss := h
set_option maxHeartbeats 800000 in
theorem eqIntSS_same (A A' : Option Addr) (n c c' : Nat) (xss : List (List Int)) (w : World) (h : RdSS w A n xss) (h' : RdSS w A' n xss) (hn : n ≤ 1048576) :
    Calls Try.prog 17 #[.slice A n c, .slice A' n c'] w fun e w' => e = .returned (.bool true) ∧ Below w.heap.size w w' := by
  have H := Lib.hid h; have H' := Lib.hid h'; clear h h'
  have ht : (((n : Nat) : Int) != n) = false := by simp
  go_enter Try.func17, Try.ntmps17
  go_wp2
  go_loopw [5] (fun i wr => ∃ k : Nat, k ≤ n ∧ i = .int .i64 k ∧ Hid (RdSS wr A n xss) ∧ Hid (RdSS wr A' n xss) ∧ Hid (Below w.heap.size w wr)) (fun i _ => n - (intOf i).toNat)
  case atStart => exact ⟨0, Nat.zero_le _, rfl, H, H', Below.refl _ _⟩
  case round =>
    clear H H'
    obtain ⟨k, hk, rfl, H, H', hb⟩ := hrel
    by_cases hlt : k < n
    · obtain ⟨ad, Aj, cj, nj, rfl, hc, hr, hm⟩ := H.out.at_ hlt
      obtain ⟨ad', Aj', cj', nj', rfl, hc', hr', hm'⟩ := H'.out.at_ hlt
      have HC : ∀ W, Rd W Aj nj (xss.getD k []) → Rd W Aj' nj' (xss.getD k []) → Calls Try.prog 15 #[.slice Aj nj cj, .slice Aj' nj' cj'] W fun e w' => e = .returned (.bool true) ∧ ∃ k, w' = W.drewN k := fun W h1 h2 =>
        (eqIntS_any Aj Aj' nj nj' cj cj' _ _ W h1 h2 hm hm').mono fun e w' ⟨he, hk⟩ => ⟨by rw [he, eqB_refl], hk⟩
      have HC2 := Lib.hid HC; have HR := Lib.hid hr; have HR' := Lib.hid hr'; clear HC hr hr'
      go_wp2
      go_quiet ((go_at_call 15; exact Calls.quiet_of (HC2.out _ HR.out HR'.out)))
      go_wp2
      go_roundw
      case rel => exact ⟨k + 1, by omega, by go_num, H, H', below_drewN hb.out _⟩
      case measure => simp [intOf]; omega
    · go_wp2
      go_ret
      exact ⟨rfl, hb.out⟩

/-- How many elements in all. -/
def total : List (List Int) → Nat
  | [] => 0
  | xs :: r => xs.length + total r
theorem total_append (a b : List (List Int)) : total (a ++ b) = total a + total b := by
  induction a with
  | nil => simp [total]
  | cons x a ih => simp only [List.cons_append, total, ih]; omega
theorem total_take_succ {xss : List (List Int)} {k : Nat} (h : k < xss.length) : total (xss.take (k + 1)) = total (xss.take k) + (xss.getD k []).length := by
  rw [List.take_succ_eq_append_getElem h, total_append]
  simp [total, List.getD, h]
theorem total_take_le (xss : List (List Int)) (k : Nat) : total (xss.take k) ≤ total xss := by
  have := total_append (xss.take k) (xss.drop k)
  rw [List.take_append_drop] at this
  omega
theorem total_all (xss : List (List Int)) {n : Nat} (h : xss.length = n) : total (xss.take n) = total xss := by rw [← h, List.take_length]
theorem total_ge {xss : List (List Int)} {k : Nat} (h : k < xss.length) : (xss.getD k []).length ≤ total xss := by
  have a := total_take_succ h
  have b := total_take_le xss (k + 1)
  omega
theorem RdSS.keep {w w' : World} {A : Option Addr} {n : Nat} {xss : List (List Int)} (h : RdSS w A n xss) (hk : ∀ p : Addr, p.block < w.heap.size → w'.cell? p = w.cell? p) : RdSS w' A n xss :=
  ⟨h.1, fun hn => by
    obtain ⟨ad, e, hc⟩ := h.2 hn
    refine ⟨ad, e, fun j hj => ?_⟩
    obtain ⟨Aj, cj, h1, h2, h3⟩ := hc j hj
    exact ⟨Aj, cj, (hk _ (World.block_lt_of_cell? w _ h1)).trans h1, h2.keep hk, h3⟩⟩
theorem RdSS.below {w w' : World} {A : Option Addr} {n : Nat} {xss : List (List Int)} (h : RdSS w A n xss) (hb : Below w.heap.size w w') : RdSS w' A n xss := h.keep fun _ hp => hb.cell hp

/-- .. of an argument that was opened. -/
theorem RdSS.of_rows {w : World} {a : Addr} {base len cap : Nat} {A : Nat → Option Addr} {L C : Nat → Nat} {Z : Nat → List Int} (hl : len ≤ cap)
    (h : ∀ r, r < cap → w.cell? (a.add r) = some (.slice (A r) (L r) (C r)) ∧ L r ≤ C r ∧ C r ≤ maxLen ∧ (Z r).length = C r ∧ (∀ n ∈ Z r, (Lit.int .i64 n).wf = true) ∧ (A r = none → C r = 0) ∧
      ∀ a', A r = some a' → base ≤ a'.block ∧ ∀ c, c < C r → w.cell? (a'.add c) = some (.int .i64 ((Z r).getD c 0))) : RdSS w (some a) len ((List.range len).map fun r => (Z r).take (L r)) := by
  refine ⟨by simp, fun _ => ⟨a, rfl, fun j hj => ?_⟩⟩
  obtain ⟨h1, h2, h3, h4, -, h6, h7⟩ := h j (by omega)
  have e : ((List.range len).map fun r => (Z r).take (L r)).getD j [] = (Z j).take (L j) := by simp [List.getD, hj]
  have el : ((Z j).take (L j)).length = L j := by rw [List.length_take]; omega
  rw [e, el]
  refine ⟨A j, C j, h1, ?_, Nat.le_trans h2 h3⟩
  cases hA : A j with
  | none =>
    have := h6 hA
    exact ⟨el, fun hp => absurd hp (by omega)⟩
  | some a' => exact Rd.of_row h2 h4 (fun i hi => (h7 a' hA).2 i (by rw [h4] at hi; exact hi))

theorem szRowS_any (A : Option Addr) (n c : Nat) (t : Int) (w : World) (hn : n ≤ maxLen) (ht0 : 0 ≤ t) (ht : t ≤ 1048576) {r : Int} (hr : (if t - (n : Int) < 0 then -1 else t - (n : Int)) = r) :
    Calls Try.prog 46 #[.slice A n c, .int .i64 t] w fun e w' => e = .returned (.int .i64 r) ∧ w' = w := by
  unfold maxLen at hn
  have HR := Lib.hid hr; clear hr
  by_cases hlt : t - (n : Int) < 0
  · have hd : decide (t - (n : Int) < 0) = true := by simpa using hlt
    have HE : Hid (-1 = r) := by rw [Hid, ← HR.out, if_pos hlt]
    go_enter Try.func46, Try.ntmps46
    go_wp2_with fail
    go_ret
    exact ⟨ret_int HE.out, rfl⟩
  · have hd : decide (t - (n : Int) < 0) = false := by simpa using hlt
    have HE : Hid (t - (n : Int) = r) := by rw [Hid, ← HR.out, if_neg hlt]
    go_enter Try.func46, Try.ntmps46
    go_wp2_with fail
    go_ret
    exact ⟨ret_int HE.out, rfl⟩

set_option maxHeartbeats 800000 in
theorem szIntSS_any (A : Option Addr) (n c : Nat) (xss : List (List Int)) (w : World) (h : RdSS w A n xss) (hn : n ≤ maxLen) :
    Calls Try.prog 10 #[.slice A n c, .int .i64 1048576] w fun e w' => ∃ r : Int, e = .returned (.int .i64 r) ∧ w' = w ∧ (0 ≤ r → n + total xss ≤ 1048576) := by
  have hm := hn
  unfold maxLen at hn
  have H := Lib.hid h; have Hx := Lib.hid h.1; clear h
  by_cases hlt : (1048576 : Int) - (n : Int) < 0
  · have hd : decide ((1048576 : Int) - (n : Int) < 0) = true := by simpa using hlt
    go_enter Try.func10, Try.ntmps10
    go_wp2_with fail
    go_ret
    exact ⟨_, rfl, rfl, fun h => absurd h (by omega)⟩
  · have hd : decide ((1048576 : Int) - (n : Int) < 0) = false := by simpa using hlt
    go_enter Try.func10, Try.ntmps10
    go_wp2_with fail
    clear hd
    go_loop [1, 5] (fun u i => ∃ (k : Nat) (t : Int), k ≤ n ∧ i = .int .i64 k ∧ u = .int .i64 t ∧ 0 ≤ t ∧ t ≤ 1048576 ∧ Hid (t + n + total (xss.take k) = 1048576)) (fun _ i => n - (intOf i).toNat)
    case atStart => exact ⟨0, _, Nat.zero_le _, rfl, rfl, by omega, by omega, by simp [Hid, total]⟩
    case round =>
      obtain ⟨k, t, hk, rfl, rfl, ht0, ht1, htt⟩ := hrel
      by_cases hlt : k < n
      · obtain ⟨ad, Aj, cj, nj, rfl, hc, hr, hmj⟩ := H.out.at_ hlt
        have e3 := total_take_succ (xss := xss) (k := k) (by rw [Hx.out]; exact hlt)
        rw [hr.1] at e3
        have E3 := Lib.hid e3; clear hr e3
        by_cases hng : t - (nj : Int) < 0
        · have hd : decide ((-1 : Int) < 0) = true := by decide
          go_wp2_with (go_at_call 46; refine (szRowS_any Aj nj cj t _ hmj ht0 ht1 (r := -1) (by rw [if_pos hng])).mono ?_; rintro e w' ⟨rfl, rfl⟩)
          go_ret
          exact ⟨_, rfl, rfl, fun h => absurd h (by omega)⟩
        · have hd : decide (t - (nj : Int) < 0) = false := by simpa using hng
          go_wp2_with (go_at_call 46; refine (szRowS_any Aj nj cj t _ hmj ht0 ht1 (r := t - (nj : Int)) (by rw [if_neg hng])).mono ?_; rintro e w' ⟨rfl, rfl⟩)
          go_round
          case rel => exact ⟨k + 1, t - (nj : Int), by omega, by go_num, rfl, by omega, by omega, by have := htt.out; have := E3.out; simp only [Hid]; omega⟩
          case measure => simp [intOf]; omega
      · have hkn : k = n := by omega
        have HK := Lib.hid hkn; clear hkn
        go_wp2_with fail
        go_ret
        exact ⟨_, rfl, rfl, fun _ => by have := htt.out; rw [HK.out, total_all xss Hx.out] at this; omega⟩

theorem info_sliceR : (Try.prog.info? 22).map (fun i => (i.zero, i.size, i.bytes)) = some (some (.slice none 0 0), 1, 24) := by kernel_rfl

/-- Block g holds n rows, those before k read as xss. -/
def Rows (w : World) (g n : Nat) (k : Nat) (xss : List (List Int)) : Prop :=
  ∃ vs : List Value, vs.length = n ∧ w.ownsRow g 22 1 (.slice (some ⟨g, 0, none⟩) n n) n vs ∧ ∀ j, j < k → Own w (g + 1) (vs.getD j undef) (xss.getD j [])
theorem Rows.made {w : World} {g n : Nat} {xss : List (List Int)} (h : w.ownsRow g 22 1 (.slice (some ⟨g, 0, none⟩) n n) n (madeCells (Value.slice none 0 0).cells (n * 1)).toList) : Rows w g n 0 xss := by
  have e : (Value.slice none 0 0).cells = #[Value.slice none 0 0] := rfl
  rw [e, Nat.mul_one, toList_madeCells_one] at h
  exact ⟨_, by simp, h, fun j hj => absurd hj (by omega)⟩
theorem Rows.below {w w' : World} {g n k : Nat} {xss : List (List Int)} (h : Rows w g n k xss) (hb : Below w.heap.size w w') : Rows w' g n k xss := by
  obtain ⟨vs, hl, ho, hr⟩ := h
  exact ⟨vs, hl, World.ownsRow.kept ho (row := none) ⟨hb.os, hb.tape, hb.output, hb.size, fun k hk _ => hb.block k hk⟩ (by simp [Value.ownBlock]), fun j hj => (hr j hj).below hb⟩
theorem Rows.at_ {w : World} {g n k : Nat} {xss : List (List Int)} (h : Rows w g n k xss) {i : Nat} (hi : i < n) : ∃ v, w.cell? ⟨g, i, none⟩ = some v ∧ w.frozen? ⟨g, i, none⟩ = false := by
  obtain ⟨vs, hl, ho, hr⟩ := h
  refine ⟨vs.getD i undef, ?_, World.ownsRow.frozenAt ho i⟩
  rw [World.ownsRow.cellAt ho i (by omega)]
  simp [List.getD, List.getElem?_eq_getElem (show i < vs.length by omega)]
theorem Rows.put {w : World} {g n k : Nat} {xss : List (List Int)} {u : Value} (h : Rows w g n k xss) (hk : k < n) (hu : Own w (g + 1) u (xss.getD k [])) :
    Rows (w.setCell ⟨g, k, none⟩ u) g n (k + 1) xss ∧ w.grownBy (w.setCell ⟨g, k, none⟩ u) (some g) := by
  obtain ⟨vs, hl, ho, hr⟩ := h
  have hs := World.ownsRow.stored ho k u
  have key : ∀ {x : Value} {ys : List Int}, Own w (g + 1) x ys → Own (w.setCell ⟨g, k, none⟩ u) (g + 1) x ys := fun {x ys} hx => by
    refine hx.grown hs.2 ?_
    cases hb : x.ownBlock with
    | none => exact .inl rfl
    | some b => exact .inr fun e => by cases e; have := (hx.lt g hb).1; omega
  refine ⟨⟨vs.set k u, by simp [hl], hs.1, fun j hj => ?_⟩, hs.2⟩
  by_cases e : j = k
  · subst e
    have : (vs.set j u).getD j undef = u := by simp [List.getD, hl, hk]
    rw [this]; exact key hu
  · have : (vs.set k u).getD j undef = vs.getD j undef := by simp [List.getD, Ne.symm e]
    rw [this]; exact key (hr j (by omega))
theorem Rows.rd {w : World} {g n : Nat} {xss : List (List Int)} (h : Rows w g n n xss) (hn : xss.length = n) : RdSS w (some ⟨g, 0, none⟩) n xss := by
  obtain ⟨vs, hl, ho, hr⟩ := h
  refine ⟨hn, fun hp => ⟨_, rfl, fun j hj => ?_⟩⟩
  obtain ⟨Aj, cj, hv, hrd, hm⟩ := (hr j hj).form
  refine ⟨Aj, cj, ?_, hrd, hm⟩
  have hg : (vs)[j]? = some (vs.getD j undef) := by simp [List.getD, List.getElem?_eq_getElem (show j < vs.length by omega)]
  rw [← hv]
  exact ho.cells (g := g) rfl j _ hg

set_option maxHeartbeats 1600000 in
theorem toIntSS_own (A : Option Addr) (n c : Nat) (xss : List (List Int)) (w : World) (h : RdSS w A n xss) (hn : n ≤ 1048576) (ht : total xss ≤ 1048576) :
    Calls Try.prog 13 #[.slice A n c] w fun e w' => ∃ g, e = .returned (.slice (some ⟨g, 0, none⟩) n n) ∧ Rows w' g n n xss ∧ Below w.heap.size w w' := by
  obtain ⟨i0, hi, hz0, hz1, hz2⟩ := info_parts info_sliceR
  have H := Lib.hid h; have Hx := Lib.hid h.1; clear h
  have HZ := Lib.hid (And.intro hz1 hz2)
  have HT := Lib.hid ht; clear ht
  go_enter Try.func13, Try.ntmps13
  go_wp2_with (at_make; refine wpList_make_full _ rfl _ _ 25 rfl w.heap.size 22 i0 (.slice none 0 0) 1 Try.underlying25 hi hz0 hz1 .i64 .i64 _ _ n rfl rfl rfl rfl (by rw [hz2]; omega) (by unfold maxLen; omega) (Nat.le_refl _) ?_; intro w1 hown1 hgrow1)
  have hb1 := Lib.hid (below_of_grown hgrow1 (Nat.le_refl _) (fun k hk => by cases hk))
  have ho1 : Hid (Rows w1 w.heap.size n 0 xss) := Rows.made hown1
  have hs1 : w.heap.size < w1.heap.size := (World.ownsRow.lt hown1 _ rfl).2
  clear hown1 hgrow1 hz0 hz1 hz2 hi HZ
  go_loopw [4] (fun i wr => ∃ k : Nat, k ≤ n ∧ i = .int .i64 k ∧ Hid (Rows wr w.heap.size n k xss) ∧ Hid (Below w.heap.size w wr) ∧ Hid (w.heap.size < wr.heap.size)) (fun i _ => n - (intOf i).toNat)
  case atStart => exact ⟨0, Nat.zero_le _, rfl, ho1, hb1, hs1⟩
  case round =>
    obtain ⟨k, hk, rfl, ho, hb, hsz⟩ := hrel
    clear ho1 hb1 hs1
    by_cases hlt : k < n
    · obtain ⟨ad, Aj, cj, nj, rfl, hc, hr, hmj⟩ := (H.out.below hb.out).at_ hlt
      have hnj : nj ≤ 1048576 := by have := total_ge (xss := xss) (k := k) (by rw [Hx.out]; exact hlt); rw [hr.1] at this; have := HT.out; omega
      have HR := Lib.hid hr; clear hr hmj
      go_wp2_with (go_at_call 52; refine (toIntS_any Aj nj cj (xss.getD k []) _ HR.out (by omega)).mono ?_; rintro e w2 ⟨v, rfl, o, b⟩; obtain ⟨Av, cv, rfl, -, -⟩ := o.form' HR.out.1; have HO := Lib.hid (o.mono (by have := hsz.out; omega) : Own w2 (w.heap.size + 1) (.slice Av nj cv) _); have HB2 := Lib.hid b; clear o b; obtain ⟨u, hcu, hfu⟩ := Rows.at_ (ho.out.below HB2.out) hlt; have HS := Lib.hid (Rows.put (ho.out.below HB2.out) hlt HO.out))
      go_roundw
      case rel =>
        have hb2 := hb.out.trans (HB2.out.mono (Nat.le_of_lt hsz.out))
        exact ⟨k + 1, by omega, by go_num, HS.out.1, hb2.grown HS.out.2 (Nat.le_of_lt (Nat.lt_of_lt_of_le hsz.out HB2.out.size)) (fun b hb => by cases hb; exact Nat.le_refl _), by have := HS.out.2.size; have := HB2.out.size; have := hsz.out; simp only [Hid] at *; omega⟩
      case measure => simp [intOf]; omega
    · have hkn : k = n := by omega
      have HK := Lib.hid hkn; clear hkn
      go_wp2_with fail
      go_ret
      exact ⟨_, rfl, HK.out ▸ ho.out, hb.out⟩

theorem toIntSS_any (A : Option Addr) (n c : Nat) (xss : List (List Int)) (w : World) (h : RdSS w A n xss) (hn : n ≤ 1048576) (ht : total xss ≤ 1048576) :
    Calls Try.prog 13 #[.slice A n c] w fun e w' => ∃ A' c', e = .returned (.slice A' n c') ∧ RdSS w' A' n xss ∧ Below w.heap.size w w' :=
  (toIntSS_own A n c xss w h hn ht).mono fun _ _ ⟨_, he, hr, hb⟩ => ⟨_, _, he, hr.rd h.1, hb⟩
/-- A row of it. -/
theorem Rows.row {w : World} {g n : Nat} {xss : List (List Int)} (h : Rows w g n n xss) {j : Nat} (hj : j < n) :
    ∃ Aj nj cj, w.cell? ⟨g, j, none⟩ = some (.slice Aj nj cj) ∧ Own w (g + 1) (.slice Aj nj cj) (xss.getD j []) ∧ (xss.getD j []).length = nj := by
  obtain ⟨vs, hl, ho, hr⟩ := h
  obtain ⟨Aj, cj, hv, -, -⟩ := (hr j hj).form
  have hc := World.ownsRow.cellAt ho j (by omega)
  have h1 := hr j hj
  rw [hv] at h1
  refine ⟨Aj, _, cj, ?_, h1, rfl⟩
  rw [hc, ← hv]
  simp [List.getD, List.getElem?_eq_getElem (show j < vs.length by omega)]

end Go.Proofs.Ytlnegaenjcekcaa

namespace Go.Proofs.Ytlnegaenjcekcaa
open Go.RowKit

theorem row_kind {w : World} {base : Nat} {e : TypeId} {size n : Nat} {v : Value} {xs : List Value} (h : w.ownsRow base e size v n xs) : ∀ g, v.ownBlock = some g → base ≤ g ∧ ∃ cs, w.heap[g]? = some (.cells cs e (0, 0)) := by
  intro g hg
  rcases h.2 with ⟨rfl, _⟩ | ⟨g', cap, cur, rfl, hb, hh, _⟩
  · simp [Value.ownBlock] at hg
  · have : g' = g := by simpa [Value.ownBlock] using hg
    subst this
    exact ⟨hb, cur, hh⟩
theorem OwnSS.rd {w : World} {lo hi n c : Nat} {A : Option Addr} {xss : List (List Int)} (h : OwnSS w lo hi (.slice A n c) xss) (hn : xss.length = n) : RdSS w A n xss := by
  obtain ⟨vs, hl, ho, hr, _⟩ := h
  refine ⟨hn, fun hp => ?_⟩
  have ho' := ho
  rcases ho.2 with ⟨hv, h0⟩ | ⟨g, cap, cur, hv, _⟩
  · omega
  · simp only [Value.slice.injEq] at hv
    obtain ⟨rfl, h1, h2⟩ := hv
    refine ⟨_, rfl, fun j hj => ?_⟩
    obtain ⟨Aj, cj, hv, hrd, hm⟩ := (hr j (by omega)).1.form
    refine ⟨Aj, cj, ?_, hrd, hm⟩
    have hg : (vs)[j]? = some (vs.getD j undef) := by simp [List.getD, List.getElem?_eq_getElem (show j < vs.length by omega)]
    rw [← hv]
    exact ho'.cells (g := g) rfl j _ hg

/-- The rows, marked with the numbers from m on. -/
def marksSS (m : Int) : List (List Int) → List (List Int)
  | [] => []
  | xs :: r => marks m xs.length :: marksSS (m + xs.length) r
theorem marksSS_len (xss : List (List Int)) : ∀ m, (marksSS m xss).length = xss.length := by
  induction xss with
  | nil => intro m; rfl
  | cons x r ih => intro m; simp [marksSS, ih]
theorem marksSS_get (xss : List (List Int)) : ∀ (m : Int) (k : Nat), k < xss.length → (marksSS m xss).getD k [] = marks (m + total (xss.take k)) (xss.getD k []).length := by
  induction xss with
  | nil => intro m k hk; exact absurd hk (by simp)
  | cons x r ih =>
    intro m k hk
    cases k with
    | zero => simp [marksSS, total]
    | succ k =>
      have := ih (m + x.length) k (by simpa using hk)
      simp only [marksSS, List.getD_cons_succ, List.take_succ_cons, total]
      rw [this]
      congr 1
      omega
theorem marksSS_get_len {xss : List (List Int)} {m : Int} {k : Nat} (hk : k < xss.length) : ((marksSS m xss).getD k []).length = (xss.getD k []).length := by rw [marksSS_get xss m k hk, marks_len]

/-- As OwnSS, the rows told by a function. -/
def OwnRows (w : World) (lo hi : Nat) (v : Value) (n : Nat) (f : Nat → List Int) : Prop :=
  ∃ vs : List Value, vs.length = n ∧ w.ownsRow lo 22 1 v n vs ∧ (∀ j, j < n → Own w lo (vs.getD j undef) (f j) ∧ ∀ k, (vs.getD j undef).ownBlock = some k → k < hi) ∧
    ∀ j, j < n → ∀ i, i < j → (vs.getD i undef).ownBlock = none ∨ (vs.getD i undef).ownBlock ≠ (vs.getD j undef).ownBlock
theorem OwnSS.rows {w : World} {lo hi n : Nat} {v : Value} {xss : List (List Int)} (h : OwnSS w lo hi v xss) (hn : xss.length = n) : OwnRows w lo hi v n (fun j => xss.getD j []) := by subst hn; exact h
theorem OwnRows.ss {w : World} {lo hi n : Nat} {v : Value} {xss : List (List Int)} (h : OwnRows w lo hi v n (fun j => xss.getD j [])) (hn : xss.length = n) : OwnSS w lo hi v xss := by subst hn; exact h
theorem OwnRows.congr {w : World} {lo hi n : Nat} {v : Value} {f f' : Nat → List Int} (h : OwnRows w lo hi v n f) (he : ∀ j, j < n → f j = f' j) : OwnRows w lo hi v n f' := by
  obtain ⟨vs, hl, ho, hr, hd⟩ := h
  exact ⟨vs, hl, ho, fun j hj => by rw [← he j hj]; exact hr j hj, hd⟩
theorem OwnRows.row {w : World} {lo hi n c k : Nat} {A : Option Addr} {f : Nat → List Int} (h : OwnRows w lo hi (.slice A n c) n f) (hk : k < n) :
    ∃ (g : Nat) (Ak : Option Addr) (ck nk : Nat), A = some ⟨g, 0, none⟩ ∧ w.cell? ⟨g, k, none⟩ = some (.slice Ak nk ck) ∧ (f k).length = nk ∧ Own w lo (.slice Ak nk ck) (f k) ∧
      ∀ (w' : World) (ys : List Int), Own w' lo (.slice Ak nk ck) ys → w.grownBy w' (Value.ownBlock (.slice Ak nk ck)) → OwnRows w' lo hi (.slice A n c) n (fun j => if j = k then ys else f j) := by
  obtain ⟨vs, hl, ho, hr, hd⟩ := h
  have ho' := ho
  rcases ho.2 with ⟨hv, h0⟩ | ⟨g, cap, cur, hv, _⟩
  · omega
  · simp only [Value.slice.injEq, true_and] at hv
    obtain ⟨rfl, rfl⟩ := hv
    obtain ⟨Ak, ck, hv, hrd, hm⟩ := (hr k hk).1.form
    have hg : vs[k]? = some (vs.getD k undef) := by simp [List.getD, List.getElem?_eq_getElem (show k < vs.length by omega)]
    have hcell := ho'.cellAt k (by omega)
    rw [hg, hv] at hcell
    refine ⟨g, Ak, ck, _, rfl, hcell, rfl, by rw [← hv]; exact (hr k hk).1, fun w' ys hy hgr => ⟨vs, hl, ho.kept hgr ?_, fun j hj => ?_, hd⟩⟩
    · refine .inr fun e => ?_
      obtain ⟨_, cs, h2⟩ := row_kind ho g rfl
      have h3 : Value.ownBlock (.slice Ak (f k).length ck) = some g := e.symm
      rw [← hv] at h3
      obtain ⟨_, cs', h4⟩ := row_kind (hr k hk).1 g h3
      rw [h2] at h4
      injection h4 with h4
      injection h4 with _ h4
      exact absurd h4 (by decide)
    · by_cases e : j = k
      · subst e
        simp only [if_true]
        rw [hv]
        exact ⟨hy, by rw [← hv]; exact (hr j hj).2⟩
      · simp only [if_neg e]
        refine ⟨(hr j hj).1.grown hgr ?_, (hr j hj).2⟩
        rw [← hv]
        rcases Nat.lt_or_ge j k with hlt | hge
        · exact hd k hk j hlt
        · rcases hd j hj k (by omega) with h | h
          · cases hb : (vs.getD j undef).ownBlock with
            | none => exact .inl rfl
            | some q => exact .inr (by rw [h]; simp)
          · exact .inr (fun e' => h e'.symm)
theorem OwnSS.under {w w' : World} {lo hi B : Nat} {v : Value} {xss : List (List Int)} (h : OwnSS w lo hi v xss) (hB : hi ≤ B) (ho' : ∀ k, v.ownBlock = some k → k < B) (hb : Below B w w') : OwnSS w' lo hi v xss := by
  obtain ⟨vs, hl, ho, hr, hd⟩ := h
  have key : ∀ {e : TypeId} {size n : Nat} {u : Value} {xs : List Value}, w.ownsRow lo e size u n xs → (∀ k, u.ownBlock = some k → k < B) → w'.ownsRow lo e size u n xs := fun {e size n u xs} h hu => by
    obtain ⟨h1, h2⟩ := h
    refine ⟨h1, ?_⟩
    rcases h2 with h2 | ⟨g, cap, cur, rfl, hg, hh, r⟩
    · exact .inl h2
    · exact .inr ⟨g, cap, cur, rfl, hg, (hb.block g (hu g rfl)).trans hh, r⟩
  exact ⟨vs, hl, key ho ho', fun j hj => ⟨key (hr j hj).1 (fun k hk => Nat.lt_of_lt_of_le ((hr j hj).2 k hk) hB), (hr j hj).2⟩, hd⟩

set_option maxHeartbeats 800000 in
theorem markIntSS_any (lo hi : Nat) (A : Option Addr) (n c : Nat) (xss : List (List Int)) (m : Int) (w : World) (h : OwnSS w lo hi (.slice A n c) xss) (hxl : xss.length = n) (hlo : lo ≤ w.heap.size) (hn : n ≤ 1048576) (ht : total xss ≤ 1048576) (hm0 : 0 ≤ m) (hm : m ≤ 1048576) :
    Calls Try.prog 19 #[.slice A n c, .int .i64 m] w fun e w' => e = .returned (.int .i64 (m + (total xss : Nat))) ∧ OwnSS w' lo hi (.slice A n c) (marksSS m xss) ∧ Below lo w w' := by
  have H := Lib.hid (h.rows hxl); have Hx := Lib.hid hxl; clear h hxl
  go_enter Try.func19, Try.ntmps19
  go_wp2_with fail
  go_loopw [1, 5] (fun u i wr => ∃ k t : Nat, k ≤ n ∧ i = .int .i64 k ∧ u = .int .i64 (m + (t : Int)) ∧ t ≤ 1048576 ∧ Hid (t = total (xss.take k)) ∧ Hid (OwnRows wr lo hi (.slice A n c) n (fun j => if j < k then (marksSS m xss).getD j [] else xss.getD j [])) ∧ Hid (Below lo w wr)) (fun _ i _ => n - (intOf i).toNat)
  case atStart => exact ⟨0, 0, Nat.zero_le _, rfl, by simp, by omega, by simp [Hid, total], H.out.congr (fun j _ => by simp), Below.refl _ _⟩
  case round =>
    obtain ⟨k, t, hk, rfl, rfl, ht1, htt, ho, hb⟩ := hrel
    by_cases hlt : k < n
    · obtain ⟨g, Ak, ck, nk, rfl, hc, hnk, hok, hnext⟩ := ho.out.row hlt
      simp only [Nat.lt_irrefl, if_false] at hnk hok
      have e3 := total_take_succ (xss := xss) (k := k) (by rw [Hx.out]; exact hlt)
      rw [← htt.out, hnk] at e3
      have e4 : t + nk ≤ 1048576 := by rw [← e3]; exact Nat.le_trans (total_take_le _ _) ht
      have e1 := marksSS_get xss m k (by rw [Hx.out]; exact hlt)
      rw [← htt.out, hnk] at e1
      have hrow : ∀ q, Value.ownBlock (.slice Ak nk ck) = some q → lo ≤ q := fun q hq => (hok.lt q hq).1
      have HOK := Lib.hid hok; have HNX := Lib.hid hnext; have HNK := Lib.hid hnk; have E3 := Lib.hid e3; have E1 := Lib.hid e1; have HROW := Lib.hid hrow; clear hok hnext hnk e3 e1 hrow
      go_wp2_with fail
      refine (markIntS_any lo Ak nk ck (xss.getD k []) (m + (t : Int)) wr HOK.out HNK.out (by omega) (by omega) (by omega)).mono ?_
      rintro e w1 ⟨rfl, o, hg⟩
      have HO := Lib.hid (HNX.out w1 _ o hg); have HB := Lib.hid (hb.out.grown hg (Nat.le_trans hlo hb.out.size) HROW.out); clear o hg
      go_wp2_with fail
      go_roundw
      case rel =>
        refine ⟨k + 1, t + nk, by omega, by go_num, by go_num, e4, E3.out.symm, HO.out.congr (fun j _ => ?_), HB.out⟩
        by_cases e : j = k
        · subst e
          rw [if_pos rfl, if_pos (by omega)]
          exact E1.out.symm
        · rw [if_neg e]
          by_cases e' : j < k
          · rw [if_pos e', if_pos (by omega)]
          · rw [if_neg e', if_neg (by omega)]
      case measure => simp [intOf]; omega
    · have hkn : k = n := by omega
      have HK := Lib.hid hkn; clear hkn
      go_wp2_with fail
      go_ret
      refine ⟨ret_int (by rw [htt.out, HK.out, List.take_of_length_le (by rw [Hx.out]; exact Nat.le_refl _)]), ?_, hb.out⟩
      refine (ho.out.congr (f' := fun j => (marksSS m xss).getD j []) (fun j hj => ?_)).ss (by rw [marksSS_len, Hx.out])
      rw [HK.out, if_pos hj]

theorem OwnSS.over {w w' : World} {lo hi : Nat} {row : Option Nat} {v : Value} {xss : List (List Int)} (h : OwnSS w lo hi v xss) (hg : w.grownBy w' row) (hr : ∀ k, row = some k → k < lo) : OwnSS w' lo hi v xss := by
  have ne : ∀ {e : TypeId} {size n : Nat} {u : Value} {xs : List Value}, w.ownsRow lo e size u n xs → u.ownBlock = none ∨ u.ownBlock ≠ row := fun {e size n u xs} h => by
    cases hu : u.ownBlock with
    | none => exact .inl rfl
    | some k =>
      refine .inr fun e' => ?_
      have a := (h.lt k hu).1
      have b := hr k e'.symm
      omega
  obtain ⟨vs, hl, ho, hrr, hd⟩ := h
  exact ⟨vs, hl, ho.kept hg (ne ho), fun j hj => ⟨(hrr j hj).1.grown hg (ne (hrr j hj).1), (hrr j hj).2⟩, hd⟩

theorem cycFrom_len (p : List Int) : ∀ (f : Nat) (vis : List Nat) (k : Nat), (cycFrom p f vis k).length ≤ f := by
  intro f
  induction f with
  | zero => intro vis k; simp [cycFrom]
  | succ f ih =>
    intro vis k
    rw [cycFrom]
    split
    · simp
    · simpa using ih _ _
theorem cycAll_total (p : List Int) : ∀ (is : List Nat) (vis : List Nat), total (cycAll p is vis) ≤ 13 * is.length := by
  intro is
  induction is with
  | nil => intro vis; simp [cycAll, total]
  | cons i is ih =>
    intro vis
    rw [cycAll]
    split
    · have := ih vis; simp only [List.length_cons]; omega
    · have h1 := ih (after (cycFrom p 13 vis i) vis)
      have h2 := cycFrom_len p 13 vis i
      simp only [total, List.length_cons]
      omega
end Go.Proofs.Ytlnegaenjcekcaa

/-
  Blocks that stay as they were; an append of a row that a call owns to another one.
  An argument of slices of slices: its size, a copy that the call owns row by row, its marks.
-/
import Derived.Test.YtlnegaenjcekcaaKit
import Derived.Test.YtlnegaenjcekcaaSeen
import Derived.Laws.AppendOwnNone
import Derived.Maps.AppendAt
import Derived.Test.YtlnegaenjcekcaaMarkSS
import Derived.Test.YtlnegaenjcekcaaKitM
namespace Go.Proofs.Ytlnegaenjcekcaa
open Go.RowKit
set_option linter.unusedVariables false

/-- The blocks from lo to hi are as they were. -/
def Fix (lo hi : Nat) (w w' : World) : Prop := ∀ i, lo ≤ i → i < hi → w'.heap[i]? = w.heap[i]?
theorem Fix.refl (lo hi : Nat) (w : World) : Fix lo hi w w := fun _ _ _ => rfl
theorem Fix.trans {lo hi : Nat} {a b c : World} (h : Fix lo hi a b) (k : Fix lo hi b c) : Fix lo hi a c := fun i h1 h2 => (k i h1 h2).trans (h i h1 h2)
theorem Fix.grown {lo hi : Nat} {w w' : World} {row : Option Nat} (hg : w.grownBy w' row) (hh : hi ≤ w.heap.size) (hr : ∀ k, row = some k → k < lo ∨ hi ≤ k) : Fix lo hi w w' := fun i h1 h2 => hg.block i (by omega) (fun e => by have := hr i e.symm; omega)
theorem Fix.below {lo hi : Nat} {w w' : World} {B : Nat} (hb : Below B w w') (hh : hi ≤ B) : Fix lo hi w w' := fun i _ h2 => hb.block i (by omega)
theorem ownsRow_fix {w w' : World} {lo hi : Nat} {e : TypeId} {size n : Nat} {v : Value} {xs : List Value} (h : w.ownsRow lo e size v n xs) (hv : ∀ k, v.ownBlock = some k → k < hi) (hf : Fix lo hi w w') : w'.ownsRow lo e size v n xs := by
  obtain ⟨h1, h2⟩ := h
  refine ⟨h1, ?_⟩
  rcases h2 with h2 | ⟨g, cap, cur, rfl, hg, hh, r⟩
  · exact .inl h2
  · exact .inr ⟨g, cap, cur, rfl, hg, (hf g hg (hv g rfl)).trans hh, r⟩
theorem OwnSS.fix {w w' : World} {lo hi : Nat} {v : Value} {xss : List (List Int)} (h : OwnSS w lo hi v xss) (hv : ∀ k, v.ownBlock = some k → k < hi) (hf : Fix lo hi w w') : OwnSS w' lo hi v xss := by
  obtain ⟨vs, hl, ho, hr, hd⟩ := h
  exact ⟨vs, hl, ownsRow_fix ho hv hf, fun j hj => ⟨ownsRow_fix (hr j hj).1 (hr j hj).2 hf, (hr j hj).2⟩, hd⟩
theorem OwnSS.at_ {w : World} {lo hi n c g : Nat} {xss : List (List Int)} (h : OwnSS w lo hi (.slice (some ⟨g, 0, none⟩) n c) xss) (hn : xss.length = n) {k : Nat} (hk : k < n) :
    ∃ (Ak : Option Addr) (nk ck : Nat), w.cell? ⟨g, k, none⟩ = some (.slice Ak nk ck) ∧ (xss.getD k []).length = nk ∧ Own w lo (.slice Ak nk ck) (xss.getD k []) ∧ nk ≤ maxLen := by
  obtain ⟨vs, hl, ho, hr, hd⟩ := h
  subst hn
  obtain ⟨h1, h2⟩ := hr k hk
  obtain ⟨A, c', e, -, hm⟩ := h1.form
  have hc := World.ownsRow.cells ho rfl k (vs.getD k undef) (by simp [List.getD, hl, hk])
  rw [e] at hc h1
  refine ⟨A, _, c', ?_, rfl, h1, hm⟩
  rwa [show (⟨g, 0, none⟩ : Addr).add k = ⟨g, k, none⟩ from by unfold Addr.add; split <;> simp_all] at hc

/-- An append of a row that a call owns to another one. -/
theorem wpList_append_row {w : World} {ops : Array Oper} {rest : List Oper} {o : Oper} {a : Act} {Q : Exit → Act → World → Prop} (hgd : o.guard = none) (s x : Operand) (t : TypeId)
    (ho : o.op = .call { callee := .builtin .append, args := #[s, x], argTypes := #[t, t] }) (ht : Try.prog.underlying t = some (.slice 3)) (base : Nat) (v : Value) (xs : List Int) (hs : a.eval s = v) (hown : Own w base v xs)
    (u : Value) (lo : Nat) (row : List Int) (hx : a.eval x = u) (hu : Own w lo u row) (h63 : xs.length + row.length ≤ 1048576) (hbase : base ≤ w.heap.size)
    (h : ∀ v' w', Own w' base v' (xs ++ row) → w.grownBy w' v.ownBlock → wpList Try.prog ops Q rest (a.put o.dst v') w') : wpList Try.prog ops Q (o :: rest) a w := by
  obtain ⟨i0, hinf, hz0, hz1, hz2⟩ := info_parts info_int
  have key : ∀ (v' : Value) (w' : World) (news : List Value), news = ints row → w'.ownsRow base 3 1 v' (xs.length + row.length) (ints xs ++ news) → Own w' base v' (xs ++ row) := by
    intro v' w' news e h1
    unfold Own
    rw [List.length_append, ints, List.map_append]
    rw [e] at h1
    exact h1
  rcases hu.2 with ⟨rfl, hl⟩ | ⟨g, cap, cur, rfl, hg, hh, hn, hm, hr⟩
  · have e : row = [] := List.length_eq_zero_iff.1 hl
    refine wpList_append_own_none hgd s x t ho base 3 i0 1 ht hinf v xs.length (ints xs) hs hown hx (h v w ?_ (World.grownBy.refl _ _))
    rw [e, List.append_nil]; exact hown
  · have hrd := hu.rd (n := row.length) rfl
    refine wpList_append_own _ hgd s x t ho base 3 i0 (.int .i64 0) 1 8 ht hinf hz0 hz1 hz2 rfl (by decide) v xs.length (ints xs) hs hown ⟨g, 0, none⟩ row.length cap (ints row) hx (by rw [ints_len]; omega) (Rd.news hrd) ints_one (by unfold maxLen; omega) (by omega) hbase (fun v' w' h1 h2 _ => h v' w' (key v' w' _ rfl h1) h2)

theorem lit_over {w w2 : World} {o : Obj} {n c : Nat} (hg : (w.alloc o).grownBy w2 (Value.ownBlock (.slice (some ⟨w.heap.size, 0, none⟩) n c))) : Below w.heap.size w w2 := by
  have b1 : Below w.heap.size w (w.alloc o) := (Below.refl _ _).alloc (Nat.le_refl _) _
  exact b1.grown hg b1.size (fun k hk => by cases hk; exact Nat.le_refl _)
theorem over_fix {w w2 : World} {lo n c g m : Nat} {vs : List Value} (h : w.ownsRow lo 22 1 (.slice (some ⟨g, 0, none⟩) n c) m vs) (hb : Below w.heap.size w w2) : w2.ownsRow lo 22 1 (.slice (some ⟨g, 0, none⟩) n c) m vs :=
  ownsRow_fix h (fun k hk => (h.lt k hk).2) (Fix.below hb (Nat.le_refl _))
theorem one_rowP {w : World} {lo : Nat} {v : Value} {xs : List Int} (h : Own w lo v xs) (hlo : lo ≤ w.heap.size) :
    OwnSS (w.alloc (.cells #[v] 22)) lo (w.alloc (.cells #[v] 22)).heap.size (.slice (some ⟨w.heap.size, 0, none⟩) 1 1) [xs] := by
  have hb : Below w.heap.size w (w.alloc (.cells #[v] 22)) := (Below.refl _ _).alloc (Nat.le_refl _) _
  refine ⟨[v], rfl, World.ownsRow_lit w #[v] 1 hlo (by unfold maxLen; omega) rfl, fun j hj => ?_, fun j hj i hij => ?_⟩
  · obtain rfl : j = 0 := by simpa using hj
    exact ⟨h.below hb, fun k hk => by have := (h.lt k hk).2; simp; omega⟩
  · simp at hj; omega

theorem own_someP {w : World} {lo n size : Nat} {t : TypeId} {v : Value} {xs : List Value} (h : w.ownsRow lo t size v n xs) (hv : v ≠ .slice none 0 0) : ∃ g c, v = .slice (some ⟨g, 0, none⟩) n c := by
  rcases h.2 with ⟨e, _⟩ | ⟨g, cap, cur, rfl, _⟩
  · exact absurd e hv
  · exact ⟨g, cap, rfl⟩


end Go.Proofs.Ytlnegaenjcekcaa

namespace Go.Proofs.Ytlnegaenjcekcaa
open Go.RowKit

set_option maxHeartbeats 800000 in
theorem szIntSS_left (A : Option Addr) (n c : Nat) (xss : List (List Int)) (left : Int) (w : World) (h : RdSS w A n xss) (hn : n ≤ maxLen) (hl0 : 0 ≤ left) (hl1 : left ≤ 1048576) :
    Calls Try.prog 10 #[.slice A n c, .int .i64 left] w fun e w' => ∃ r : Int, e = .returned (.int .i64 r) ∧ w' = w ∧ (0 ≤ r → (n : Int) + (total xss : Nat) ≤ left) := by
  have hm := hn
  unfold maxLen at hn
  have H := Lib.hid h; have Hx := Lib.hid h.1; clear h
  by_cases hlt : left - (n : Int) < 0
  · have hd : decide (left - (n : Int) < 0) = true := by simpa using hlt
    go_enter Try.func10, Try.ntmps10
    go_wp2_with fail
    go_ret
    exact ⟨_, rfl, rfl, fun h => absurd h (by omega)⟩
  · have hd : decide (left - (n : Int) < 0) = false := by simpa using hlt
    go_enter Try.func10, Try.ntmps10
    go_wp2_with fail
    clear hd
    go_loop [1, 5] (fun u i => ∃ (k : Nat) (t : Int), k ≤ n ∧ i = .int .i64 k ∧ u = .int .i64 t ∧ 0 ≤ t ∧ t ≤ 1048576 ∧ Hid (t + n + total (xss.take k) = left)) (fun _ i => n - (intOf i).toNat)
    case atStart => exact ⟨0, _, Nat.zero_le _, rfl, rfl, by omega, by omega, by simp [Hid, total]⟩
    case round =>
      obtain ⟨k, t, hk, rfl, rfl, ht0, ht1, htt⟩ := hrel
      by_cases hlt : k < n
      · obtain ⟨ad, Aj, cj, nj, rfl, hc, hr, hmj⟩ := H.out.at_ hlt
        have e3 := total_take_succ (xss := xss) (k := k) (by rw [Hx.out]; exact hlt)
        rw [hr.1] at e3
        have E3 := Lib.hid e3; clear hr e3
        by_cases hng : t - (nj : Int) < 0
        · have hd : decide ((-1 : Int) < 0) = true := by decide
          go_wp2_with (go_at_call 46; refine (szRowS_any Aj nj cj t _ hmj ht0 ht1 (r := -1) (by rw [if_pos hng])).mono ?_; rintro e w' ⟨rfl, rfl⟩)
          go_ret
          exact ⟨_, rfl, rfl, fun h => absurd h (by omega)⟩
        · have hd : decide (t - (nj : Int) < 0) = false := by simpa using hng
          go_wp2_with (go_at_call 46; refine (szRowS_any Aj nj cj t _ hmj ht0 ht1 (r := t - (nj : Int)) (by rw [if_neg hng])).mono ?_; rintro e w' ⟨rfl, rfl⟩)
          go_round
          case rel => exact ⟨k + 1, t - (nj : Int), by omega, by go_num, rfl, by omega, by omega, by have := htt.out; have := E3.out; simp only [Hid]; omega⟩
          case measure => simp [intOf]; omega
      · have hkn : k = n := by omega
        have HK := Lib.hid hkn; clear hkn
        go_wp2_with fail
        go_ret
        exact ⟨_, rfl, rfl, fun _ => by have := htt.out; rw [HK.out, total_all xss Hx.out] at this; omega⟩

/-- A row put into a slice of slices that a call owns. -/
theorem OwnRows.put {w : World} {lo hi hi' n c g k : Nat} {f : Nat → List Int} {u : Value} {xs : List Int} (h : OwnRows w lo hi (.slice (some ⟨g, 0, none⟩) n c) n f) (hk : k < n) (hu : Own w lo u xs) (hh : hi ≤ hi') (hu' : ∀ q, u.ownBlock = some q → hi ≤ q ∧ q < hi') :
    OwnRows (w.setCell ⟨g, k, none⟩ u) lo hi' (.slice (some ⟨g, 0, none⟩) n c) n (fun j => if j = k then xs else f j) ∧ w.grownBy (w.setCell ⟨g, k, none⟩ u) (some g) := by
  obtain ⟨vs, hl, ho, hr, hd⟩ := h
  have hs := World.ownsRow.stored ho k u
  have key : ∀ {x : Value} {ys : List Int}, Own w lo x ys → Own (w.setCell ⟨g, k, none⟩ u) lo x ys := fun {x ys} hx => by
    refine hx.grown hs.2 ?_
    cases hb : x.ownBlock with
    | none => exact .inl rfl
    | some b =>
      refine .inr fun e => ?_
      injection e with e
      subst e
      obtain ⟨_, cs, h1⟩ := row_kind ho b rfl
      obtain ⟨_, cs', h2⟩ := row_kind hx b hb
      rw [h1] at h2
      injection h2 with h2
      injection h2 with _ h2
      exact absurd h2 (by decide)
  have hget : ∀ j, (vs.set k u).getD j undef = if j = k then u else vs.getD j undef := fun j => by
    by_cases e : j = k
    · subst e; rw [if_pos rfl]; simp [List.getD, hl, hk]
    · rw [if_neg e]; simp [List.getD, Ne.symm e]
  refine ⟨⟨vs.set k u, by simp [hl], hs.1, fun j hj => ?_, fun j hj i hij => ?_⟩, hs.2⟩
  · rw [hget]
    by_cases e : j = k
    · simp only [if_pos e]; exact ⟨key hu, fun q hq => (hu' q hq).2⟩
    · simp only [if_neg e]; exact ⟨key (hr j hj).1, fun q hq => Nat.lt_of_lt_of_le ((hr j hj).2 q hq) hh⟩
  · rw [hget, hget]
    by_cases e : j = k
    · have e2 : i ≠ k := by omega
      rw [if_pos e, if_neg e2]
      exact ne_of (fun q hq => (hr i (by omega)).2 q hq) (fun q hq => (hu' q hq).1)
    · rw [if_neg e]
      by_cases e2 : i = k
      · rw [if_pos e2]
        exact ne_of' (fun q hq => (hu' q hq).1) (fun q hq => (hr j hj).2 q hq)
      · rw [if_neg e2]; exact hd j hj i hij
theorem OwnRows.below {w w' : World} {lo hi n : Nat} {v : Value} {f : Nat → List Int} (h : OwnRows w lo hi v n f) (hb : Below w.heap.size w w') : OwnRows w' lo hi v n f := by
  obtain ⟨vs, hl, ho, hr, hd⟩ := h
  exact ⟨vs, hl, World.ownsRow.kept ho (row := none) ⟨hb.os, hb.tape, hb.output, hb.size, fun k hk _ => hb.block k hk⟩ (by cases v.ownBlock <;> simp), fun j hj => ⟨(hr j hj).1.below hb, (hr j hj).2⟩, hd⟩
theorem OwnRows.cell {w : World} {lo hi n c g k : Nat} {f : Nat → List Int} (h : OwnRows w lo hi (.slice (some ⟨g, 0, none⟩) n c) n f) (hk : k < n) : ∃ v, w.cell? ⟨g, k, none⟩ = some v ∧ w.frozen? ⟨g, k, none⟩ = false := by
  obtain ⟨vs, hl, ho, hr, hd⟩ := h
  refine ⟨vs.getD k undef, ?_, World.ownsRow.frozenAt ho k⟩
  rw [World.ownsRow.cellAt ho k (by omega)]
  simp [List.getD, List.getElem?_eq_getElem (show k < vs.length by omega)]
theorem OwnRows.made {w : World} {lo hi g n : Nat} (h : w.ownsRow lo 22 1 (.slice (some ⟨g, 0, none⟩) n n) n (madeCells (Value.slice none 0 0).cells (n * 1)).toList) : OwnRows w lo hi (.slice (some ⟨g, 0, none⟩) n n) n (fun _ => []) := by
  have e : (Value.slice none 0 0).cells = #[Value.slice none 0 0] := rfl
  rw [e, Nat.mul_one, toList_madeCells_one] at h
  have hget : ∀ j, j < n → (List.replicate n (Value.slice none 0 0)).getD j undef = Value.slice none 0 0 := fun j hj => by simp [List.getD, hj]
  exact ⟨_, by simp, h, fun j hj => by rw [hget j hj]; exact ⟨Own.nil_ _ _, fun k hk => by cases hk⟩, fun j hj i hij => by rw [hget i (by omega)]; exact .inl rfl⟩

set_option maxHeartbeats 1600000 in
theorem toIntSS_ss (A : Option Addr) (n c : Nat) (xss : List (List Int)) (w : World) (h : RdSS w A n xss) (hn : n ≤ 1048576) (ht : total xss ≤ 1048576) :
    Calls Try.prog 13 #[.slice A n c] w fun e w' => ∃ v, e = .returned v ∧ OwnSS w' w.heap.size w'.heap.size v xss ∧ Below w.heap.size w w' := by
  obtain ⟨i0, hi, hz0, hz1, hz2⟩ := info_parts info_sliceR
  have H := Lib.hid h; have Hx := Lib.hid h.1; clear h
  have HZ := Lib.hid (And.intro hz1 hz2)
  have HT := Lib.hid ht; clear ht
  go_enter Try.func13, Try.ntmps13
  go_wp2_with (at_make; refine wpList_make_full _ rfl _ _ 25 rfl w.heap.size 22 i0 (.slice none 0 0) 1 Try.underlying25 hi hz0 hz1 .i64 .i64 _ _ n rfl rfl rfl rfl (by rw [hz2]; omega) (by unfold maxLen; omega) (Nat.le_refl _) ?_; intro w1 hown1 hgrow1)
  have hb1 := Lib.hid (below_of_grown hgrow1 (Nat.le_refl _) (fun k hk => by cases hk))
  have ho1 : Hid (OwnRows w1 w.heap.size w1.heap.size (.slice (some ⟨w.heap.size, 0, none⟩) n n) n (fun j => if j < 0 then xss.getD j [] else [])) := (OwnRows.made hown1).congr (fun j _ => by simp)
  have hs1 : w.heap.size < w1.heap.size := (World.ownsRow.lt hown1 _ rfl).2
  clear hown1 hgrow1 hz0 hz1 hz2 hi HZ
  go_loopw [4] (fun i wr => ∃ k : Nat, k ≤ n ∧ i = .int .i64 k ∧ Hid (OwnRows wr w.heap.size wr.heap.size (.slice (some ⟨w.heap.size, 0, none⟩) n n) n (fun j => if j < k then xss.getD j [] else [])) ∧ Hid (Below w.heap.size w wr) ∧ Hid (w.heap.size < wr.heap.size)) (fun i _ => n - (intOf i).toNat)
  case atStart => exact ⟨0, Nat.zero_le _, rfl, ho1, hb1, hs1⟩
  case round =>
    obtain ⟨k, hk, rfl, ho, hb, hsz⟩ := hrel
    clear ho1 hb1 hs1
    by_cases hlt : k < n
    · obtain ⟨ad, Aj, cj, nj, rfl, hc, hr, hmj⟩ := (H.out.below hb.out).at_ hlt
      have hnj : nj ≤ 1048576 := by have := total_ge (xss := xss) (k := k) (by rw [Hx.out]; exact hlt); rw [hr.1] at this; have := HT.out; omega
      have HR := Lib.hid hr; clear hr hmj
      go_wp2_with (go_at_call 52; refine (toIntS_any Aj nj cj (xss.getD k []) _ HR.out (by omega)).mono ?_; rintro e w2 ⟨v, rfl, o, b⟩; obtain ⟨Av, cv, rfl, -, -⟩ := o.form' HR.out.1; have HO := Lib.hid o; have HB2 := Lib.hid b; clear o b; obtain ⟨u, hcu, hfu⟩ := OwnRows.cell (ho.out.below HB2.out) hlt; have HS := Lib.hid (OwnRows.put (hi' := w2.heap.size) (ho.out.below HB2.out) hlt (HO.out.mono (Nat.le_of_lt hsz.out)) HB2.out.size HO.out.lt))
      go_roundw
      case rel =>
        have hb2 := hb.out.trans (HB2.out.mono (Nat.le_of_lt hsz.out))
        refine ⟨k + 1, by omega, by go_num, ?_, hb2.grown HS.out.2 (Nat.le_of_lt (Nat.lt_of_lt_of_le hsz.out HB2.out.size)) (fun b hb => by cases hb; exact Nat.le_refl _), by have := HS.out.2.size; have := HB2.out.size; have := hsz.out; simp only [Hid] at *; omega⟩
        have hq := HS.out.1
        have e : (w2.setCell ⟨w.heap.size, k, none⟩ (.slice Av nj cv)).heap.size = w2.heap.size := by simp [World.setCell]
        rw [Hid, e]
        refine hq.congr fun j hj => ?_
        by_cases e1 : j = k
        · rw [if_pos e1, if_pos (by omega), e1]
        · rw [if_neg e1]
          by_cases e2 : j < k
          · rw [if_pos e2, if_pos (by omega)]
          · rw [if_neg e2, if_neg (by omega)]
      case measure => simp [intOf]; omega
    · have hkn : k = n := by omega
      have HK := Lib.hid hkn; clear hkn
      go_wp2_with fail
      go_ret
      exact ⟨_, rfl, (ho.out.congr (f' := fun j => xss.getD j []) (fun j hj => by rw [if_pos (by have := HK.out; omega)])).ss Hx.out, hb.out⟩

theorem OwnSS.chg {w w' : World} {lo hi a b : Nat} {v : Value} {xss : List (List Int)} (h : OwnSS w lo hi v xss) (hv : ∀ k, v.ownBlock = some k → k < hi) (hw : hi ≤ w.heap.size) (hc : Chg a b w w') (ho : hi ≤ a ∨ b ≤ lo) : OwnSS w' lo hi v xss :=
  h.fix hv fun i h1 h2 => hc.block i (by omega) (by omega)

set_option maxHeartbeats 800000 in
theorem markIntSS_chg (lo hi : Nat) (A : Option Addr) (n c : Nat) (xss : List (List Int)) (m : Int) (w : World) (h : OwnSS w lo hi (.slice A n c) xss) (hxl : xss.length = n) (hn : n ≤ 1048576) (ht : total xss ≤ 1048576) (hm0 : 0 ≤ m) (hm : m ≤ 8388608) :
    Calls Try.prog 19 #[.slice A n c, .int .i64 m] w fun e w' => e = .returned (.int .i64 (m + (total xss : Nat))) ∧ OwnSS w' lo hi (.slice A n c) (marksSS m xss) ∧ Chg lo hi w w' := by
  have H := Lib.hid (h.rows hxl); have Hx := Lib.hid hxl; clear h hxl
  go_enter Try.func19, Try.ntmps19
  go_wp2_with fail
  go_loopw [1, 5] (fun u i wr => ∃ k t : Nat, k ≤ n ∧ i = .int .i64 k ∧ u = .int .i64 (m + (t : Int)) ∧ t ≤ 1048576 ∧ Hid (t = total (xss.take k)) ∧ Hid (OwnRows wr lo hi (.slice A n c) n (fun j => if j < k then (marksSS m xss).getD j [] else xss.getD j [])) ∧ Hid (Chg lo hi w wr)) (fun u i _ => n - (intOf i).toNat)
  case atStart => exact ⟨0, 0, Nat.zero_le _, rfl, by simp, by omega, by simp [Hid, total], H.out.congr (fun j _ => by simp), Chg.refl _ _ _⟩
  case round =>
    obtain ⟨k, t, hk, rfl, rfl, ht1, htt, ho, hb⟩ := hrel
    by_cases hlt : k < n
    · obtain ⟨vs, hvl, hvo, hvr, hvd⟩ := ho.out
      have hrow' := hvr k hlt
      have ho' : OwnRows wr lo hi (.slice A n c) n (fun j => if j < k then (marksSS m xss).getD j [] else xss.getD j []) := ho.out
      obtain ⟨g, Ak, ck, nk, rfl, hc, hnk, hok, hnext⟩ := ho'.row hlt
      simp only [Nat.lt_irrefl, if_false] at hnk hok
      have hvk : vs.getD k undef = .slice Ak nk ck := by
        have h1 := World.ownsRow.cellAt hvo k (by omega)
        rw [hc] at h1
        have h2 : vs[k]? = some (vs.getD k undef) := by simp [List.getD, List.getElem?_eq_getElem (show k < vs.length by omega)]
        rw [h2] at h1
        injection h1 with h1
        exact h1.symm
      have hrow : ∀ q, Value.ownBlock (.slice Ak nk ck) = some q → lo ≤ q ∧ q < hi := fun q hq => ⟨(hok.lt q hq).1, hrow'.2 q (by rw [hvk]; exact hq)⟩
      clear hvl hvo hvr hvd hrow' hvk ho'
      have e3 := total_take_succ (xss := xss) (k := k) (by rw [Hx.out]; exact hlt)
      rw [← htt.out, hnk] at e3
      have e4 : t + nk ≤ 1048576 := by rw [← e3]; exact Nat.le_trans (total_take_le _ _) ht
      have e1 := marksSS_get xss m k (by rw [Hx.out]; exact hlt)
      rw [← htt.out, hnk] at e1
      have HOK := Lib.hid hok; have HNX := Lib.hid hnext; have HNK := Lib.hid hnk; have E3 := Lib.hid e3; have E1 := Lib.hid e1; have HROW := Lib.hid hrow; clear hok hnext hnk e3 e1 hrow
      go_wp2_with fail
      refine (markIntS_any lo Ak nk ck (xss.getD k []) (m + (t : Int)) wr HOK.out HNK.out (by omega) (by omega) (by omega)).mono ?_
      rintro e w1 ⟨rfl, o, hg⟩
      have HO := Lib.hid (HNX.out w1 _ o hg); have HB := Lib.hid (hb.out.trans (Chg.of_grown hg HROW.out)); clear o hg
      go_wp2_with fail
      go_roundw
      case rel =>
        refine ⟨k + 1, t + nk, by omega, by go_num, by go_num, e4, E3.out.symm, HO.out.congr (fun j _ => ?_), HB.out⟩
        by_cases e : j = k
        · subst e
          rw [if_pos rfl, if_pos (by omega)]
          exact E1.out.symm
        · rw [if_neg e]
          by_cases e' : j < k
          · rw [if_pos e', if_pos (by omega)]
          · rw [if_neg e', if_neg (by omega)]
      case measure => simp [intOf]; omega
    · have hkn : k = n := by omega
      have HK := Lib.hid hkn; clear hkn
      go_wp2_with fail
      go_ret
      refine ⟨ret_int (by rw [htt.out, HK.out, List.take_of_length_le (by rw [Hx.out]; exact Nat.le_refl _)]), ?_, hb.out⟩
      refine (ho.out.congr (f' := fun j => (marksSS m xss).getD j []) (fun j hj => ?_)).ss (by rw [marksSS_len, Hx.out])
      rw [HK.out, if_pos hj]

end Go.Proofs.Ytlnegaenjcekcaa

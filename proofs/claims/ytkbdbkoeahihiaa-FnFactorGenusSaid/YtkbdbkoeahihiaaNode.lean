/-
  The program's generic tree: what it holds; its leaves by contract.
-/
import Derived.Test.YtkbdbkoeahihiaaPtA
namespace Go.Proofs.Ytkbdbkoeahihiaa
open Go.RowKit
set_option linter.unusedVariables false
attribute [local go_sem] Oper.semAt_some

theorem info_partition : (Try.prog.info? 48).map (fun i => (i.zero, i.size, i.bytes)) = some (some (.slice none 0 0), 1, 24) := by kernel_rfl
theorem info_nodep : (Try.prog.info? 73).map (fun i => (i.zero, i.size, i.bytes)) = some (some (.pointer none), 1, 8) := by kernel_rfl

/-- An append of a row that a call owns to another one, whatever stands in them. -/
theorem wpList_append_vals {w : World} {ops : Array Oper} {rest : List Oper} {o : Oper} {a : Act} {Q : Exit → Act → World → Prop} (hgd : o.guard = none) (s x : Operand) (t E : TypeId)
    (ho : o.op = .call { callee := .builtin .append, args := #[s, x], argTypes := #[t, t] }) (ht : Try.prog.underlying t = some (.slice E)) (i : TypeInfo) (hinf : Try.prog.info? E = some i) (hz0 : i.zero = some (.slice none 0 0)) (hz1 : i.size = 1) (hz2 : i.bytes = 24)
    (base : Nat) (v : Value) (n : Nat) (xs : List Value) (hs : a.eval s = v) (hown : w.ownsRow base E 1 v n xs)
    (u : Value) (lo m : Nat) (row : List Value) (hx : a.eval x = u) (hu : w.ownsRow lo E 1 u m row) (h1 : ∀ y ∈ row, y.oneCell' = true) (h63 : n + m ≤ 1048576) (hbase : base ≤ w.heap.size)
    (h : ∀ v' w', w'.ownsRow base E 1 v' (n + m) (xs ++ row) → w.grownBy w' v.ownBlock → wpList Try.prog ops Q rest (a.put o.dst v') w') : wpList Try.prog ops Q (o :: rest) a w := by
  have hml := hu.1
  rw [Nat.mul_one] at hml
  have hu0 := hu
  rcases hu.2 with ⟨rfl, hl⟩ | ⟨g, cap, cur, rfl, hg, hh, hn, hm, hr⟩
  · subst hl
    have e : row = [] := List.length_eq_zero_iff.1 hml
    subst e
    refine wpList_append_own_none hgd s x t ho base E i 1 ht hinf v n xs hs hown hx (h v w ?_ (World.grownBy.refl _ _))
    rw [List.append_nil]; exact hown
  · refine wpList_append_own _ hgd s x t ho base E i (.slice none 0 0) 1 24 ht hinf hz0 hz1 hz2 rfl (by decide) v n xs hs hown ⟨g, 0, none⟩ m cap row hx (by rw [hml, Nat.mul_one]) (fun j y hy => World.ownsRow.cells hu0 (g := g) rfl j y hy) h1 (by unfold maxLen; omega) (by omega) hbase (fun v' w' h2 h3 _ => h v' w' h2 h3)

theorem cell_of_block2_0 {w : World} {b : Nat} {u v : Value} {t : TypeId} (h : w.heap[b]? = some (.cells #[u, v] t (0, 0))) : w.cell? ⟨b, 0, none⟩ = some u := by simp [World.cell?, h]
theorem cell_of_block2_1 {w : World} {b : Nat} {u v : Value} {t : TypeId} (h : w.heap[b]? = some (.cells #[u, v] t (0, 0))) : w.cell? ⟨b, 1, none⟩ = some v := by simp [World.cell?, h]
def ptrs (bs : List Nat) : List Value := bs.map fun b => Value.pointer (some ⟨b, 0, none⟩)
/-- Block B holds a tree with these values at its leaves, in order. -/
def Tr : Nat → World → Nat → List Value → Prop
  | 0, _, _, _ => False
  | f + 1, w, B, ps => ∃ (A : Option Addr) (n c : Nat) (kv : Value) (bs : List Nat) (pss : List (List Value)),
      w.heap[B]? = some (.cells #[.slice A n c, kv] 99 (0, 0)) ∧ w.ownsRow 0 73 1 kv bs.length (ptrs bs) ∧ pss.length = bs.length ∧
      (∀ j, j < bs.length → Tr f w (bs.getD j 0) (pss.getD j [])) ∧ ps = (if bs.length = 0 then [.slice A n c] else pss.flatten)
theorem Tr.below : ∀ {f : Nat} {w w' : World} {B : Nat} {ps : List Value}, Tr f w B ps → Below w.heap.size w w' → Tr f w' B ps
  | 0, _, _, _, _, h, _ => h.elim
  | f + 1, w, w', B, ps, ⟨A, n, c, kv, bs, pss, h1, h2, h3, h4, h5⟩, hb =>
    ⟨A, n, c, kv, bs, pss, (hb.block B (Array.getElem?_eq_some_iff.1 h1).1).trans h1, ownsRow_fix h2 (fun k hk => (h2.lt k hk).2) (Fix.below hb (Nat.le_refl _)), h3, fun j hj => (h4 j hj).below hb, h5⟩
theorem Tr.one : ∀ {f : Nat} {w : World} {B : Nat} {ps : List Value}, Tr f w B ps → ∀ y ∈ ps, y.oneCell' = true
  | 0, _, _, _, h => h.elim
  | f + 1, w, B, ps, ⟨A, n, c, kv, bs, pss, h1, h2, h3, h4, h5⟩ => by
    intro y hy
    subst h5
    split at hy
    · simp only [List.mem_singleton] at hy
      subst hy; rfl
    · obtain ⟨l, hl, hyl⟩ := List.mem_flatten.1 hy
      obtain ⟨j, hj, rfl⟩ := List.mem_iff_getElem.1 hl
      have := Tr.one (h4 j (by omega)) y (by simpa [List.getD, List.getElem?_eq_getElem hj] using hyl)
      exact this

theorem kids_form {w : World} {kv : Value} {bs : List Nat} (h : w.ownsRow 0 73 1 kv bs.length (ptrs bs)) {m : Nat} (hm : bs.length = m) :
    ∃ Ak ck, kv = .slice Ak m ck ∧ m ≤ 9223372036854775807 ∧ ∀ j, j < m → ∃ g, Ak = some ⟨g, 0, none⟩ ∧ w.cell? ⟨g, j, none⟩ = some (.pointer (some ⟨bs.getD j 0, 0, none⟩)) := by
  subst hm
  have h0 := h
  rcases h.2 with ⟨rfl, hl⟩ | ⟨g, cap, cur, rfl, hg, hh, hn, hm, hr⟩
  · exact ⟨none, 0, by rw [hl], by omega, fun j hj => absurd hj (by omega)⟩
  · refine ⟨_, cap, rfl, by unfold maxLen at hm; omega, fun j hj => ⟨g, rfl, ?_⟩⟩
    rw [World.ownsRow.cellAt h0 j (by omega)]
    simp [ptrs, List.getD, List.getElem?_eq_getElem hj]

theorem flat_take_succ {pss : List (List Value)} {j : Nat} (h : j < pss.length) : (pss.take (j + 1)).flatten = (pss.take j).flatten ++ pss.getD j [] := by
  rw [List.take_succ_eq_append_getElem h, List.flatten_append]
  simp [List.getD, List.getElem?_eq_getElem h]
theorem flat_take_le (pss : List (List Value)) (j : Nat) : (pss.take j).flatten.length ≤ pss.flatten.length := by
  have := congrArg (fun l => (List.flatten l).length) (List.take_append_drop j pss)
  simp only [List.flatten_append, List.length_append] at this
  omega

set_option maxHeartbeats 1600000 in
theorem leaves_any : ∀ (f B : Nat) (ps : List Value) (w : World), Tr f w B ps → ps.length ≤ 1000 →
    Calls Try.prog 74 #[.pointer (some ⟨B, 0, none⟩)] w fun e w' => ∃ v, e = .returned v ∧ w'.ownsRow w.heap.size 48 1 v ps.length ps ∧ Below w.heap.size w w'
  | 0, _, _, _, h, _ => h.elim
  | f + 1, B, ps, w, ⟨A, n, c, kv, bs, pss, hB, hk, hpl, hkids, hps⟩, hlen => by
    have IH := Lib.hid (fun B ps w h1 h2 => leaves_any f B ps w h1 h2)
    obtain ⟨i1, hinf1, hy0, hy1, hy2⟩ := info_parts info_partition
    obtain ⟨m, hm⟩ : ∃ m, bs.length = m := ⟨_, rfl⟩
    obtain ⟨Ak, ck, rfl, hmx, hcell⟩ := kids_form hk hm
    have hc0 : w.cell? ⟨B, 0, none⟩ = some (.slice A n c) := cell_of_block2_0 hB
    have hc1 : w.cell? ⟨B, 1, none⟩ = some (.slice Ak m ck) := cell_of_block2_1 hB
    have HM := Lib.hid hm; have HK := Lib.hid hkids; have HP := Lib.hid hpl; have HC := Lib.hid hcell; have HBB := Lib.hid hB; have HPS := Lib.hid hps; have HLEN := Lib.hid hlen
    clear hk hm hkids hpl hcell hB hps hlen
    by_cases hz : m = 0
    · subst hz
      obtain rfl : ps = [.slice A n c] := by have := HPS.out; rwa [HM.out, if_pos rfl] at this
      go_enter Try.func74, Try.ntmps74
      go_wp2_with fail
      go_ret
      exact ⟨_, rfl, World.ownsRow_lit w #[.slice A n c] 1 (Nat.le_refl _) (by unfold maxLen; omega) rfl, (Below.refl _ _).alloc (Nat.le_refl _) _⟩
    · have hd : ((m : Int) == 0) = false := by simp; omega
      have HPS2 : Hid (ps = pss.flatten) := by rw [Hid, HPS.out, HM.out, if_neg hz]
      have HPL : Hid (pss.length = m) := by rw [Hid, HP.out, HM.out]
      obtain ⟨g, rfl, -⟩ := HC.out 0 (by omega)
      go_enter Try.func74, Try.ntmps74
      go_wp2_with fail
      clear hd
      go_loopw [3, 22] (fun u i wr => ∃ (k l : Nat), k ≤ m ∧ i = .int .i64 k ∧ l ≤ 1000 ∧ Hid ((pss.take k).flatten.length = l) ∧ Hid (wr.ownsRow w.heap.size 48 1 u l (pss.take k).flatten) ∧ Hid (Below w.heap.size w wr)) (fun _ i _ => m - (intOf i).toNat)
      case atStart => exact ⟨0, 0, Nat.zero_le _, rfl, by omega, by simp [Hid], World.ownsRow_nil w _ _ _, Below.refl _ _⟩
      case round =>
        obtain ⟨k, l, hk, rfl, hl, hll, ho, hb⟩ := hrel
        by_cases hlt : k < m
        · obtain ⟨g', e, hc⟩ := HC.out k hlt
          obtain rfl : g = g' := by simpa using e
          obtain ⟨b, hbk⟩ : ∃ b, bs.getD k 0 = b := ⟨_, rfl⟩
          rw [hbk] at hc
          have hc' := (hb.out.cell (p := ⟨g, k, none⟩) (World.block_lt_of_cell? w _ hc)).trans hc
          have hT := (HK.out k (by rw [HM.out]; exact hlt)).below hb.out
          rw [hbk] at hT
          obtain ⟨q, hq⟩ : ∃ q, pss.getD k [] = q := ⟨_, rfl⟩
          rw [hq] at hT
          have e3 := flat_take_succ (pss := pss) (j := k) (by rw [HPL.out]; exact hlt)
          rw [hq] at e3
          have e4 := flat_take_le pss (k + 1)
          rw [e3, List.length_append, hll.out, ← HPS2.out] at e4
          have e5 := HLEN.out
          have hql : l + q.length ≤ 1000 := by omega
          have HT := Lib.hid hT; have HE3 := Lib.hid e3; have HQ1 := Lib.hid hT.one; clear e e3 e4 e5 hT hc hbk hq
          have hws := hb.out.size
          go_wp2_with (first
            | (go_at_call 74; refine (IH.out b q wr HT.out (by omega)).mono ?_; rintro e w2 ⟨v2, rfl, o2, b2⟩; have HO2 := Lib.hid o2; have HB2 := Lib.hid b2; have HU := Lib.hid (ownsRow_fix ho.out (fun k hk => (ho.out.lt k hk).2) (Fix.below b2 (Nat.le_refl _))); clear o2 b2)
            | (have hchk := HO2.out; clear hchk; at_builtin; refine wpList_append_vals rfl (.tmp 26) (.tmp 28) 54 48 rfl Try.underlying54 i1 hinf1 hy0 hy1 hy2 w.heap.size _ l _ rfl HU.out _ _ q.length q rfl HO2.out HQ1.out (by omega) (Nat.le_trans hws HB2.out.size) ?_; intro v3 w3 hown3 hgrow3; have HO3 := Lib.hid hown3; have HG3 := Lib.hid hgrow3; clear hown3 hgrow3))
          go_roundw
          case rel =>
            refine ⟨k + 1, l + q.length, by omega, by go_num, hql, by rw [Hid, HE3.out, List.length_append, hll.out], by rw [Hid, HE3.out]; exact HO3.out, ?_⟩
            exact (hb.out.trans (HB2.out.mono hws)).grown HG3.out (Nat.le_trans hws HB2.out.size) (fun k hk => (ho.out.lt k hk).1)
          case measure => simp [intOf]; omega
        · have hkn : k = m := by omega
          have HKN := Lib.hid hkn; clear hkn
          go_wp2_with fail
          go_ret
          refine ⟨_, rfl, ?_, hb.out⟩
          have e6 : (pss.take k).flatten = ps := by rw [HPS2.out, HKN.out, List.take_of_length_le (by rw [HPL.out]; exact Nat.le_refl _)]
          have e7 := ho.out
          have e8 := hll.out
          rw [e6] at e7 e8
          rw [e8]; exact e7

end Go.Proofs.Ytkbdbkoeahihiaa

/-
  The model's list of all partitions.
-/
import Derived.Test.YtkbdbkoeahihiaaPts
import Derived.Test.YtkbdbkoeahihiaaSeen
import Derived.Test.YtkbdbkoeahihiaaPtV
import Derived.Laws.AppendOwnNone
import Derived.Maps.AppendAt
namespace Go.Proofs.Ytkbdbkoeahihiaa
open Go.RowKit
set_option linter.unusedVariables false
attribute [local go_sem] Oper.semAt_some

/-- The blocks from lo to hi are as they were. -/
def Fix (lo hi : Nat) (w w' : World) : Prop := ∀ i, lo ≤ i → i < hi → w'.heap[i]? = w.heap[i]?
theorem Fix.refl (lo hi : Nat) (w : World) : Fix lo hi w w := fun _ _ _ => rfl
theorem Fix.trans {lo hi : Nat} {a b c : World} (h : Fix lo hi a b) (k : Fix lo hi b c) : Fix lo hi a c := fun i h1 h2 => (k i h1 h2).trans (h i h1 h2)
theorem Fix.grown {lo hi : Nat} {w w' : World} {row : Option Nat} (hg : w.grownBy w' row) (hh : hi ≤ w.heap.size) (hr : ∀ k, row = some k → k < lo ∨ hi ≤ k) : Fix lo hi w w' := fun i h1 h2 => hg.block i (by omega) (fun e => by have := hr i e.symm; omega)
theorem Fix.below {lo hi : Nat} {w w' : World} {B : Nat} (hb : Below B w w') (hh : hi ≤ B) : Fix lo hi w w' := fun i _ h2 => hb.block i (by omega)
theorem ownsRow_fix {w w' : World} {lo hi : Nat} {e : TypeId} {size n : Nat} {v : Value} {xs : List Value} (h : w.ownsRow lo e size v n xs) (hv : ∀ k, v.ownBlock = some k → k < hi) (hf : Fix lo hi w w') : w'.ownsRow lo e size v n xs := by
  obtain ⟨h1, h2⟩ := h
  refine ⟨h1, ?_⟩
  rcases h2 with h2 | ⟨g, cap, cur, rfl, hg, hh, r⟩
  · exact .inl h2
  · exact .inr ⟨g, cap, cur, rfl, hg, (hf g hg (hv g rfl)).trans hh, r⟩
theorem OwnSS.fix {w w' : World} {lo hi : Nat} {v : Value} {xss : List (List Int)} (h : OwnSS w lo hi v xss) (hv : ∀ k, v.ownBlock = some k → k < hi) (hf : Fix lo hi w w') : OwnSS w' lo hi v xss := by
  obtain ⟨vs, hl, ho, hr, hd⟩ := h
  exact ⟨vs, hl, ownsRow_fix ho hv hf, fun j hj => ⟨ownsRow_fix (hr j hj).1 (hr j hj).2 hf, (hr j hj).2⟩, hd⟩
theorem OwnSS.at_ {w : World} {lo hi n c g : Nat} {xss : List (List Int)} (h : OwnSS w lo hi (.slice (some ⟨g, 0, none⟩) n c) xss) (hn : xss.length = n) {k : Nat} (hk : k < n) :
    ∃ (Ak : Option Addr) (nk ck : Nat), w.cell? ⟨g, k, none⟩ = some (.slice Ak nk ck) ∧ (xss.getD k []).length = nk ∧ Own w lo (.slice Ak nk ck) (xss.getD k []) ∧ nk ≤ maxLen := by
  obtain ⟨vs, hl, ho, hr, hd⟩ := h
  subst hn
  obtain ⟨h1, h2⟩ := hr k hk
  obtain ⟨A, c', e, -, hm⟩ := h1.form
  have hc := World.ownsRow.cells ho rfl k (vs.getD k undef) (by simp [List.getD, hl, hk])
  rw [e] at hc h1
  refine ⟨A, _, c', ?_, rfl, h1, hm⟩
  rwa [show (⟨g, 0, none⟩ : Addr).add k = ⟨g, k, none⟩ from by unfold Addr.add; split <;> simp_all] at hc

/-- An append of a row that a call owns to another one. -/
theorem wpList_append_row {w : World} {ops : Array Oper} {rest : List Oper} {o : Oper} {a : Act} {Q : Exit → Act → World → Prop} (hgd : o.guard = none) (s x : Operand) (t : TypeId)
    (ho : o.op = .call { callee := .builtin .append, args := #[s, x], argTypes := #[t, t] }) (ht : Try.prog.underlying t = some (.slice 3)) (base : Nat) (v : Value) (xs : List Int) (hs : a.eval s = v) (hown : Own w base v xs)
    (u : Value) (lo : Nat) (row : List Int) (hx : a.eval x = u) (hu : Own w lo u row) (h63 : xs.length + row.length ≤ 1048576) (hbase : base ≤ w.heap.size)
    (h : ∀ v' w', Own w' base v' (xs ++ row) → w.grownBy w' v.ownBlock → wpList Try.prog ops Q rest (a.put o.dst v') w') : wpList Try.prog ops Q (o :: rest) a w := by
  obtain ⟨i0, hinf, hz0, hz1, hz2⟩ := info_parts info_int
  have key : ∀ (v' : Value) (w' : World) (news : List Value), news = ints row → w'.ownsRow base 3 1 v' (xs.length + row.length) (ints xs ++ news) → Own w' base v' (xs ++ row) := by
    intro v' w' news e h1
    unfold Own
    rw [List.length_append, ints, List.map_append]
    rw [e] at h1
    exact h1
  rcases hu.2 with ⟨rfl, hl⟩ | ⟨g, cap, cur, rfl, hg, hh, hn, hm, hr⟩
  · have e : row = [] := List.length_eq_zero_iff.1 hl
    refine wpList_append_own_none hgd s x t ho base 3 i0 1 ht hinf v xs.length (ints xs) hs hown hx (h v w ?_ (World.grownBy.refl _ _))
    rw [e, List.append_nil]; exact hown
  · have hrd := hu.rd (n := row.length) rfl
    refine wpList_append_own _ hgd s x t ho base 3 i0 (.int .i64 0) 1 8 ht hinf hz0 hz1 hz2 rfl (by decide) v xs.length (ints xs) hs hown ⟨g, 0, none⟩ row.length cap (ints row) hx (by rw [ints_len]; omega) (Rd.news hrd) ints_one (by unfold maxLen; omega) (by omega) hbase (fun v' w' h1 h2 _ => h v' w' (key v' w' _ rfl h1) h2)

theorem lit_over {w w2 : World} {o : Obj} {n c : Nat} (hg : (w.alloc o).grownBy w2 (Value.ownBlock (.slice (some ⟨w.heap.size, 0, none⟩) n c))) : Below w.heap.size w w2 := by
  have b1 : Below w.heap.size w (w.alloc o) := (Below.refl _ _).alloc (Nat.le_refl _) _
  exact b1.grown hg b1.size (fun k hk => by cases hk; exact Nat.le_refl _)
theorem over_fix {w w2 : World} {lo n c g m : Nat} {vs : List Value} (h : w.ownsRow lo 23 1 (.slice (some ⟨g, 0, none⟩) n c) m vs) (hb : Below w.heap.size w w2) : w2.ownsRow lo 23 1 (.slice (some ⟨g, 0, none⟩) n c) m vs :=
  ownsRow_fix h (fun k hk => (h.lt k hk).2) (Fix.below hb (Nat.le_refl _))
def upTo (f n1 M i : Nat) : List (List Int) := (List.range i).flatMap fun i => (ptsOf f (n1 - (M - i)) (M - i)).map (((M - i : Nat) : Int) :: ·)
theorem upTo_succ (f n1 M i : Nat) : upTo f n1 M (i + 1) = upTo f n1 M i ++ (ptsOf f (n1 - (M - i)) (M - i)).map (((M - i : Nat) : Int) :: ·) := by
  simp [upTo, List.range_succ]
theorem ptsOf_upTo (f n most : Nat) : ptsOf (f + 1) (n + 1) most = upTo f (n + 1) (min (n + 1) most) (min (n + 1) most) := rfl
theorem ptsOf_in : ∀ f : Nat, f < 8 → ∀ n : Nat, n < 8 → ∀ most : Nat, most < 8 → (ptsOf f n most).length ≤ 15 ∧ ∀ xs ∈ ptsOf f n most, xs.length ≤ 7 := by decide +kernel
theorem upTo_len (f n1 M : Nat) (hf : f < 8) (hn : n1 < 8) (hM : M < 8) : ∀ i, (upTo f n1 M i).length ≤ 15 * i := by
  intro i
  induction i with
  | zero => simp [upTo]
  | succ i ih =>
    rw [upTo_succ, List.length_append, List.length_map]
    have := (ptsOf_in f hf (n1 - (M - i)) (by omega) (M - i) (by omega)).1
    omega

def AllP (f n most : Nat) : Prop := ∀ w : World,
  Calls Try.prog 45 #[.int .i64 n, .int .i64 most] w fun e w' => ∃ g m cc, e = .returned (.slice (some ⟨g, 0, none⟩) m cc) ∧ (ptsOf f n most).length = m ∧ OwnSS w' w.heap.size w'.heap.size (.slice (some ⟨g, 0, none⟩) m cc) (ptsOf f n most) ∧ Below w.heap.size w w'

theorem one_rowP {w : World} {lo : Nat} {v : Value} {xs : List Int} (h : Own w lo v xs) (hlo : lo ≤ w.heap.size) :
    OwnSS (w.alloc (.cells #[v] 23)) lo (w.alloc (.cells #[v] 23)).heap.size (.slice (some ⟨w.heap.size, 0, none⟩) 1 1) [xs] := by
  have hb : Below w.heap.size w (w.alloc (.cells #[v] 23)) := (Below.refl _ _).alloc (Nat.le_refl _) _
  refine ⟨[v], rfl, World.ownsRow_lit w #[v] 1 hlo (by unfold maxLen; omega) rfl, fun j hj => ?_, fun j hj i hij => ?_⟩
  · obtain rfl : j = 0 := by simpa using hj
    exact ⟨h.below hb, fun k hk => by have := (h.lt k hk).2; simp; omega⟩
  · simp at hj; omega

theorem allP_zero (f most : Nat) : AllP f 0 most := by
  intro w
  have e : ptsOf f 0 most = [[]] := by cases f <;> rfl
  rw [e]
  clear e
  go_enter Try.func45, Try.ntmps45
  go_wp2_with fail
  go_ret
  refine ⟨_, _, _, rfl, rfl, by have h := one_rowP (w := w.alloc (.cells #[] 3)) (lo := w.heap.size) (Own.empty (Nat.le_refl _)) (by simp); simpa using h, ((Below.refl _ _).alloc (Nat.le_refl _) _).alloc (by simp) _⟩

theorem own_someP {w : World} {lo n size : Nat} {t : TypeId} {v : Value} {xs : List Value} (h : w.ownsRow lo t size v n xs) (hv : v ≠ .slice none 0 0) : ∃ g c, v = .slice (some ⟨g, 0, none⟩) n c := by
  rcases h.2 with ⟨e, _⟩ | ⟨g, cap, cur, rfl, _⟩
  · exact absurd e hv
  · exact ⟨g, cap, rfl⟩

set_option maxRecDepth 20000 in
set_option maxHeartbeats 3200000 in
theorem allP_step (f n most : Nat) (hf : f < 7) (hn : n < 7) (hm : most < 8) (ih : ∀ n' most' : Nat, n' ≤ n → most' < 8 → AllP f n' most') : AllP (f + 1) (n + 1) most := by
  intro w
  obtain ⟨i1, hinf1, hy0, hy1, hy2⟩ := info_parts info_slice
  obtain ⟨i0, hinf, hz0, hz1, hz2⟩ := info_parts info_int
  rw [ptsOf_upTo]
  obtain ⟨n1, hn1⟩ : ∃ n1, n + 1 = n1 := ⟨_, rfl⟩
  rw [hn1]
  obtain ⟨M, hM⟩ : ∃ M, min n1 most = M := ⟨_, rfl⟩
  rw [hM]
  have hMle : M ≤ n1 ∧ M < 8 := by omega
  have hn8 : n1 < 8 ∧ 1 ≤ n1 := by omega
  have hmin : min (n1 : Int) (most : Int) = (M : Int) := by omega
  have hz : ((n1 : Int) == 0) = false := by simp; omega
  have HIH : Hid (∀ n' most' : Nat, n' < n1 → most' < 8 → AllP f n' most') := fun n' most' h => ih n' most' (by omega)
  have HM := Lib.hid hM
  clear ih hM hn1
  go_enter Try.func45, Try.ntmps45
  go_wp2_with fail
  · go_loopw [5, 6] (fun ov fv wr => ∃ (i x gv m cv : Nat), i ≤ M ∧ x = M - i ∧ fv = .int .i64 x ∧ ov = .slice (some ⟨gv, 0, none⟩) m cv ∧ Hid ((upTo f n1 M i).length = m) ∧ Hid (OwnSS wr w.heap.size wr.heap.size (.slice (some ⟨gv, 0, none⟩) m cv) (upTo f n1 M i)) ∧ Hid (Below w.heap.size w wr)) (fun _ fv _ => (intOf fv).toNat)
    case atStart => exact ⟨0, M, w.heap.size, 0, 0, Nat.zero_le _, rfl, by have := HM.out; congr 1; omega, rfl, rfl, OwnSS.empty (Nat.le_refl _), (Below.refl _ _).alloc (Nat.le_refl _) _⟩
    case round =>
      obtain ⟨i, x, gv, m, cv, hi, hx, rfl, rfl, hml, hos, hb⟩ := hrel
      have hbs := hb.out.size
      by_cases hlt : i < M
      · have hx0 : decide (0 < x) = true := by simp; omega
        obtain ⟨d, hd⟩ : ∃ d, d = n1 - x := ⟨_, rfl⟩
        have hg1 : IntKind.i64.wrap ((n1 : Int) - (x : Int)) = (d : Int) := by rw [IntWalk.i64_in _ (by omega)]; omega
        have HA := Lib.hid (HIH.out d x (by omega) (by omega) wr)
        have hx8 : x < 8 ∧ 1 ≤ x := by omega
        have HUS : Hid (upTo f n1 M (i + 1) = upTo f n1 M i ++ (ptsOf f d x).map ((x : Int) :: ·)) := by rw [Hid, upTo_succ, ← hx, ← hd]
        have hul := upTo_len f n1 M (by omega) hn8.1 hMle.2 i
        rw [hml.out] at hul
        have hpl := (ptsOf_in f (by omega) d (by omega) x hx8.1).1
        have HPR := Lib.hid (ptsOf_in f (by omega) d (by omega) x hx8.1).2
        have HX := Lib.hid hx
        clear hd hx
        go_wp2_with fail
        refine HA.out.mono ?_
        rintro e w1 ⟨g1, m1, c1, rfl, hm1, os1, b1⟩
        rw [hm1] at hpl
        have HM1 := Lib.hid hm1
        have HOS1 := Lib.hid os1
        have HB1 := Lib.hid (hb.out.trans (b1.mono hbs))
        have HV0 := Lib.hid (hos.out.below b1)
        have hs1 := b1.size
        have HG1 : Hid (wr.heap.size ≤ g1 ∧ g1 < w1.heap.size) := by
          obtain ⟨vs, _, ho, _⟩ := os1
          exact ho.lt g1 rfl
        have HGV : Hid (gv < wr.heap.size) := by
          obtain ⟨vs, _, ho, _⟩ := hos.out
          exact (ho.lt gv rfl).2
        clear hm1 os1 b1
        obtain ⟨s1, hs1'⟩ : ∃ s1, wr.heap.size = s1 := ⟨_, rfl⟩
        rw [hs1'] at HOS1 HG1 HGV hs1 hbs HV0
        clear hs1'
        go_wp2_with fail
        go_loopw [5, 8] (fun ov jv wz => ∃ (j gv mm cv : Nat) (L : List (List Int)), j ≤ m1 ∧ jv = .int .i64 j ∧ mm = m + j ∧ ov = .slice (some ⟨gv, 0, none⟩) mm cv ∧ Hid (L = upTo f n1 M i ++ ((ptsOf f d x).map ((x : Int) :: ·)).take j) ∧ Hid (L.length = mm) ∧ Hid (OwnSS wz w.heap.size wz.heap.size (.slice (some ⟨gv, 0, none⟩) mm cv) L) ∧ Hid (Below w.heap.size w wz) ∧ Hid (Fix s1 w1.heap.size w1 wz) ∧ Hid (gv < s1 ∨ w1.heap.size ≤ gv) ∧ Hid (w1.heap.size ≤ wz.heap.size)) (fun _ jv _ => m1 - (intOf jv).toNat)
        case atStart => exact ⟨0, gv, m, cv, _, Nat.zero_le _, rfl, rfl, rfl, by rw [Hid, List.take_zero, List.append_nil], hml, HV0.out.more hs1, HB1, Fix.refl _ _ _, .inl HGV.out, Nat.le_refl _⟩
        case round =>
          obtain ⟨j, gv, mm, cv, L, hj, rfl, hmm, rfl, hL, hLl, hos, hb, hfx, hgv, hsz⟩ := hrel
          by_cases hlt' : j < m1
          · have HOS := Lib.hid (HOS1.out.fix (fun k hk => by cases hk; exact HG1.out.2) hfx.out)
            obtain ⟨Ak, nk, ck, hck, hnk, hok, hnm⟩ := HOS.out.at_ HM1.out hlt'
            have hrow : (ptsOf f d x).getD j [] ∈ ptsOf f d x := by
              rw [List.getD_eq_getElem?_getD, List.getElem?_eq_getElem (by rw [HM1.out]; exact hlt')]; exact List.getElem_mem _
            have hn7 : nk ≤ 7 := by rw [← hnk]; exact HPR.out _ hrow
            obtain ⟨row, hrw⟩ : ∃ row, (ptsOf f d x).getD j [] = row := ⟨_, rfl⟩
            rw [hrw] at hnk hok
            have HTK : Hid (((ptsOf f d x).map ((x : Int) :: ·)).take (j + 1) = ((ptsOf f d x).map ((x : Int) :: ·)).take j ++ [(x : Int) :: row]) := by
              rw [Hid, List.take_succ_eq_append_getElem (by rw [List.length_map, HM1.out]; exact hlt'), List.getElem_map]
              have : (ptsOf f d x)[j]'(by rw [HM1.out]; exact hlt') = row := by rw [← hrw, List.getD_eq_getElem?_getD, List.getElem?_eq_getElem (by rw [HM1.out]; exact hlt')]; rfl
              rw [this]
            have hz1' := hsz.out
            have hbz := hb.out.size
            have hbl : Below wr.heap.size wr (wr.alloc (.cells #[.int .i64 x] 3)) := (Below.refl _ _).alloc (Nat.le_refl _) _
            have hol : Own (wr.alloc (.cells #[.int .i64 x] 3)) wr.heap.size (.slice (some ⟨wr.heap.size, 0, none⟩) 1 1) [(x : Int)] := World.ownsRow_lit wr #[.int .i64 x] 1 (Nat.le_refl _) (by unfold maxLen; omega) rfl
            have hcl : (wr.alloc (.cells #[.int .i64 x] 3)).cell? ⟨g1, j, none⟩ = some (.slice Ak nk ck) := (hbl.cell (p := ⟨g1, j, none⟩) (by show g1 < wr.heap.size; have := HG1.out.2; omega)).trans hck
            have hrl := hok.below hbl
            have HOL := Lib.hid hol; have HRL := Lib.hid hrl; have HBL := Lib.hid hbl; have HNK := Lib.hid hnk
            obtain ⟨vs, hvl, hvo, hvr, hvd⟩ := hos.out
            have HVL := Lib.hid hvl; have HVO := Lib.hid hvo; have HVR := Lib.hid hvr; have HVD := Lib.hid hvd
            have HLN : Hid (L.length ≤ 1000) := by rw [Hid, hLl.out]; omega
            have HMM := Lib.hid hmm; clear hmm
            clear hol hrl hok hnk hrow hrw hbl hck hvl hvo hvr hvd
            go_wp2_with (first
              | (have hchk := HO2.out; clear hchk; at_builtin; refine wpList_append_own_at _ rfl (.tmp 32) (.tmp 40) 28 rfl w.heap.size 23 i1 (.slice none 0 0) 1 24 Try.underlying28 hinf1 hy0 hy1 hy2 rfl (by decide) _ _ _ rfl (HVO2.out.alloc _) ⟨w2.heap.size, 0, none⟩ 1 1 [.slice A2 (1 + nk) c2] rfl rfl (cell_one_new _ _ _) (by intro u hu; simp at hu; subst hu; rfl) (by unfold maxLen; have := HLN.out; omega) (by have := HLN.out; omega) (by rw [World.size_alloc]; have := HB2.out.size; omega) ?_; intro v3 w3 hown3 hgrow3 hnil3 hblk3; have HO3 := Lib.hid hown3; have HG3 := Lib.hid hgrow3; have HN3 := Lib.hid hnil3; have HK3 := Lib.hid hblk3; clear hown3 hgrow3 hnil3 hblk3)
              | (at_builtin; refine wpList_append_row rfl (.tmp 34) (.tmp 38) 23 rfl Try.underlying23 wr.heap.size _ [(x : Int)] rfl HOL.out _ s1 row rfl HRL.out (by rw [HNK.out]; simp; omega) HBL.out.size ?_; intro v2 w2 hown2 hgrow2; obtain ⟨A2, c2, rfl, -, -⟩ := Own.form' hown2 (n := 1 + nk) (by rw [List.length_append, HNK.out]; rfl); have HO2 := Lib.hid hown2; have HG2 := Lib.hid hgrow2; have HB2 := Lib.hid (lit_over hgrow2); have HVO2 := Lib.hid (over_fix HVO.out (lit_over hgrow2)); clear hown2 hgrow2))
            go_roundw
            case rel =>
              obtain ⟨gq, cq, rfl⟩ := own_someP HO3.out (fun e => by cases (HN3.out.1 e).1)
              have hba : Below w2.heap.size w2 (w2.alloc (.cells #[.slice A2 (1 + nk) c2] 23)) := (Below.refl _ _).alloc (Nat.le_refl _) _
              have hb2 := HB2.out
              have hs2 := hb2.size
              have hb3 : Below wr.heap.size wr (w2.alloc (.cells #[.slice A2 (1 + nk) c2] 23)) := hb2.alloc hs2 _
              have hs3 := HG3.out.size
              rw [World.size_alloc] at hs3
              have hlt2 := HO2.out.lt
              have hgv3 : gq < s1 ∨ w1.heap.size ≤ gq := by
                rcases HK3.out with e | e
                · have : gq = gv := by have e' : (some gq : Option Nat) = some gv := e; injection e'
                  rw [this]; exact hgv.out
                · have : gq = (w2.alloc (.cells #[.slice A2 (1 + nk) c2] 23)).heap.size := by have e' : (some gq : Option Nat) = some _ := e; injection e'
                  rw [World.size_alloc] at this
                  exact .inr (by have := hsz.out; omega)
              have hll := hLl.out
              refine ⟨j + 1, gq, mm + 1, cq, L ++ [(x : Int) :: row], by omega, by go_num, by have := HMM.out; omega, by rw [hll], by rw [Hid, HTK.out, ← List.append_assoc, ← hL.out], by rw [Hid, List.length_append, hll]; rfl, ?_, ?_, ?_, hgv3, ?_⟩
              · have hsn := OwnSS.snoc (hi := wr.heap.size) (hi' := w3.heap.size) (xss := L) (xs := (x : Int) :: row) (u := .slice A2 (1 + nk) c2) HVL.out (fun j hj => ⟨ownsRow_fix (HVR.out j hj).1 (HVR.out j hj).2 (Fix.below hb3 (Nat.le_refl _)), (HVR.out j hj).2⟩) HVD.out (HVO2.out.alloc _) ((HO2.out.below hba).mono hbz) (fun k hk => (hlt2 k hk).1) (by omega) (fun k hk => by have := (hlt2 k hk).2; omega) HO3.out HG3.out
                rw [hll] at hsn
                exact hsn
              · exact (hb.out.trans (hb3.mono hbz)).grown HG3.out (by rw [World.size_alloc]; omega) (fun k hk => by cases hk; exact (HVO.out.lt gv rfl).1)
              · refine hfx.out.trans (Fix.trans (Fix.below hb3 hsz.out) (Fix.grown HG3.out (by rw [World.size_alloc]; have := hsz.out; omega) (fun k hk => by cases hk; exact hgv.out)))
              · rw [Hid]; have := hsz.out; omega
            case measure => simp [intOf]; omega
          · obtain rfl : j = m1 := by omega
            have hx1 : IntKind.i64.wrap ((x : Int) - 1) = ((x - 1 : Nat) : Int) := by rw [IntWalk.i64_in _ (by omega)]; omega
            have HLF : Hid (L = upTo f n1 M (i + 1)) := by
              rw [Hid, hL.out, HUS.out, List.take_of_length_le (by rw [List.length_map, HM1.out]; exact Nat.le_refl _)]
            have HMM := Lib.hid hmm; clear hmm
            go_wp2_with fail
            go_roundw
            case rel => exact ⟨i + 1, x - 1, gv, mm, cv, by omega, by have := HX.out; omega, by first | rfl | (congr 1; omega), rfl, by rw [Hid, ← HLF.out]; exact hLl.out, by rw [Hid, ← HLF.out]; exact hos.out, hb⟩
            case measure => simp [intOf]; omega
      · have hx0 : decide (0 < x) = false := by simp; omega
        have hiM : i = M := by omega
        have HIM := Lib.hid hiM
        clear hiM hx hlt
        go_wp2_with fail
        go_ret
        exact ⟨gv, m, cv, rfl, by have := hml.out; rw [HIM.out] at this; exact this, by have := hos.out; rw [HIM.out] at this; exact this, hb.out⟩
  · go_loopw [5, 6] (fun ov fv wr => ∃ (i x gv m cv : Nat), i ≤ M ∧ x = M - i ∧ fv = .int .i64 x ∧ ov = .slice (some ⟨gv, 0, none⟩) m cv ∧ Hid ((upTo f n1 M i).length = m) ∧ Hid (OwnSS wr w.heap.size wr.heap.size (.slice (some ⟨gv, 0, none⟩) m cv) (upTo f n1 M i)) ∧ Hid (Below w.heap.size w wr)) (fun _ fv _ => (intOf fv).toNat)
    case atStart => exact ⟨0, M, w.heap.size, 0, 0, Nat.zero_le _, rfl, by have := HM.out; congr 1; omega, rfl, rfl, OwnSS.empty (Nat.le_refl _), (Below.refl _ _).alloc (Nat.le_refl _) _⟩
    case round =>
      obtain ⟨i, x, gv, m, cv, hi, hx, rfl, rfl, hml, hos, hb⟩ := hrel
      have hbs := hb.out.size
      by_cases hlt : i < M
      · have hx0 : decide (0 < x) = true := by simp; omega
        obtain ⟨d, hd⟩ : ∃ d, d = n1 - x := ⟨_, rfl⟩
        have hg1 : IntKind.i64.wrap ((n1 : Int) - (x : Int)) = (d : Int) := by rw [IntWalk.i64_in _ (by omega)]; omega
        have HA := Lib.hid (HIH.out d x (by omega) (by omega) wr)
        have hx8 : x < 8 ∧ 1 ≤ x := by omega
        have HUS : Hid (upTo f n1 M (i + 1) = upTo f n1 M i ++ (ptsOf f d x).map ((x : Int) :: ·)) := by rw [Hid, upTo_succ, ← hx, ← hd]
        have hul := upTo_len f n1 M (by omega) hn8.1 hMle.2 i
        rw [hml.out] at hul
        have hpl := (ptsOf_in f (by omega) d (by omega) x hx8.1).1
        have HPR := Lib.hid (ptsOf_in f (by omega) d (by omega) x hx8.1).2
        have HX := Lib.hid hx
        clear hd hx
        go_wp2_with fail
        refine HA.out.mono ?_
        rintro e w1 ⟨g1, m1, c1, rfl, hm1, os1, b1⟩
        rw [hm1] at hpl
        have HM1 := Lib.hid hm1
        have HOS1 := Lib.hid os1
        have HB1 := Lib.hid (hb.out.trans (b1.mono hbs))
        have HV0 := Lib.hid (hos.out.below b1)
        have hs1 := b1.size
        have HG1 : Hid (wr.heap.size ≤ g1 ∧ g1 < w1.heap.size) := by
          obtain ⟨vs, _, ho, _⟩ := os1
          exact ho.lt g1 rfl
        have HGV : Hid (gv < wr.heap.size) := by
          obtain ⟨vs, _, ho, _⟩ := hos.out
          exact (ho.lt gv rfl).2
        clear hm1 os1 b1
        obtain ⟨s1, hs1'⟩ : ∃ s1, wr.heap.size = s1 := ⟨_, rfl⟩
        rw [hs1'] at HOS1 HG1 HGV hs1 hbs HV0
        clear hs1'
        go_wp2_with fail
        go_loopw [5, 8] (fun ov jv wz => ∃ (j gv mm cv : Nat) (L : List (List Int)), j ≤ m1 ∧ jv = .int .i64 j ∧ mm = m + j ∧ ov = .slice (some ⟨gv, 0, none⟩) mm cv ∧ Hid (L = upTo f n1 M i ++ ((ptsOf f d x).map ((x : Int) :: ·)).take j) ∧ Hid (L.length = mm) ∧ Hid (OwnSS wz w.heap.size wz.heap.size (.slice (some ⟨gv, 0, none⟩) mm cv) L) ∧ Hid (Below w.heap.size w wz) ∧ Hid (Fix s1 w1.heap.size w1 wz) ∧ Hid (gv < s1 ∨ w1.heap.size ≤ gv) ∧ Hid (w1.heap.size ≤ wz.heap.size)) (fun _ jv _ => m1 - (intOf jv).toNat)
        case atStart => exact ⟨0, gv, m, cv, _, Nat.zero_le _, rfl, rfl, rfl, by rw [Hid, List.take_zero, List.append_nil], hml, HV0.out.more hs1, HB1, Fix.refl _ _ _, .inl HGV.out, Nat.le_refl _⟩
        case round =>
          obtain ⟨j, gv, mm, cv, L, hj, rfl, hmm, rfl, hL, hLl, hos, hb, hfx, hgv, hsz⟩ := hrel
          by_cases hlt' : j < m1
          · have HOS := Lib.hid (HOS1.out.fix (fun k hk => by cases hk; exact HG1.out.2) hfx.out)
            obtain ⟨Ak, nk, ck, hck, hnk, hok, hnm⟩ := HOS.out.at_ HM1.out hlt'
            have hrow : (ptsOf f d x).getD j [] ∈ ptsOf f d x := by
              rw [List.getD_eq_getElem?_getD, List.getElem?_eq_getElem (by rw [HM1.out]; exact hlt')]; exact List.getElem_mem _
            have hn7 : nk ≤ 7 := by rw [← hnk]; exact HPR.out _ hrow
            obtain ⟨row, hrw⟩ : ∃ row, (ptsOf f d x).getD j [] = row := ⟨_, rfl⟩
            rw [hrw] at hnk hok
            have HTK : Hid (((ptsOf f d x).map ((x : Int) :: ·)).take (j + 1) = ((ptsOf f d x).map ((x : Int) :: ·)).take j ++ [(x : Int) :: row]) := by
              rw [Hid, List.take_succ_eq_append_getElem (by rw [List.length_map, HM1.out]; exact hlt'), List.getElem_map]
              have : (ptsOf f d x)[j]'(by rw [HM1.out]; exact hlt') = row := by rw [← hrw, List.getD_eq_getElem?_getD, List.getElem?_eq_getElem (by rw [HM1.out]; exact hlt')]; rfl
              rw [this]
            have hz1' := hsz.out
            have hbz := hb.out.size
            have hbl : Below wr.heap.size wr (wr.alloc (.cells #[.int .i64 x] 3)) := (Below.refl _ _).alloc (Nat.le_refl _) _
            have hol : Own (wr.alloc (.cells #[.int .i64 x] 3)) wr.heap.size (.slice (some ⟨wr.heap.size, 0, none⟩) 1 1) [(x : Int)] := World.ownsRow_lit wr #[.int .i64 x] 1 (Nat.le_refl _) (by unfold maxLen; omega) rfl
            have hcl : (wr.alloc (.cells #[.int .i64 x] 3)).cell? ⟨g1, j, none⟩ = some (.slice Ak nk ck) := (hbl.cell (p := ⟨g1, j, none⟩) (by show g1 < wr.heap.size; have := HG1.out.2; omega)).trans hck
            have hrl := hok.below hbl
            have HOL := Lib.hid hol; have HRL := Lib.hid hrl; have HBL := Lib.hid hbl; have HNK := Lib.hid hnk
            obtain ⟨vs, hvl, hvo, hvr, hvd⟩ := hos.out
            have HVL := Lib.hid hvl; have HVO := Lib.hid hvo; have HVR := Lib.hid hvr; have HVD := Lib.hid hvd
            have HLN : Hid (L.length ≤ 1000) := by rw [Hid, hLl.out]; omega
            have HMM := Lib.hid hmm; clear hmm
            clear hol hrl hok hnk hrow hrw hbl hck hvl hvo hvr hvd
            go_wp2_with (first
              | (have hchk := HO2.out; clear hchk; at_builtin; refine wpList_append_own_at _ rfl (.tmp 32) (.tmp 40) 28 rfl w.heap.size 23 i1 (.slice none 0 0) 1 24 Try.underlying28 hinf1 hy0 hy1 hy2 rfl (by decide) _ _ _ rfl (HVO2.out.alloc _) ⟨w2.heap.size, 0, none⟩ 1 1 [.slice A2 (1 + nk) c2] rfl rfl (cell_one_new _ _ _) (by intro u hu; simp at hu; subst hu; rfl) (by unfold maxLen; have := HLN.out; omega) (by have := HLN.out; omega) (by rw [World.size_alloc]; have := HB2.out.size; omega) ?_; intro v3 w3 hown3 hgrow3 hnil3 hblk3; have HO3 := Lib.hid hown3; have HG3 := Lib.hid hgrow3; have HN3 := Lib.hid hnil3; have HK3 := Lib.hid hblk3; clear hown3 hgrow3 hnil3 hblk3)
              | (at_builtin; refine wpList_append_row rfl (.tmp 34) (.tmp 38) 23 rfl Try.underlying23 wr.heap.size _ [(x : Int)] rfl HOL.out _ s1 row rfl HRL.out (by rw [HNK.out]; simp; omega) HBL.out.size ?_; intro v2 w2 hown2 hgrow2; obtain ⟨A2, c2, rfl, -, -⟩ := Own.form' hown2 (n := 1 + nk) (by rw [List.length_append, HNK.out]; rfl); have HO2 := Lib.hid hown2; have HG2 := Lib.hid hgrow2; have HB2 := Lib.hid (lit_over hgrow2); have HVO2 := Lib.hid (over_fix HVO.out (lit_over hgrow2)); clear hown2 hgrow2))
            go_roundw
            case rel =>
              obtain ⟨gq, cq, rfl⟩ := own_someP HO3.out (fun e => by cases (HN3.out.1 e).1)
              have hba : Below w2.heap.size w2 (w2.alloc (.cells #[.slice A2 (1 + nk) c2] 23)) := (Below.refl _ _).alloc (Nat.le_refl _) _
              have hb2 := HB2.out
              have hs2 := hb2.size
              have hb3 : Below wr.heap.size wr (w2.alloc (.cells #[.slice A2 (1 + nk) c2] 23)) := hb2.alloc hs2 _
              have hs3 := HG3.out.size
              rw [World.size_alloc] at hs3
              have hlt2 := HO2.out.lt
              have hgv3 : gq < s1 ∨ w1.heap.size ≤ gq := by
                rcases HK3.out with e | e
                · have : gq = gv := by have e' : (some gq : Option Nat) = some gv := e; injection e'
                  rw [this]; exact hgv.out
                · have : gq = (w2.alloc (.cells #[.slice A2 (1 + nk) c2] 23)).heap.size := by have e' : (some gq : Option Nat) = some _ := e; injection e'
                  rw [World.size_alloc] at this
                  exact .inr (by have := hsz.out; omega)
              have hll := hLl.out
              refine ⟨j + 1, gq, mm + 1, cq, L ++ [(x : Int) :: row], by omega, by go_num, by have := HMM.out; omega, by rw [hll], by rw [Hid, HTK.out, ← List.append_assoc, ← hL.out], by rw [Hid, List.length_append, hll]; rfl, ?_, ?_, ?_, hgv3, ?_⟩
              · have hsn := OwnSS.snoc (hi := wr.heap.size) (hi' := w3.heap.size) (xss := L) (xs := (x : Int) :: row) (u := .slice A2 (1 + nk) c2) HVL.out (fun j hj => ⟨ownsRow_fix (HVR.out j hj).1 (HVR.out j hj).2 (Fix.below hb3 (Nat.le_refl _)), (HVR.out j hj).2⟩) HVD.out (HVO2.out.alloc _) ((HO2.out.below hba).mono hbz) (fun k hk => (hlt2 k hk).1) (by omega) (fun k hk => by have := (hlt2 k hk).2; omega) HO3.out HG3.out
                rw [hll] at hsn
                exact hsn
              · exact (hb.out.trans (hb3.mono hbz)).grown HG3.out (by rw [World.size_alloc]; omega) (fun k hk => by cases hk; exact (HVO.out.lt gv rfl).1)
              · refine hfx.out.trans (Fix.trans (Fix.below hb3 hsz.out) (Fix.grown HG3.out (by rw [World.size_alloc]; have := hsz.out; omega) (fun k hk => by cases hk; exact hgv.out)))
              · rw [Hid]; have := hsz.out; omega
            case measure => simp [intOf]; omega
          · obtain rfl : j = m1 := by omega
            have hx1 : IntKind.i64.wrap ((x : Int) - 1) = ((x - 1 : Nat) : Int) := by rw [IntWalk.i64_in _ (by omega)]; omega
            have HLF : Hid (L = upTo f n1 M (i + 1)) := by
              rw [Hid, hL.out, HUS.out, List.take_of_length_le (by rw [List.length_map, HM1.out]; exact Nat.le_refl _)]
            have HMM := Lib.hid hmm; clear hmm
            go_wp2_with fail
            go_roundw
            case rel => exact ⟨i + 1, x - 1, gv, mm, cv, by omega, by have := HX.out; omega, by first | rfl | (congr 1; omega), rfl, by rw [Hid, ← HLF.out]; exact hLl.out, by rw [Hid, ← HLF.out]; exact hos.out, hb⟩
            case measure => simp [intOf]; omega
      · have hx0 : decide (0 < x) = false := by simp; omega
        have hiM : i = M := by omega
        have HIM := Lib.hid hiM
        clear hiM hx hlt
        go_wp2_with fail
        go_ret
        exact ⟨gv, m, cv, rfl, by have := hml.out; rw [HIM.out] at this; exact this, by have := hos.out; rw [HIM.out] at this; exact this, hb.out⟩

theorem allP_all : ∀ f n most : Nat, n ≤ f → f ≤ 7 → most < 8 → AllP f n most := by
  intro f
  induction f with
  | zero => intro n most h _ _; obtain rfl : n = 0 := by omega
            exact allP_zero _ _
  | succ f ih =>
    intro n most h hf hm
    cases n with
    | zero => exact allP_zero _ _
    | succ n => exact allP_step f n most (by omega) (by omega) hm (fun n' most' h1 h2 => ih n' most' (by omega) (by omega) h2)
theorem l5All_any (n : Nat) (w : World) (hn : n ≤ 7) :
    Calls Try.prog 45 #[.int .i64 n, .int .i64 n] w fun e w' => ∃ g m cc, e = .returned (.slice (some ⟨g, 0, none⟩) m cc) ∧ (ptsOf 7 n n).length = m ∧ OwnSS w' w.heap.size w'.heap.size (.slice (some ⟨g, 0, none⟩) m cc) (ptsOf 7 n n) ∧ Below w.heap.size w w' :=
  allP_all 7 n n hn (Nat.le_refl _) (by omega) w

end Go.Proofs.Ytkbdbkoeahihiaa

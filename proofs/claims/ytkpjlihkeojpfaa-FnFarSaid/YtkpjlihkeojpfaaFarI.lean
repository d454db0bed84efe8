/-
  Distances, the program's.
-/
import Derived.Test.YtkpjlihkeojpfaaFarP
import Derived.Test.YtkpjlihkeojpfaaMaps
import Derived.Test.YtkpjlihkeojpfaaSeen
namespace Go.Proofs.Ytkpjlihkeojpfaa
open Go.RowKit

def nl (Q : List Nat) : List Int := Q.map fun (d : Nat) => (d : Int)
theorem nl_len (Q : List Nat) : (nl Q).length = Q.length := by simp [nl]
theorem nl_snoc (Q : List Nat) (d : Nat) : nl (Q ++ [d]) = nl Q ++ [(d : Int)] := by simp [nl]
theorem gi_nl {Q : List Nat} {a : Nat} (h : a < Q.length) : gi (nl Q) a = (Q.getD a 0 : Nat) := by
  rw [gi_eq (by rw [nl_len]; exact h)]; simp [nl, List.getD, List.getElem?_eq_getElem h]
theorem bx_cell {w : World} {b : Nat} {u : Value} {t : TypeId} (h : w.heap[b]? = some (.cells #[u] t (0, 0))) : w.cell? ⟨b, 0, none⟩ = some u := by
  rw [cell_of_row w b 0 #[u] t (0, 0) h]; rfl
theorem bx_set {W : World} {b : Nat} {u u' : Value} {t : TypeId} (h : W.heap[b]? = some (.cells #[u] t (0, 0))) : (W.setCell ⟨b, 0, none⟩ u').heap[b]? = some (.cells #[u'] t (0, 0)) := by
  simp [World.setCell, Array.getElem?_modify, h]
theorem bx_grown (w : World) (b k : Nat) (u : Value) : w.grownBy (w.setCell ⟨b, k, none⟩ u) (some b) := grown_set w b k u
def qOf (w : World) (b : Nat) : Nat := match w.cell? ⟨b, 0, none⟩ with
  | some (.slice _ m _) => m
  | _ => 0
theorem qOf_eq {w : World} {b m c : Nat} {A : Option Addr} (h : w.cell? ⟨b, 0, none⟩ = some (.slice A m c)) : qOf w b = m := by unfold qOf; rw [h]

/-- The blocks of the search: its map, its list, its queue, the row of the list. -/
structure Pl (lo B bm bf bq g : Nat) : Prop where
  pm : lo ≤ bm ∧ bm < B
  pf : lo ≤ bf ∧ bf < B
  pq : lo ≤ bq ∧ bq < B
  pg : lo ≤ g ∧ g < B
  ne : bm ≠ bf ∧ bm ≠ bq ∧ bm ≠ g ∧ bf ≠ bq ∧ bf ≠ g ∧ bq ≠ g
structure FarSt (W0 : World) (B bm bf bq g n c bx : Nat) (w : World) (F : List Int) (Q : List Nat) : Prop where
  below : Below W0.heap.size W0 w
  size : B ≤ w.heap.size
  bm : w.heap[bm]? = some (.cells #[.pointer (some ⟨bx, 0, none⟩)] 49 (0, 0))
  bf : w.heap[bf]? = some (.cells #[.slice (some ⟨g, 0, none⟩) n c] 23 (0, 0))
  far : Own w W0.heap.size (.slice (some ⟨g, 0, none⟩) n c) F
  q : ∃ v, w.heap[bq]? = some (.cells #[v] 23 (0, 0)) ∧ Own w B v (nl Q)
section
variable {W0 w : World} {B bm bf bq g n c bx : Nat} {F : List Int} {Q : List Nat}
theorem FarSt.set (h : FarSt W0 B bm bf bq g n c bx w F Q) (P : Pl W0.heap.size B bm bf bq g) (hl : F.length = n) (k : Nat) (u : Int) :
    FarSt W0 B bm bf bq g n c bx (w.setCell ⟨g, k, none⟩ (.int .i64 u)) (F.set k u) Q := by
  obtain ⟨v, hq, ho⟩ := h.q
  have hs : (w.setCell ⟨g, k, none⟩ (.int .i64 u)).heap.size = w.heap.size := by simp [World.setCell]
  refine ⟨h.below.setCell (p := ⟨g, k, none⟩) P.pg.1 _, by rw [hs]; exact h.size, ?_, ?_, (h.far.stored hl k u).1, v, ?_, ho.grown (bx_grown w g k _) (.inr (fun e => by have := (ho.lt g e).1; have := P.pg.2; omega))⟩
  · exact (Below.heap_setCell w ⟨g, k, none⟩ _ bm P.ne.2.2.1).trans h.bm
  · exact (Below.heap_setCell w ⟨g, k, none⟩ _ bf P.ne.2.2.2.2.1).trans h.bf
  · exact (Below.heap_setCell w ⟨g, k, none⟩ _ bq P.ne.2.2.2.2.2).trans hq
/-- Behind an append to the queue and its store. -/
theorem FarSt.push {w' : World} {v v' : Value} {d : Nat} (h : FarSt W0 B bm bf bq g n c bx w F Q) (P : Pl W0.heap.size B bm bf bq g) (hq : w.heap[bq]? = some (.cells #[v] 23 (0, 0))) (ho : Own w B v (nl Q))
    (hg : (w.alloc (.cells #[.int .i64 (d : Int)] 3)).grownBy w' v.ownBlock) (ho' : Own w' B v' (nl (Q ++ [d]))) :
    FarSt W0 B bm bf bq g n c bx (w'.setCell ⟨bq, 0, none⟩ v') F (Q ++ [d]) ∧ w'.heap[bq]? = some (.cells #[v] 23 (0, 0)) := by
  have hlt : ∀ k, v.ownBlock = some k → B ≤ k := fun k hk => (ho.lt k hk).1
  have hal : Below w.heap.size w (w.alloc (.cells #[.int .i64 (d : Int)] 3)) := (Below.refl _ _).alloc (Nat.le_refl _) _
  have hz : w.heap.size + 1 ≤ w'.heap.size := by have := hg.size; rw [World.size_alloc] at this; exact this
  have hb : Below B w w' := (hal.mono h.size).grown hg (by rw [World.size_alloc]; have := h.size; omega) hlt
  have blk : ∀ b o, b < B → w.heap[b]? = some o → w'.heap[b]? = some o := fun b o hb' e => (hb.block b hb').trans e
  have hs : (w'.setCell ⟨bq, 0, none⟩ v').heap.size = w'.heap.size := by simp [World.setCell]
  have hq' := blk bq _ P.pq.2 hq
  refine ⟨⟨?_, by rw [hs]; have := h.size; omega, ?_, ?_, ?_, v', bx_set hq', ?_⟩, hq'⟩
  · have hlB : W0.heap.size ≤ B := by have := P.pg; omega
    exact ((h.below.trans (hb.mono hlB))).setCell (p := ⟨bq, 0, none⟩) P.pq.1 _
  · exact (Below.heap_setCell w' ⟨bq, 0, none⟩ _ bm P.ne.2.1).trans (blk bm _ P.pm.2 h.bm)
  · exact (Below.heap_setCell w' ⟨bq, 0, none⟩ _ bf P.ne.2.2.2.1).trans (blk bf _ P.pf.2 h.bf)
  · have h1 : Own w' W0.heap.size (.slice (some ⟨g, 0, none⟩) n c) F := Own.grown (h.far.below hal) hg (.inr (fun e => by
      have := hlt g (by rw [← e]; rfl); have := P.pg.2; omega))
    exact h1.grown (bx_grown w' bq 0 _) (.inr (fun e => by have : g = bq := by simpa [Value.ownBlock] using e
                                                           exact P.ne.2.2.2.2.2 this.symm))
  · exact ho'.grown (bx_grown w' bq 0 _) (.inr (fun e => by have := (ho'.lt bq e).1; have := P.pq.2; omega))
end

set_option maxRecDepth 20000 in
set_option maxHeartbeats 1600000 in
theorem reach_any {W0 : World} {B bm bf bq g n c bx c1 n2 c2 : Nat} {A1 A2 : Option Addr} {t : List Int} (P : Pl W0.heap.size B bm bf bq g) (hbx : Box2 W0 bx A1 n c1 A2 n2 c2) (ht : Rd W0 A1 n t) (hv : Vld t)
    (w : World) (F : List Int) (Q : List Nat) (d : Nat) (e : Int) (h : FarSt W0 B bm bf bq g n c bx w F Q) (hf : FQ n F Q) (hd : d < n) (he : 0 ≤ e) :
    Calls Try.prog 25 #[.int .i64 d, .int .i64 e, .pointer (some ⟨bf, 0, none⟩), .pointer (some ⟨bm, 0, none⟩), .pointer (some ⟨bq, 0, none⟩)] w
      fun r w' => r = .returned (.tuple #[]) ∧ FarSt W0 B bm bf bq g n c bx w' (reachS t e (n - Q.length) d F Q).1 (reachS t e (n - Q.length) d F Q).2 := by
  obtain ⟨i0, hinf, hz0, hz1, hz2⟩ := info_parts info_int
  have hn12 : n ≤ 12 := by rw [← ht.1]; exact hv.2.1
  have HP := Lib.hid P; have HBX := Lib.hid hbx; have HT := Lib.hid ht; have HV := Lib.hid hv; have HS := Lib.hid h; have HF := Lib.hid hf
  have HTL : Hid (t.length = n) := ht.1
  clear P hbx ht hv h hf
  go_enter Try.func25, Try.ntmps25
  go_wp2_with fail
  go_loopw [0] (fun dv wr => ∃ (k x : Nat) (F1 : List Int) (Q1 : List Nat), dv = .int .i64 x ∧ x < n ∧ Hid (k + Q1.length = n) ∧ Hid (FQ n F1 Q1) ∧ Hid (FarSt W0 B bm bf bq g n c bx wr F1 Q1) ∧ Hid (reachS t e (n - Q.length) d F Q = reachS t e k x F1 Q1)) (fun _ wr => n - qOf wr bq)
  case atStart => exact ⟨n - Q.length, d, F, Q, rfl, hd, by have := HF.out.short; rw [Hid]; omega, HF, HS, rfl⟩
  case round =>
    obtain ⟨k, x, F1, Q1, rfl, hx, hk, hfq, hst, heq⟩ := hrel
    have cf := bx_cell hst.out.bf
    obtain ⟨_, e1, _, hcx, hfx⟩ := hst.out.far.cellAt hfq.out.len hx
    simp only [Option.some.injEq, Addr.mk.injEq, and_true] at e1
    subst e1
    by_cases hneg : gi F1 x < 0
    · have hdn : decide (gi F1 x < 0) = true := by simpa using hneg
      have hst1 := hst.out.set HP.out hfq.out.len x e
      obtain ⟨v, hq, ho⟩ := hst1.q
      obtain ⟨m, hm⟩ : ∃ m, Q1.length = m := ⟨_, rfl⟩
      obtain ⟨A, cq, rfl, -, -⟩ := ho.form' (n := m) (by rw [nl_len]; exact hm)
      have cq0 := bx_cell hq
      have HQ0 := Lib.hid (bx_cell ((Below.heap_setCell wr ⟨g, x, none⟩ (.int .i64 e) bq HP.out.ne.2.2.2.2.2).symm.trans hq))
      have hmn : m ≤ n := by rw [← hm]; exact hfq.out.short
      obtain ⟨W1, hW1⟩ : ∃ W1, wr.setCell ⟨g, x, none⟩ (.int .i64 e) = W1 := ⟨_, rfl⟩
      rw [hW1] at hst1 hq ho cq0
      have HST1 := Lib.hid hst1; have HQ := Lib.hid hq
      have HO : Hid (W1.ownsRow B 3 1 (.slice A m cq) m (ints (nl Q1))) := by
        unfold Own at ho; rwa [nl_len, hm] at ho
      have HOQ : Hid (Own W1 B (.slice A m cq) (nl Q1)) := ho
      have HB1 : Hid (B ≤ W1.heap.size) := hst1.size
      have HM := Lib.hid hm
      clear hst1 hq ho hm
      go_wp2_with (
        at_builtin
        refine wpList_append_own _ rfl (.tmp 23) (.tmp 25) 23 rfl B 3 i0 (.int .i64 0) 1 8 Try.underlying23 hinf hz0 hz1 hz2 rfl (by decide) (.slice A m cq) m (ints (nl Q1)) rfl (HO.out.alloc _) ⟨W1.heap.size, 0, none⟩ 1 1 [.int .i64 (x : Int)] rfl rfl (cell_one_new _ _ _) (by intro u hu; simp at hu; subst hu; rfl) (by unfold maxLen; omega) (by omega) (by have := HB1.out; rw [World.size_alloc]; omega) ?_
        intro v3 w3 hown3 hgrow3 _
        have HN3 := Lib.hid hown3; have HG3 := Lib.hid hgrow3; clear hown3 hgrow3
        have hst3 : Own w3 B v3 (nl (Q1 ++ [x])) := by
          have h1 := HN3.out
          rw [nl_snoc]
          unfold Own
          rw [List.length_append, nl_len, HM.out, ints, List.map_append]
          exact h1
        obtain ⟨A3, k3, rfl, -, -⟩ := hst3.form' (n := m + 1) (by rw [nl_len, List.length_append, HM.out]; rfl)
        obtain ⟨hps, hq3⟩ := HST1.out.push HP.out HQ.out HOQ.out HG3.out hst3
        have f3 : w3.frozen? ⟨bq, 0, none⟩ = false := frozen_of_row w3 bq 0 _ _ hq3
        have c3 := bx_cell hq3
        obtain ⟨W4, hW4⟩ : ∃ W4, w3.setCell ⟨bq, 0, none⟩ (.slice A3 (m + 1) k3) = W4 := ⟨_, rfl⟩
        rw [hW4] at hps
        have cm := bx_cell hps.bm
        have cx := (HBX.out.below hps.below).cell0
        obtain ⟨ad, e1, hct⟩ := (HT.out.below hps.below).at_ hx
        rw [show A1 = some ad from e1] at cx
        obtain ⟨y, hy⟩ : ∃ y, gn t x = y := ⟨_, rfl⟩
        have hyn : y < n := by rw [← hy, ← HTL.out]; exact HV.out.gn_lt (by rw [HTL.out]; exact hx)
        have hgy : gi t x = (y : Int) := by rw [← hy]; exact HV.out.gi_gn (by rw [HTL.out]; exact hx)
        rw [hgy] at hct
        have HPS := Lib.hid hps; have HY := Lib.hid hy
        have HFQ : Hid (FQ n (F1.set x e) (Q1 ++ [x])) := hfq.out.push hx (fun hc => by have := (hfq.out.mrk x hx).2 hc; omega) he
        have HRE : Hid (reachS t e (n - Q.length) d F Q = reachS t e (k - 1) y (F1.set x e) (Q1 ++ [x])) := by
          have hk1 : 1 ≤ k := by
            have h1 := HFQ.out.short; have h2 := hk.out
            rw [List.length_append] at h1; simp only [List.length_singleton] at h1; omega
          obtain ⟨k', rfl⟩ : ∃ k', k = k' + 1 := ⟨k - 1, by omega⟩
          rw [Hid, heq.out, reachS, if_pos hneg, hy]; rfl
        have HK : Hid (k - 1 + (Q1 ++ [x]).length = n) := by
          have h1 := HFQ.out.short; have h2 := hk.out
          rw [Hid, List.length_append]; rw [List.length_append] at h1; simp only [List.length_singleton] at h1 ⊢; omega
        have hqo : qOf wr bq = m := qOf_eq HQ0.out
        have hqo4 : qOf W4 bq = m + 1 := by
          obtain ⟨v, h1, h2⟩ := HPS.out.q
          obtain ⟨A4, c4, rfl, -, -⟩ := h2.form' (n := m + 1) (by rw [nl_len, List.length_append, HM.out]; rfl)
          exact qOf_eq (bx_cell h1)
        have hmn1 : m + 1 ≤ n := by
          have h1 := HFQ.out.short
          rw [List.length_append, HM.out] at h1; simpa using h1
        clear hst3 hq3 hps hy hgy e1)
      go_roundw
      case rel => exact ⟨k - 1, y, _, _, rfl, hyn, HK, HFQ, HPS, HRE⟩
      case measure => rw [hqo, hqo4]; omega
    · have hdn : decide (gi F1 x < 0) = false := by simpa using hneg
      have HEND : Hid (reachS t e (n - Q.length) d F Q = (F1, Q1)) := by
        rw [Hid, heq.out]
        cases k with
        | zero => rfl
        | succ k => rw [reachS, if_neg hneg]
      go_wp2_with fail
      exact bodyPost_end (v := .tuple #[]) (by simp [results, Try.results25, go_sem]) rfl ⟨rfl, by rw [HEND.out]; exact hst.out⟩

end Go.Proofs.Ytkpjlihkeojpfaa

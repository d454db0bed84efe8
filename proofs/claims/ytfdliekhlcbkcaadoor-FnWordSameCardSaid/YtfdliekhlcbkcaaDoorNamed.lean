/-
  The program's word with its letters renamed.
-/
import Derived.Test.YtfdliekhlcbkcaaDoorWrdP
import Derived.Test.YtfdliekhlcbkcaaDoorRope
import Derived.Laws.IdiomStrings
namespace Go.Proofs.YtfdliekhlcbkcaaDoor
open Go.RowKit

theorem byte_eqN {l : List UInt8} (h : Word l) {i : Nat} (hi : i < l.length) : (((gb l i).toNat : Int) == ((gb l (par l i)).toNat : Int)) = !twoAt l i := by
  have hle := (h.isPar hi).eq
  have h0 := (h.ok i hi).1
  unfold twoAt
  by_cases es : sml (gb l i) = sml (gb l (par l i))
  · rw [ltr_eq hle.symm es h0]; simp
  · have e1 : (sml (gb l i) != sml (gb l (par l i))) = true := by simpa using es
    rw [e1]
    rw [Bool.not_true, beq_eq_false_iff_ne]
    intro e
    exact es (by rw [UInt8.toNat_inj.1 (show (gb l i).toNat = (gb l (par l i)).toNat by omega)])
theorem nmAt_first {l : List UInt8} {i k : Nat} (h : i < par l i) : nmAt l k i = nmb (k + rk l i) true := by
  have e : fst l i = i := Nat.min_eq_left (by omega)
  rw [nmAt, e, beq_self_eq_true]
theorem Word.nmAt_second {l : List UInt8} (hw : Word l) {i k : Nat} (hi : i < l.length) (h : ¬ i < par l i) : par l i < i ∧ nmAt l k i = nmb (k + rk l (par l i)) (!twoAt l i) ∧ nmAt l k (par l i) = nmb (k + rk l (par l i)) true ∧ 2 * rk l (par l i) + 2 ≤ l.length := by
  have hp := hw.isPar hi
  have hlt : par l i < i := by have := hp.ne; omega
  have e : fst l i = par l i := Nat.min_eq_right (by omega)
  have e2 := hw.par2 hi
  refine ⟨hlt, ?_, nmAt_first (by rw [e2]; exact hlt), by have := hw.rk_lt hi; rwa [e] at this⟩
  rw [nmAt, e, twoAt, bne, Bool.not_not]
theorem nmb_int {n : Nat} (h : n < 26) : ((nmb n true).toNat : Int) = 97 + (n : Int) := by
  unfold nmb
  rw [if_pos rfl, UInt8.toNat_ofNat', Nat.mod_eq_of_lt (by omega)]
  omega
theorem gb_set (l : List UInt8) (k : Nat) (u : UInt8) (j : Nat) (hk : k < l.length) : gb (l.set k u) j = if j = k then u else gb l j := by
  simp only [gb, List.getD, List.getElem?_set]
  by_cases e : k = j
  · subst e; simp [hk]
  · rw [if_neg e, if_neg (fun h => e h.symm)]
theorem bytes_ext {a b : List UInt8} (hl : a.length = b.length) (h : ∀ j, j < a.length → gb a j = gb b j) : a = b := by
  apply List.ext_getElem hl
  intro j h1 h2
  have := h j h1
  rwa [gb_eq h1, gb_eq h2] at this

/-- A row of bytes of one's own. -/
def OwnB (w : World) (lo : Nat) (v : Value) (n : Nat) (l : List UInt8) : Prop := l.length = n ∧ w.ownsRow lo 5 1 v n (Lib.byteCells l)
theorem byteCells_get {l : List UInt8} {j : Nat} (h : j < l.length) : (Lib.byteCells l)[j]? = some (.int .u8 ((gb l j).toNat : Int)) := by
  rw [gb_eq h]; simp [Lib.byteCells, h]
theorem byteCells_set (l : List UInt8) (k : Nat) (u : UInt8) : (Lib.byteCells l).set k (.int .u8 (u.toNat : Int)) = Lib.byteCells (l.set k u) := by simp [Lib.byteCells, List.map_set]
theorem OwnB.cell {w : World} {lo g n c k : Nat} {l : List UInt8} (h : OwnB w lo (.slice (some ⟨g, 0, none⟩) n c) n l) (hk : k < n) : w.cell? ⟨g, k, none⟩ = some (.int .u8 ((gb l k).toNat : Int)) ∧ w.frozen? ⟨g, k, none⟩ = false := by
  obtain ⟨hl, h⟩ := h
  subst hl
  exact ⟨(World.ownsRow.cellAt h k (by omega)).trans (byteCells_get hk), World.ownsRow.frozenAt h k⟩
theorem OwnB.stored {w : World} {lo g n c : Nat} {l : List UInt8} (h : OwnB w lo (.slice (some ⟨g, 0, none⟩) n c) n l) (k : Nat) (u : UInt8) :
    OwnB (w.setCell ⟨g, k, none⟩ (.int .u8 (u.toNat : Int))) lo (.slice (some ⟨g, 0, none⟩) n c) n (l.set k u) ∧ w.grownBy (w.setCell ⟨g, k, none⟩ (.int .u8 (u.toNat : Int))) (some g) := by
  have := World.ownsRow.stored h.2 k (.int .u8 (u.toNat : Int))
  rw [byteCells_set] at this
  exact ⟨⟨by rw [List.length_set]; exact h.1, this.1⟩, this.2⟩
theorem OwnB.below {w w' : World} {lo n : Nat} {v : Value} {l : List UInt8} (h : OwnB w lo v n l) (hb : Below w.heap.size w w') : OwnB w' lo v n l :=
  ⟨h.1, World.ownsRow.kept h.2 (row := none) ⟨hb.os, hb.tape, hb.output, hb.size, fun k hk _ => hb.block k hk⟩ (by cases v.ownBlock <;> simp)⟩
theorem OwnB.made {w : World} {lo g n c : Nat} (h : w.ownsRow lo 5 1 (.slice (some ⟨g, 0, none⟩) n c) n (madeCells (Value.int .u8 0).cells (n * 1)).toList) : OwnB w lo (.slice (some ⟨g, 0, none⟩) n c) n (List.replicate n 0) := by
  refine ⟨by simp, ?_⟩
  have e : (Value.int IntKind.u8 0).cells = #[Value.int IntKind.u8 0] := rfl
  rw [e, Nat.mul_one, toList_madeCells_one] at h
  simpa [Lib.byteCells] using h
/-- .. as a text. -/
theorem OwnB.text {w : World} {lo g n c : Nat} {l : List UInt8} (h : OwnB w lo (.slice (some ⟨g, 0, none⟩) n c) n l) :
    (convert 22 9 (.slice (some ⟨g, 0, none⟩) n c)).run Tryd.prog w = .ok (.string ⟨l.toArray⟩) w := by
  obtain ⟨hl, h⟩ := h
  subst hl
  refine run_convert_bytes_back (P := Tryd.prog) w 22 9 5 ⟨g, 0, none⟩ c l Tryd.underlying22 Tryd.underlying5 Tryd.underlying9 (fun j hj => ?_)
  rw [show (⟨g, 0, none⟩ : Addr).add j = ⟨g, j, none⟩ from by unfold Addr.add; split <;> simp_all]
  have h1 := (World.ownsRow.cellAt h j (by omega)).trans (byteCells_get hj)
  rw [gb_eq hj] at h1
  exact h1

set_option maxRecDepth 100000 in
set_option maxHeartbeats 1600000 in
theorem named_any (s : ByteArray) (k : Nat) (w : World) (hW : Word s.data.toList) (hk : k ≤ 5) :
    Calls Tryd.prog 57 #[.string s, .int .u8 (97 + (k : Int))] w fun e w' => e = .returned (.string ⟨(namesW s.data.toList k).toArray⟩) ∧ Below w.heap.size w w' := by
  obtain ⟨i0, hinf, hz0, hz1, hz2⟩ := info_parts bld_byte
  have hlen := hW.len
  rw [len_str] at hlen
  obtain ⟨hn2, hn10, -⟩ := hlen
  have HW := Lib.hid hW; clear hW
  have HZ := Lib.hid (And.intro hz1 hz2)
  go_enter Tryd.func57, Tryd.ntmps57
  go_wp2_with (first
    | (at_make; refine wpList_make_full _ rfl _ _ 22 rfl w.heap.size 5 i0 (.int .u8 0) 1 Tryd.underlying22 hinf hz0 hz1 .i64 .i64 _ _ s.size rfl rfl rfl rfl (by rw [hz2]; omega) (by unfold maxLen; omega) (Nat.le_refl _) ?_; intro w1 hown1 hgrow1; have HO1 := Lib.hid (OwnB.made hown1); have HB1 := Lib.hid (below_of_grown hgrow1 (Nat.le_refl _) (fun k hk => by cases hk)); clear hown1 hgrow1)
    | (go_at_call 58; refine (partners_any s _ HW.out).mono ?_; rintro e w2 ⟨v, rfl, o, b⟩; have HO2 := Lib.hid (HO1.out.below b); have HB2 := Lib.hid (HB1.out.trans (b.mono HB1.out.size)); have hpl : (parL s.data.toList).length = s.size := (parL_len _).trans (len_str s); obtain ⟨Ap, cp, rfl, -, -⟩ := o.form' hpl; obtain ⟨gp, rfl, hgp, -, -⟩ := o.cellAt hpl (k := 0) (by omega); have HPL := Lib.hid hpl; have HP := Lib.hid o; clear o b hpl))
  go_loopw [1, 14] (fun nv kv wr => ∃ (i r : Nat) (bs : List UInt8), i ≤ s.size ∧ kv = .int .i64 i ∧ r ≤ i ∧ nv = .int .u8 (97 + (k : Int) + (r : Int)) ∧ Hid (r = rk s.data.toList i) ∧ Hid (OwnB wr w.heap.size (.slice (some ⟨w.heap.size, 0, none⟩) s.size s.size) s.size bs) ∧ Hid (Own wr w1.heap.size (.slice (some ⟨gp, 0, none⟩) s.size cp) (parL s.data.toList)) ∧ Hid (Below w.heap.size w wr) ∧ Hid (∀ j, j < i → gb bs j = nmAt s.data.toList k j)) (fun _ kv _ => s.size - (intOf kv).toNat)
  case atStart => exact ⟨0, 0, _, Nat.zero_le _, rfl, Nat.le_refl _, by simp, rfl, HO2.out, HP.out, HB2.out, fun j hj => absurd hj (by omega)⟩
  case round =>
    clear HO2 HP HB2
    obtain ⟨i, r, bs, hi, rfl, hri, rfl, hr, ho, hp, hb, hall⟩ := hrel
    have hwg : w.heap.size < w1.heap.size := (World.ownsRow.lt HO1.out.2 w.heap.size rfl).2
    by_cases hlt : i < s.size
    · have hil : i < s.data.toList.length := by rw [len_str]; exact hlt
      obtain ⟨p, hpp⟩ : ∃ p, par s.data.toList i = p := ⟨_, rfl⟩
      have hps : p < s.size := by have := (HW.out.isPar hil).lt; rw [len_str, hpp] at this; exact this
      obtain ⟨gq, e1, _, hcp, _⟩ := hp.out.cellAt HPL.out hlt
      simp only [Option.some.injEq, Addr.mk.injEq, and_true] at e1
      subst e1
      rw [parL, gi_tab hil, hpp] at hcp
      obtain ⟨hc1, hf1⟩ := ho.out.cell hlt
      have hrs := rk_succ s.data.toList i
      rw [← hr.out, hpp] at hrs
      have HRS := Lib.hid hrs; clear hrs
      have hgne : gp ≠ w.heap.size := by omega
      by_cases hf : i < p
      · have hn1 := nmAt_first (l := s.data.toList) (k := k) (by rw [hpp]; exact hf)
        rw [← hr.out] at hn1
        have hni := nmb_int (n := k + r) (by omega)
        rw [← hn1] at hni
        have hkr : 97 + (k : Int) + (r : Int) = ((nmAt s.data.toList k i).toNat : Int) := by rw [hni]; omega
        have HN := Lib.hid hkr
        have S := Lib.hid (ho.out.stored i (nmAt s.data.toList k i))
        have hb26 : (97 + (k : Int) + (r : Int)) ≤ 200 := by omega
        clear hn1 hni hkr
        go_wp2_with fail
        rw [HN.out]
        go_roundw
        case rel => exact ⟨i + 1, r + 1, _, by omega, by go_num, by omega, congrArg (Value.int IntKind.u8) (by have := HN.out; omega), by rw [Hid, HRS.out, if_pos hf], S.out.1, hp.out.grown S.out.2 (.inr (by simp [Value.ownBlock]; omega)), hb.out.grown S.out.2 hb.out.size (fun q hq => by simp at hq; omega), fun j hj => by
            rw [gb_set _ _ _ _ (by rw [ho.out.1]; exact hlt)]
            split
            · rename_i e; rw [e]
            · exact hall.out j (by omega)⟩
        case measure => simp [intOf]; omega
      · have hsec := HW.out.nmAt_second hil (k := k) (by rw [hpp]; exact hf)
        have hbb := byte_eqN HW.out hil
        rw [hpp, gb_at s hlt, gb_at s hps] at hbb
        rw [hpp] at hsec
        have hpi : p < i := hsec.1
        obtain ⟨b, hbt⟩ : ∃ b, twoAt s.data.toList i = b := ⟨_, rfl⟩
        rw [hbt] at hbb hsec
        have hd : decide ((i : Int) < (p : Int)) = false := by simp; omega
        clear hbt
        cases b with
        | false =>
          have hb2 : ((s[i].toNat : Int) == (s[p].toNat : Int)) = true := hbb
          have hcb : wr.cell? ⟨w.heap.size, p, none⟩ = some (.int .u8 ((nmAt s.data.toList k p).toNat : Int)) := by rw [← hall.out p hpi]; exact (ho.out.cell hps).1
          have HNI : Hid (nmAt s.data.toList k i = nmAt s.data.toList k p) := by rw [Hid, hsec.2.1, hsec.2.2.1]; rfl
          clear hbb hsec
          go_wp2_with fail
          go_quiet (fail)
          have S := Lib.hid ((ho.out.below (below_drewN (Below.refl _ wr) nq)).stored i (nmAt s.data.toList k p))
          go_wp2_with fail
          go_roundw
          case rel => exact ⟨i + 1, r, _, by omega, by go_num, by omega, rfl, by rw [Hid, HRS.out, if_neg hf]; rfl, S.out.1, Own.grown (hp.out.drewN nq) S.out.2 (.inr (by simp [Value.ownBlock]; omega)), (below_drewN hb.out nq).grown S.out.2 hb.out.size (fun q hq => by simp at hq; omega), fun j hj => by
              rw [gb_set _ _ _ _ (by rw [ho.out.1]; exact hlt)]
              split
              · rename_i e; rw [e, HNI.out]
              · exact hall.out j (by omega)⟩
          case measure => simp [intOf]; omega
        | true =>
          have hb2 : ((s[i].toNat : Int) == (s[p].toNat : Int)) = false := hbb
          have hcb : wr.cell? ⟨w.heap.size, p, none⟩ = some (.int .u8 ((nmAt s.data.toList k p).toNat : Int)) := by rw [← hall.out p hpi]; exact (ho.out.cell hps).1
          have HNI : Hid (nmAt s.data.toList k i = oth (nmAt s.data.toList k p)) := by rw [Hid, hsec.2.1, hsec.2.2.1, oth_nmb _ (by have := hsec.2.2.2; rw [len_str] at this; omega)]
          clear hbb hsec
          go_wp2_with fail
          go_quiet (fail)
          have S := Lib.hid ((ho.out.below (below_drewN (Below.refl _ wr) nq)).stored i (oth (nmAt s.data.toList k p)))
          go_wp2_with (go_at_call 92; refine (other_any _ _).mono ?_; rintro e w' ⟨rfl, rfl⟩)
          go_roundw
          case rel => exact ⟨i + 1, r, _, by omega, by go_num, by omega, rfl, by rw [Hid, HRS.out, if_neg hf]; rfl, S.out.1, Own.grown (hp.out.drewN nq) S.out.2 (.inr (by simp [Value.ownBlock]; omega)), (below_drewN hb.out nq).grown S.out.2 hb.out.size (fun q hq => by simp at hq; omega), fun j hj => by
              rw [gb_set _ _ _ _ (by rw [ho.out.1]; exact hlt)]
              split
              · rename_i e; rw [e, HNI.out]
              · exact hall.out j (by omega)⟩
          case measure => simp [intOf]; omega
    · have his : i = s.size := by omega
      have hfin : bs = namesW s.data.toList k := bytes_ext (by rw [ho.out.1, namesW_len, len_str]) fun j hj => by
        have hjl : j < s.data.toList.length := by rw [ho.out.1] at hj; rw [len_str]; exact hj
        rw [gb_names hjl]
        exact hall.out j (by rw [his]; rw [ho.out.1] at hj; exact hj)
      have HF := Lib.hid hfin
      have htx := ho.out.text
      clear his hfin
      go_wp2_with fail
      go_ret
      refine ⟨?_, hb.out⟩
      rw [← HF.out]
      rfl

end Go.Proofs.YtfdliekhlcbkcaaDoor

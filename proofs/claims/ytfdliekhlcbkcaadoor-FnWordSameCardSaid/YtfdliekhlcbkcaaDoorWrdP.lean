/-
  The program's partners of the sides of a word.
-/
import Derived.Test.YtfdliekhlcbkcaaDoorWrdI
import Derived.Test.YtfdliekhlcbkcaaDoorKit
import Derived.Test.YtfdliekhlcbkcaaDoorShelf
import Derived.Lib.IndexLaws
import Derived.Deep.RegionHeld3
import Derived.Deep.RegionWith
namespace Go.Proofs.YtfdliekhlcbkcaaDoor
open Go.RowKit

theorem lowerB_all : ∀ n, n < 256 → (UInt8.ofNat n).toNat < 128 → 0 ≤ ltr (UInt8.ofNat n) → ((Lib.lowerB (UInt8.ofNat n)).toNat : Int) = 97 + ltr (UInt8.ofNat n) := by decide +kernel
theorem lowerB_letter (c : UInt8) (h : 0 ≤ ltr c) : ((Lib.lowerB c).toNat : Int) = 97 + ltr c ∧ c.toNat < 128 := by
  have h2 : c.toNat < 128 := by unfold ltr at h; split at h <;> (try split at h) <;> omega
  refine ⟨?_, h2⟩
  have := lowerB_all c.toNat (by have := c.toNat_lt; omega)
  rw [show UInt8.ofNat c.toNat = c from by simp] at this
  exact this h2 h
theorem lowerB_iff {c d : UInt8} (hc : 0 ≤ ltr c) (hd : 0 ≤ ltr d) : Lib.lowerB c = Lib.lowerB d ↔ ltr c = ltr d := by
  have h1 := (lowerB_letter c hc).1
  have h2 := (lowerB_letter d hd).1
  constructor
  · intro e; rw [e] at h1; omega
  · intro e; exact UInt8.toNat_inj.1 (by omega)
theorem low_at {l : List UInt8} {k : Nat} (h : k < l.length) : (Lib.toLowerA l)[k]? = some (Lib.lowerB (gb l k)) := by
  rw [gb_eq h]; simp [Lib.toLowerA, h]
/-- The first and the last place of a letter, less the side. -/
theorem Word.sums {l : List UInt8} (h : Word l) {t : ByteArray} (ht : t.data.toList = Lib.toLowerA l) {k : Nat} (hk : k < l.length) (hkt : k < t.size) :
    Lib.indexByte t.data.toList ((t[k].toNat : Int).toNat.toUInt8) + Lib.lastIndexByte t (t[k].toNat : Int) = (par l k : Int) + (k : Int) ∧ -1 ≤ Lib.indexByte t.data.toList ((t[k].toNat : Int).toNat.toUInt8) ∧ Lib.indexByte t.data.toList ((t[k].toNat : Int).toNat.toUInt8) ≤ 10 ∧ -1 ≤ Lib.lastIndexByte t (t[k].toNat : Int) ∧ Lib.lastIndexByte t (t[k].toNat : Int) ≤ 10 := by
  obtain ⟨i, j, hij, hj, _, hiff, hsum⟩ := h.sum hk
  have hl10 := h.len
  have htl : t.size = l.length := by
    have := congrArg List.length ht
    simpa [Lib.toLowerA] using this
  have htk : t[k] = Lib.lowerB (gb l k) := by
    have h1 := low_at hk
    rw [← ht] at h1
    have h2 : t.data.toList[k]? = some t[k] := by
      rw [List.getElem?_eq_getElem (by simpa using hkt)]; rfl
    rw [h2] at h1
    injection h1
  have e8 : ((t[k].toNat : Int).toNat.toUInt8) = Lib.lowerB (gb l k) := by rw [htk]; simp
  have hlet : ∀ m, m < l.length → 0 ≤ ltr (gb l m) := fun m hm => (h.ok m hm).1
  have hat : ∀ m, m < l.length → (t.data.toList[m]? = some (Lib.lowerB (gb l k)) ↔ m = i ∨ m = j) := fun m hm => by
    rw [ht, low_at hm, Option.some.injEq, lowerB_iff (hlet m hm) (hlet k hk), hiff m hm]
  have e1 : Lib.indexByte t.data.toList (Lib.lowerB (gb l k)) = (i : Int) := by
    have h0 := Lib.indexByte_ge t.data.toList (Lib.lowerB (gb l k))
    by_cases hm1 : Lib.indexByte t.data.toList (Lib.lowerB (gb l k)) = -1
    · exact absurd ((hat i (by omega)).2 (.inl rfl)) (Lib.indexByte_none hm1 i)
    · obtain ⟨o, ho⟩ := Int.eq_ofNat_of_zero_le (show 0 ≤ Lib.indexByte t.data.toList (Lib.lowerB (gb l k)) by omega)
      obtain ⟨a1, a2⟩ := Lib.indexByte_some ho
      have hol : o < l.length := by
        have : o < t.data.toList.length := by
          rcases Nat.lt_or_ge o t.data.toList.length with h | h
          · exact h
          · rw [List.getElem?_eq_none h] at a1; cases a1
        rw [ht, Lib.toLowerA, List.length_map] at this; exact this
      have b1 := (hat o hol).1 a1
      have b2 : ¬ i < o := fun hlt => a2 i hlt ((hat i (by omega)).2 (.inl rfl))
      rw [ho]
      have : o = i := by omega
      rw [this]
  have e2 : Lib.lastIndexByte t (t[k].toNat : Int) = (j : Int) := by
    have hby : ∀ m, (hm : m < l.length) → (((t.data[m]!).toNat : Int) = (t[k].toNat : Int) ↔ m = i ∨ m = j) := fun m hm => by
      rw [← hat m hm]
      have hmt : m < t.data.size := by have : t.size = t.data.size := rfl; omega
      have h2 : t.data.toList[m]? = some t.data[m]! := by
        rw [List.getElem?_eq_getElem (by simpa using hmt), getElem!_pos t.data m hmt]; rfl
      rw [h2, Option.some.injEq, ← htk]
      constructor
      · intro e; exact UInt8.toNat_inj.1 (by omega)
      · intro e; rw [e]
    rcases Lib.lastIdx_spec t (t[k].toNat : Int) t.size with ⟨e, hn⟩ | ⟨m, hm, e, a1, a2⟩
    · exact absurd ((hby i (by omega)).2 (.inl rfl)) (hn i (by omega))
    · have b1 := (hby m (by omega)).1 a1
      have b2 : ¬ m < j := fun hlt => a2 j hlt (by omega) ((hby j hj).2 (.inr rfl))
      have : m = j := by omega
      rw [Lib.lastIndexByte, e, this]
  rw [e8, e1, e2]
  omega

theorem idxByte_any (t : ByteArray) (c : Int) (w : World) :
    Calls Tryd.prog 94 #[.string t, .int .u8 c] w fun e w' => e = .returned (.int .i64 (Lib.indexByte t.data.toList c.toNat.toUInt8)) ∧ w = w' :=
  (Tryd.strings_IndexByte t c w).mono fun _ _ h => ⟨h.1, h.2.symm⟩
theorem lastByte_any (t : ByteArray) (c : Int) (ht : t.size < 4611686018427387904) (w : World) :
    Calls Tryd.prog 95 #[.string t, .int .u8 c] w fun e w' => e = .returned (.int .i64 (Lib.lastIndexByte t c)) ∧ w = w' :=
  (Tryd.strings_LastIndexByte t c ht w).mono fun _ _ h => ⟨h.1, h.2.symm⟩

set_option maxHeartbeats 1600000 in
theorem partners_any (s : ByteArray) (w : World) (hW : Word s.data.toList) :
    Calls Tryd.prog 58 #[.string s] w fun e w' => ∃ v, e = .returned v ∧ Own w' w.heap.size v (parL s.data.toList) ∧ Below w.heap.size w w' := by
  obtain ⟨i0, hinf, hz0, hz1, hz2⟩ := info_parts info_int
  have hlen := hW.len
  rw [len_str] at hlen
  obtain ⟨hn2, hn10, -⟩ := hlen
  have HW := Lib.hid hW
  have hasc : ∀ (j : Nat) (b : UInt8), s.data.toList[j]? = some b → b.toNat < 128 := fun j b h => by
    obtain ⟨hj, e⟩ := List.getElem?_eq_some_iff.1 h
    have := (lowerB_letter _ (hW.ok j hj).1).2
    rwa [gb_eq hj, e] at this
  have HA := Lib.hid hasc
  have HZ := Lib.hid (And.intro hz1 hz2)
  clear hW hasc
  go_enter Tryd.func58, Tryd.ntmps58
  go_wp2_with (at_make; refine wpList_make_full _ rfl _ _ 64 rfl w.heap.size 3 i0 (.int .i64 0) 1 Tryd.underlying64 hinf hz0 hz1 .i64 .i64 _ _ s.size rfl rfl rfl rfl (by rw [hz2]; omega) (by unfold maxLen; omega) (Nat.le_refl _) ?_; intro w2 hown2 hgrow2; have HO2 := Lib.hid (Own.made hown2); have HB2 := Lib.hid (below_of_grown hgrow2 (Nat.le_refl _) (fun k hk => by cases hk)); clear hown2 hgrow2)
  go_wp2_with fail
  refine (Tryd.strings_ToLower_ascii s _ (by omega) HA.out).mono ?_
  rintro e w3 ⟨rfl, b⟩
  obtain ⟨t, ht⟩ : ∃ t : ByteArray, (⟨(Lib.toLowerA s.data.toList).toArray⟩ : ByteArray) = t := ⟨_, rfl⟩
  have HT : Hid (t.data.toList = Lib.toLowerA s.data.toList) := by rw [← ht]; rfl
  have hts : t.size = s.size := by rw [← ht]; show (Lib.toLowerA s.data.toList).toArray.size = s.data.size; rw [List.size_toArray, Lib.toLowerA, List.length_map, Array.length_toList]
  rw [ht]
  have HTS := Lib.hid hts
  have HO3 := Lib.hid (HO2.out.below b); have HB3 := Lib.hid (HB2.out.trans (b.mono HB2.out.size)); clear b ht hts HO2 HB2
  go_wp2_with fail
  go_loopw [13] (fun kv wr => ∃ (k : Nat) (xs : List Int), k ≤ s.size ∧ kv = .int .i64 k ∧ Hid (xs.length = s.size) ∧ Hid (Own wr w.heap.size (.slice (some ⟨w.heap.size, 0, none⟩) s.size s.size) xs) ∧ Hid (Below w.heap.size w wr) ∧ Hid (∀ j, j < k → gi xs j = (par s.data.toList j : Int))) (fun kv _ => s.size - (intOf kv).toNat)
  case atStart => exact ⟨0, _, Nat.zero_le _, rfl, by rw [Hid]; simp, HO3.out, HB3.out, fun j hj => absurd hj (by omega)⟩
  case round =>
    obtain ⟨k, xs, hk, rfl, hxl, ho, hb, hp⟩ := hrel
    by_cases hlt : k < s.size
    · have hkt : k < t.size := by rw [HTS.out]; exact hlt
      obtain ⟨hsum, hb1, hb2, hb3, hb4⟩ := HW.out.sums HT.out (k := k) (by rw [len_str]; exact hlt) hkt
      have hp10 : par s.data.toList k < s.size := by have := (HW.out.isPar (s := k) (by rw [len_str]; exact hlt)).lt; rwa [len_str] at this
      obtain ⟨g1, e1, _, hm1, hf1⟩ := ho.out.cellAt hxl.out hlt
      simp only [Option.some.injEq, Addr.mk.injEq, and_true] at e1
      subst e1
      have I1 := Lib.hid (fun W => idxByte_any t (t[k].toNat : Int) W)
      have I2 := Lib.hid (fun W => lastByte_any t (t[k].toNat : Int) (by rw [HTS.out]; omega) W)
      generalize Lib.indexByte t.data.toList ((t[k].toNat : Int).toNat.toUInt8) = a at *
      generalize Lib.lastIndexByte t (t[k].toNat : Int) = b at *
      have hab : IntKind.i64.wrap (a + b) = a + b := IntWalk.i64_in _ (by omega)
      have habk : IntKind.i64.wrap (a + b - (k : Int)) = (par s.data.toList k : Int) := by rw [IntWalk.i64_in _ (by omega)]; omega
      have HS := Lib.hid hsum; clear hsum
      go_wp2_with fail
      go_region_with (first
        | (go_at_call 94; refine (I1.out _).mono ?_; rintro e w' ⟨rfl, rfl⟩)
        | (go_at_call 95; refine (I2.out _).mono ?_; rintro e w' ⟨rfl, rfl⟩))
      all_goals
        go_wp2_with fail
        go_roundw
        case rel => exact ⟨k + 1, xs.set k (par s.data.toList k : Int), by omega, by go_num, by rw [Hid, List.length_set]; exact hxl.out, ((ho.out.stored hxl.out k _).1).drewN 1, below_drewN (hb.out.setCell (Nat.le_refl _) _) 1, fun j hj => by
            rw [gi_set _ _ _ _ (by rw [hxl.out]; exact hlt)]
            split
            · rename_i e; rw [e]
            · exact hp.out j (by omega)⟩
        case measure => simp [intOf]; omega
    · have hks : k = s.size := by omega
      have HK := Lib.hid hks; clear hks
      go_wp2_with fail
      go_ret
      refine ⟨_, rfl, ?_, hb.out⟩
      have e : xs = parL s.data.toList := tab_ext (by rw [len_str]; exact hxl.out) fun j hj => hp.out j (by rw [HK.out]; rwa [len_str] at hj)
      rw [← e]; exact ho.out

end Go.Proofs.YtfdliekhlcbkcaaDoor

/-
  The program's words one behind the other; renamed and joined words.
-/
import Derived.Test.YtfdliekhlcbkcaaDoorNamed
namespace Go.Proofs.YtfdliekhlcbkcaaDoor
open Go.RowKit

/-- How many letters the first i words have; what they are together, renamed. -/
def kS (ws : List (List UInt8)) : Nat → Nat
  | 0 => 0
  | i + 1 => kS ws i + (ws.getD i []).length / 2
def accS (ws : List (List UInt8)) : Nat → List UInt8
  | 0 => []
  | i + 1 => accS ws i ++ namesW (ws.getD i []) (kS ws i)
theorem kS_mono (ws : List (List UInt8)) {i j : Nat} (h : i ≤ j) : kS ws i ≤ kS ws j := by
  induction h with
  | refl => exact Nat.le_refl _
  | step _ ih => exact Nat.le_trans ih (by rw [kS]; omega)
theorem accS_len {ws : List (List UInt8)} (h : ∀ i, i < ws.length → Word (ws.getD i [])) : ∀ i, i ≤ ws.length → (accS ws i).length = 2 * kS ws i := by
  intro i
  induction i with
  | zero => intro _; rfl
  | succ i ih =>
    intro hi
    have := (h i (by omega)).len
    rw [accS, List.length_append, namesW_len, ih (by omega), kS]
    omega

set_option maxRecDepth 100000 in
set_option maxHeartbeats 1600000 in
theorem sumOf_any (g n c : Nat) (ss : Nat → ByteArray) (ws : List (List UInt8)) (w : World) (hl : ws.length = n) (hn : 0 < n) (hn2 : n ≤ 5) (hk : kS ws n ≤ 5)
    (hw : ∀ i, i < n → Word (ws.getD i [])) (hs : ∀ i, i < n → w.cell? ⟨g, i, none⟩ = some (.string (ss i)) ∧ (ss i).data.toList = ws.getD i []) :
    Calls Tryd.prog 71 #[.slice (some ⟨g, 0, none⟩) n c] w fun e w' => e = .returned (.string ⟨(accS ws n).toArray⟩) ∧ Below w.heap.size w w' := by
  have HL := Lib.hid hl; have HK := Lib.hid hk; have HW := Lib.hid hw; have HS := Lib.hid hs; clear hl hk hw hs
  go_enter Tryd.func71, Tryd.ntmps71
  go_wp2_with fail
  go_loopw [3, 4, 9] (fun v nv kv wr => ∃ (i k : Nat), i ≤ n ∧ k ≤ 5 ∧ kv = .int .i64 i ∧ nv = .int .u8 (97 + (k : Int)) ∧ (v = .pointer none ∨ ∃ b, v = .pointer (some ⟨b, 0, none⟩)) ∧ Hid (k = kS ws i) ∧ Hid (PRope wr wr.heap.size v (accS ws i)) ∧ Hid (Below w.heap.size w wr)) (fun _ _ kv _ => n - (intOf kv).toNat)
  case atStart => exact ⟨0, 0, Nat.zero_le _, by omega, rfl, rfl, .inl rfl, rfl, PRope.none_ _ _, Below.refl _ _⟩
  case round =>
    obtain ⟨i, k, hi, hk5, rfl, rfl, hform, hk, hv, hb⟩ := hrel
    by_cases hlt : i < n
    · obtain ⟨hc, he⟩ := HS.out i hlt
      have hcr := (hb.out.cell (p := ⟨g, i, none⟩) (World.block_lt_of_cell? w _ hc)).trans hc
      have hwi := HW.out i hlt
      rw [← he] at hwi
      have hlen := hwi.len
      rw [len_str] at hlen
      obtain ⟨hl2, hl10, -⟩ := hlen
      obtain ⟨s, hs⟩ : ∃ s, ss i = s := ⟨_, rfl⟩
      rw [hs] at hcr hwi hl2 hl10 he
      have hks : kS ws (i + 1) ≤ 5 := Nat.le_trans (kS_mono ws (by omega)) HK.out
      obtain ⟨h, hh⟩ : ∃ h, s.size / 2 = h := ⟨_, rfl⟩
      have hks2 : kS ws (i + 1) = k + h := by rw [kS, ← hk.out, ← he, len_str, hh]
      have hd : (s.size : Int) / 2 = (h : Int) := by omega
      have hd2 : (s.size : Int).tdiv 2 = (h : Int) := by rw [Int.tdiv_eq_ediv_of_nonneg (by omega)]; omega
      have hkh : k + h ≤ 5 := by omega
      have HKS := Lib.hid hks2
      have HAS : Hid (accS ws (i + 1) = accS ws i ++ namesW s.data.toList k) := by rw [Hid, accS, ← hk.out, ← he]
      have hal := accS_len (ws := ws) (fun j hj => HW.out j (by rw [← HL.out]; exact hj)) i (by rw [HL.out]; omega)
      have HAL : Hid ((accS ws i).length + (namesW s.data.toList k).length ≤ 1048576) := by rw [Hid, hal, ← hk.out, namesW_len, len_str]; omega
      have HWI := Lib.hid hwi; have HE := Lib.hid he
      have hw1 : 97 + (k : Int) ≤ 200 := by omega
      clear hc hs hks hks2 hh hwi he hal
      rcases hform with rfl | ⟨b, rfl⟩
      all_goals
        go_wp2_with (first
          | (go_at_call 57; refine (named_any s k _ HWI.out hk5).mono ?_; rintro e w1 ⟨rfl, b1⟩; have HB1 := Lib.hid b1; clear b1)
          | (go_at_call 52; refine (ropeOf_any s.size _ _ (by show (namesW s.data.toList k).toArray.size = s.size; rw [List.size_toArray, namesW_len, len_str]) (by omega) (by omega)).mono ?_; rintro e w2 ⟨q, rfl, hr, b2⟩; have HR2 := Lib.hid hr; have HB2 := Lib.hid (HB1.out.trans (b2.mono HB1.out.size)); clear hr b2)
          | (go_at_call 54; refine (joined_two _ (.pointer (some ⟨q, 0, none⟩)) (accS ws i) (namesW s.data.toList k) w2 HAL.out ((hv.out.below HB2.out).mono HB2.out.size) HR2.out.p).mono ?_; rintro e w3 ⟨v3, rfl, p3, b3⟩; have HP3 := Lib.hid p3; have HB3 := Lib.hid (HB2.out.trans (b3.mono HB2.out.size)); clear p3 b3; obtain ⟨q3, rfl, -⟩ := HP3.out.get (by intro e; have h1 := congrArg List.length e; rw [List.length_append, namesW_len, len_str, List.length_nil] at h1; omega)))
        go_roundw
        case rel => exact ⟨i + 1, k + h, by omega, by omega, by go_num, congrArg (Value.int IntKind.u8) (by omega), .inr ⟨_, rfl⟩, HKS.out.symm, by rw [Hid, HAS.out]; exact HP3.out, hb.out.trans (HB3.out.mono hb.out.size)⟩
        case measure => simp [intOf]; omega
    · have hin : i = n := by omega
      have hv2 := hv.out
      rw [hin] at hv2
      have hne : accS ws n ≠ [] := by
        obtain ⟨m, rfl⟩ : ∃ m, n = m + 1 := ⟨n - 1, by omega⟩
        have := (HW.out m (by omega)).len
        intro e
        have h1 := congrArg List.length e
        rw [accS, List.length_append, namesW_len, List.length_nil] at h1
        omega
      obtain ⟨b, rfl, hr⟩ := hv2.get hne
      have HR := Lib.hid hr
      have hal := accS_len (ws := ws) (fun j hj => HW.out j (by rw [← HL.out]; exact hj)) n (by rw [HL.out]; omega)
      have HAL : Hid ((accS ws n).length ≤ 1048576) := by rw [Hid, hal]; have := HK.out; omega
      clear hin hv2 hne hr hal hform
      go_wp2_with (go_at_call 55; refine (text_any _ b _ HR.out HAL.out).mono ?_; rintro e w1 ⟨rfl, b1⟩; have HB1 := Lib.hid (hb.out.trans (b1.mono hb.out.size)); clear b1)
      go_ret
      exact ⟨rfl, HB1.out⟩

end Go.Proofs.YtfdliekhlcbkcaaDoor

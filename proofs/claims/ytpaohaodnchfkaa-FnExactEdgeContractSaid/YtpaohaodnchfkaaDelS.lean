/-
  The model's words for a map without an edge: past two darts; what stays, renamed.
-/
import Derived.Test.YtpaohaodnchfkaaDelP
import Derived.Test.YtpaohaodnchfkaaAppF
import Derived.Deep.RegionLaw
import Derived.Deep.AppendLies
namespace Go.Proofs.Ytpaohaodnchfkaa
open Go.RowKit

set_option maxHeartbeats 1600000 in
theorem l7Past_any (A : Option Addr) (n c d a b r0 : Nat) (p : List Int) (w : World) (h : Rd w A n p) (hp : Vld p) (hd : d < n) (hs : stayB a b d = true) (hr : pastG p a b d = r0) :
    Calls Try.prog 63 #[.slice A n c, .int .i64 d, .int .i64 a, .int .i64 b] w fun e w' => e = .returned (.int .i64 r0) ∧ w = w' := by
  have hn12 : n ≤ 12 := by rw [← h.1]; exact hp.2.1
  obtain ⟨ad, rfl, hc⟩ := h.at_ hd
  obtain ⟨y, hy, hyn, hgy⟩ := (hp.into h.1).nat (j := d) (by rw [h.1]; exact hd)
  rw [hy] at hc
  obtain ⟨kk, hkk, hfst, hps⟩ := past_first hp (by rw [h.1]; exact hd) hs
  rw [hgy] at hfst hps
  have HR : Hid (it p kk y = r0) := by rw [Hid, ← hps]; exact hr
  have HF := Lib.hid hfst
  have H := Lib.hid h; have HP := Lib.hid hp; clear h hp hy hgy hkk hfst hps hr hs
  go_enter Try.func63, Try.ntmps63
  go_wp2_with fail
  go_loop [1] (fun nv => ∃ x q : Nat, x < n ∧ nv = .int .i64 x ∧ Hid (FirstAt p (stayB a b) x q) ∧ Hid (it p q x = r0)) (fun nv => away p (stayB a b) (intOf nv).toNat)
  case atStart => exact ⟨y, kk, hyn, rfl, HF, HR⟩
  case round =>
    obtain ⟨x, q, hxn, rfl, hf, hr⟩ := hrel
    cases q with
    | zero =>
      obtain ⟨h1, h2⟩ := stayB_iff.1 (show stayB a b x = true from hf.out.1)
      have e1 : ((x : Int) == (a : Int)) = false := by simp; omega
      have e2 : ((x : Int) == (b : Int)) = false := by simp; omega
      have HE : Hid (x = r0) := hr.out
      clear h1 h2
      go_wp2_with fail
      go_ret
      exact ⟨by rw [← HE.out]; rfl, rfl⟩
    | succ q =>
      obtain ⟨hcx, hnx⟩ := hf.out.next
      obtain ⟨ad6, e6, hc6⟩ := H.out.at_ hxn
      simp only [Option.some.injEq] at e6
      subst e6
      obtain ⟨y2, hy2, hyn2, hgy2⟩ := (HP.out.into H.out.1).nat (j := x) (by rw [H.out.1]; exact hxn)
      rw [hy2] at hc6
      rw [hgy2] at hnx
      have HNX := Lib.hid hnx
      have HR2 : Hid (it p q y2 = r0) := by have := hr.out; rwa [it_succ', hgy2] at this
      have HAW : Hid (away p (stayB a b) y2 < away p (stayB a b) x) := by rw [Hid, away_eq hnx, away_eq hf.out]; omega
      have hab := stayB_no hcx
      clear hnx hy2 hgy2 hr hf hcx hc
      by_cases h1 : x = a
      · have e1 : ((x : Int) == (a : Int)) = true := by simp [h1]
        clear hab h1
        go_wp2_with fail
        go_round
        case rel => exact ⟨y2, q, hyn2, rfl, HNX, HR2⟩
        case measure => simpa [intOf] using HAW.out
      · have e1 : ((x : Int) == (a : Int)) = false := by simp; omega
        have e2 : ((x : Int) == (b : Int)) = true := by simp; omega
        clear hab h1
        go_wp2_with fail
        go_round
        case rel => exact ⟨y2, q, hyn2, rfl, HNX, HR2⟩
        case measure => simpa [intOf] using HAW.out

/-- The names of the darts. -/
def nmL (a b n : Nat) : List Int := tab n fun d => (kpN a b d : Int)
def nmP (a b n k : Nat) : List Int := tab n fun d => if d < k then (kpN a b d : Int) else 0
theorem nmP_len (a b n k : Nat) : (nmP a b n k).length = n := tab_len _ _
theorem nmP_zero (a b n : Nat) : List.replicate n 0 = nmP a b n 0 := tab_ext (by simp) fun j hj => by rw [if_neg (by omega), gi_eq (by simpa using hj)]; simp
theorem nmP_all (a b n : Nat) : nmP a b n n = nmL a b n := tab_ext (nmP_len _ _ _ _) fun j hj => by rw [nmP, gi_tab hj, if_pos hj]
theorem nmP_set {a b n k : Nat} (hk : k < n) : (nmP a b n k).set k (kpN a b k : Int) = nmP a b n (k + 1) := by
  refine tab_ext (by simp [nmP_len]) fun j hj => ?_
  rw [gi_set _ _ _ _ (by rw [nmP_len]; exact hk)]
  by_cases h : j = k
  · rw [if_pos h, h, if_pos (by omega)]
  · rw [if_neg h, nmP, gi_tab hj]
    by_cases h1 : j < k
    · rw [if_pos h1, if_pos (by omega)]
    · rw [if_neg h1, if_neg (by omega)]

set_option maxRecDepth 20000 in
set_option maxHeartbeats 3200000 in
theorem l7Leave_any (A A' : Option Addr) (n c c' a b : Nat) (tp f : List Int) (w : World) (h : Rd w A n tp) (h' : Rd w A' n f) (hi : Into tp n) (hi' : Into f n) (hn : n ≤ 12) :
    Calls Try.prog 64 #[.slice A n c, .slice A' n c', .int .i64 a, .int .i64 b] w fun e w' => ∃ u u', e = .returned (.agg #[u, u']) ∧ OwnM w' w.heap.size u u' (outI a b n (gn tp) (kpN a b n)) (outI a b n (gn f) (kpN a b n)) ∧ Below w.heap.size w w' := by
  obtain ⟨i0, hinf, hz0, hz1, hz2⟩ := info_parts info_int
  obtain ⟨W0, hW0, hx, hb, hz⟩ := Box.local_ w 28 (.slice none 0 0) (.slice none 0 0)
  have hwz : w.heap.size < W0.heap.size := by omega
  have HX := Lib.hid hx; have HB := Lib.hid hb; have H := Lib.hid h; have H' := Lib.hid h'; have HI := Lib.hid hi; have HI' := Lib.hid hi'; clear hx hb h h' hi hi' hz
  go_enter Try.func64, Try.ntmps64
  go_wp2_with (at_make; refine wpList_make_full _ rfl _ _ 22 rfl W0.heap.size 3 i0 (.int .i64 0) 1 Try.underlying22 hinf hz0 hz1 .i64 .i64 _ _ n rfl rfl rfl rfl (by rw [hz2]; omega) (by unfold maxLen; omega) (Nat.le_refl _) ?_; intro w1 hown1 hgrow1)
  have HB1 := Lib.hid (below_of_grown hgrow1 (Nat.le_refl _) (fun k hk => by cases hk))
  have HO1 := Lib.hid (Own.made hown1)
  have hg1 := (HO1.out.lt W0.heap.size rfl).2
  clear hown1 hgrow1
  obtain ⟨G, hG⟩ : ∃ G, W0.heap.size = G := ⟨_, rfl⟩
  rw [hG] at HO1 HB1 hg1 hwz ⊢
  have HGG := Lib.hid hG
  clear hG
  go_loopw [10, 11] (fun nv dv wr => ∃ k m : Nat, k ≤ n ∧ dv = .int .i64 k ∧ nv = .int .i64 m ∧ m ≤ k ∧ Hid (kpN a b k = m) ∧ Hid (Own wr w.heap.size (.slice (some ⟨G, 0, none⟩) n n) (nmP a b n k)) ∧ Hid (Below G W0 wr) ∧ Hid (G < wr.heap.size)) (fun _ dv _ => n - (intOf dv).toNat)
  case atStart => exact ⟨0, 0, Nat.zero_le _, rfl, rfl, Nat.le_refl _, rfl, by rw [← nmP_zero]; exact HO1.out.mono (by omega), HB1, hg1⟩
  case round =>
    obtain ⟨k, m, hk, rfl, rfl, hmk, hkm, ho, hb, hsz⟩ := hrel
    clear HO1 HB1
    by_cases hlt : k < n
    · obtain ⟨g1, e1, -, hc3, hf3⟩ := ho.out.cellAt (nmP_len a b n k) hlt
      simp only [Option.some.injEq, Addr.mk.injEq, and_true] at e1
      subst e1
      have hst := ho.out.stored (nmP_len a b n k) k (m : Int)
      rw [← hkm.out, nmP_set hlt, hkm.out] at hst
      have HST := Lib.hid hst
      clear hst
      by_cases h1 : k = a
      · have e1 : ((k : Int) != (a : Int)) = false := by simp [h1]
        have HK : Hid (kpN a b (k + 1) = m) := by rw [Hid, kpN, hkm.out, if_neg (by rw [h1]; simp [stayB]), Nat.add_zero]
        clear h1
        go_wp2_with fail
        go_roundw
        case rel => exact ⟨k + 1, m, by omega, by go_num, rfl, by omega, HK, HST.out.1, hb.out.setCell (Nat.le_refl _) _, by have := HST.out.2.size; have := hsz.out; rw [Hid]; omega⟩
        case measure => simp [intOf]; omega
      · by_cases h2 : k = b
        · have e1 : ((k : Int) != (a : Int)) = true := by simp; omega
          have e2 : ((k : Int) != (b : Int)) = false := by simp [h2]
          have HK : Hid (kpN a b (k + 1) = m) := by rw [Hid, kpN, hkm.out, if_neg (by rw [h2]; simp [stayB]), Nat.add_zero]
          clear h1 h2
          go_wp2_with fail
          go_roundw
          case rel => exact ⟨k + 1, m, by omega, by go_num, rfl, by omega, HK, HST.out.1, hb.out.setCell (Nat.le_refl _) _, by have := HST.out.2.size; have := hsz.out; rw [Hid]; omega⟩
          case measure => simp [intOf]; omega
        · have e1 : ((k : Int) != (a : Int)) = true := by simp; omega
          have e2 : ((k : Int) != (b : Int)) = true := by simp; omega
          have HK : Hid (kpN a b (k + 1) = m + 1) := by rw [Hid, kpN, hkm.out, if_pos (stayB_true h1 h2)]
          clear h1 h2
          go_wp2_with fail
          go_roundw
          case rel => exact ⟨k + 1, m + 1, by omega, by go_num, by go_num, by omega, HK, HST.out.1, hb.out.setCell (Nat.le_refl _) _, by have := HST.out.2.size; have := hsz.out; rw [Hid]; omega⟩
          case measure => simp [intOf]; omega
    · have hkn : k = n := by omega
      have HNM : Hid (Own wr w.heap.size (.slice (some ⟨G, 0, none⟩) n n) (nmL a b n)) := by have := ho.out; rwa [hkn, nmP_all] at this
      clear hkn ho hkm
      obtain ⟨w2, hw2⟩ : ∃ w2 : World, w2 = wr := ⟨_, rfl⟩
      subst hw2
      obtain ⟨E0, hE0⟩ : ∃ E0, w2.heap.size = E0 := ⟨_, rfl⟩
      obtain ⟨S, hS⟩ : ∃ S, E0 + 1 + 1 = S := ⟨_, rfl⟩
      obtain ⟨W6, hW6⟩ : ∃ W6, ((w2.alloc (.cells #[] 3)).alloc (.cells #[] 3)).alloc (.cells #[.slice (some ⟨E0, 0, none⟩) 0 0, .slice (some ⟨E0 + 1, 0, none⟩) 0 0] 28) = W6 := ⟨_, rfl⟩
      have ha1 : Below w2.heap.size w2 (w2.alloc (.cells #[] 3)) := (Below.refl _ _).alloc (Nat.le_refl _) _
      have hoa : Own (w2.alloc (.cells #[] 3)) E0 (.slice (some ⟨E0, 0, none⟩) 0 0) [] := by rw [← hE0]; exact Own.empty (Nat.le_refl _)
      have hob : Own ((w2.alloc (.cells #[] 3)).alloc (.cells #[] 3)) E0 (.slice (some ⟨E0 + 1, 0, none⟩) 0 0) [] := by
        have h1 := Own.empty (w := w2.alloc (.cells #[] 3)) (lo := E0) (by rw [World.size_alloc]; omega)
        rw [World.size_alloc, hE0] at h1; exact h1
      have HOA6 : Hid (Own W6 E0 (.slice (some ⟨E0, 0, none⟩) 0 0) []) := by
        rw [← hW6]; exact (hoa.below ((Below.refl _ _).alloc (Nat.le_refl _) _)).below ((Below.refl _ _).alloc (Nat.le_refl _) _)
      have HOB6 : Hid (Own W6 E0 (.slice (some ⟨E0 + 1, 0, none⟩) 0 0) []) := by
        rw [← hW6]; exact hob.below ((Below.refl _ _).alloc (Nat.le_refl _) _)
      have HBX6 : Hid (Box W6 S 28 (.slice (some ⟨E0, 0, none⟩) 0 0) (.slice (some ⟨E0 + 1, 0, none⟩) 0 0)) := by
        have := Box.new ((w2.alloc (.cells #[] 3)).alloc (.cells #[] 3)) 28 (.slice (some ⟨E0, 0, none⟩) 0 0) (.slice (some ⟨E0 + 1, 0, none⟩) 0 0)
        rw [World.size_alloc, World.size_alloc, hE0, hS, hW6] at this
        exact this
      have HB6 : Hid (Below E0 w2 W6) := by
        rw [← hW6, ← hE0]; exact (((Below.refl _ _).alloc (Nat.le_refl _) _).alloc (by simp) _).alloc (by simp; omega) _
      have hz6 : W6.heap.size = S + 1 := by rw [← hW6, World.size_alloc, World.size_alloc, World.size_alloc, hE0, hS]
      have HZ6 := Lib.hid hz6
      have hGE : G < E0 := by have := hsz.out; omega
      have hSW : S < W6.heap.size := by omega
      have hES : E0 + 1 < S := by omega
      have HE0 := Lib.hid hE0; have HS := Lib.hid hS
      clear hz6 hoa hob ha1
      go_wp2_with fail
      clear hE0 hS hW6
      go_loopw [13] (fun dv wz => ∃ k m g cg g' cg' : Nat, k ≤ n ∧ m ≤ k ∧ dv = .int .i64 k ∧ g ≠ g' ∧ (g = E0 ∨ S < g) ∧ (g' = E0 + 1 ∨ S < g') ∧ Hid (kpN a b k = m) ∧ Hid (Box wz S 28 (.slice (some ⟨g, 0, none⟩) m cg) (.slice (some ⟨g', 0, none⟩) m cg')) ∧ Hid (Own wz E0 (.slice (some ⟨g, 0, none⟩) m cg) (outI a b n (gn tp) m)) ∧ Hid (Own wz E0 (.slice (some ⟨g', 0, none⟩) m cg') (outI a b n (gn f) m)) ∧ Hid (Below E0 w2 wz) ∧ Hid (S < wz.heap.size)) (fun dv _ => n - (intOf dv).toNat)
      case atStart => exact ⟨0, 0, E0, 0, E0 + 1, 0, Nat.zero_le _, Nat.le_refl _, rfl, by omega, .inl rfl, .inl rfl, rfl, HBX6, HOA6, HOB6, HB6, hSW⟩
      case round =>
        obtain ⟨k, m, g, cg, g', cg', hk, hmk, rfl, hgg, hg0, hg0', hkm, hv, hoa, hob, hb2, hs2⟩ := hrel
        have HBR : Hid (Below w.heap.size w wr) := (HB.out.trans (hb.out.mono (by omega))).trans (hb2.out.mono (by omega))
        have hSr : S < wr.heap.size := hs2.out
        have hgl := (hoa.out.lt g rfl).2
        have hgl' := (hob.out.lt g' rfl).2
        by_cases hlt : k < n
        · by_cases h1 : k = a
          · have e1 : ((k : Int) != (a : Int)) = false := by simp [h1]
            have HK : Hid (kpN a b (k + 1) = m) := by rw [Hid, kpN, hkm.out, if_neg (by rw [h1]; simp [stayB]), Nat.add_zero]
            clear h1
            go_wp2_with fail
            go_roundw
            case rel => exact ⟨k + 1, m, g, cg, g', cg', by omega, by omega, by go_num, hgg, hg0, hg0', HK, hv, hoa, hob, hb2, hs2⟩
            case measure => simp [intOf]; omega
          · by_cases h2 : k = b
            · have e1 : ((k : Int) != (a : Int)) = true := by simp; omega
              have e2 : ((k : Int) != (b : Int)) = false := by simp [h2]
              have HK : Hid (kpN a b (k + 1) = m) := by rw [Hid, kpN, hkm.out, if_neg (by rw [h2]; simp [stayB]), Nat.add_zero]
              clear h1 h2
              go_wp2_with fail
              go_roundw
              case rel => exact ⟨k + 1, m, g, cg, g', cg', by omega, by omega, by go_num, hgg, hg0, hg0', HK, hv, hoa, hob, hb2, hs2⟩
              case measure => simp [intOf]; omega
            · have e1 : ((k : Int) != (a : Int)) = true := by simp; omega
              have e2 : ((k : Int) != (b : Int)) = true := by simp; omega
              have hst := stayB_true h1 h2
              have HK : Hid (kpN a b (k + 1) = m + 1) := by rw [Hid, kpN, hkm.out, if_pos hst]
              obtain ⟨x, hx, hxn, hgx⟩ := HI.out.nat (j := k) (by rw [H.out.1]; exact hlt)
              obtain ⟨z, hz, hzn, hgz⟩ := HI'.out.nat (j := k) (by rw [H'.out.1]; exact hlt)
              obtain ⟨y, hy⟩ : ∃ y, kpN a b x = y := ⟨_, rfl⟩
              obtain ⟨y', hy'⟩ : ∃ y', kpN a b z = y' := ⟨_, rfl⟩
              have HOT : Hid (outI a b n (gn tp) (m + 1) = outI a b n (gn tp) m ++ [(y : Int)]) := by
                have := outI_succ (gn tp) hst hlt; rw [hkm.out, hgx, hy] at this; exact this
              have HOF : Hid (outI a b n (gn f) (m + 1) = outI a b n (gn f) m ++ [(y' : Int)]) := by
                have := outI_succ (gn f) hst hlt; rw [hkm.out, hgz, hy'] at this; exact this
              obtain ⟨ad, hAd, hct⟩ := (H.out.below HBR.out).at_ hlt
              obtain ⟨ad', hAd', hcf⟩ := (H'.out.below HBR.out).at_ hlt
              rw [hx] at hct
              rw [hz] at hcf
              have hnm : Own wr w.heap.size (.slice (some ⟨G, 0, none⟩) n n) (nmL a b n) := HNM.out.of_block (fun q hq => by have hq' : (some G : Option Nat) = some q := hq; injection hq' with hq'; exact hb2.out.block q (by omega))
              have HNR := Lib.hid hnm
              obtain ⟨g1, q1, -, hcx, -⟩ := hnm.cellAt (tab_len _ _) hxn
              simp only [Option.some.injEq, Addr.mk.injEq, and_true] at q1
              subst q1
              obtain ⟨g1, q1, -, hcz, -⟩ := hnm.cellAt (tab_len _ _) hzn
              simp only [Option.some.injEq, Addr.mk.injEq, and_true] at q1
              subst q1
              rw [nmL, gi_tab hxn, hy] at hcx
              rw [nmL, gi_tab hzn, hy'] at hcz
              have HOA := hoa.out.asRow (outI_len a b n (gn tp) m)
              have HNW := Lib.hid (cell_one_new wr (.int .i64 (y : Int)) 3)
              have HNE1 : Hid (g ≠ S) := by rw [Hid]; omega
              have HGE1 : Hid (E0 ≤ g) := by rw [Hid]; omega
              have HNE2 : Hid (g' ≠ S) := by rw [Hid]; omega
              have HGE2 : Hid (E0 ≤ g') := by rw [Hid]; omega
              have cv := hv.out.cell0
              have cva : (wr.alloc (.cells #[.int .i64 (y : Int)] 3)).cell? ⟨S, 0, none⟩ = some (.slice (some ⟨g, 0, none⟩) m cg) := (hv.out.below ((Below.refl _ _).alloc (Nat.le_refl _) _)).cell0
              have hk0 : (0 : Int) ≤ (k : Int) := by omega
              have hkn : (k : Int) < (n : Int) := by omega
              have hx0 : (0 : Int) ≤ (x : Int) := by omega
              have hxI : (x : Int) < (n : Int) := by omega
              have HZG := Lib.hid hz; have HYZ := Lib.hid hy'
              have hm12 : m ≤ 12 := by omega
              subst hAd
              clear hst h1 h2 hx hgx hz hgz hy hy' hnm hcf hcz hAd'
              go_wp2_with fail
              go_region_law (refine step_append_lies (o := ⟨some 64, _, _, _, _, _⟩) (hgd := rfl) (s := .tmp 55) (x := .tmp 63) (t := 22) (ho := rfl) (base := E0) (e := 3) (i := i0) (z := .int .i64 0) (size := 1) (bytes := 8) (ht := Try.underlying22) (hi := hinf) (hz := hz0) (hsize := hz1) (hby := hz2) (hzs := rfl) (hsz := by decide) (v := .slice (some ⟨g, 0, none⟩) m cg) (n := m) (xs := ints (outI a b n (gn tp) m)) (hs := by simp [Act.eval]) (hown := World.ownsRow.alloc HOA.out _) (ad := ⟨wr.heap.size, 0, none⟩) (m := 1) (c := 1) (news := [.int .i64 (y : Int)]) (hx := by simp [Act.eval]) (hl := rfl) (hnews := HNW.out) (h1 := by intro u hu; simp at hu; subst hu; rfl) (hm := by omega) (h63 := by unfold maxLen; omega) (hbytes := by omega) (hbase := by simp; omega) (H := wr.heap.size + 1) (hH := by simp) (h := ?_); intro g3 c3 w7 hown7 hgrow7 hat7 hlt7; have HN7 := Lib.hid hown7; have HG7 := Lib.hid hgrow7; have HAT7 := Lib.hid hat7; clear hown7 hgrow7 hat7; have hta := app_fld (lo := E0) 0 (.slice (some ⟨g3, 0, none⟩) (m + 1) c3) hv.out (by first | exact (Below.refl _ _).alloc (Nat.le_refl _) _ | exact below_drewN ((Below.refl _ _).alloc (Nat.le_refl _) _) 1 | exact below_drewN ((Below.refl _ _).alloc (Nat.le_refl _) _) _) HG7.out HNE1.out HGE1.out (by omega) (by omega); have HV7 := Lib.hid hta.1; have KM := Lib.hid hta.2; clear hta; have f7 := HV7.out.frozen 0; have c7 := HV7.out.cell0; have KB := Lib.hid (set_row2 (j := 0) (u := .slice (some ⟨g3, 0, none⟩) (m + 1) c3) HV7.out))
              all_goals
                obtain ⟨k1, k2, k3⟩ := KM.out
                have kb := KB.out
                have ho7 : Own w7 E0 (.slice (some ⟨g3, 0, none⟩) (m + 1) c3) (outI a b n (gn tp) (m + 1)) := by
                  rw [HOT.out]; unfold Own; rw [List.length_append, outI_len]
                  have := HN7.out
                  unfold ints at this ⊢
                  rw [List.map_append]
                  exact this
                have hg3 : g3 = g ∨ g3 = wr.heap.size + 1 := by
                  rcases HAT7.out with e | e
                  · exact .inl (by have e' : (some g : Option Nat) = some g3 := e; injection e' with e'; exact e'.symm)
                  · exact .inr e
                have ho7s := ho7.grown (grown_set w7 S 0 (.slice (some ⟨g3, 0, none⟩) (m + 1) c3)) (.inr (fun e => by have e' : (some g3 : Option Nat) = some S := e; injection e' with e'; omega))
                have hl7 := (ho7s.lt g3 rfl).2
                obtain ⟨wq, hwq⟩ : ∃ wq, w7.setCell ⟨S, 0, none⟩ (.slice (some ⟨g3, 0, none⟩) (m + 1) c3) = wq := ⟨_, rfl⟩
                rw [hwq] at k1 k2 k3 kb ho7s hl7
                have HVQ : Hid (Box wq S 28 (.slice (some ⟨g3, 0, none⟩) (m + 1) c3) (.slice (some ⟨g', 0, none⟩) m cg')) := by rw [Hid]; unfold Box; rw [kb]; rfl
                have HOAQ := Lib.hid ho7s
                have hobq := hob.out.of_block (w' := wq) (fun q hq => by have e' : (some g' : Option Nat) = some q := hq; injection e' with e'; exact k1 q (by omega) (by omega) (by omega))
                have HOBQ := Lib.hid hobq
                have HOB := hobq.asRow (outI_len a b n (gn f) m)
                have HB2Q := Lib.hid (hb2.out.trans k2)
                have HBRQ : Hid (Below w.heap.size w wq) := HBR.out.trans (k2.mono (by omega))
                have HG3 := Lib.hid hg3
                have hgl2 : g' < wq.heap.size := by omega
                obtain ⟨ad2, hA2, hcf⟩ := (H'.out.below HBRQ.out).at_ hlt
                rw [HZG.out] at hcf
                subst hA2
                have hnq : Own wq w.heap.size (.slice (some ⟨G, 0, none⟩) n n) (nmL a b n) := HNR.out.of_block (fun q hq => by have hq' : (some G : Option Nat) = some q := hq; injection hq' with hq'; exact k1 q (by omega) (by omega) (by omega))
                obtain ⟨g1, q1, -, hcz, -⟩ := hnq.cellAt (tab_len _ _) hzn
                simp only [Option.some.injEq, Addr.mk.injEq, and_true] at q1
                subst q1
                rw [nmL, gi_tab hzn, HYZ.out] at hcz
                have HNW2 := Lib.hid (cell_one_new wq (.int .i64 (y' : Int)) 3)
                have dv := HVQ.out.cell1
                have dva : (wq.alloc (.cells #[.int .i64 (y' : Int)] 3)).cell? ⟨S, 1, none⟩ = some (.slice (some ⟨g', 0, none⟩) m cg') := (HVQ.out.below ((Below.refl _ _).alloc (Nat.le_refl _) _)).cell1
                have hz0' : (0 : Int) ≤ (z : Int) := by omega
                have hzI : (z : Int) < (n : Int) := by omega
                have HK1 := Lib.hid k1
                go_simp
                try rw [hwq]
                clear hwq k1 k2 kb ho7 ho7s hg3 hobq hnq cv cva c7 f7 hct hcx KM KB HV7 HN7 HG7 HAT7
                go_wp2_with fail
                go_region_law (refine step_append_lies (o := ⟨some 76, _, _, _, _, _⟩) (hgd := rfl) (s := .tmp 67) (x := .tmp 75) (t := 22) (ho := rfl) (base := E0) (e := 3) (i := i0) (z := .int .i64 0) (size := 1) (bytes := 8) (ht := Try.underlying22) (hi := hinf) (hz := hz0) (hsize := hz1) (hby := hz2) (hzs := rfl) (hsz := by decide) (v := .slice (some ⟨g', 0, none⟩) m cg') (n := m) (xs := ints (outI a b n (gn f) m)) (hs := by simp [Act.eval]) (hown := World.ownsRow.alloc HOB.out _) (ad := ⟨wq.heap.size, 0, none⟩) (m := 1) (c := 1) (news := [.int .i64 (y' : Int)]) (hx := by simp [Act.eval]) (hl := rfl) (hnews := HNW2.out) (h1 := by intro u hu; simp at hu; subst hu; rfl) (hm := by omega) (h63 := by unfold maxLen; omega) (hbytes := by omega) (hbase := by simp; omega) (H := wq.heap.size + 1) (hH := by simp) (h := ?_); intro g4 c4 w8 hown8 hgrow8 hat8 hlt8; have HN8 := Lib.hid hown8; have HG8 := Lib.hid hgrow8; have HAT8 := Lib.hid hat8; clear hown8 hgrow8 hat8; have hta := app_fld (lo := E0) 1 (.slice (some ⟨g4, 0, none⟩) (m + 1) c4) HVQ.out (by first | exact (Below.refl _ _).alloc (Nat.le_refl _) _ | exact below_drewN ((Below.refl _ _).alloc (Nat.le_refl _) _) 1 | exact below_drewN ((Below.refl _ _).alloc (Nat.le_refl _) _) _) HG8.out HNE2.out HGE2.out (by omega) (by omega); have HV8 := Lib.hid hta.1; have KM2 := Lib.hid hta.2; clear hta; have f8 := HV8.out.frozen 1; have c8 := HV8.out.cell1; have KB2 := Lib.hid (set_row2 (j := 1) (u := .slice (some ⟨g4, 0, none⟩) (m + 1) c4) HV8.out))
                all_goals
                  obtain ⟨l1, l2, l3⟩ := KM2.out
                  have kb2 := KB2.out
                  have ho8 : Own w8 E0 (.slice (some ⟨g4, 0, none⟩) (m + 1) c4) (outI a b n (gn f) (m + 1)) := by
                    rw [HOF.out]; unfold Own; rw [List.length_append, outI_len]
                    have := HN8.out
                    unfold ints at this ⊢
                    rw [List.map_append]
                    exact this
                  have hg4 : g4 = g' ∨ g4 = wq.heap.size + 1 := by
                    rcases HAT8.out with e | e
                    · exact .inl (by have e' : (some g' : Option Nat) = some g4 := e; injection e' with e'; exact e'.symm)
                    · exact .inr e
                  have ho8s := ho8.grown (grown_set w8 S 1 (.slice (some ⟨g4, 0, none⟩) (m + 1) c4)) (.inr (fun e => by have e' : (some g4 : Option Nat) = some S := e; injection e' with e'; omega))
                  obtain ⟨wX, hwX⟩ : ∃ wX, w8.setCell ⟨S, 1, none⟩ (.slice (some ⟨g4, 0, none⟩) (m + 1) c4) = wX := ⟨_, rfl⟩
                  rw [hwX] at l1 l2 l3 kb2 ho8s
                  have hg3 := HG3.out
                  have HVX : Hid (Box wX S 28 (.slice (some ⟨g3, 0, none⟩) (m + 1) c3) (.slice (some ⟨g4, 0, none⟩) (m + 1) c4)) := by rw [Hid]; unfold Box; rw [kb2]; rfl
                  have HOAX := Lib.hid (HOAQ.out.of_block (w' := wX) (fun q hq => by have e' : (some g3 : Option Nat) = some q := hq; injection e' with e'; exact l1 q (by omega) (by omega) (by omega)))
                  have HOBX := Lib.hid ho8s
                  have HB2X := Lib.hid (HB2Q.out.trans l2)
                  have HR1 : Hid (g3 ≠ g4 ∧ (g3 = E0 ∨ S < g3) ∧ (g4 = E0 + 1 ∨ S < g4) ∧ S < wX.heap.size) := by
                    refine ⟨by omega, by omega, by omega, by omega⟩
                  go_simp
                  try rw [hwX]
                  clear hwX l1 l2 kb2 ho8 ho8s hg4 hg3 dv dva c8 f8 hcf hcz KM2 KB2 HV8 HN8 HG8 HAT8
                  go_wp2
                  go_roundw
                  case rel => exact ⟨k + 1, m + 1, g3, c3, g4, c4, by omega, by omega, by go_num, HR1.out.1, HR1.out.2.1, HR1.out.2.2.1, HK, HVX, HOAX, HOBX, HB2X, HR1.out.2.2.2⟩
                  case measure => simp [intOf]; omega
        · have hkn : k = n := by omega
          have hmn : kpN a b n = m := by rw [← hkn]; exact hkm.out
          have HMN := Lib.hid hmn
          have cv0 := hv.out.cell0
          have cv1 := hv.out.cell1
          have hy : Box wr w.heap.size 28 (.slice none 0 0) (.slice none 0 0) := (hb2.out.block _ (by omega)).trans ((hb.out.block _ (by omega)).trans HX.out)
          have e0 := hy.cell0
          have e1 := hy.cell1
          have e2 := hy.frozen 0
          have e3 := hy.frozen 1
          obtain ⟨hq1, hq2⟩ := hy.store2 (.slice (some ⟨g, 0, none⟩) m cg) (.slice (some ⟨g', 0, none⟩) m cg')
          have k0 := hq1.cell0
          have k1 := hq1.cell1
          have HD := Lib.hid (pair_done (u := .slice (some ⟨g, 0, none⟩) m cg) (u' := .slice (some ⟨g', 0, none⟩) m cg') (lo := E0) hoa.out hob.out (fun q hq hq' => by
            have a1 : (some g : Option Nat) = some q := hq
            have a2 : (some g' : Option Nat) = some q := hq'
            injection a1 with a1
            injection a2 with a2
            omega) HBR.out hq2 (by omega) (by omega))
          clear hq1 hq2 hkn hmn
          go_wp2_with fail
          exact bodyPost_ret (v := .agg #[.slice (some ⟨g, 0, none⟩) m cg, .slice (some ⟨g', 0, none⟩) m cg']) (by simp [results, Try.results64, go_sem, k0, k1]) rfl ⟨_, _, rfl, by rw [HMN.out]; exact HD.out.1, HD.out.2⟩

end Go.Proofs.Ytpaohaodnchfkaa

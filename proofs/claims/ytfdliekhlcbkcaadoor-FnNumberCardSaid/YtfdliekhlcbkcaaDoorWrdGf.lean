/-
  Plain: a word with two sides is a gluing: its corners, its turn.
-/
import Derived.Test.YtfdliekhlcbkcaaDoorWrdNm
import Derived.Test.YtfdliekhlcbkcaaDoorWrdG
import Derived.Test.YtfdliekhlcbkcaaDoorGlM
import Derived.Test.YtfdliekhlcbkcaaDoorGenus
namespace Go.Proofs.YtfdliekhlcbkcaaDoor

theorem parL_isG {l : List UInt8} (h : Word l) : IsG (parL l) := by
  have hl := h.len
  refine ⟨by rw [parL_len]; exact hl.1, by rw [parL_len]; exact hl.2.1, fun i hi => ?_⟩
  rw [parL_len] at hi ⊢
  have hp := h.isPar hi
  have e : gi (parL l) i = (par l i : Int) := gi_tab hi
  have e2 : gn (parL l) i = par l i := gn_of e
  have e3 : gi (parL l) (par l i) = (par l (par l i) : Int) := gi_tab hp.lt
  rw [e2, e3, e, h.par2 hi]
  have := hp.lt
  have := hp.ne
  omega
theorem corL_piL {l : List UInt8} (h : Word l) : corL (parL l) = piL l := by
  have hi : IsG (parL l) := parL_isG h
  refine tab_ext (by rw [corL_len, parL_len]) fun x hx => ?_
  have e : gi (parL l) x = (par l x : Int) := gi_tab hx
  have hp := (h.isPar hx).lt
  have e2 : gn (parL l) x = par l x := gn_of e
  rw [corL, gi_mulL (by rw [parL_len]; exact hx), e2, parL_len, gi_folL hp]
  rfl
theorem sided_ncor {l : List UInt8} (h : Sided l) : ncor (parL l) = corN l := by
  rw [ncor, corL_piL h.w, h.cor_eq]
theorem parL_turn {l : List UInt8} (h : Word l) : turnG (parL (turnW l)) = parL l := by
  have hl := turnW_len l
  refine (turnG_eq (parL_isG h.turn) (by rw [parL_len, parL_len, hl]) fun i hi => ?_).symm
  rw [parL_len, hl] at hi ⊢
  have e : gi (parL (turnW l)) i = (par (turnW l) i : Int) := gi_tab (by rw [hl]; exact hi)
  have hr : (i + 1) % l.length < l.length := Nat.mod_lt _ h.pos
  rw [gn_of e]
  have e3 : gi (parL l) ((i + 1) % l.length) = (par l ((i + 1) % l.length) : Int) := gi_tab hr
  rw [e3]
  have h1 := h.par_turn hr
  have h2 : unR l.length ((i + 1) % l.length) = i := unR_rot hi
  rw [h2] at h1
  have h3 := rot_unR ((h.isPar hr).lt)
  rw [← h1] at h3
  rw [show (par (turnW l) i + 1) % l.length = rotN l.length (par (turnW l) i) from rfl, h3]
theorem sided_turnB {l : List UInt8} (h : sidedB l = true) : sidedB (turnW l) = true := (wordB_iff.1 (sidedB_all h).1).sided_turn.trans h
theorem word_genus {l : List UInt8} (h : sidedB l = true) : ∃ g : Nat, numN l = 2 - 2 * (g : Int) ∧ ggen (parL l) = (g : Int) ∧ genusR (corL (parL l)) (parL l) = (g : Int) := by
  have hs := sided_of_B h
  have hw := hs.w
  have hl := hw.len
  have hc := hw.cor_le
  have he := hs.even
  have hI := parL_isG hw
  refine ⟨(l.length / 2 + 1 - corN l) / 2, ?_, ?_, ?_⟩
  · unfold numN; omega
  · rw [ggen, sided_ncor hs, parL_len]
    rw [show (((l.length / 2 : Nat) : Int) + 1 - (corN l : Int)) = ((l.length / 2 + 1 - corN l : Nat) : Int) by omega]
    rfl
  · have h1 : cntV (corL (parL l)) = ncor (parL l) := rfl
    rw [genusR, if_pos (mapV_iff.2 hI.isMap), genusOf, gmap_cntF hI, h1, cntE, sided_ncor hs, parL_len]
    rw [show (((l.length / 2 + 1 - corN l) / 2 : Nat) : Int) = (((l.length / 2 + 1 - corN l : Nat) : Int)).tdiv 2 from rfl]
    congr 1
    omega

end Go.Proofs.YtfdliekhlcbkcaaDoor

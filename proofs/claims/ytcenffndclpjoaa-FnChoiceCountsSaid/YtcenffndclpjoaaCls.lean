/-
  Plain: classes of points that are led to each other; what an exchange of two values makes of them.
-/
import Derived.Test.YtcenffndclpjoaaOrb
namespace Go.Proofs.Ytcenffndclpjoaa

theorem itf_add (f : Nat → Nat) (i : Nat) : ∀ (d x : Nat), itf f (i + d) x = itf f i (itf f d x) := by
  intro d x
  induction i with
  | zero => rw [Nat.zero_add]; rfl
  | succ i ih => rw [show i + 1 + d = (i + d) + 1 by omega, itf, itf, ih]
theorem Prm.itf_lt {n : Nat} {f : Nat → Nat} (h : Prm n f) {x : Nat} (hx : x < n) : ∀ k, itf f k x < n
  | 0 => hx
  | k + 1 => h.lt _ (h.itf_lt hx k)
theorem itf_cancel {n : Nat} {f : Nat → Nat} (h : Prm n f) {x d : Nat} (hx : x < n) : ∀ i, itf f (i + d) x = itf f i x → itf f d x = x
  | 0, e => by rw [Nat.zero_add] at e; exact e
  | i + 1, e => by
    rw [show i + 1 + d = (i + d) + 1 by omega, itf, itf] at e
    exact itf_cancel h hx i (h.inj _ _ (h.itf_lt hx _) (h.itf_lt hx _) e)
theorem itf_round {n : Nat} {f : Nat → Nat} (h : Prm n f) {x : Nat} (hx : x < n) : ∃ k, itf f (k + 1) x = x := by
  have key : ∃ i j, i < j ∧ itf f j x = itf f i x := by
    by_cases hd : ∀ j, j < n → ∀ i, i < j → itf f i x ≠ itf f j x
    · obtain ⟨i, hi, e⟩ := pigeon n (fun i => itf f i x) (fun i _ => h.itf_lt hx i) hd (itf f n x) (h.itf_lt hx n)
      exact ⟨i, n, hi, e.symm⟩
    · apply Classical.byContradiction
      intro hno
      exact hd fun j _ i hij e => hno ⟨i, j, hij, e.symm⟩
  obtain ⟨i, j, hij, e⟩ := key
  refine ⟨j - i - 1, ?_⟩
  rw [show j - i - 1 + 1 = j - i by omega]
  exact itf_cancel h hx i (by rw [show i + (j - i) = j by omega]; exact e)

/-! ### Classes -/
structure Eqv (n : Nat) (R : Nat → Nat → Prop) : Prop where
  refl : ∀ x, x < n → R x x
  symm : ∀ x y, x < n → y < n → R x y → R y x
  trans : ∀ x y z, x < n → y < n → z < n → R x y → R y z → R x z
noncomputable def cls (n : Nat) (R : Nat → Nat → Prop) : Nat := sm n fun x => ch (∀ y, y < n → R x y → x ≤ y)
def Mer (R : Nat → Nat → Prop) (a b x y : Nat) : Prop := R x y ∨ (R x a ∧ R b y) ∨ (R x b ∧ R a y)
theorem ch_imp {P Q : Prop} (h : P → Q) : ch P ≤ ch Q := by
  by_cases p : P
  · rw [ch_true p, ch_true (h p)]; exact Nat.le_refl _
  · rw [ch_false p]; exact Nat.zero_le _
theorem cls_mono {n : Nat} {R R' : Nat → Nat → Prop} (h : ∀ x y, x < n → y < n → R x y → R' x y) : cls n R' ≤ cls n R :=
  sm_le n fun x hx => ch_imp fun hm y hy hr => hm y hy (h x y hx hy hr)
section
variable {n : Nat} {R : Nat → Nat → Prop} {a b : Nat}
theorem Eqv.least (h : Eqv n R) (ha : a < n) : ∃ m, m < n ∧ R a m ∧ ∀ y, y < n → R a y → m ≤ y := by
  have : ∀ k, k ≤ n → (∃ y, y < k ∧ R a y) → ∃ m, m < n ∧ R a m ∧ ∀ y, y < n → R a y → m ≤ y := by
    intro k
    induction k with
    | zero => intro _ ⟨y, hy, _⟩; omega
    | succ k ih =>
      intro hk ⟨y, hy, hr⟩
      by_cases hex : ∃ y, y < k ∧ R a y
      · exact ih (by omega) hex
      · refine ⟨y, by omega, hr, fun z _ hz => ?_⟩
        by_cases hzk : z < k
        · exact absurd ⟨z, hzk, hz⟩ hex
        · by_cases hyk : y < k
          · exact absurd ⟨y, hyk, hr⟩ hex
          · omega
  exact this n (Nat.le_refl _) ⟨a, ha, h.refl a ha⟩
theorem Eqv.mer (h : Eqv n R) (ha : a < n) (hb : b < n) : Eqv n (Mer R a b) := by
  refine ⟨fun x hx => .inl (h.refl x hx), fun x y hx hy hr => ?_, fun x y z hx hy hz h1 h2 => ?_⟩
  · rcases hr with hr | ⟨h1, h2⟩ | ⟨h1, h2⟩
    · exact .inl (h.symm x y hx hy hr)
    · exact .inr (.inr ⟨h.symm b y hb hy h2, h.symm x a hx ha h1⟩)
    · exact .inr (.inl ⟨h.symm a y ha hy h2, h.symm x b hx hb h1⟩)
  · rcases h1 with h1 | ⟨p, q⟩ | ⟨p, q⟩ <;> rcases h2 with h2 | ⟨r, s⟩ | ⟨r, s⟩
    · exact .inl (h.trans x y z hx hy hz h1 h2)
    · exact .inr (.inl ⟨h.trans x y a hx hy ha h1 r, s⟩)
    · exact .inr (.inr ⟨h.trans x y b hx hy hb h1 r, s⟩)
    · exact .inr (.inl ⟨p, h.trans b y z hb hy hz q h2⟩)
    · exact .inr (.inl ⟨p, s⟩)
    · exact .inl (h.trans x a z hx ha hz p s)
    · exact .inr (.inr ⟨p, h.trans a y z ha hy hz q h2⟩)
    · exact .inl (h.trans x b z hx hb hz p s)
    · exact .inr (.inr ⟨p, s⟩)
theorem cls_mer_ge (h : Eqv n R) (ha : a < n) (hb : b < n) : cls n R ≤ cls n (Mer R a b) + 1 := by
  obtain ⟨ma, hma, ra, la⟩ := h.least ha
  obtain ⟨mb, hmb, rb, lb⟩ := h.least hb
  have h1 : cls n R ≤ sm n fun x => ch (∀ y, y < n → Mer R a b x y → x ≤ y) + ch (x = max ma mb) := sm_le n fun x hx => by
    by_cases hR : ∀ y, y < n → R x y → x ≤ y
    · by_cases hM : ∀ y, y < n → Mer R a b x y → x ≤ y
      · rw [ch_true hM]; have := ch_le (∀ y, y < n → R x y → x ≤ y); omega
      · have hxm : x = max ma mb := by
          apply Classical.byContradiction
          intro hne
          apply hM
          intro y hy hm
          rcases hm with hm | ⟨p, q⟩ | ⟨p, q⟩
          · exact hR y hy hm
          · have e1 : x ≤ ma := hR ma hma (h.trans x a ma hx ha hma p ra)
            have e2 : ma ≤ x := la x hx (h.symm x a hx ha p)
            have e3 := lb y hy q
            omega
          · have e1 : x ≤ mb := hR mb hmb (h.trans x b mb hx hb hmb p rb)
            have e2 : mb ≤ x := lb x hx (h.symm x b hx hb p)
            have e3 := la y hy q
            omega
        rw [ch_true hxm]; have := ch_le (∀ y, y < n → R x y → x ≤ y); omega
    · rw [ch_false hR]; exact Nat.zero_le _
  rw [sm_add] at h1
  have h2 : (sm n fun x => ch (x = max ma mb)) = 1 := by
    rw [sm_one (i0 := max ma mb) n (by omega) (fun k _ hne => ch_false hne), ch_true rfl]
  have h3 : (sm n fun x => ch (∀ y, y < n → Mer R a b x y → x ≤ y)) = cls n (Mer R a b) := rfl
  omega
theorem cls_mer_lt (h : Eqv n R) (ha : a < n) (hb : b < n) (hab : ¬ R a b) : cls n (Mer R a b) + 1 ≤ cls n R := by
  obtain ⟨ma, hma, ra, la⟩ := h.least ha
  obtain ⟨mb, hmb, rb, lb⟩ := h.least hb
  have hne : ma ≠ mb := fun e => hab (h.trans a ma b ha hma hb ra (by rw [e]; exact h.symm b mb hb hmb rb))
  have h1 : (sm n fun x => ch (∀ y, y < n → Mer R a b x y → x ≤ y) + ch (x = max ma mb)) ≤ cls n R := sm_le n fun x hx => by
    by_cases hxm : x = max ma mb
    · have hM : ¬ ∀ y, y < n → Mer R a b x y → x ≤ y := fun hall => by
        by_cases hlt : ma < mb
        · have hx2 : x = mb := by omega
          have := hall ma hma (.inr (.inr ⟨by rw [hx2]; exact h.symm b mb hb hmb rb, ra⟩))
          omega
        · have hx2 : x = ma := by omega
          have := hall mb hmb (.inr (.inl ⟨by rw [hx2]; exact h.symm a ma ha hma ra, rb⟩))
          omega
      have hR : ∀ y, y < n → R x y → x ≤ y := fun y hy hr => by
        by_cases hlt : ma < mb
        · have hx2 : x = mb := by omega
          rw [hx2] at hr ⊢
          exact lb y hy (h.trans b mb y hb hmb hy rb hr)
        · have hx2 : x = ma := by omega
          rw [hx2] at hr ⊢
          exact la y hy (h.trans a ma y ha hma hy ra hr)
      rw [ch_false hM, ch_true hxm, ch_true hR]
      exact Nat.le_refl _
    · rw [ch_false hxm, Nat.add_zero]
      exact ch_imp fun hM y hy hr => hM y hy (.inl hr)
  rw [sm_add] at h1
  have h2 : (sm n fun x => ch (x = max ma mb)) = 1 := by
    rw [sm_one (i0 := max ma mb) n (by omega) (fun k _ hne => ch_false hne), ch_true rfl]
  have h3 : (sm n fun x => ch (∀ y, y < n → Mer R a b x y → x ≤ y)) = cls n (Mer R a b) := rfl
  omega
end

/-! ### Cycles of a product with an exchange -/
def Rch (p : Nat → Nat) (x y : Nat) : Prop := ∃ k, itf p k x = y
section
variable {n : Nat} {p : Nat → Nat} {a b : Nat}
theorem Rch.step {x y : Nat} (h : Rch p x y) : Rch p x (p y) := by
  obtain ⟨k, e⟩ := h
  exact ⟨k + 1, by rw [itf, e]⟩
theorem Rch.trans {x y z : Nat} (h : Rch p x y) (k : Rch p y z) : Rch p x z := by
  obtain ⟨i, e⟩ := h
  obtain ⟨j, e'⟩ := k
  exact ⟨j + i, by rw [itf_add, e, e']⟩
theorem Rch.refl_ (x : Nat) : Rch p x x := ⟨0, rfl⟩
theorem Rch.back (h : Prm n p) {x : Nat} (hx : x < n) : Rch p (p x) x := by
  obtain ⟨k, e⟩ := itf_round h hx
  refine ⟨k, ?_⟩
  have := itf_add p k 1 x
  rw [e] at this
  exact this.symm
theorem Rch.symm_ (h : Prm n p) {x y : Nat} (hx : x < n) (hr : Rch p x y) : Rch p y x := by
  obtain ⟨k, e⟩ := hr
  subst e
  induction k with
  | zero => exact .refl_ _
  | succ k ih => exact (Rch.back h (h.itf_lt hx k)).trans ih
theorem Rch.eqv (h : Prm n p) : Eqv n (Rch p) := ⟨fun x _ => .refl_ x, fun _ _ hx _ hr => hr.symm_ h hx, fun _ _ _ _ _ _ h1 h2 => h1.trans h2⟩
def sw (a b x : Nat) : Nat := if x = a then b else if x = b then a else x
theorem sw_sw (a b x : Nat) : sw a b (sw a b x) = x := by
  unfold sw
  by_cases e1 : x = a
  · rw [if_pos e1]
    by_cases e2 : b = a
    · rw [if_pos e2]; omega
    · rw [if_neg e2, if_pos rfl, e1]
  · rw [if_neg e1]
    by_cases e2 : x = b
    · rw [if_pos e2, if_pos rfl, e2]
    · rw [if_neg e2, if_neg e1, if_neg e2]
theorem sw_lt (ha : a < n) (hb : b < n) {x : Nat} (hx : x < n) : sw a b x < n := by
  unfold sw; split
  · exact hb
  · split
    · exact ha
    · exact hx
theorem Prm.sw (h : Prm n p) (ha : a < n) (hb : b < n) : Prm n (fun x => p (sw a b x)) :=
  ⟨fun x hx => h.lt _ (sw_lt ha hb hx), fun x y hx hy e => by
    have := h.inj _ _ (sw_lt ha hb hx) (sw_lt ha hb hy) e
    have h2 := congrArg (Go.Proofs.Ytcenffndclpjoaa.sw a b) this
    rwa [sw_sw, sw_sw] at h2⟩
theorem sw_mer (x : Nat) : ∀ k, Mer (Rch p) a b x (itf (fun x => p (sw a b x)) k x)
  | 0 => .inl (.refl_ x)
  | k + 1 => by
    have ih := sw_mer x k
    rw [itf]
    generalize itf (fun x => p (sw a b x)) k x = y at ih ⊢
    show Mer (Rch p) a b x (p (sw a b y))
    by_cases e1 : y = a
    · subst e1
      have es : sw y b y = b := by unfold sw; rw [if_pos rfl]
      rw [es]
      rcases ih with h | ⟨h, _⟩ | ⟨h, _⟩
      · exact .inr (.inl ⟨h, (Rch.refl_ b).step⟩)
      · exact .inr (.inl ⟨h, (Rch.refl_ b).step⟩)
      · exact .inl h.step
    · by_cases e2 : y = b
      · subst e2
        have es : sw a y y = a := by unfold sw; rw [if_neg e1, if_pos rfl]
        rw [es]
        rcases ih with h | ⟨h, _⟩ | ⟨h, _⟩
        · exact .inr (.inr ⟨h, (Rch.refl_ a).step⟩)
        · exact .inl h.step
        · exact .inr (.inr ⟨h, (Rch.refl_ a).step⟩)
      · have es : sw a b y = y := by unfold sw; rw [if_neg e1, if_neg e2]
        rw [es]
        rcases ih with h | ⟨h, h'⟩ | ⟨h, h'⟩
        · exact .inl h.step
        · exact .inr (.inl ⟨h, h'.step⟩)
        · exact .inr (.inr ⟨h, h'.step⟩)
theorem cls_sw_ge (h : Prm n p) (ha : a < n) (hb : b < n) : cls n (Rch p) ≤ cls n (Rch fun x => p (sw a b x)) + 1 :=
  Nat.le_trans (cls_mer_ge (Rch.eqv h) ha hb) (Nat.add_le_add_right (cls_mono fun _ _ _ _ ⟨k, e⟩ => e ▸ sw_mer _ k) 1)
theorem cls_sw_le (h : Prm n p) (ha : a < n) (hb : b < n) : cls n (Rch fun x => p (sw a b x)) ≤ cls n (Rch p) + 1 := by
  have := cls_sw_ge (h.sw ha hb) ha hb
  have e : (fun x => (fun x => p (sw a b x)) (sw a b x)) = p := funext fun x => by show p (sw a b (sw a b x)) = p x; rw [sw_sw]
  rwa [e] at this
theorem cls_sw_lt (h : Prm n p) (ha : a < n) (hb : b < n) (hab : ¬ Rch p a b) : cls n (Rch fun x => p (sw a b x)) + 1 ≤ cls n (Rch p) := by
  have hba : ¬ Rch p b a := fun hr => hab (hr.symm_ h hb)
  have hne : a ≠ b := fun e => hab (e ▸ .refl_ a)
  have hs := h.sw ha hb
  have ea : sw a b a = b := by unfold sw; rw [if_pos rfl]
  have eb : sw a b b = a := by unfold sw; rw [if_neg (fun e => hne e.symm), if_pos rfl]
  have hother : ∀ y, y ≠ a → y ≠ b → sw a b y = y := fun y h1 h2 => by unfold sw; rw [if_neg h1, if_neg h2]
  -- from p b on along p, till b, the product goes the same way
  have hgo : ∀ k, Rch (fun x => p (sw a b x)) (p b) b ∨ itf (fun x => p (sw a b x)) k (p b) = itf p k (p b) := by
    intro k
    induction k with
    | zero => exact .inr rfl
    | succ k ih =>
      rcases ih with ih | ih
      · exact .inl ih
      · by_cases e : itf p k (p b) = b
        · exact .inl ⟨k, ih.trans e⟩
        · refine .inr ?_
          rw [itf, itf, ih]
          show p (sw a b (itf p k (p b))) = p (itf p k (p b))
          rw [hother _ (fun e' => hba ((Rch.refl_ b).step.trans ⟨k, e'⟩)) e]
  have hpb : Rch (fun x => p (sw a b x)) (p b) b := by
    obtain ⟨k, e⟩ := Rch.back h hb
    rcases hgo k with hr | hr
    · exact hr
    · exact ⟨k, hr.trans e⟩
  have hab' : Rch (fun x => p (sw a b x)) a b := by
    have : Rch (fun x => p (sw a b x)) a (p b) := ⟨1, by show p (sw a b a) = p b; rw [ea]⟩
    exact this.trans hpb
  have hba' := hab'.symm_ hs ha
  have hstep : ∀ y, Rch (fun x => p (sw a b x)) y (p y) := fun y => by
    by_cases e1 : y = a
    · subst e1
      exact hab'.trans ⟨1, by show p (sw y b b) = p y; rw [eb]⟩
    · by_cases e2 : y = b
      · subst e2
        exact hba'.trans ⟨1, by show p (sw a y a) = p y; rw [ea]⟩
      · exact ⟨1, by show p (sw a b y) = p y; rw [hother y e1 e2]⟩
  have hit : ∀ x k, Rch (fun x => p (sw a b x)) x (itf p k x) := fun x k => by
    induction k with
    | zero => exact .refl_ _
    | succ k ih => exact ih.trans (hstep _)
  have hsub : ∀ x y, Rch p x y → Rch (fun x => p (sw a b x)) x y := fun x y ⟨k, e⟩ => e ▸ hit x k
  have hmer : cls n (Rch fun x => p (sw a b x)) ≤ cls n (Mer (Rch p) a b) := cls_mono fun _ _ _ _ hm => by
    rcases hm with hm | ⟨h1, h2⟩ | ⟨h1, h2⟩
    · exact hsub _ _ hm
    · exact ((hsub _ _ h1).trans hab').trans (hsub _ _ h2)
    · exact ((hsub _ _ h1).trans hba').trans (hsub _ _ h2)
  have := cls_mer_lt (Rch.eqv h) ha hb hab
  omega
end
theorem lows_cls {n : Nat} {p : Nat → Nat} (h : Prm n p) : lows n p = cls n (Rch p) :=
  sm_congr n fun _ hx => ch_congr ⟨fun hall _ _ ⟨k, e⟩ => e ▸ hall k, fun hall k => hall _ (h.itf_lt hx k) ⟨k, rfl⟩⟩

end Go.Proofs.Ytcenffndclpjoaa

/- The text of an expression says which expression it is. No statement is proved here. -/
import Derived.Test.YtcpbfefgjpimiaaDoorT7
namespace Go.Proofs.YtcpbfefgjpimiaaDoor
open Go.RowKit

theorem let_inj : ∀ v, v < 5 → ∀ u, u < 5 → UInt8.ofNat (105 + v) = UInt8.ofNat (105 + u) → v = u := by decide
theorem let_dig : ∀ v, v < 5 → ∀ u, u < 10 → UInt8.ofNat (105 + v) ≠ UInt8.ofNat (48 + u) := by decide
theorem dig_inj : ∀ v, v < 10 → ∀ u, u < 10 → UInt8.ofNat (48 + v) = UInt8.ofNat (48 + u) → v = u := by decide
theorem let_star : ∀ v, v < 5 → UInt8.ofNat (105 + v) ≠ 42 := by decide
theorem dig_star : ∀ v, v < 10 → UInt8.ofNat (48 + v) ≠ 42 := by decide
theorem let_plus : ∀ v, v < 5 → UInt8.ofNat (105 + v) ≠ 43 ∧ UInt8.ofNat (105 + v) ≠ 45 := by decide
theorem dig_plus : ∀ v, v < 10 → UInt8.ofNat (48 + v) ≠ 43 ∧ UInt8.ofNat (48 + v) ≠ 45 := by decide
theorem sgn_inj {m n : Int} (h : sgn m = sgn n) (e : m.natAbs = n.natAbs) (hm : m ≠ 0) (hn : n ≠ 0) : m = n := by
  unfold sgn at h
  split at h <;> split at h <;> simp at h <;> omega
theorem dg1 {u : Nat} (h : u < 10) : dg u = [UInt8.ofNat (48 + u)] := by unfold dg; rw [if_pos h]
theorem dg_inj {u v : Nat} (hu : u ≤ 99) (hv : v ≤ 99) (h : dg u = dg v) : u = v := by
  unfold dg at h
  split at h <;> split at h <;> simp only [List.cons.injEq, and_true, reduceCtorEq, and_false] at h
  · exact dig_inj _ (by omega) _ (by omega) h
  · have h1 := dig_inj _ (by omega) _ (by omega) h.1
    have h2 := dig_inj _ (by omega) _ (by omega) h.2
    omega
/-- The two forms of a term of one digit. -/
theorem tm_form {v : Nat} {x : Int} (hx : -9 ≤ x ∧ x ≤ 9) : (x.natAbs = 1 ∧ tm v x = [sgn x, UInt8.ofNat (105 + v)]) ∨ (x.natAbs ≠ 1 ∧ tm v x = [sgn x, UInt8.ofNat (48 + x.natAbs), 42, UInt8.ofNat (105 + v)]) := by
  by_cases h : x.natAbs = 1
  · exact .inl ⟨h, by simp [tm, h]⟩
  · refine .inr ⟨h, ?_⟩
    unfold tm
    rw [if_neg h, dg1 (by omega)]
    rfl
def ct (k : Int) : List UInt8 := if k = 0 then [] else tc k
/-- A text that begins with a term of variable v. -/
def At (v : Nat) (l : List UInt8) : Prop := (∃ s r, l = s :: UInt8.ofNat (105 + v) :: r) ∨ ∃ s c r, l = s :: c :: 42 :: UInt8.ofNat (105 + v) :: r
theorem tm_at {v : Nat} {x : Int} (hx : -9 ≤ x ∧ x ≤ 9) (r : List UInt8) : At v (tm v x ++ r) := by
  rcases tm_form (v := v) hx with ⟨-, e⟩ | ⟨-, e⟩
  · rw [e]; exact .inl ⟨_, _, rfl⟩
  · rw [e]; exact .inr ⟨_, _, _, rfl⟩
theorem ct_at {v : Nat} {k : Int} (hv : v < 5) (hk : -99 ≤ k ∧ k ≤ 99) : ¬ At v (ct k) := by
  unfold ct
  split
  · rintro (⟨s, r, e⟩ | ⟨s, c, r, e⟩) <;> cases e
  · unfold tc dg
    rintro (⟨s, r, e⟩ | ⟨s, c, r, e⟩)
    · split at e
      · simp only [List.cons.injEq] at e
        exact let_dig v hv _ (by omega) e.2.1.symm
      · simp only [List.cons.injEq] at e
        exact let_dig v hv _ (by omega) e.2.1.symm
    · split at e
      · simp at e
      · simp at e
theorem no_at (v : Nat) (k : Int) (hk : -99 ≤ k ∧ k ≤ 99) (xs : List Int) (hx : ∀ x ∈ xs, -9 ≤ x ∧ x ≤ 9) : ∀ u, v < u → u + xs.length ≤ 5 → ¬ At v (rawC u xs ++ ct k) := by
  induction xs with
  | nil => intro u hu hl; simp only [List.length_nil] at hl; simpa [rawC] using ct_at (by omega) hk
  | cons x xs ih =>
    intro u hu hl
    simp only [List.length_cons] at hl
    have hx0 := hx x (by simp)
    by_cases h : x = 0
    · simp only [rawC, if_pos h, List.nil_append]
      exact ih (fun y hy => hx y (by simp [hy])) (u + 1) (by omega) (by omega)
    · simp only [rawC, if_neg h, List.append_assoc]
      rcases tm_form (v := u) hx0 with ⟨-, e⟩ | ⟨-, e⟩
      · rw [e]
        rintro (⟨s, r, e'⟩ | ⟨s, c, r, e'⟩)
        · simp only [List.cons_append, List.nil_append, List.cons.injEq] at e'
          have := let_inj _ (by omega) _ (by omega) e'.2.1
          omega
        · simp only [List.cons_append, List.nil_append, List.cons.injEq] at e'
          exact absurd e' (by
            rintro ⟨-, -, e2⟩
            revert e2
            cases xs with
            | nil =>
              simp only [rawC, List.nil_append, ct, tc]
              split
              · intro e2; cases e2
              · intro e2
                simp only [List.cons.injEq] at e2
                have := e2.1
                rcases sgn_or k with h | h <;> rw [h] at this <;> exact absurd this (by decide)
            | cons y ys =>
              have hs := Sg.app (rawC_sg (u + 1) (y :: ys)) (show Sg (ct k) from by
                unfold ct tc
                split
                · exact .inl rfl
                · obtain ⟨d, r, h⟩ := dg_cons k.natAbs
                  rw [h]
                  exact .inr ⟨_, _, _, rfl, sgn_or k⟩)
              intro e2
              rw [e2] at hs
              rcases hs with h | ⟨_, _, _, h, h'⟩
              · cases h
              · injection h with h1 _
                rcases h' with h' | h' <;> rw [h'] at h1 <;> exact absurd h1 (by decide))
      · rw [e]
        rintro (⟨s, r, e'⟩ | ⟨s, c, r, e'⟩)
        · simp only [List.cons_append, List.nil_append, List.cons.injEq] at e'
          exact let_dig v (by omega) _ (by omega) e'.2.1.symm
        · simp only [List.cons_append, List.nil_append, List.cons.injEq] at e'
          have := let_inj _ (by omega) _ (by omega) e'.2.2.2.1
          omega
theorem rawC_inj {k l : Int} (hk : -99 ≤ k ∧ k ≤ 99) (hl : -99 ≤ l ∧ l ≤ 99) : ∀ (xs ys : List Int) (v : Nat), xs.length = ys.length → v + xs.length ≤ 4 → (∀ x ∈ xs, -9 ≤ x ∧ x ≤ 9) → (∀ x ∈ ys, -9 ≤ x ∧ x ≤ 9) → rawC v xs ++ ct k = rawC v ys ++ ct l → xs = ys ∧ k = l := by
  intro xs
  induction xs with
  | nil =>
    intro ys v hlen _ _ _ h
    cases ys with
    | cons y ys => simp at hlen
    | nil =>
      refine ⟨rfl, ?_⟩
      simp only [rawC, List.nil_append] at h
      unfold ct tc at h
      split at h <;> split at h
      · omega
      · cases h
      · cases h
      · simp only [List.cons.injEq] at h
        exact sgn_inj h.1 (dg_inj (by omega) (by omega) h.2) (by assumption) (by assumption)
  | cons x xs ih =>
    intro ys v hlen hv hx hy h
    cases ys with
    | nil => simp at hlen
    | cons y ys =>
      simp only [List.length_cons] at hlen hv
      have hx0 := hx x (by simp)
      have hy0 := hy y (by simp)
      have hx' : ∀ z ∈ xs, -9 ≤ z ∧ z ≤ 9 := fun z hz => hx z (by simp [hz])
      have hy' : ∀ z ∈ ys, -9 ≤ z ∧ z ≤ 9 := fun z hz => hy z (by simp [hz])
      by_cases h1 : x = 0
      · by_cases h2 : y = 0
        · subst h1 h2
          simp only [rawC, if_true, List.nil_append] at h
          obtain ⟨e1, e2⟩ := ih ys (v + 1) (by omega) (by omega) hx' hy' h
          exact ⟨by rw [e1], e2⟩
        · simp only [rawC, if_pos h1, if_neg h2, List.nil_append, List.append_assoc] at h
          exact absurd (h ▸ tm_at hy0 _) (no_at v k hk xs hx' (v + 1) (by omega) (by omega))
      · by_cases h2 : y = 0
        · simp only [rawC, if_pos h2, if_neg h1, List.nil_append, List.append_assoc] at h
          exact absurd (h ▸ tm_at hx0 _) (no_at v l hl ys hy' (v + 1) (by omega) (by omega))
        · simp only [rawC, if_neg h1, if_neg h2, List.append_assoc] at h
          have key : x = y ∧ rawC (v + 1) xs ++ ct k = rawC (v + 1) ys ++ ct l := by
            rcases tm_form (v := v) hx0 with ⟨n1, e1⟩ | ⟨n1, e1⟩ <;> rcases tm_form (v := v) hy0 with ⟨n2, e2⟩ | ⟨n2, e2⟩ <;> rw [e1, e2] at h <;> simp only [List.cons_append, List.nil_append, List.cons.injEq] at h
            · exact ⟨sgn_inj h.1 (by omega) h1 h2, h.2.2⟩
            · exact absurd h.2.1 (let_dig v (by omega) _ (by omega))
            · exact absurd h.2.1.symm (let_dig v (by omega) _ (by omega))
            · exact ⟨sgn_inj h.1 (dig_inj _ (by omega) _ (by omega) h.2.1) h1 h2, h.2.2.2.2⟩
          obtain ⟨e1, e2⟩ := ih ys (v + 1) (by omega) (by omega) hx' hy' key.2
          exact ⟨by rw [key.1, e1], e2⟩
theorem ct_sg (k : Int) : Sg (ct k) := by
  unfold ct tc
  split
  · exact .inl rfl
  · obtain ⟨d, r, h⟩ := dg_cons k.natAbs
    rw [h]
    exact .inr ⟨_, _, _, rfl, sgn_or k⟩
/-- Its second byte is no sign. -/
def Sn (l : List UInt8) : Prop := l = [] ∨ ∃ c d r, l = c :: d :: r ∧ (c = 43 ∨ c = 45) ∧ d ≠ 43 ∧ d ≠ 45 ∧ (d = 48 → r ≠ [])
theorem dg_sn {k : Int} (hk : -99 ≤ k ∧ k ≤ 99) (h0 : k ≠ 0) : Sn (tc k) := by
  unfold tc dg
  split
  · refine .inr ⟨_, _, _, rfl, sgn_or k, (dig_plus _ (by omega)).1, (dig_plus _ (by omega)).2, ?_⟩
    intro e
    have := dig_inj _ (by omega) 0 (by omega) e
    omega
  · exact .inr ⟨_, _, _, rfl, sgn_or k, (dig_plus _ (by omega)).1, (dig_plus _ (by omega)).2, by intro _ e; cases e⟩
theorem raw_sn {k : Int} (hk : -99 ≤ k ∧ k ≤ 99) (xs : List Int) (hx : ∀ x ∈ xs, -9 ≤ x ∧ x ≤ 9) : ∀ v, v + xs.length ≤ 4 → Sn (rawC v xs ++ ct k) := by
  induction xs with
  | nil =>
    intro v _
    simp only [rawC, List.nil_append, ct]
    split
    · exact .inl rfl
    · exact dg_sn hk (by assumption)
  | cons x xs ih =>
    intro v hv
    simp only [List.length_cons] at hv
    have hx0 := hx x (by simp)
    by_cases h : x = 0
    · simp only [rawC, if_pos h, List.nil_append]
      exact ih (fun y hy => hx y (by simp [hy])) (v + 1) (by omega)
    · simp only [rawC, if_neg h, List.append_assoc]
      rcases tm_form (v := v) hx0 with ⟨-, e⟩ | ⟨-, e⟩
      · rw [e]
        refine .inr ⟨_, _, _, rfl, sgn_or x, (let_plus v (by omega)).1, (let_plus v (by omega)).2, ?_⟩
        intro e'
        exact absurd e' (let_dig v (by omega) 0 (by omega))
      · rw [e]
        exact .inr ⟨_, _, _, rfl, sgn_or x, (dig_plus _ (by omega)).1, (dig_plus _ (by omega)).2, by intro _ e; cases e⟩
theorem strip43 (l : List UInt8) : strip (43 :: l) = l := rfl
theorem strip45 (l : List UInt8) : strip (45 :: l) = 45 :: l := rfl
theorem strip_inj {l m : List UInt8} (hl : Sn l) (hm : Sn m) (h : (if l = [] then [48] else strip l) = (if m = [] then [48] else strip m)) : l = m := by
  rcases hl with rfl | ⟨c, d, r, rfl, hc, hd1, hd2, hd3⟩
  · rcases hm with rfl | ⟨c, d, r, rfl, hc, hd1, hd2, hd3⟩
    · rfl
    · rw [if_pos rfl, if_neg (by simp)] at h
      rcases hc with rfl | rfl
      · simp only [strip43, List.cons.injEq] at h
        exact absurd h.2.symm (hd3 h.1.symm)
      · simp only [strip45, List.cons.injEq] at h
        exact absurd h.1 (by decide)
  · rcases hm with rfl | ⟨c', d', r', rfl, hc', hd1', hd2', hd3'⟩
    · rw [if_pos rfl, if_neg (by simp)] at h
      rcases hc with rfl | rfl
      · simp only [strip43, List.cons.injEq] at h
        exact absurd h.2 (hd3 h.1)
      · simp only [strip45, List.cons.injEq] at h
        exact absurd h.1 (by decide)
    · rw [if_neg (by simp), if_neg (by simp)] at h
      rcases hc with rfl | rfl <;> rcases hc' with rfl | rfl <;> simp only [strip43, strip45, List.cons.injEq] at h
      · rw [h.1, h.2]
      · exact absurd h.1 hd2
      · exact absurd h.1.symm hd2'
      · rw [h.2.1, h.2.2]
theorem fmt_inj {xs ys : List Int} {k l : Int} (hx : affValidB xs k = true) (hy : affValidB ys l = true) : fmtA xs k = fmtA ys l ↔ xs = ys ∧ k = l := by
  constructor
  · intro h
    rw [fmtA, fmtA, if_pos hx, if_pos hy] at h
    obtain ⟨a, b, c, d, rfl, ha, hb, hc, hd, hk⟩ := valid_four hx
    obtain ⟨a', b', c', d', rfl, ha', hb', hc', hd', hl⟩ := valid_four hy
    have h1 : ∀ x ∈ [a, b, c, d], -9 ≤ x ∧ x ≤ 9 := by intro x hx; simp at hx; rcases hx with rfl | rfl | rfl | rfl <;> assumption
    have h2 : ∀ x ∈ [a', b', c', d'], -9 ≤ x ∧ x ≤ 9 := by intro x hx; simp at hx; rcases hx with rfl | rfl | rfl | rfl <;> assumption
    exact rawC_inj hk hl _ _ 0 rfl (by simp) h1 h2 (strip_inj (raw_sn hk _ h1 0 (by simp)) (raw_sn hl _ h2 0 (by simp)) h)
  · rintro ⟨rfl, rfl⟩; rfl
theorem fmt_ne {xs : List Int} {k : Int} (hx : affValidB xs k = true) : fmtA xs k ≠ [] := by
  rw [fmtA, if_pos hx]
  obtain ⟨a, b, c, d, rfl, ha, hb, hc, hd, hk⟩ := valid_four hx
  have h1 : ∀ x ∈ [a, b, c, d], -9 ≤ x ∧ x ≤ 9 := by intro x hx; simp at hx; rcases hx with rfl | rfl | rfl | rfl <;> assumption
  have hs := raw_sn hk _ h1 0 (by simp)
  unfold txt
  split
  · simp
  · rename_i hne
    rcases hs with h | ⟨c, d, r, e, hc, _⟩
    · exact absurd h hne
    · rw [show raw _ k = c :: d :: r from e]
      rcases hc with rfl | rfl
      · rw [strip43]; simp
      · rw [strip45]; simp
theorem fmt_no {xs : List Int} {k : Int} (hx : affValidB xs k = false) : fmtA xs k = [] := by simp [fmtA, hx]
end Go.Proofs.YtcpbfefgjpimiaaDoor

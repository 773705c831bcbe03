/- The texts Qp Qe10, joined. No statement is proved here. -/
import Derived.Test.YtccibfldadflkaaK45
import Derived.Test.YtccibfldadflkaaK38
/- The best cache: pure facts; the program's cells and the model's are the same as far as they are accessed again. No statement is proved here. -/
namespace Go.Proofs.Ytccibfldadflkaa
open Go.RowKit

/-- The next access of a cell from a place on, or the length. -/
def nxt (xs : List Int) (f : Nat) (c : Int) : Nat := f + (xs.drop f).findIdx (fun x => x == c)
theorem drop_atB {xs : List Int} {k : Nat} {x : Int} (h : xs[k]? = some x) : xs.drop k = x :: xs.drop (k + 1) := by
  rw [List.drop_eq_getElem_cons (List.getElem?_eq_some_iff.1 h).1, (List.getElem?_eq_some_iff.1 h).2]
theorem nxt_le {xs : List Int} {f : Nat} (c : Int) (hf : f ≤ xs.length) : nxt xs f c ≤ xs.length := by
  have h := List.findIdx_le_length (xs := xs.drop f) (p := fun x => x == c)
  rw [List.length_drop] at h
  unfold nxt; omega
theorem nxt_ge (xs : List Int) (f : Nat) (c : Int) : f ≤ nxt xs f c := Nat.le_add_right _ _
theorem nxt_self {xs : List Int} {k : Nat} {x : Int} (h : xs[k]? = some x) : nxt xs k x = k := by
  unfold nxt
  rw [drop_atB h, List.findIdx_cons]
  simp
theorem nxt_step {xs : List Int} {k : Nat} {x c : Int} (h : xs[k]? = some x) (hc : c ≠ x) : nxt xs k c = nxt xs (k + 1) c := by
  unfold nxt
  rw [drop_atB h, List.findIdx_cons]
  have : (x == c) = false := by simpa using fun e : x = c => hc e.symm
  simp only [this, cond_false]
  omega
theorem nxt_get {xs : List Int} {f : Nat} {c : Int} (h : nxt xs f c < xs.length) : xs[nxt xs f c]? = some c := by
  unfold nxt at h ⊢
  have hl : (xs.drop f).findIdx (fun x => x == c) < (xs.drop f).length := by rw [List.length_drop]; omega
  have h1 := List.findIdx_getElem (xs := xs.drop f) (p := fun x => x == c) (w := hl)
  have h2 : (xs.drop f)[(xs.drop f).findIdx (fun x => x == c)]? = some c := by
    rw [List.getElem?_eq_getElem hl]
    simpa using h1
  rw [List.getElem?_drop] at h2
  exact h2
theorem nxt_inj {xs : List Int} {f : Nat} {c d : Int} (h : nxt xs f c < xs.length) (e : nxt xs f c = nxt xs f d) : c = d := by
  have h1 := nxt_get h
  rw [e] at h
  have h2 := nxt_get h
  rw [e, h2] at h1
  exact (Option.some.inj h1).symm

/-- The place of the cell whose next access is furthest ahead, among the first j + 1. -/
def wF (xs : List Int) (f : Nat) (H : List Int) : Nat → Nat
  | 0 => 0
  | j + 1 => if nxt xs f (H.getD (wF xs f H j) 0) < nxt xs f (H.getD (j + 1) 0) then j + 1 else wF xs f H j
theorem wF_le (xs : List Int) (f : Nat) (H : List Int) : ∀ j, wF xs f H j ≤ j
  | 0 => Nat.le_refl _
  | j + 1 => by
    have := wF_le xs f H j
    unfold wF
    split <;> omega
theorem wF_max (xs : List Int) (f : Nat) (H : List Int) : ∀ j i, i ≤ j → nxt xs f (H.getD i 0) ≤ nxt xs f (H.getD (wF xs f H j) 0)
  | 0, i, h => by
    have : i = 0 := by omega
    subst this
    exact Nat.le_refl _
  | j + 1, i, h => by
    unfold wF
    split
    · rename_i hlt
      by_cases e : i = j + 1
      · subst e; exact Nat.le_refl _
      · have := wF_max xs f H j i (by omega); omega
    · rename_i hlt
      by_cases e : i = j + 1
      · subst e; omega
      · exact wF_max xs f H j i (by omega)
def mSt (xs : List Int) (Z k : Nat) (H : List Int) : List Int :=
  if xs.getD k 0 ∈ H then H else if H.length + 1 ≤ Z then H ++ [xs.getD k 0] else (H ++ [xs.getD k 0]).eraseIdx (wF xs (k + 1) (H ++ [xs.getD k 0]) H.length)
def mH (xs : List Int) (Z : Nat) : Nat → List Int
  | 0 => []
  | k + 1 => mSt xs Z k (mH xs Z k)
def mN (xs : List Int) (Z : Nat) : Nat → Int
  | 0 => 0
  | k + 1 => mN xs Z k + if xs.getD k 0 ∈ mH xs Z k then 0 else 1
theorem mN_bd (xs : List Int) (Z : Nat) : ∀ k : Nat, 0 ≤ mN xs Z k ∧ mN xs Z k ≤ k
  | 0 => ⟨Int.le_refl _, Int.le_refl _⟩
  | k + 1 => by
    have := mN_bd xs Z k
    unfold mN
    split <;> omega
theorem sub_back : ∀ (l1 l2 : List Int), l1.Nodup → (∀ x ∈ l1, x ∈ l2) → l2.length ≤ l1.length → ∀ x ∈ l2, x ∈ l1
  | [], l2, _, _, hl, x, hx => by
    have : l2 = [] := List.eq_nil_of_length_eq_zero (by simpa using hl)
    rw [this] at hx; exact hx
  | a :: r, l2, hn, hs, hl, x, hx => by
    have hna := List.nodup_cons.1 hn
    have ha : a ∈ l2 := hs a (by simp)
    by_cases e : x = a
    · subst e; simp
    · have hle := List.length_erase_of_mem ha
      have h := sub_back r (l2.erase a) hna.2 (fun b hb => (List.mem_erase_of_ne (fun e => hna.1 (by rw [← e]; exact hb))).2 (hs b (by simp [hb]))) (by rw [hle]; simp at hl; omega) x ((List.mem_erase_of_ne e).2 hx)
      simp [h]

/-- What the heap holds. -/
def HpR' (xs : List Int) (k : Nat) (H : List Int) (hs : List Us) : Prop := hs.Nodup ∧ (∀ c ∈ H, (c, (nxt xs k c : Int)) ∈ hs) ∧ ∀ u ∈ hs, u.2 < (k : Int) ∨ (u.1 ∈ H ∧ u.2 = (nxt xs k u.1 : Int))
def RlB (xs : List Int) (Z : Nat) (k : Nat) (H : List Int) (hs : List Us) : Prop :=
  (mH xs Z k).Nodup ∧ H.Nodup ∧ H.length = (mH xs Z k).length ∧ (∀ c, nxt xs k c < xs.length → (c ∈ H ↔ c ∈ mH xs Z k)) ∧ HpR' xs k H hs
theorem heap_push {xs : List Int} {k : Nat} {x : Int} {H H1 : List Int} {hs hs1 : List Us} (hx : xs[k]? = some x) (h : HpR' xs k H hs) (hp : hs1.Perm ((x, (nxt xs (k + 1) x : Int)) :: hs)) (hin : x ∈ H1) (hne : ∀ c, c ≠ x → (c ∈ H1 ↔ c ∈ H)) : HpR' xs (k + 1) H1 hs1 := by
  obtain ⟨h1, h2, h3⟩ := h
  have hge := nxt_ge xs (k + 1) x
  refine ⟨hp.nodup_iff.2 (List.nodup_cons.2 ⟨fun hm => ?_, h1⟩), fun c hc => hp.mem_iff.2 ?_, fun u hu => ?_⟩
  · rcases h3 _ hm with h | ⟨-, h⟩
    · dsimp only at h; omega
    · dsimp only at h; rw [nxt_self hx] at h; omega
  · by_cases e : c = x
    · subst e; simp
    · have := h2 c ((hne c e).1 hc)
      rw [nxt_step hx e] at this
      simp [this]
  · rcases List.mem_cons.1 (hp.mem_iff.1 hu) with e | hu
    · subst e; exact .inr ⟨hin, rfl⟩
    · rcases h3 u hu with h | ⟨ha, hb⟩
      · exact .inl (by omega)
      · by_cases e : u.1 = x
        · rw [e, nxt_self hx] at hb; exact .inl (by omega)
        · rw [nxt_step hx e] at hb; exact .inr ⟨(hne _ e).2 ha, hb⟩
theorem getD_of {xs : List Int} {k : Nat} {x : Int} (h : xs[k]? = some x) : xs.getD k 0 = x := by rw [List.getD_eq_getElem?_getD, h]; rfl
theorem iff_push {xs : List Int} {k : Nat} {x : Int} {A B A1 B1 : List Int} (hx : xs[k]? = some x) (h : ∀ c, nxt xs k c < xs.length → (c ∈ A ↔ c ∈ B)) (ha : x ∈ A1) (hb : x ∈ B1) (hA : ∀ c, c ≠ x → (c ∈ A1 ↔ c ∈ A)) (hB : ∀ c, c ≠ x → (c ∈ B1 ↔ c ∈ B)) : ∀ c, nxt xs (k + 1) c < xs.length → (c ∈ A1 ↔ c ∈ B1) := by
  intro c hc
  by_cases e : c = x
  · subst e; exact ⟨fun _ => hb, fun _ => ha⟩
  · rw [hA c e, hB c e]
    exact h c (by rw [nxt_step hx e]; exact hc)
theorem app_ne {H : List Int} {x : Int} : ∀ c, c ≠ x → (c ∈ H ++ [x] ↔ c ∈ H) := fun c hc => by simp [hc]
theorem app_nodup {H : List Int} {x : Int} (h : H.Nodup) (hx : x ∉ H) : (H ++ [x]).Nodup := List.nodup_append.2 ⟨h, by simp, fun a ha b hb e => by simp at hb; subst hb; subst e; exact hx ha⟩
theorem nodup_inj {L : List Int} (hn : L.Nodup) {i j : Nat} (hi : i < L.length) (hj : j < L.length) (e : L[i] = L[j]) : i = j := by
  rcases Nat.lt_trichotomy i j with h | h | h
  · exact absurd e (List.pairwise_iff_getElem.1 hn i j hi hj h)
  · exact h
  · exact absurd e.symm (List.pairwise_iff_getElem.1 hn j i hj hi h)
theorem erase_mem {L : List Int} (hn : L.Nodup) {w : Nat} (hw : w < L.length) (c : Int) : c ∈ L.eraseIdx w ↔ c ∈ L ∧ c ≠ L[w] := by
  rw [List.mem_eraseIdx_iff_getElem]
  constructor
  · rintro ⟨i, hi, hne, e⟩
    refine ⟨by rw [← e]; exact List.getElem_mem hi, fun e2 => hne (nodup_inj hn hi hw (e.trans e2))⟩
  · rintro ⟨hm, hne⟩
    obtain ⟨i, hi, e⟩ := List.mem_iff_getElem.1 hm
    exact ⟨i, hi, fun e2 => hne (by subst e2; exact e.symm), e⟩

theorem nxM_is (xs : List Int) (c : Int) : ∀ j, j ≤ xs.length → (nxM xs j c).getD xs.length = nxt xs (xs.length - j) c
  | 0, _ => by
    unfold nxM nxt
    simp
  | j + 1, hj => by
    have h1 := nxM_is xs c j (by omega)
    obtain ⟨x, hx⟩ := get_some (xs := xs) (k := xs.length - (j + 1)) (by omega)
    have e : xs.length - 1 - j = xs.length - (j + 1) := by omega
    unfold nxM
    rw [e, hx]
    by_cases hc : x = c
    · subst hc
      rw [if_pos rfl, nxt_self hx]; rfl
    · rw [if_neg (fun h => hc (Option.some.inj h)), h1, nxt_step hx (fun h => hc h.symm), show xs.length - (j + 1) + 1 = xs.length - j by omega]
theorem nxV_is {xs : List Int} {k : Nat} {x : Int} (hx : xs[k]? = some x) : nxV xs k = nxt xs (k + 1) x := by
  have hk := (List.getElem?_eq_some_iff.1 hx).1
  unfold nxV
  rw [getD_of hx, nxM_is xs x _ (by omega), show xs.length - (xs.length - 1 - k) = k + 1 by omega]

theorem bmP (xs : List Int) (Z : Nat) : BmP xs Z (RlB xs Z) (mN xs Z) where
  cz := rfl
  cb := mN_bd xs Z
  zero := ⟨List.nodup_nil, List.nodup_nil, rfl, fun c _ => Iff.rfl, List.nodup_nil, (fun c hc => by cases hc), (fun u hu => by cases hu)⟩
  hit := by
    intro k x H hs hs1 hx ⟨h1, h2, h3, h4, h5⟩ hp hin
    have hk := (List.getElem?_eq_some_iff.1 hx).1
    have hm : x ∈ mH xs Z k := (h4 x (by rw [nxt_self hx]; exact hk)).1 hin
    have hs' : mH xs Z (k + 1) = mH xs Z k := by show mSt xs Z k (mH xs Z k) = _; unfold mSt; rw [getD_of hx, if_pos hm]
    refine ⟨by show mN xs Z k + _ = _; rw [getD_of hx, if_pos hm, Int.add_zero], ?_⟩
    unfold RlB
    rw [hs']
    exact ⟨h1, h2, h3, iff_push hx h4 hin hm (fun _ _ => Iff.rfl) (fun _ _ => Iff.rfl), heap_push hx h5 (by rw [← nxV_is hx]; exact hp) hin (fun _ _ => Iff.rfl)⟩
  miss := by
    intro k x H hs hs1 hx ⟨h1, h2, h3, h4, h5⟩ hp hin
    have hk := (List.getElem?_eq_some_iff.1 hx).1
    have hm : x ∉ mH xs Z k := fun h => hin ((h4 x (by rw [nxt_self hx]; exact hk)).2 h)
    have hn1 := app_nodup h1 hm
    have hn2 := app_nodup h2 hin
    have hif := iff_push (A1 := H ++ [x]) (B1 := mH xs Z k ++ [x]) hx h4 (by simp) (by simp) app_ne app_ne
    have hhp := heap_push (H1 := H ++ [x]) (hs1 := hs1) hx h5 (by rw [← nxV_is hx]; exact hp) (by simp) app_ne
    refine ⟨by show mN xs Z k + _ = _; rw [getD_of hx, if_neg hm], fun hZ => ?_, fun hZ z hs2 hpz hmax => ?_⟩
    · have hs' : mH xs Z (k + 1) = mH xs Z k ++ [x] := by show mSt xs Z k (mH xs Z k) = _; unfold mSt; rw [getD_of hx, if_neg hm, if_pos (by omega)]
      unfold RlB
      rw [hs']
      exact ⟨hn1, hn2, by rw [List.length_append, List.length_append, h3], hif, hhp⟩
    · obtain ⟨w, hw⟩ : ∃ w, wF xs (k + 1) (mH xs Z k ++ [x]) (mH xs Z k).length = w := ⟨_, rfl⟩
      have hs' : mH xs Z (k + 1) = (mH xs Z k ++ [x]).eraseIdx w := by show mSt xs Z k (mH xs Z k) = _; unfold mSt; rw [getD_of hx, if_neg hm, if_neg (by omega), hw]
      have hwl : w ≤ (mH xs Z k).length := by rw [← hw]; exact wF_le _ _ _ _
      have hwm := wF_max xs (k + 1) (mH xs Z k ++ [x]) (mH xs Z k).length
      rw [hw] at hwm
      have hlen : (H ++ [x]).length = (mH xs Z k ++ [x]).length := by rw [List.length_append, List.length_append, h3]
      have hla : (mH xs Z k ++ [x]).length = (mH xs Z k).length + 1 := by rw [List.length_append]; rfl
      obtain ⟨A, hA⟩ : ∃ A, mH xs Z k ++ [x] = A := ⟨_, rfl⟩
      obtain ⟨H1, hH1⟩ : ∃ A, H ++ [x] = A := ⟨_, rfl⟩
      have hxH : x ∈ H1 := by rw [← hH1]; simp
      rw [hA] at hs' hwm hlen hla hif hn1
      rw [hH1] at hlen hif hhp hn2 ⊢
      have hwA : w < A.length := by omega
      have hzm : z ∈ hs1 := hpz.mem_iff.1 (by simp)
      have hzge := hmax _ (hhp.2.1 x hxH)
      dsimp only at hzge
      have hge := nxt_ge xs (k + 1) x
      rcases hhp.2.2 z hzm with h | ⟨hz1, hz2⟩
      · omega
      have hzmax : ∀ c ∈ H1, nxt xs (k + 1) c ≤ nxt xs (k + 1) z.1 := fun c hc => by
        have h := hmax _ (hhp.2.1 c hc)
        dsimp only at h
        rw [hz2] at h; omega
      have hwmax : ∀ c ∈ A, nxt xs (k + 1) c ≤ nxt xs (k + 1) A[w] := fun c hc => by
        obtain ⟨i, hi, e⟩ := List.mem_iff_getElem.1 hc
        have h := hwm i (by omega)
        rw [List.getD_eq_getElem?_getD, List.getD_eq_getElem?_getD, List.getElem?_eq_getElem hi, List.getElem?_eq_getElem hwA] at h
        rw [← e]; exact h
      have hkey : ∀ c, nxt xs (k + 1) c < xs.length → (c ≠ z.1 ↔ c ≠ A[w]) := fun c hc => by
        by_cases hM : nxt xs (k + 1) z.1 < xs.length
        · have hall : ∀ c ∈ H1, c ∈ A := fun c hc => (hif c (by have := hzmax c hc; omega)).1 hc
          have hback := sub_back H1 A hn2 hall (by omega)
          have e : z.1 = A[w] := nxt_inj hM (Nat.le_antisymm (hwmax z.1 (hall _ hz1)) (hzmax _ (hback _ (List.getElem_mem hwA))))
          rw [e]
        · have hN : ¬ nxt xs (k + 1) A[w] < xs.length := fun hlt => by
            have hall : ∀ c ∈ A, c ∈ H1 := fun c hc => (hif c (by have := hwmax c hc; omega)).2 hc
            have hback := sub_back A H1 hn1 hall (by omega)
            have := hwmax z.1 (hback _ hz1)
            omega
          exact ⟨fun _ e => hN (by rw [← e]; exact hc), fun _ e => hM (by rw [← e]; exact hc)⟩
      refine ⟨hz1, ?_⟩
      have hnz : z ∉ hs2 := (List.nodup_cons.1 (hpz.nodup_iff.2 hhp.1)).1
      unfold RlB
      rw [hs']
      refine ⟨hn1.sublist (List.eraseIdx_sublist ..), hn2.erase _, by rw [List.length_erase_of_mem hz1, List.length_eraseIdx_of_lt hwA]; omega, fun c hc => ?_, (List.nodup_cons.1 (hpz.nodup_iff.2 hhp.1)).2, fun c hc => ?_, fun u hu => ?_⟩
      · rw [List.Nodup.mem_erase_iff hn2, erase_mem hn1 hwA, hif c hc, hkey c hc]
        exact ⟨fun h => ⟨h.2, h.1⟩, fun h => ⟨h.2, h.1⟩⟩
      · obtain ⟨hcz, hcH⟩ := (List.Nodup.mem_erase_iff hn2).1 hc
        rcases List.mem_cons.1 (hpz.mem_iff.2 (hhp.2.1 c hcH)) with e | e
        · exact absurd (by rw [← e]) hcz
        · exact e
      · rcases hhp.2.2 u (hpz.mem_iff.1 (by simp [hu])) with h | ⟨ha, hb⟩
        · exact .inl h
        · refine .inr ⟨(List.Nodup.mem_erase_iff hn2).2 ⟨fun e => hnz ?_, ha⟩, hb⟩
          have : u = z := by
            obtain ⟨a, b⟩ := u
            obtain ⟨c, d⟩ := z
            dsimp only at e hb hz2
            subst e
            rw [hb, hz2]
          rw [← this]; exact hu
end Go.Proofs.Ytccibfldadflkaa

/- BestMisses of the program; the model's l10Next. No statement is proved here. -/
namespace Go.Proofs.Ytccibfldadflkaa
open Go.RowKit Go.Maps

/-- What BestMisses answers. -/
def bmB (xs : List Int) (z : Int) : Int := if xs.length ≤ 600 ∧ 0 ≤ z ∧ z ≤ 40 then mN xs z.toNat xs.length else -1
set_option linter.unusedVariables false in
set_option maxRecDepth 100000 in
set_option maxHeartbeats 2000000 in
theorem BestMisses_any (p : Option Addr) (n c : Nat) (xs : List Int) (z : Int) (w : World) (hn : xs.length = n) (hx : ∀ x ∈ xs, i64 x) (hs : IntsAt w (.slice p n c) xs) :
    Calls Try.prog 9 #[.slice p n c, .int .i64 z] w fun e w' => e = .returned (.int .i64 (bmB xs z)) ∧ Ext w w' := by
  obtain ⟨hm, -⟩ := hs.cl
  have HN := Lib.hid hn; have HS := Lib.hid hs; have HX := Lib.hid hx
  clear hn hs hx
  go_enter Try.func9, Try.ntmps9
  go_wp2_with (fail)
  refine (foreseeingOf_any _).mono ?_
  rintro e w1 ⟨mb, e0, rfl, hrec, hmb, he0, hE⟩
  have HREC := Lib.hid hrec; have HE := Lib.hid hE
  have HSB := Lib.hid (HS.out.ext hE)
  have HPB : Hid (∀ b o, p = some ⟨b, o, none⟩ → 0 < n → b ≠ mb ∧ b ≠ e0) := Lib.hid (fun b o e h0 => by have := HS.out.blk_lt (by rw [HN.out]; exact h0) e; omega)
  have HMB := Lib.hid hmb; have HE0 := Lib.hid he0
  clear hrec hE hmb he0
  go_wp2_with (fail)
  by_cases h : n ≤ 600 ∧ 0 ≤ z ∧ z ≤ 40
  · obtain ⟨h1, h2, h3⟩ := id h
    obtain ⟨Z, rfl⟩ : ∃ Z : Nat, z = Z := ⟨z.toNat, by omega⟩
    have HR : Hid (mN xs Z n = bmB xs Z) := Lib.hid (by unfold bmB; rw [HN.out, if_pos h]; rfl)
    refine (missesFo_any p n c Z mb e0 w.heap.size xs (RlB xs Z) (mN xs Z) (bmP xs Z) _ HN.out h1 (by omega) HX.out HSB.out HREC.out HE.out.size_le HPB.out).mono ?_
    rintro e w2 ⟨rfl, hl⟩
    have HE2 := Lib.hid (hl.ext0 HE.out (fun b hb h => by have := HMB.out; have := HE0.out; omega))
    clear hl
    go_wp2
    go_ret
    exact ⟨ret_i HR.out, HE2.out⟩
  · have HR : Hid ((-1 : Int) = bmB xs z) := Lib.hid (by unfold bmB; rw [HN.out, if_neg h])
    refine (missesNo_any p n c z _ _ _ hm h).mono ?_
    rintro e w2 ⟨rfl, hE2⟩
    have HE2 := Lib.hid (HE.out.trans hE2)
    clear hE2
    go_wp2
    go_ret
    exact ⟨ret_i HR.out, HE2.out⟩

set_option maxHeartbeats 1000000 in
theorem l10Next_any (p : Option Addr) (n c f : Nat) (x : Int) (xs : List Int) (w : World) (hn : xs.length = n) (hf : f ≤ n) (hm : n ≤ 600) (hs : IntsAt w (.slice p n c) xs) :
    Calls Try.prog 29 #[.slice p n c, .int .i64 (f : Int), .int .i64 x] w fun e w' => e = .returned (.int .i64 (nxt xs f x : Int)) ∧ w = w' := by
  have HN := Lib.hid hn; have HS := Lib.hid hs
  clear hn hs
  go_enter Try.func29, Try.ntmps29
  go_wp2
  go_loop [7] (fun i => ∃ j : Nat, f ≤ j ∧ j ≤ n ∧ i = .int .i64 j ∧ nxt xs j x = nxt xs f x) (fun i => n - (intOf i).toNat)
  case atStart => exact ⟨f, Nat.le_refl _, hf, rfl, rfl⟩
  case round =>
    obtain ⟨j, hfj, hj, rfl, hnx⟩ := hrel
    have HX := Lib.hid hnx
    clear hnx
    by_cases hlt : j < n
    · obtain ⟨y, hy⟩ := get_some (xs := xs) (k := j) (by rw [HN.out]; exact hlt)
      obtain ⟨b, off, rfl, hcell⟩ := HS.out.cl.2 j y hy
      have HY := Lib.hid hy
      have hjI : (j : Int) < (n : Int) := by omega
      clear hy
      by_cases e : y = x
      · have hd : (y == x) = true := by simpa using e
        have hd2 : decide (y = x) = true := by simpa using e
        have HR : Hid (nxt xs f x = j) := Lib.hid (by rw [← HX.out, ← e, nxt_self HY.out])
        clear e
        go_wp2
        go_ret
        rw [HR.out]
        exact ⟨rfl, rfl⟩
      · have hd : (y == x) = false := by simpa using e
        have hd2 : decide (y = x) = false := by simpa using e
        have HR : Hid (nxt xs (j + 1) x = nxt xs f x) := Lib.hid (by rw [← HX.out, nxt_step HY.out (fun h => e h.symm)])
        clear e
        go_wp2
        go_round
        case rel => exact ⟨j + 1, by omega, by omega, by go_num, HR.out⟩
        case measure => simp [intOf]; omega
    · have e : j = n := by omega
      subst e
      have HR : Hid (nxt xs f x = j) := Lib.hid (by
        rw [← HX.out]
        have h1 := nxt_le (xs := xs) (f := j) x (by rw [HN.out]; exact Nat.le_refl _)
        have h2 := nxt_ge xs j x
        rw [HN.out] at h1; omega)
      go_wp2
      go_ret
      rw [HR.out]
      exact ⟨rfl, rfl⟩
end Go.Proofs.Ytccibfldadflkaa

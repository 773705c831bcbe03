/- Marks in nests; what the marks are when they are looked at. -/
import Derived.Test.YtabkhiakekammabP2
namespace Go.Proofs.Ytabkhiakekammab
open Go.RowKit

def endP (k : Int) (l : Lp) : Int := endA (endA k l.1) l.2
def markP (k : Int) (l : Lp) : Lp := (markAs k l.1, markAs (endA k l.1) l.2)
def markLs : Int → List Lp → List Lp
  | _, [] => []
  | k, a :: r => markP k a :: markLs (endP k a) r
def endL : Int → List Lp → Int
  | k, [] => k
  | k, a :: r => endL (endP k a) r
theorem endP_ge (k : Int) (l : Lp) : k ≤ endP k l := Int.le_trans (endA_ge k l.1) (endA_ge _ l.2)
theorem markLs_len (k : Int) (l : List Lp) : (markLs k l).length = l.length := by
  induction l generalizing k with
  | nil => rfl
  | cons a r ih => simp [markLs, ih]
theorem endL_app (k : Int) (l r : List Lp) : endL k (l ++ r) = endL (endL k l) r := by
  induction l generalizing k with
  | nil => rfl
  | cons a l ih => simp only [List.cons_append, endL]; exact ih _
theorem markLs_app (k : Int) (l r : List Lp) : markLs k (l ++ r) = markLs k l ++ markLs (endL k l) r := by
  induction l generalizing k with
  | nil => rfl
  | cons a l ih => simp only [List.cons_append, markLs, endL]; rw [ih]
theorem endL_ge (k : Int) (l : List Lp) : k ≤ endL k l := by
  induction l generalizing k with
  | nil => exact Int.le_refl _
  | cons a l ih => exact Int.le_trans (endP_ge k a) (ih _)
theorem endL_next {l : List Lp} {i : Nat} {a : Lp} (h : l[i]? = some a) (k : Int) : endL k (l.take (i + 1)) = endP (endL k (l.take i)) a := by
  rw [take_next h, endL_app]; rfl
theorem endL_take (k : Int) (l : List Lp) (i : Nat) : endL k (l.take i) ≤ endL k l := by
  conv => rhs; rw [← List.take_append_drop i l, endL_app]
  exact endL_ge _ _
theorem drop_cons {α : Type} {l : List α} {i : Nat} {a : α} (h : l[i]? = some a) : l.drop i = a :: l.drop (i + 1) := by
  rw [List.drop_eq_getElem_cons (List.getElem?_eq_some_iff.1 h).1, (List.getElem?_eq_some_iff.1 h).2]
theorem markLs_get {l : List Lp} {i : Nat} {a : Lp} (h : l[i]? = some a) (k : Int) : (markLs k l)[i]? = some (markP (endL k (l.take i)) a) := by
  have hlt : i < l.length := (List.getElem?_eq_some_iff.1 h).1
  conv => lhs; rw [← List.take_append_drop i l, markLs_app]
  rw [drop_cons h, List.getElem?_append_right (by rw [markLs_len, List.length_take]; omega), markLs_len, List.length_take, Nat.min_eq_left (by omega), Nat.sub_self]
  rfl
def midL (k : Int) (l : List Lp) (i : Nat) : List Lp := markLs k (l.take i) ++ l.drop i
theorem midL_len (k : Int) (l : List Lp) (i : Nat) : (midL k l i).length = l.length := by
  simp only [midL, List.length_append, markLs_len, List.length_take, List.length_drop]; omega
theorem midL_get {l : List Lp} {i : Nat} {a : Lp} (h : l[i]? = some a) (k : Int) : (midL k l i)[i]? = some a := by
  have hlt : i < l.length := (List.getElem?_eq_some_iff.1 h).1
  unfold midL
  rw [List.getElem?_append_right (by rw [markLs_len, List.length_take]; omega), markLs_len, List.length_take, Nat.min_eq_left (by omega), Nat.sub_self, List.getElem?_drop, Nat.add_zero]
  exact h
theorem midL_next {l : List Lp} {i : Nat} {a : Lp} (h : l[i]? = some a) (k : Int) : (midL k l i).set i (markP (endL k (l.take i)) a) = midL k l (i + 1) := by
  have hlt : i < l.length := (List.getElem?_eq_some_iff.1 h).1
  unfold midL
  rw [drop_cons h, List.set_append_right _ _ (by rw [markLs_len, List.length_take]; omega), markLs_len, List.length_take, Nat.min_eq_left (by omega), Nat.sub_self, List.set_cons_zero, take_next h, markLs_app, List.append_assoc]
  rfl
theorem nodup_ne {F0 F1 : List Nat} (h : (F0 ++ F1).Nodup) : (∀ y ∈ F0, y ∉ F1) ∧ ∀ y ∈ F1, y ∉ F0 :=
  ⟨fun y hy hy' => (List.nodup_append.1 h).2.2 y hy y hy' rfl, fun y hy hy' => (List.nodup_append.1 h).2.2 y hy' y hy rfl⟩

theorem SmallP {l : List Lp} (h : ∀ x ∈ l, x.1.length ≤ 1000000 ∧ x.2.length ≤ 1000000) {i : Nat} {x : Lp} (hx : l[i]? = some x) : x.1.length ≤ 1000000 ∧ x.2.length ≤ 1000000 := h x (List.mem_of_getElem? hx)

set_option maxHeartbeats 2000000 in
theorem markLoopS_any (B : Nat) (p : Option Addr) (n c : Nat) (xs : List Lp) (F : List Nat) (k : Int) (w : World) (hn : xs.length = n) (ho : LoopsF B w (.slice p n c) xs F) (hk : 0 ≤ k) (hk1 : endL k xs ≤ 1000000000) (hn1 : n ≤ 1000000) (hsm : ∀ x ∈ xs, x.1.length ≤ 1000000 ∧ x.2.length ≤ 1000000) :
    Calls Try.prog 24 #[.slice p n c, .int .i64 k] w fun e w' => e = .returned (.int .i64 (endL k xs)) ∧ LoopsF B w' (.slice p n c) (markLs k xs) F ∧ Kp F w w' := by
  have HO := Lib.hid ho; have HN := Lib.hid hn; have HSM := Lib.hid hsm; clear ho hn hsm
  have HK1 := Lib.hid hk1; clear hk1
  go_enter Try.func24, Try.ntmps24
  go_wp2
  go_loopw [1, 5] (fun kk i wr => ∃ j : Nat, j ≤ n ∧ i = .int .i64 j ∧ kk = .int .i64 (endL k (xs.take j)) ∧ LoopsF B wr (.slice p n c) (midL k xs j) F ∧ Kp F w wr) (fun _ i _ => n - (intOf i).toNat)
  case atStart => exact ⟨0, by omega, rfl, by simp [endL], by simpa [midL, markLs] using HO.out, Kp.refl _ _⟩
  case round =>
    obtain ⟨j, hj, rfl, rfl, hown, hg⟩ := hrel
    by_cases hlt : j < n
    · obtain ⟨x, hx⟩ := get_some (xs := xs) (k := j) (by rw [HN.out]; exact hlt)
      obtain ⟨g, c', e⟩ := PairsF.form hown (by rw [midL_len, HN.out]; omega)
      simp only [Value.slice.injEq] at e
      obtain ⟨rfl, -, rfl⟩ := e
      obtain ⟨u0, u1, Fi, ⟨F0, F1, hF01, hnd, h0, h1⟩, hsub, hgF, hcell, hturn⟩ := PairsF.turn (T := 48) (R := LoopF) (fun h hk hd => LoopF.kp h hk hd) hown (midL_get hx k)
      obtain ⟨c0, c1, f1⟩ := hcell n c g rfl
      obtain ⟨q0, m0, rfl, hm0⟩ := h0.at.form
      obtain ⟨q1, m1, rfl, hm1⟩ := h1.at.form
      obtain ⟨hs0, hs1⟩ := SmallP HSM.out hx
      have hge := endL_ge k (xs.take j)
      have hnx := endL_next hx k
      have hle := endL_take k xs (j + 1)
      have hb1 := HK1.out
      have HX := Lib.hid hx; have HNX := Lib.hid hnx; have H0 := Lib.hid h0; have H1 := Lib.hid h1; have HT := Lib.hid hturn; have HG := Lib.hid hg; have HS := Lib.hid hsub; have HF01 := Lib.hid hF01; have HND := Lib.hid hnd
      clear hx hnx h0 h1 hturn hg hcell hsub hgF hF01 hnd hown f1
      rw [HNX.out] at hle
      generalize hE : endL k (xs.take j) = z at *
      have HE := Lib.hid hE; clear hE
      have hz1 := endA_ge z x.1
      have hz2 := endA_ge (endA z x.1) x.2
      have hzP : endP z x = endA (endA z x.1) x.2 := rfl
      rw [hzP] at hle
      clear hzP
      go_wp2_with (fail)
      refine (markAffineS_any B q0 x.1.length m0 x.1 F0 z _ rfl H0.out (by omega) (by omega) hs0).mono ?_
      rintro e w1 ⟨rfl, h1', K1⟩
      have hdis := nodup_ne (by rw [← HF01.out]; exact HND.out)
      have T1 := HT.out w1 (markAs z x.1, x.2) (K1.mono (by intro y hy; rw [HF01.out]; exact List.mem_append_left _ hy)) ⟨F0, F1, HF01.out, HND.out, h1', H1.out.kp K1 hdis.2⟩
      have hl1 : j < (midL k xs j).length := by rw [midL_len, HN.out]; exact hlt
      have he1 : ((midL k xs j).set j (markAs z x.1, x.2))[j]? = some (markAs z x.1, x.2) := List.getElem?_set_self hl1
      have KW1 := HG.out.trans (K1.mono (G := F) (by intro y hy; exact HS.out y (by rw [HF01.out]; exact List.mem_append_left _ hy)))
      obtain ⟨u0', u1', Fi', ⟨F0', F1', hF01', hnd', h0', h1''⟩, hsub', -, hcell', hturn'⟩ := PairsF.turn (T := 48) (R := LoopF) (fun h hk hd => LoopF.kp h hk hd) T1 he1
      obtain ⟨d0, d1, f1'⟩ := hcell' n c g rfl
      obtain ⟨q1', m1', rfl, hm1'⟩ := h1''.at.form
      have H0' := Lib.hid h0'; have H1' := Lib.hid h1''; have HT' := Lib.hid hturn'; have HS' := Lib.hid hsub'; have HF01' := Lib.hid hF01'; have HND' := Lib.hid hnd'; have HKW := Lib.hid KW1
      clear h1' K1 hdis T1 he1 KW1 h0' h1'' hcell' hturn' hsub' hF01' hnd' H0 H1 HT HG HS HF01 HND c0 c1 hl1 f1'
      dsimp only at d0 d1
      go_wp2_with (fail)
      refine (markAffineS_any B q1' x.2.length m1' x.2 F1' (endA z x.1) _ rfl H1'.out (by omega) (by omega) hs1).mono ?_
      rintro e w2 ⟨rfl, h2', K2⟩
      have hdis := nodup_ne (by rw [← HF01'.out]; exact HND'.out)
      have T2 := HT'.out w2 (markAs z x.1, markAs (endA z x.1) x.2) (K2.mono (by intro y hy; rw [HF01'.out]; exact List.mem_append_right _ hy)) ⟨F0', F1', HF01'.out, HND'.out, H0'.out.kp K2 hdis.1, h2'⟩
      rw [List.set_set] at T2
      have hmp : (markAs z x.1, markAs (endA z x.1) x.2) = markP (endL k (xs.take j)) x := by rw [HE.out]; rfl
      rw [hmp, midL_next HX.out k] at T2
      have KW2 := HKW.out.trans (K2.mono (G := F) (by intro y hy; exact HS'.out y (by rw [HF01'.out]; exact List.mem_append_right _ hy)))
      have HT2 := Lib.hid T2; have HK2 := Lib.hid KW2
      clear T2 KW2 hmp hdis K2 h2' H0' H1' HT' HS' HF01' HND' HKW d0 d1
      go_wp2
      go_roundw
      case rel => exact ⟨j + 1, by omega, by go_num, by rw [HNX.out]; rfl, HT2.out, HK2.out⟩
      case measure => simp [intOf]; omega
    · have e : j = n := by omega
      subst e
      go_wp2
      go_ret
      rw [List.take_of_length_le (by rw [HN.out]; omega)]
      refine ⟨rfl, ?_, hg⟩
      have h := hown
      unfold midL at h
      rwa [List.take_of_length_le (by rw [HN.out]; omega), List.drop_eq_nil_of_le (by rw [HN.out]; omega), List.append_nil] at h

set_option maxHeartbeats 2000000 in
theorem heldLoopS_any (p : Option Addr) (n c : Nat) (xs : List Lp) (k : Int) (w : World) (hn : xs.length = n) (hs : LoopsAt w (.slice p n c) (markLs k xs)) (hk : 0 ≤ k) (hk1 : endL k xs ≤ 1000000000) (hn1 : n ≤ 1000000) (hsm : ∀ x ∈ xs, x.1.length ≤ 1000000 ∧ x.2.length ≤ 1000000) :
    Calls Try.prog 25 #[.slice p n c, .int .i64 k] w fun e w' => e = .returned (.int .i64 (endL k xs)) ∧ w = w' := by
  have HS := Lib.hid hs; have HN := Lib.hid hn; have HK1 := Lib.hid hk1; have HSM := Lib.hid hsm; clear hs hn hk1 hsm
  go_enter Try.func25, Try.ntmps25
  go_wp2
  go_loop [1, 5] (fun kk i => ∃ j : Nat, j ≤ n ∧ i = .int .i64 j ∧ kk = .int .i64 (endL k (xs.take j))) (fun _ i => n - (intOf i).toNat)
  case atStart => exact ⟨0, by omega, rfl, by simp [endL]⟩
  case round =>
    obtain ⟨j, hj, rfl, rfl⟩ := hrel
    by_cases hlt : j < n
    · obtain ⟨x, hx⟩ := get_some (xs := xs) (k := j) (by rw [HN.out]; exact hlt)
      obtain ⟨b, off, q, m, q', m', rfl, c0, c1, hb, hr, hr'⟩ := HS.out.elem (markLs_get hx k)
      obtain ⟨hs0, hs1⟩ := SmallP HSM.out hx
      have hge := endL_ge k (xs.take j)
      have hnx := endL_next hx k
      have hle := endL_take k xs (j + 1)
      have hb1 := HK1.out
      simp only [markP, markAs_len] at c0 c1 hr hr'
      have HR := Lib.hid hr; have HR' := Lib.hid hr'; have HNX := Lib.hid hnx; clear hr hr' hnx hx
      rw [HNX.out] at hle
      generalize endL k (xs.take j) = z at *
      have hz1 := endA_ge z x.1
      have hz2 := endA_ge (endA z x.1) x.2
      have hzP : endP z x = endA (endA z x.1) x.2 := rfl
      rw [hzP] at hle
      clear hzP
      go_wp2_with (fail)
      refine (heldAffineS_any _ x.1.length _ x.1 z _ rfl HR.out (by omega) (by omega) hs0).mono ?_
      rintro e w1 ⟨rfl, rfl⟩
      have hd : decide (endA z x.1 < 0) = false := by simp; omega
      go_wp2_with (fail)
      refine (heldAffineS_any _ x.2.length _ x.2 (endA z x.1) _ rfl HR'.out (by omega) (by omega) hs1).mono ?_
      rintro e w1 ⟨rfl, rfl⟩
      have hd2 : decide (endA (endA z x.1) x.2 < 0) = false := by simp; omega
      go_wp2
      go_round
      case rel => exact ⟨j + 1, by omega, by go_num, by rw [HNX.out]; rfl⟩
      case measure => simp [intOf]; omega
    · have e : j = n := by omega
      subst e
      go_wp2
      go_ret
      rw [List.take_of_length_le (by rw [HN.out]; omega)]
      exact ⟨rfl, rfl⟩
end Go.Proofs.Ytabkhiakekammab

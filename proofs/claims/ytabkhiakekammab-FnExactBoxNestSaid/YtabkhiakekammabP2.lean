/- Marks in lists of expressions and nests; what the marks are when they are looked at. -/
import Derived.Test.YtabkhiakekammabP1
namespace Go.Proofs.Ytabkhiakekammab
open Go.RowKit

def AffF (B : Nat) (w : World) (u0 u1 : Value) (a : Aff) (F : List Nat) : Prop := IntsF B w u0 a.1 F ∧ u1 = .int .i64 a.2
theorem AffF.kp {B : Nat} {w w' : World} {u0 u1 : Value} {x : Aff} {F G : List Nat} (h : AffF B w u0 u1 x F) (hk : Kp G w w') (hd : ∀ y ∈ F, y ∉ G) : AffF B w' u0 u1 x F := ⟨h.1.kp hk hd, h.2⟩
def AffsF : Nat → World → Value → List Aff → List Nat → Prop := PairsF 57 AffF
theorem AffsF.kp {B : Nat} {w w' : World} {v : Value} {xs : List Aff} {F G : List Nat} (h : AffsF B w v xs F) (hk : Kp G w w') (hd : ∀ y ∈ F, y ∉ G) : AffsF B w' v xs F := PairsF.kp (fun h hk hd => h.kp hk hd) h hk hd
def LoopF (B : Nat) (w : World) (u0 u1 : Value) (x : Lp) (F : List Nat) : Prop := ∃ F0 F1, F = F0 ++ F1 ∧ F.Nodup ∧ AffsF B w u0 x.1 F0 ∧ AffsF B w u1 x.2 F1
theorem LoopF.kp {B : Nat} {w w' : World} {u0 u1 : Value} {x : Lp} {F G : List Nat} (h : LoopF B w u0 u1 x F) (hk : Kp G w w') (hd : ∀ y ∈ F, y ∉ G) : LoopF B w' u0 u1 x F := by
  obtain ⟨F0, F1, e, hn, h0, h1⟩ := h
  exact ⟨F0, F1, e, hn, h0.kp hk (fun y hy => hd y (by rw [e]; simp [hy])), h1.kp hk (fun y hy => hd y (by rw [e]; simp [hy]))⟩
def LoopsF : Nat → World → Value → List Lp → List Nat → Prop := PairsF 48 LoopF
theorem LoopsF.kp {B : Nat} {w w' : World} {v : Value} {xs : List Lp} {F G : List Nat} (h : LoopsF B w v xs F) (hk : Kp G w w') (hd : ∀ y ∈ F, y ∉ G) : LoopsF B w' v xs F := PairsF.kp (fun h hk hd => h.kp hk hd) h hk hd

theorem PairsF.at' {α : Type} {T : TypeId} {R : Nat → World → Value → Value → α → List Nat → Prop} {Q : World → Value → Value → α → Prop} (hq : ∀ {B w u0 u1 x F}, R B w u0 u1 x F → Q w u0 u1 x) {B : Nat} {w : World} {v : Value} {xs : List α} {F : List Nat} (h : PairsF T R B w v xs F) : PairsAt Q w v xs := by
  obtain ⟨vs, Fs, ho, hl, hF, hn, he⟩ := h
  rcases ho.2 with ⟨rfl, hn0⟩ | ⟨g, cap, cur, rfl, _⟩
  · refine ⟨none, 0, by rw [hn0], by omega, fun i x hi => ?_⟩
    rw [List.eq_nil_of_length_eq_zero hn0] at hi; simp at hi
  · refine PairsAt.own ho rfl (fun i x hi => ?_)
    obtain ⟨u0, u1, Fi, h0, h1, h2, h3⟩ := he i x hi
    exact ⟨u0, u1, h0, h1, hq h3⟩
theorem AffsF.at {B : Nat} {w : World} {v : Value} {xs : List Aff} {F : List Nat} (h : AffsF B w v xs F) : AffsAt w v xs := PairsF.at' (fun h => ⟨h.1.1.at, h.2⟩) h
theorem LoopsF.at {B : Nat} {w : World} {v : Value} {xs : List Lp} {F : List Nat} (h : LoopsF B w v xs F) : LoopsAt w v xs :=
  PairsF.at' (fun h => by obtain ⟨_, _, _, _, h0, h1⟩ := h; exact ⟨h0.at, h1.at⟩) h
theorem PairsF.form {α : Type} {T : TypeId} {R : Nat → World → Value → Value → α → List Nat → Prop} {B : Nat} {w : World} {v : Value} {xs : List α} {F : List Nat} (h : PairsF T R B w v xs F) (h0 : 0 < xs.length) : ∃ g c, v = .slice (some ⟨g, 0, none⟩) xs.length c := by
  obtain ⟨vs, Fs, ho, _⟩ := h
  rcases ho.2 with ⟨_, hn0⟩ | ⟨g, cap, cur, e, _⟩
  · omega
  · exact ⟨g, cap, e⟩

theorem PairsF.mem {α : Type} {T : TypeId} {R : Nat → World → Value → Value → α → List Nat → Prop} {B g n c : Nat} {w : World} {xs : List α} {F : List Nat} (h : PairsF T R B w (.slice (some ⟨g, 0, none⟩) n c) xs F) : g ∈ F := by
  obtain ⟨vs, Fs, ho, hl, hF, _⟩ := h
  rw [hF]; simp [Value.ownBlock]

/-- The marks of a list of expressions from k on, and the number behind the last one. -/
def markAs : Int → List Aff → List Aff
  | _, [] => []
  | k, a :: r => (marks k a.1.length, k + a.1.length) :: markAs (k + a.1.length + 1) r
def endA : Int → List Aff → Int
  | k, [] => k
  | k, a :: r => endA (k + a.1.length + 1) r
theorem markAs_len (k : Int) (l : List Aff) : (markAs k l).length = l.length := by
  induction l generalizing k with
  | nil => rfl
  | cons a r ih => simp [markAs, ih]
theorem endA_app (k : Int) (l r : List Aff) : endA k (l ++ r) = endA (endA k l) r := by
  induction l generalizing k with
  | nil => rfl
  | cons a l ih => simp only [List.cons_append, endA]; exact ih _
theorem markAs_app (k : Int) (l r : List Aff) : markAs k (l ++ r) = markAs k l ++ markAs (endA k l) r := by
  induction l generalizing k with
  | nil => rfl
  | cons a l ih => simp only [List.cons_append, markAs, endA]; rw [ih]
theorem endA_ge (k : Int) (l : List Aff) : k ≤ endA k l := by
  induction l generalizing k with
  | nil => exact Int.le_refl _
  | cons a l ih => have := ih (k + a.1.length + 1); simp only [endA]; omega
theorem endA_next {l : List Aff} {i : Nat} {a : Aff} (h : l[i]? = some a) (k : Int) : endA k (l.take (i + 1)) = endA k (l.take i) + a.1.length + 1 := by
  rw [take_next h, endA_app]; rfl
theorem endA_take (k : Int) (l : List Aff) (i : Nat) : endA k (l.take i) ≤ endA k l := by
  conv => rhs; rw [← List.take_append_drop i l, endA_app]
  exact endA_ge _ _
theorem markAs_get {l : List Aff} {i : Nat} {a : Aff} (h : l[i]? = some a) (k : Int) : (markAs k l)[i]? = some (marks (endA k (l.take i)) a.1.length, endA k (l.take i) + a.1.length) := by
  have hlt : i < l.length := (List.getElem?_eq_some_iff.1 h).1
  conv => lhs; rw [← List.take_append_drop i l, markAs_app]
  have hd : l.drop i = a :: l.drop (i + 1) := by
    rw [List.drop_eq_getElem_cons hlt, (List.getElem?_eq_some_iff.1 h).2]
  rw [hd, List.getElem?_append_right (by rw [markAs_len, List.length_take]; omega), markAs_len, List.length_take, Nat.min_eq_left (by omega), Nat.sub_self]
  rfl
/-- The list with its first i elements marked. -/
def midA (k : Int) (l : List Aff) (i : Nat) : List Aff := markAs k (l.take i) ++ l.drop i
theorem midA_len (k : Int) (l : List Aff) (i : Nat) : (midA k l i).length = l.length := by
  simp only [midA, List.length_append, markAs_len, List.length_take, List.length_drop]; omega
theorem midA_get {l : List Aff} {i : Nat} {a : Aff} (h : l[i]? = some a) (k : Int) : (midA k l i)[i]? = some a := by
  have hlt : i < l.length := (List.getElem?_eq_some_iff.1 h).1
  unfold midA
  rw [List.getElem?_append_right (by rw [markAs_len, List.length_take]; omega), markAs_len, List.length_take, Nat.min_eq_left (by omega), Nat.sub_self, List.getElem?_drop, Nat.add_zero]
  exact h
theorem midA_next {l : List Aff} {i : Nat} {a : Aff} (h : l[i]? = some a) (k : Int) : (midA k l i).set i (marks (endA k (l.take i)) a.1.length, endA k (l.take i) + a.1.length) = midA k l (i + 1) := by
  have hlt : i < l.length := (List.getElem?_eq_some_iff.1 h).1
  have hd : l.drop i = a :: l.drop (i + 1) := by
    rw [List.drop_eq_getElem_cons hlt, (List.getElem?_eq_some_iff.1 h).2]
  unfold midA
  rw [hd, List.set_append_right _ _ (by rw [markAs_len, List.length_take]; omega), markAs_len, List.length_take, Nat.min_eq_left (by omega), Nat.sub_self, List.set_cons_zero, take_next h, markAs_app, List.append_assoc]
  rfl

set_option maxHeartbeats 1000000 in
theorem markAffineS_any (B : Nat) (p : Option Addr) (n c : Nat) (xs : List Aff) (F : List Nat) (k : Int) (w : World) (hn : xs.length = n) (ho : AffsF B w (.slice p n c) xs F) (hk : 0 ≤ k) (hk1 : endA k xs ≤ 1000000000) (hn1 : n ≤ 1000000) :
    Calls Try.prog 39 #[.slice p n c, .int .i64 k] w fun e w' => e = .returned (.int .i64 (endA k xs)) ∧ AffsF B w' (.slice p n c) (markAs k xs) F ∧ Kp F w w' := by
  have HO := Lib.hid ho; have HN := Lib.hid hn; clear ho hn
  have HK1 := Lib.hid hk1; clear hk1
  go_enter Try.func39, Try.ntmps39
  go_wp2
  go_loopw [1, 5] (fun kk i wr => ∃ j : Nat, j ≤ n ∧ i = .int .i64 j ∧ kk = .int .i64 (endA k (xs.take j)) ∧ AffsF B wr (.slice p n c) (midA k xs j) F ∧ Kp F w wr) (fun _ i _ => n - (intOf i).toNat)
  case atStart => exact ⟨0, by omega, rfl, by simp [endA], by simpa [midA, markAs] using HO.out, Kp.refl _ _⟩
  case round =>
    obtain ⟨j, hj, rfl, rfl, hown, hg⟩ := hrel
    by_cases hlt : j < n
    · obtain ⟨x, hx⟩ := get_some (xs := xs) (k := j) (by rw [HN.out]; exact hlt)
      obtain ⟨g, c', e⟩ := PairsF.form hown (by rw [midA_len, HN.out]; omega)
      simp only [Value.slice.injEq] at e
      obtain ⟨rfl, -, rfl⟩ := e
      obtain ⟨u0, u1, Fi, ⟨hi0, rfl⟩, hsub, hgF, hcell, hturn⟩ := PairsF.turn (T := 57) (R := AffF) (fun h hk hd => AffF.kp h hk hd) hown (midA_get hx k)
      obtain ⟨c0, c1, f1⟩ := hcell n c g rfl
      have hFi := hi0.2
      obtain ⟨q, m, rfl, hm, -⟩ := hi0.1.at
      have hge := endA_ge k (xs.take j)
      have hnx := endA_next hx k
      have hle := endA_take k xs (j + 1)
      have hb1 := HK1.out
      have HX := Lib.hid hx; have HNX := Lib.hid hnx; have HI := Lib.hid hi0; have HT := Lib.hid hturn; have HG := Lib.hid hg; have HS := Lib.hid hsub; have HGF := Lib.hid hgF; have HFi := Lib.hid hFi
      clear hx hnx hi0 hturn hg hcell hsub hgF hFi hown
      rw [HNX.out] at hle
      generalize hE : endA k (xs.take j) = z at *
      have HE := Lib.hid hE; clear hE
      go_wp2_with (fail)
      refine (markIntS_any B q x.1.length m x.1 z _ rfl HI.out.1 (by omega) (by omega)).mono ?_
      rintro e w1 ⟨rfl, h1, h2⟩
      have hkp : Kp Fi wr w1 := by rw [HFi.out]; exact Kp.of_grown h2
      have T1 := HT.out w1 (marks z x.1.length, x.2) hkp ⟨⟨IntsOwn.mk h1 (marks_len _ _), HFi.out⟩, rfl⟩
      have hl1 : j < (midA k xs j).length := by rw [midA_len, HN.out]; exact hlt
      have he1 : ((midA k xs j).set j (marks z x.1.length, x.2))[j]? = some (marks z x.1.length, x.2) := List.getElem?_set_self hl1
      obtain ⟨_, _, _, -, -, -, hcell1, -⟩ := PairsF.turn (T := 57) (R := AffF) (fun h hk hd => AffF.kp h hk hd) T1 he1
      obtain ⟨d0, d1, f1'⟩ := hcell1 n c g rfl
      have T2 := PairsF.turn1 (T := 57) (R := AffF) (fun h hk hd => AffF.kp h hk hd) T1 he1 (.int .i64 (z + x.1.length)) (x' := (marks z x.1.length, z + x.1.length)) (fun h => ⟨h.1, rfl⟩)
      rw [List.set_set, ← HE.out, midA_next HX.out k, HE.out] at T2
      have hgm := PairsF.mem T2
      have K2 := Lib.hid ((HG.out.trans (hkp.mono HS.out)).trans ((Kp.set w1 g (j * 2 + 1) (.int .i64 (z + x.1.length))).mono (by intro y hy; simp at hy; rw [hy]; exact hgm)))
      have HT2 := Lib.hid T2
      clear T1 T2 hkp hcell1 h1 h2 he1 hgm c0 c1 f1 HT HG HS HGF HFi HI
      go_wp2
      go_roundw
      case rel => exact ⟨j + 1, by omega, by go_num, by rw [HNX.out], HT2.out, K2.out⟩
      case measure => simp [intOf]; omega
    · have e : j = n := by omega
      subst e
      go_wp2
      go_ret
      rw [List.take_of_length_le (by rw [HN.out]; omega)]
      refine ⟨rfl, ?_, hg⟩
      have h := hown
      unfold midA at h
      rwa [List.take_of_length_le (by rw [HN.out]; omega), List.drop_eq_nil_of_le (by rw [HN.out]; omega), List.append_nil] at h

set_option maxHeartbeats 1000000 in
theorem heldAffineS_any (p : Option Addr) (n c : Nat) (xs : List Aff) (k : Int) (w : World) (hn : xs.length = n) (hs : AffsAt w (.slice p n c) (markAs k xs)) (hk : 0 ≤ k) (hk1 : endA k xs ≤ 1000000000) (hn1 : n ≤ 1000000) :
    Calls Try.prog 40 #[.slice p n c, .int .i64 k] w fun e w' => e = .returned (.int .i64 (endA k xs)) ∧ w = w' := by
  have HS := Lib.hid hs; have HN := Lib.hid hn; have HK1 := Lib.hid hk1; clear hs hn hk1
  go_enter Try.func40, Try.ntmps40
  go_wp2
  go_loop [1, 5] (fun kk i => ∃ j : Nat, j ≤ n ∧ i = .int .i64 j ∧ kk = .int .i64 (endA k (xs.take j))) (fun _ i => n - (intOf i).toNat)
  case atStart => exact ⟨0, by omega, rfl, by simp [endA]⟩
  case round =>
    obtain ⟨j, hj, rfl, rfl⟩ := hrel
    by_cases hlt : j < n
    · obtain ⟨x, hx⟩ := get_some (xs := xs) (k := j) (by rw [HN.out]; exact hlt)
      obtain ⟨b, off, q, m, rfl, c0, c1, hb, hr⟩ := HS.out.elem (markAs_get hx k)
      dsimp only at c0 c1 hr
      have hge := endA_ge k (xs.take j)
      have hnx := endA_next hx k
      have hle := endA_take k xs (j + 1)
      have hb1 := HK1.out
      rw [marks_len] at c0
      have HR := Lib.hid hr; have HNX := Lib.hid hnx; clear hr hnx hx
      rw [HNX.out] at hle
      generalize endA k (xs.take j) = z at *
      go_wp2_with (fail)
      refine (heldIntS_any _ x.1.length z _ (by have h := HR.out; rw [marks_len] at h; exact h) (by omega) (by omega)).mono ?_
      rintro e w1 ⟨rfl, rfl⟩
      have hd : decide (z + (x.1.length : Int) < 0) = false := by simp; omega
      go_wp2
      go_round
      case rel => exact ⟨j + 1, by omega, by go_num, by rw [HNX.out]⟩
      case measure => simp [intOf]; omega
    · have e : j = n := by omega
      subst e
      go_wp2
      go_ret
      rw [List.take_of_length_le (by rw [HN.out]; omega)]
      exact ⟨rfl, rfl⟩
end Go.Proofs.Ytabkhiakekammab

/- The texts Ac, joined. No statement is proved here. -/
import Derived.Test.YtggpjapmhakklaaK20
import Derived.Test.YtggpjapmhakklaaK48
import Derived.Test.YtggpjapmhakklaaK24
import Derived.Test.YtggpjapmhakklaaK44
/- Accesses with their blocks; marks in lists of accesses, what the marks are when they are looked at; lists of accesses compared. No statement is proved here. -/
namespace Go.Proofs.Ytggpjapmhakklaa
open Go.RowKit

/-- An access: its array and its subscripts. -/
def AcR (w : World) (u0 u1 : Value) (a : Acc) : Prop := u0 = .string a.1 ∧ AffsAt w u1 a.2
theorem AcR.ext {w w' : World} {u0 u1 : Value} {a : Acc} (h : AcR w u0 u1 a) (hb : Ext w w') : AcR w' u0 u1 a := ⟨h.1, h.2.ext hb⟩
/-- The value v reads as a list of accesses. -/
def AcsAt : World → Value → List Acc → Prop := PairsAt AcR
theorem AcsAt.ext {w w' : World} {v : Value} {xs : List Acc} (h : AcsAt w v xs) (hb : Ext w w') : AcsAt w' v xs := PairsAt.ext (R := AcR) (fun h hb => h.ext hb) h hb
theorem AcsAt.form {w : World} {v : Value} {xs : List Acc} (h : AcsAt w v xs) : ∃ p c, v = .slice p xs.length c ∧ xs.length ≤ 9223372036854775807 := by
  obtain ⟨p, c, hv, hm, _⟩ := h; exact ⟨p, c, hv, hm⟩
theorem AcsAt.elem {w : World} {p : Option Addr} {n c : Nat} {xs : List Acc} (h : AcsAt w (.slice p n c) xs) {i : Nat} {x : Acc} (hi : xs[i]? = some x) :
    ∃ b off q m, p = some ⟨b, off, none⟩ ∧ w.cell? ⟨b, off + i * 2, none⟩ = some (.string x.1) ∧ w.cell? ⟨b, off + i * 2 + 1, none⟩ = some (.slice q x.2.length m) ∧ b < w.heap.size ∧ AffsAt w (.slice q x.2.length m) x.2 := by
  obtain ⟨p', c', hv, hm, hc⟩ := h
  cases hv
  obtain ⟨b, off, u0, u1, hp, h0, h1, hlt, rfl, hr⟩ := hc i x hi
  obtain ⟨q, m, rfl, _⟩ := id hr
  exact ⟨b, off, q, m, hp, h0, h1, hlt, hr⟩

/-- An access and the blocks of its subscripts. -/
def AccF (B : Nat) (w : World) (u0 u1 : Value) (a : Acc) (F : List Nat) : Prop := u0 = .string a.1 ∧ AffsF B w u1 a.2 F
theorem AccF.kp {B : Nat} {w w' : World} {u0 u1 : Value} {x : Acc} {F G : List Nat} (h : AccF B w u0 u1 x F) (hk : Kp G w w') (hd : ∀ y ∈ F, y ∉ G) : AccF B w' u0 u1 x F := ⟨h.1, h.2.kp hk hd⟩
def AccsF : Nat → World → Value → List Acc → List Nat → Prop := PairsF 44 AccF
theorem AccsF.kp {B : Nat} {w w' : World} {v : Value} {xs : List Acc} {F G : List Nat} (h : AccsF B w v xs F) (hk : Kp G w w') (hd : ∀ y ∈ F, y ∉ G) : AccsF B w' v xs F := PairsF.kp (fun h hk hd => h.kp hk hd) h hk hd
theorem AccsF.at {B : Nat} {w : World} {v : Value} {xs : List Acc} {F : List Nat} (h : AccsF B w v xs F) : AcsAt w v xs := PairsF.at' (fun h => ⟨h.1, h.2.at⟩) h
theorem AccsF.ge {B : Nat} {w : World} {v : Value} {xs : List Acc} {F : List Nat} (h : AccsF B w v xs F) : ∀ y ∈ F, B ≤ y := PairsF.ge (fun h y hy => h.2.ge y hy) h
theorem AccsF.nil (B : Nat) (w : World) : AccsF B w (.slice none 0 0) [] [] := ⟨[], [], World.ownsRow_nil _ _ _ _, rfl, rfl, List.nodup_nil, fun i x hi => by simp at hi⟩
theorem AffsF.nil (B : Nat) (w : World) : AffsF B w (.slice none 0 0) [] [] := ⟨[], [], World.ownsRow_nil _ _ _ _, rfl, rfl, List.nodup_nil, fun i x hi => by simp at hi⟩
theorem AccF.weak {B B' : Nat} {w : World} {u0 u1 : Value} {x : Acc} {F : List Nat} (h : AccF B w u0 u1 x F) (hB : B' ≤ B) : AccF B' w u0 u1 x F := ⟨h.1, h.2.weak hB⟩
theorem AccsF.weak {B B' : Nat} {w : World} {v : Value} {xs : List Acc} {F : List Nat} (h : AccsF B w v xs F) (hB : B' ≤ B) : AccsF B' w v xs F := by
  obtain ⟨vs, Fs, ho, hl, hF, hn, he⟩ := h
  refine ⟨vs, Fs, ownsRow_weak ho hB, hl, hF, hn, fun i x hi => ?_⟩
  obtain ⟨u0, u1, Fi, h0, h1, h2, h3⟩ := he i x hi
  exact ⟨u0, u1, Fi, h0, h1, h2, h3.weak hB⟩

/-- The first cell of element i is written. -/
theorem PairsF.turn0 {α : Type} {T : TypeId} {R : Nat → World → Value → Value → α → List Nat → Prop} (hR : ∀ {B w w' u0 u1 x F G}, R B w u0 u1 x F → Kp G w w' → (∀ y ∈ F, y ∉ G) → R B w' u0 u1 x F) {B g n c : Nat} {w : World} {xs : List α} {F : List Nat}
    (h : PairsF T R B w (.slice (some ⟨g, 0, none⟩) n c) xs F) {i : Nat} {x x' : α} (hi : xs[i]? = some x) (u0' : Value) (hx : ∀ {u0 u1 Fi w'}, R B w' u0 u1 x Fi → R B w' u0' u1 x' Fi) :
    PairsF T R B (w.setCell ⟨g, i * 2, none⟩ u0') (.slice (some ⟨g, 0, none⟩) n c) (xs.set i x') F := by
  obtain ⟨vs, Fs, ho, hl, hF, hn, he⟩ := h
  have hlt : i < xs.length := (List.getElem?_eq_some_iff.1 hi).1
  have hnl : n = xs.length := by
    rcases ho.2 with ⟨e, _⟩ | ⟨g', cap, cur, e, _⟩
    · cases e
    · cases e; rfl
  subst hnl
  have hna := List.nodup_append.1 (by rw [hF] at hn; exact hn)
  have hvl := ho.1
  refine ⟨vs.set (i * 2) u0', Fs, by rw [List.length_set]; exact (ho.stored (i * 2) u0').1, by rw [List.length_set]; exact hl, hF, hn, fun j y hj => ?_⟩
  have hgd : ∀ {Fj : List Nat} {j : Nat}, Fs[j]? = some Fj → ∀ z ∈ Fj, z ∉ [g] := by
    intro Fj j hj z hz hz'
    have : z = g := by simpa using hz'
    subst this
    exact hna.2.2 z (by simp [Value.ownBlock]) z (mem_flat hj hz) rfl
  by_cases e : j = i
  · subst e
    rw [List.getElem?_set_self hlt] at hj
    cases hj
    obtain ⟨t0, t1, Fj, g0, g1, g2, g3⟩ := he j x hi
    refine ⟨u0', t1, Fj, by rw [List.getElem?_set_self (by omega)], by rw [List.getElem?_set_ne (by omega)]; exact g1, g2, hx (hR g3 (Kp.set w g _ u0') (hgd g2))⟩
  · rw [List.getElem?_set_ne (fun e' => e e'.symm)] at hj
    obtain ⟨t0, t1, Fj, g0, g1, g2, g3⟩ := he j y hj
    exact ⟨t0, t1, Fj, by rw [List.getElem?_set_ne (by omega)]; exact g0, by rw [List.getElem?_set_ne (by omega)]; exact g1, g2, hR g3 (Kp.set w g _ u0') (hgd g2)⟩
theorem PairsF.frz {α : Type} {T : TypeId} {R : Nat → World → Value → Value → α → List Nat → Prop} {B g n c : Nat} {w : World} {xs : List α} {F : List Nat} (h : PairsF T R B w (.slice (some ⟨g, 0, none⟩) n c) xs F) (i : Nat) : w.frozen? ⟨g, i, none⟩ = false := by
  obtain ⟨vs, Fs, ho, _⟩ := h
  have hnl : n = xs.length := by
    rcases ho.2 with ⟨e, _⟩ | ⟨g', cap, cur, e, _⟩
    · cases e
    · cases e; rfl
  subst hnl
  exact ho.frozenAt _

/-- The text of mark k. -/
def dgM (j : Nat) : ByteArray := ⟨#[48 + UInt8.ofNat (j % 10)]⟩
def mkF : Nat → Nat → ByteArray → ByteArray
  | 0, _, s => s
  | f + 1, j, s => if j = 0 then s else mkF f (j / 10) (dgM j ++ s)
def mkT (k : Int) : ByteArray := if k = 0 then ⟨#[109, 48]⟩ else ⟨#[109]⟩ ++ mkF k.toNat k.toNat ⟨#[]⟩
theorem mkF_zero (f : Nat) (s : ByteArray) : mkF f 0 s = s := by cases f <;> rfl
theorem mkF_next {f j : Nat} (s : ByteArray) (h : 0 < j) (hf : j ≤ f) : ∃ f', f = f' + 1 ∧ mkF f j s = mkF f' (j / 10) (dgM j ++ s) := by
  match f, hf with
  | f' + 1, _ => exact ⟨f', rfl, by rw [mkF, if_neg (by omega)]⟩
  | 0, hf => omega
set_option maxRecDepth 100000 in
set_option maxHeartbeats 1000000 in
theorem markText_is (k : Int) (w : World) (hk : 0 ≤ k) (hk1 : k ≤ 1000000000000) :
    Calls Try.prog 56 #[.int .i64 k] w fun e w' => e = .returned (.string (mkT k)) ∧ Ext w w' := by
  go_enter Try.func56, Try.ntmps56
  by_cases h0 : k = 0
  · subst h0
    go_wp2
    go_ret
    exact ⟨rfl, Ext.refl w⟩
  · have hd : decide (k ≤ 0) = false := by simp; omega
    go_wp2
    go_loopw [0, 3] (fun kk o wr => ∃ (f j : Nat) (s : ByteArray), kk = .int .i64 j ∧ o = .string s ∧ j ≤ f ∧ (j : Int) ≤ k ∧ (s.size : Int) + j ≤ k ∧ mkF f j s = mkF k.toNat k.toNat ⟨#[]⟩ ∧ Ext w wr) (fun kk _ _ => (intOf kk).toNat)
    case atStart =>
      refine ⟨k.toNat, k.toNat, ByteArray.mk #[], ?_, rfl, Nat.le_refl _, by omega, ?_, rfl, Ext.refl w⟩
      · rw [Int.toNat_of_nonneg hk]
      · have : (ByteArray.mk #[]).size = 0 := rfl
        rw [this]; omega
    case round =>
      obtain ⟨f, j, s, rfl, rfl, hjf, hj1, hjs, hms, hE⟩ := hrel
      by_cases hp : 0 < j
      · have hd2 : decide ((j : Int) > 0) = true := by simp; omega
        obtain ⟨f', hf', hmn⟩ := mkF_next s hp hjf
        rw [hmn] at hms
        obtain ⟨u, hu, hu9, hdg⟩ : ∃ u : Nat, (j : Int) % 10 = (u : Int) ∧ u ≤ 9 ∧ dgM j = ⟨#[48 + UInt8.ofNat u]⟩ := ⟨j % 10, by omega, by omega, rfl⟩
        obtain ⟨q, hq, hq9, hqd⟩ : ∃ q : Nat, (j : Int) / 10 = (q : Int) ∧ q < j ∧ j / 10 = q := ⟨j / 10, by omega, by omega, rfl⟩
        rw [hqd, hdg] at hms
        have hcv := mconv1 (wr.alloc (.cells #[.int .u8 (48 + (u : Int))] 5)) wr.heap.size (48 + u) (by omega) (by simp [go_sem])
        have HE := Lib.hid hE; clear hE
        have HMS := Lib.hid hms; clear hms hmn hdg hqd
        go_wp2
        go_roundw
        case rel => exact ⟨f', q, _, by go_num, rfl, by omega, by omega, by rw [size_pre]; omega, HMS.out, HE.out.alloc _⟩
        case measure => simp [intOf]; omega
      · have e : j = 0 := by omega
        subst e
        rw [mkF_zero] at hms
        subst hms
        go_wp2
        go_ret
        exact ⟨by rw [mkT, if_neg h0]; rfl, hE⟩

def endQ (k : Int) (a : Acc) : Int := endA (k + 1) a.2
def markQ (k : Int) (a : Acc) : Acc := (mkT k, markAs (k + 1) a.2)
theorem endQ_ge (k : Int) (a : Acc) : k ≤ endQ k a := Int.le_trans (by omega) (endA_ge (k + 1) a.2)
def markCs : Int → List Acc → List Acc
  | _, [] => []
  | k, a :: r => markQ k a :: markCs (endQ k a) r
def endC : Int → List Acc → Int
  | k, [] => k
  | k, a :: r => endC (endQ k a) r
theorem markCs_len (k : Int) (l : List Acc) : (markCs k l).length = l.length := by
  induction l generalizing k with
  | nil => rfl
  | cons a r ih => simp [markCs, ih]
theorem endC_app (k : Int) (l r : List Acc) : endC k (l ++ r) = endC (endC k l) r := by
  induction l generalizing k with
  | nil => rfl
  | cons a l ih => simp only [List.cons_append, endC]; exact ih _
theorem markCs_app (k : Int) (l r : List Acc) : markCs k (l ++ r) = markCs k l ++ markCs (endC k l) r := by
  induction l generalizing k with
  | nil => rfl
  | cons a l ih => simp only [List.cons_append, markCs, endC]; rw [ih]
theorem endC_ge (k : Int) (l : List Acc) : k ≤ endC k l := by
  induction l generalizing k with
  | nil => exact Int.le_refl _
  | cons a l ih => exact Int.le_trans (endQ_ge k a) (ih _)
theorem endC_next {l : List Acc} {i : Nat} {a : Acc} (h : l[i]? = some a) (k : Int) : endC k (l.take (i + 1)) = endQ (endC k (l.take i)) a := by
  rw [take_next h, endC_app]; rfl
theorem endC_take (k : Int) (l : List Acc) (i : Nat) : endC k (l.take i) ≤ endC k l := by
  conv => rhs; rw [← List.take_append_drop i l, endC_app]
  exact endC_ge _ _
theorem markCs_get {l : List Acc} {i : Nat} {a : Acc} (h : l[i]? = some a) (k : Int) : (markCs k l)[i]? = some (markQ (endC k (l.take i)) a) := by
  have hlt : i < l.length := (List.getElem?_eq_some_iff.1 h).1
  conv => lhs; rw [← List.take_append_drop i l, markCs_app]
  rw [drop_cons h, List.getElem?_append_right (by rw [markCs_len, List.length_take]; omega), markCs_len, List.length_take, Nat.min_eq_left (by omega), Nat.sub_self]
  rfl
def midC (k : Int) (l : List Acc) (i : Nat) : List Acc := markCs k (l.take i) ++ l.drop i
theorem midC_len (k : Int) (l : List Acc) (i : Nat) : (midC k l i).length = l.length := by
  simp only [midC, List.length_append, markCs_len, List.length_take, List.length_drop]; omega
theorem midC_get {l : List Acc} {i : Nat} {a : Acc} (h : l[i]? = some a) (k : Int) : (midC k l i)[i]? = some a := by
  have hlt : i < l.length := (List.getElem?_eq_some_iff.1 h).1
  unfold midC
  rw [List.getElem?_append_right (by rw [markCs_len, List.length_take]; omega), markCs_len, List.length_take, Nat.min_eq_left (by omega), Nat.sub_self, List.getElem?_drop, Nat.add_zero]
  exact h
theorem midC_next {l : List Acc} {i : Nat} {a : Acc} (h : l[i]? = some a) (k : Int) : (midC k l i).set i (markQ (endC k (l.take i)) a) = midC k l (i + 1) := by
  have hlt : i < l.length := (List.getElem?_eq_some_iff.1 h).1
  unfold midC
  rw [drop_cons h, List.set_append_right _ _ (by rw [markCs_len, List.length_take]; omega), markCs_len, List.length_take, Nat.min_eq_left (by omega), Nat.sub_self, List.set_cons_zero, take_next h, markCs_app, List.append_assoc]
  rfl
theorem SmallQ {l : List Acc} (h : ∀ x ∈ l, x.2.length ≤ 2000000) {i : Nat} {x : Acc} (hx : l[i]? = some x) : x.2.length ≤ 2000000 := h x (List.mem_of_getElem? hx)

set_option maxHeartbeats 2000000 in
theorem markAccessS_any (B : Nat) (p : Option Addr) (n c : Nat) (xs : List Acc) (F : List Nat) (k : Int) (w : World) (hn : xs.length = n) (ho : AccsF B w (.slice p n c) xs F) (hk : 0 ≤ k) (hk1 : endC k xs ≤ 1000000000) (hn1 : n ≤ 2000000) (hsm : ∀ x ∈ xs, x.2.length ≤ 2000000) :
    Calls Try.prog 30 #[.slice p n c, .int .i64 k] w fun e w' => e = .returned (.int .i64 (endC k xs)) ∧ AccsF B w' (.slice p n c) (markCs k xs) F ∧ Kp F w w' := by
  have HO := Lib.hid ho; have HN := Lib.hid hn; have HSM := Lib.hid hsm; clear ho hn hsm
  have HK1 := Lib.hid hk1; clear hk1
  go_enter Try.func30, Try.ntmps30
  go_wp2
  go_loopw [1, 5] (fun kk i wr => ∃ j : Nat, j ≤ n ∧ i = .int .i64 j ∧ kk = .int .i64 (endC k (xs.take j)) ∧ AccsF B wr (.slice p n c) (midC k xs j) F ∧ Kp F w wr) (fun _ i _ => n - (intOf i).toNat)
  case atStart => exact ⟨0, by omega, rfl, by simp [endC], by simpa [midC, markCs] using HO.out, Kp.refl _ _⟩
  case round =>
    obtain ⟨j, hj, rfl, rfl, hown, hg⟩ := hrel
    by_cases hlt : j < n
    · obtain ⟨x, hx⟩ := get_some (xs := xs) (k := j) (by rw [HN.out]; exact hlt)
      obtain ⟨g, c', e⟩ := PairsF.form hown (by rw [midC_len, HN.out]; omega)
      simp only [Value.slice.injEq] at e
      obtain ⟨rfl, -, rfl⟩ := e
      have hs0 := SmallQ HSM.out hx
      have hge := endC_ge k (xs.take j)
      have hnx := endC_next hx k
      have hle := endC_take k xs (j + 1)
      have hb1 := HK1.out
      have HX := Lib.hid hx; have HNX := Lib.hid hnx; have HG := Lib.hid hg; have HOW := Lib.hid hown
      clear hx hnx hg hown
      rw [HNX.out] at hle
      generalize hE : endC k (xs.take j) = z at *
      have HE := Lib.hid hE; clear hE
      have hz1 := endA_ge (z + 1) x.2
      have hzP : endQ z x = endA (z + 1) x.2 := rfl
      rw [hzP] at hle
      clear hzP
      go_wp2_with (fail)
      refine (markText_is z _ (by omega) (by omega)).mono ?_
      rintro e w1 ⟨rfl, hE1⟩
      have K1 : Kp F wr w1 := Kp.of_ext hE1
      have T0 : AccsF B w1 (.slice (some ⟨g, 0, none⟩) n c) (midC k xs j) F := AccsF.kp HOW.out (Kp.of_ext (F := []) hE1) (fun _ _ h => by cases h)
      have hfz := PairsF.frz T0 (j * 2)
      obtain ⟨u0, u1, Fi, -, -, -, hcell, -⟩ := PairsF.turn (T := 44) (R := AccF) (fun h hk hd => AccF.kp h hk hd) T0 (midC_get HX.out k)
      obtain ⟨c0, c1, -⟩ := hcell n c g rfl
      have T1 : AccsF B (w1.setCell ⟨g, j * 2, none⟩ (.string (mkT z))) (.slice (some ⟨g, 0, none⟩) n c) ((midC k xs j).set j (mkT z, x.2)) F := PairsF.turn0 (T := 44) (R := AccF) (fun h hk hd => AccF.kp h hk hd) T0 (midC_get HX.out k) _ (fun h => ⟨rfl, h.2⟩)
      have hgF : g ∈ F := PairsF.mem T0
      have KW0 : Kp F w (w1.setCell ⟨g, j * 2, none⟩ (.string (mkT z))) := (HG.out.trans K1).trans ((Kp.set w1 g _ _).mono (fun y hy => by rw [List.mem_singleton] at hy; rw [hy]; exact hgF))
      have hl1 : j < (midC k xs j).length := by rw [midC_len, HN.out]; exact hlt
      have he1 : ((midC k xs j).set j (mkT z, x.2))[j]? = some (mkT z, x.2) := List.getElem?_set_self hl1
      obtain ⟨u0', u1', Fi', ⟨h0', h1'⟩, hsub', -, hcell', hturn'⟩ := PairsF.turn (T := 44) (R := AccF) (fun h hk hd => AccF.kp h hk hd) T1 he1
      obtain ⟨d0, d1, f1'⟩ := hcell' n c g rfl
      obtain ⟨q1', m1', rfl, hm1'⟩ := h1'.at.form
      have H1' := Lib.hid h1'; have HT' := Lib.hid hturn'; have HS' := Lib.hid hsub'; have HKW := Lib.hid KW0
      clear h1' hturn' hsub' KW0 T0 T1 K1 hgF he1 hl1 hcell hcell' f1' HOW hE1
      dsimp only at d1 H1' h0'
      clear d0
      subst h0'
      go_wp2_with (fail)
      refine (markAffineS_any B q1' x.2.length m1' x.2 Fi' (z + 1) _ rfl H1'.out (by omega) (by omega) hs0).mono ?_
      rintro e w2 ⟨rfl, h2', K2⟩
      have T2 := HT'.out w2 (mkT z, markAs (z + 1) x.2) K2 ⟨rfl, h2'⟩
      rw [List.set_set] at T2
      have hmp : (mkT z, markAs (z + 1) x.2) = markQ (endC k (xs.take j)) x := by rw [HE.out]; rfl
      rw [hmp, midC_next HX.out k] at T2
      have KW2 := HKW.out.trans (K2.mono (G := F) HS'.out)
      have HT2 := Lib.hid T2; have HK2 := Lib.hid KW2
      clear T2 KW2 hmp K2 h2' H1' HT' HS' HKW d1
      go_wp2
      go_roundw
      case rel => exact ⟨j + 1, by omega, by go_num, by rw [HNX.out]; rfl, HT2.out, HK2.out⟩
      case measure => simp [intOf]; omega
    · have e : j = n := by omega
      subst e
      go_wp2
      go_ret
      rw [List.take_of_length_le (by rw [HN.out]; omega)]
      refine ⟨rfl, ?_, hg⟩
      have h := hown
      unfold midC at h
      rwa [List.take_of_length_le (by rw [HN.out]; omega), List.drop_eq_nil_of_le (by rw [HN.out]; omega), List.append_nil] at h

set_option maxHeartbeats 2000000 in
theorem heldAccessS_any (p : Option Addr) (n c : Nat) (xs : List Acc) (k : Int) (w : World) (hn : xs.length = n) (hs : AcsAt w (.slice p n c) (markCs k xs)) (hk : 0 ≤ k) (hk1 : endC k xs ≤ 1000000000) (hn1 : n ≤ 2000000) (hsm : ∀ x ∈ xs, x.2.length ≤ 2000000) :
    Calls Try.prog 31 #[.slice p n c, .int .i64 k] w fun e w' => e = .returned (.int .i64 (endC k xs)) ∧ Ext w w' := by
  have HS := Lib.hid hs; have HN := Lib.hid hn; have HK1 := Lib.hid hk1; have HSM := Lib.hid hsm; clear hs hn hk1 hsm
  go_enter Try.func31, Try.ntmps31
  go_wp2
  go_loopw [1, 5] (fun kk i wr => ∃ j : Nat, j ≤ n ∧ i = .int .i64 j ∧ kk = .int .i64 (endC k (xs.take j)) ∧ Ext w wr) (fun _ i _ => n - (intOf i).toNat)
  case atStart => exact ⟨0, by omega, rfl, by simp [endC], Ext.refl w⟩
  case round =>
    obtain ⟨j, hj, rfl, rfl, hE⟩ := hrel
    by_cases hlt : j < n
    · obtain ⟨x, hx⟩ := get_some (xs := xs) (k := j) (by rw [HN.out]; exact hlt)
      obtain ⟨b, off, q, m, rfl, c0, c1, hb, hr⟩ := (HS.out.ext hE).elem (markCs_get hx k)
      have hs0 := SmallQ HSM.out hx
      have hge := endC_ge k (xs.take j)
      have hnx := endC_next hx k
      have hle := endC_take k xs (j + 1)
      have hb1 := HK1.out
      simp only [markQ, markAs_len] at c0 c1 hr
      have HR := Lib.hid hr; have HNX := Lib.hid hnx; have HE := Lib.hid hE; clear hr hnx hx hE
      rw [HNX.out] at hle
      generalize endC k (xs.take j) = z at *
      have hz1 := endA_ge (z + 1) x.2
      have hzP : endQ z x = endA (z + 1) x.2 := rfl
      rw [hzP] at hle
      clear hzP
      go_wp2_with (fail)
      go_region_held3 (fun W => W.cell? ⟨b, off + j * 2, none⟩ = some (.string (mkT z)))
        (first | exact c0 | exact g3.keep c0 | fail)
        (first | (go_at_call 56; (with_reducible refine (markText_is z _ (by omega) (by omega)).mono ?_); rintro e w3 ⟨rfl, hE3⟩; have g3 := (Ext.refl wr).drew.trans hE3) | fail)
      have E3 := HE.out.trans g3
      have hr3 := HR.out.ext g3
      have c13 := g3.keep c1
      have HR3 := Lib.hid hr3; have HE3 := Lib.hid E3
      clear HR HE hr3 E3 g3 c0 c1
      go_wp2_with (fail)
      refine (heldAffineS_any _ x.2.length _ x.2 (z + 1) _ rfl HR3.out (by omega) (by omega) hs0).mono ?_
      rintro e w1 ⟨rfl, rfl⟩
      have hd : decide (endA (z + 1) x.2 < 0) = false := by simp; omega
      go_wp2
      go_roundw
      case rel => exact ⟨j + 1, by omega, by go_num, by rw [HNX.out]; rfl, HE3.out⟩
      case measure => simp [intOf]; omega
    · have e : j = n := by omega
      subst e
      go_wp2
      go_ret
      rw [List.take_of_length_le (by rw [HN.out]; omega)]
      exact ⟨rfl, hE⟩

set_option maxHeartbeats 2000000 in
theorem eqAccessS_same (p : Option Addr) (n c : Nat) (q : Option Addr) (d : Nat) (xs : List Acc) (w : World) (hn : xs.length = n) (hs : AcsAt w (.slice p n c) xs) (ht : AcsAt w (.slice q n d) xs) :
    Calls Try.prog 27 #[.slice p n c, .slice q n d] w fun e w' => e = .returned (.bool true) ∧ Ext w w' := by
  have hm : n ≤ 9223372036854775807 := by obtain ⟨_, _, hv, hm, _⟩ := hs; rw [← hn]; exact hm
  have HS := Lib.hid hs; have HT := Lib.hid ht; have HN := Lib.hid hn; clear hs ht hn
  go_enter Try.func27, Try.ntmps27
  go_wp2
  go_loopw [5] (fun i wr => ∃ k : Nat, k ≤ n ∧ i = .int .i64 k ∧ Ext w wr) (fun i _ => n - (intOf i).toNat)
  case atStart => exact ⟨0, by omega, rfl, Ext.refl w⟩
  case round =>
    obtain ⟨k, hk, rfl, hE⟩ := hrel
    by_cases hlt : k < n
    · obtain ⟨x, hx⟩ := get_some (xs := xs) (k := k) (by rw [HN.out]; exact hlt)
      obtain ⟨b, off, q1, m1, rfl, a0, a1, hb, hr1⟩ := (HS.out.ext hE).elem hx
      obtain ⟨b', off', q3, m3, rfl, b0, b1, hb', hr3⟩ := (HT.out.ext hE).elem hx
      have HR1 := Lib.hid hr1; have HR3 := Lib.hid hr3; clear hx hr1 hr3
      go_wp2_with (fail)
      go_region_held3 (fun W => W.cell? ⟨b, off + k * 2, none⟩ = some (.string x.1) ∧ W.cell? ⟨b, off + k * 2 + 1, none⟩ = some (.slice q1 x.2.length m1) ∧ W.cell? ⟨b', off' + k * 2, none⟩ = some (.string x.1) ∧ W.cell? ⟨b', off' + k * 2 + 1, none⟩ = some (.slice q3 x.2.length m3))
        (first | exact ⟨a0, a1, b0, b1⟩ | exact ⟨g3.keep a0, g3.keep a1, g3.keep b0, g3.keep b1⟩ | fail)
        (first | (go_at_call 52; (with_reducible refine (eqAccess_same _ _ _ x.2 _ (HR1.out.ext (Ext.refl wr).drew) (HR3.out.ext (Ext.refl wr).drew)).mono ?_); rintro e w3 ⟨rfl, hE3⟩; have g3 := (Ext.refl wr).drew.trans hE3) | fail)
      go_wp2
      go_roundw
      case rel => exact ⟨k + 1, by omega, by go_num, hE.trans g3⟩
      case measure => simp [intOf]; omega
    · go_wp2
      go_ret
      exact ⟨rfl, hE⟩
end Go.Proofs.Ytggpjapmhakklaa

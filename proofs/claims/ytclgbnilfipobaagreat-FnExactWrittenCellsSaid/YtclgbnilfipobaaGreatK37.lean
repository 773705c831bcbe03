/- The texts N7 N10 D7 D8 M1 P1 S4, joined. No statement is proved here. -/
import Derived.Test.YtclgbnilfipobaaGreatK27
import Derived.Test.YtclgbnilfipobaaGreatK36
import Derived.Deep.RegionLaw
import Derived.Test.YtclgbnilfipobaaGreatK33
import Derived.Test.YtclgbnilfipobaaGreatK31
import Derived.Test.YtclgbnilfipobaaGreatK35
import Derived.Maps.AppendAt
/- Contracts: comparisons of loops and nests. -/
namespace Go.Proofs.YtclgbnilfipobaaGreat
open Go.RowKit

theorem lp_eq {x y : Lp} (h1 : lEqB x.1 y.1 = true) (h2 : lEqB x.2 y.2 = true) : x = y := by
  obtain ⟨a, b⟩ := x; obtain ⟨c, d⟩ := y
  simp [lEqB] at h1 h2; rw [h1, h2]
theorem lp_ne1 {x y : Lp} (h : lEqB x.1 y.1 = false) : x ≠ y := by intro e; rw [e, lEqB_self] at h; cases h
theorem lp_ne2 {x y : Lp} (h : lEqB x.2 y.2 = false) : x ≠ y := by intro e; rw [e, lEqB_self] at h; cases h

/-- Two loops are the same. -/
def lpEqB (x y : Lp) : Bool := lEqB x.1 y.1 && lEqB x.2 y.2
theorem lp_yes {x y : Lp} (h : lpEqB x y = true) : x = y := by
  unfold lpEqB at h; rw [Bool.and_eq_true] at h; exact lp_eq h.1 h.2
theorem lp_no {x y : Lp} (h : lpEqB x y = false) : x ≠ y := by
  intro e; unfold lpEqB at h; rw [e, lEqB_self, lEqB_self] at h; cases h

set_option maxHeartbeats 2000000 in
theorem eqLoop_any (s t u v : Value) (x y : Lp) (w : World) (hs : AffsAt w s x.1) (ht : AffsAt w t x.2) (hu : AffsAt w u y.1) (hv : AffsAt w v y.2) :
    Calls Tryz.prog 178 #[.agg #[s, t], .agg #[u, v]] w fun e w' => e = .returned (.bool (lpEqB x y)) ∧ Ext w w' := by
  obtain ⟨p, c, rfl, hm⟩ := hs.form
  obtain ⟨q, d, rfl, hm2⟩ := ht.form
  obtain ⟨p', c', rfl, hm'⟩ := hu.form
  obtain ⟨q', d', rfl, hm2'⟩ := hv.form
  have HS := Lib.hid hs; have HT := Lib.hid ht; have HU := Lib.hid hu; have HV := Lib.hid hv; clear hs ht hu hv
  have E0 : Ext w _ := ((Ext.refl w).alloc (.cells #[.slice p x.1.length c, .slice q x.2.length d] 241)).alloc (.cells #[.slice p' y.1.length c', .slice q' y.2.length d'] 241)
  cases h1 : lEqB x.1 y.1 with
  | false =>
    have H1 := Lib.hid h1; clear h1
    go_enter Tryz.func178, Tryz.ntmps178
    go_wp2_with (fail)
    refine (eqAffineS_any _ _ _ _ _ _ x.1 y.1 _ rfl rfl (HS.out.ext E0) (HU.out.ext E0)).mono ?_
    rw [H1.out]
    rintro e w1 ⟨rfl, hE⟩
    have E1 := E0.trans hE
    go_wp2
    go_ret
    exact ⟨ret_bool (by unfold lpEqB; rw [H1.out]; rfl), E1⟩
  | true =>
    have H1 := Lib.hid h1; clear h1
    go_enter Tryz.func178, Tryz.ntmps178
    go_wp2_with (fail)
    refine (eqAffineS_any _ _ _ _ _ _ x.1 y.1 _ rfl rfl (HS.out.ext E0) (HU.out.ext E0)).mono ?_
    rw [H1.out]
    rintro e w1 ⟨rfl, hE⟩
    have E1 := E0.trans hE
    obtain ⟨a0, a1, -, -⟩ := blk2 (hE.blk (g := w.heap.size) (blk_old (blk_at rfl)))
    obtain ⟨b0, b1, -, -⟩ := blk2 (hE.blk (g := w.heap.size + 1) (blk_at (by simp)))
    clear hE
    go_wp2_with (fail)
    refine (eqAffineS_any _ _ _ _ _ _ x.2 y.2 _ rfl rfl (HT.out.ext E1) (HV.out.ext E1)).mono ?_
    rintro e w2 ⟨rfl, hE⟩
    have E2 := E1.trans hE
    clear a0 a1 b0 b1 E0
    cases h2 : lEqB x.2 y.2 with
    | false =>
      go_wp2
      go_ret
      exact ⟨ret_bool (by unfold lpEqB; rw [H1.out, h2]; rfl), E2⟩
    | true =>
      go_wp2
      go_ret
      exact ⟨ret_bool (by unfold lpEqB; rw [H1.out, h2]; rfl), E2⟩

set_option maxHeartbeats 2000000 in
theorem eqLoopS_any (p : Option Addr) (n c : Nat) (q : Option Addr) (n' d : Nat) (xs ys : List Lp) (w : World) (hn : xs.length = n) (hn' : ys.length = n') (hs : LoopsAt w (.slice p n c) xs) (ht : LoopsAt w (.slice q n' d) ys) :
    Calls Tryz.prog 150 #[.slice p n c, .slice q n' d] w fun e w' => e = .returned (.bool (lEqB xs ys)) ∧ Ext w w' := by
  have hm : n ≤ 9223372036854775807 := by obtain ⟨_, _, hv, hm, _⟩ := hs; rw [← hn]; exact hm
  have hm2 : n' ≤ 9223372036854775807 := by obtain ⟨_, _, hv, hm, _⟩ := ht; rw [← hn']; exact hm
  have HS := Lib.hid hs; have HT := Lib.hid ht; have HN := Lib.hid hn; have HN' := Lib.hid hn'; clear hs ht hn hn'
  by_cases hne : n' = n
  · subst hne
    go_enter Tryz.func150, Tryz.ntmps150
    go_wp2
    go_loopw [5] (fun i wr => ∃ k : Nat, k ≤ n' ∧ i = .int .i64 k ∧ xs.take k = ys.take k ∧ Ext w wr) (fun i _ => n' - (intOf i).toNat)
    case atStart => exact ⟨0, by omega, rfl, by simp, Ext.refl w⟩
    case round =>
      obtain ⟨k, hk, rfl, htk, hE⟩ := hrel
      have HK := Lib.hid htk; clear htk
      by_cases hlt : k < n'
      · obtain ⟨x, hx⟩ := get_some (xs := xs) (k := k) (by rw [HN.out]; exact hlt)
        obtain ⟨y, hy⟩ := get_some (xs := ys) (k := k) (by rw [HN'.out]; exact hlt)
        obtain ⟨b, off, q1, m1, q2, m2, rfl, a0, a1, hb, hr1, hr2⟩ := (HS.out.ext hE).elem hx
        obtain ⟨b', off', q3, m3, q4, m4, rfl, b0, b1, hb', hr3, hr4⟩ := (HT.out.ext hE).elem hy
        have HX := Lib.hid hx; have HY := Lib.hid hy; have HR1 := Lib.hid hr1; have HR2 := Lib.hid hr2; have HR3 := Lib.hid hr3; have HR4 := Lib.hid hr4; clear hx hy hr1 hr2 hr3 hr4
        go_wp2_with (fail)
        go_region_held3 (fun W => W.cell? ⟨b, off + k * 2, none⟩ = some (.slice q1 x.1.length m1) ∧ W.cell? ⟨b, off + k * 2 + 1, none⟩ = some (.slice q2 x.2.length m2) ∧ W.cell? ⟨b', off' + k * 2, none⟩ = some (.slice q3 y.1.length m3) ∧ W.cell? ⟨b', off' + k * 2 + 1, none⟩ = some (.slice q4 y.2.length m4))
          (first | exact ⟨a0, a1, b0, b1⟩ | exact ⟨g3.keep a0, g3.keep a1, g3.keep b0, g3.keep b1⟩ | fail)
          (first | (go_at_call 178; (with_reducible refine (eqLoop_any _ _ _ _ x y _ (HR1.out.ext (Ext.refl wr).drew) (HR2.out.ext (Ext.refl wr).drew) (HR3.out.ext (Ext.refl wr).drew) (HR4.out.ext (Ext.refl wr).drew)).mono ?_); rintro e w3 ⟨rfl, hE3⟩; have g3 := (Ext.refl wr).drew.trans hE3) | fail)
        cases h1 : lpEqB x y with
        | false =>
          have HE := Lib.hid (lp_no h1)
          go_wp2
          go_ret
          exact ⟨ret_bool (lEqB_ne HX.out HY.out HE.out).symm, hE.trans g3⟩
        | true =>
          have e := lp_yes h1
          go_wp2
          go_roundw
          case rel => exact ⟨k + 1, by omega, by go_num, ltake_eq_next HX.out HY.out HK.out e, hE.trans g3⟩
          case measure => simp [intOf]; omega
      · go_wp2
        go_ret
        exact ⟨ret_bool (lEqB_all (by rw [HN.out]; omega) (by rw [HN'.out]; omega) HK.out).symm, hE⟩
  · have hb : ((n : Int) != n') = true := by simp; omega
    have HNE := Lib.hid hne; clear hne
    go_enter Tryz.func150, Tryz.ntmps150
    go_wp2
    go_ret
    exact ⟨ret_bool (lEqB_len (by rw [HN.out, HN'.out]; exact fun e => HNE.out e.symm)).symm, Ext.refl w⟩
end Go.Proofs.YtclgbnilfipobaaGreat

/- Contract: the model's equality of nests. -/
namespace Go.Proofs.YtclgbnilfipobaaGreat
open Go.RowKit

end Go.Proofs.YtclgbnilfipobaaGreat

/- Draws: a copy of an expression, sometimes made invalid. -/
namespace Go.Proofs.YtclgbnilfipobaaGreat
open Go.RowKit

end Go.Proofs.YtclgbnilfipobaaGreat

/- Draws: the arguments of AddAffine. -/
namespace Go.Proofs.YtclgbnilfipobaaGreat
open Go.RowKit

theorem row_at {B n : Nat} {w : World} {v : Value} {xs : List Int} (h : w.ownsRow B 3 1 v n (xs.map (Value.int .i64))) (hn : xs.length = n) : IntsAt w v xs := (IntsOwn.mk h hn).at

end Go.Proofs.YtclgbnilfipobaaGreat

/- Contracts: the order of points. -/
namespace Go.Proofs.YtclgbnilfipobaaGreat
open Go.RowKit

/-- The first list is before the second one. -/
def lexB : List Int → List Int → Bool
  | [], [] => false
  | [], _ :: _ => true
  | _ :: _, [] => false
  | a :: p, b :: q => if a = b then lexB p q else decide (a < b)
theorem lexB_nil (q : List Int) : lexB [] q = decide (0 < q.length) := by cases q <;> simp [lexB]
theorem lexB_nil' (p : List Int) : lexB p [] = false := by cases p <;> rfl
theorem lexB_drop {p q : List Int} {k : Nat} (h : p.take k = q.take k) : lexB p q = lexB (p.drop k) (q.drop k) := by
  induction k generalizing p q with
  | zero => simp
  | succ k ih =>
    match p, q, h with
    | [], [], _ => simp
    | [], b :: q, h => simp at h
    | a :: p, [], h => simp at h
    | a :: p, b :: q, h =>
      simp only [List.take_succ_cons, List.cons.injEq] at h
      rw [List.drop_succ_cons, List.drop_succ_cons, ← ih h.2, h.1]
      simp [lexB]
theorem drop_at {p : List Int} {k : Nat} {x : Int} (h : p[k]? = some x) : p.drop k = x :: p.drop (k + 1) := by
  obtain ⟨hl, rfl⟩ := List.getElem?_eq_some_iff.1 h
  exact List.drop_eq_getElem_cons hl
theorem lexB_at {p q : List Int} {k : Nat} {x y : Int} (h : p.take k = q.take k) (hx : p[k]? = some x) (hy : q[k]? = some y) (hne : x ≠ y) : lexB p q = decide (x < y) := by
  rw [lexB_drop h, drop_at hx, drop_at hy]; simp [lexB, hne]
theorem lexB_end1 {p q : List Int} {k : Nat} (h : p.take k = q.take k) (hk : p.length = k) : lexB p q = decide (p.length < q.length) := by
  rw [lexB_drop h, List.drop_of_length_le (by omega), lexB_nil, List.length_drop, hk]; congr 1; apply propext; omega
theorem lexB_end2 {p q : List Int} {k : Nat} (h : p.take k = q.take k) (hk : q.length = k) : lexB p q = false := by
  rw [lexB_drop h, List.drop_of_length_le (l := q) (by omega), lexB_nil']

def cmp3 (x y : Int) : Int := if x < y then -1 else if y < x then 1 else 0

set_option maxHeartbeats 1000000 in
theorem isNaN_any (x : Int) (w : World) : Calls Tryz.prog 218 #[.int .i64 x] w fun e w' => e = .returned (.bool false) ∧ w = w' := by
  go_enter Tryz.func218, Tryz.ntmps218
  go_wp2
  go_ret
  exact ⟨ret_bool (by simp), rfl⟩

end Go.Proofs.YtclgbnilfipobaaGreat

/- Footprints: what memory a list of lists is made of; what stays where another part is written. | Marks in lists of expressions and nests; what the marks are when they are looked at. | Marks in nests; what the marks are when they are looked at. | BoxNest: the nest of a box, laid in memory of its own. | BoxNest, the program's. -/
namespace Go.Proofs.YtclgbnilfipobaaGreat
open Go.RowKit

/-- Only new blocks, and writes to the blocks F. -/
structure Kp (F : List Nat) (w w' : World) : Prop where
  os : w'.os = w.os
  tape : w'.tape = w.tape
  output : w'.output = w.output
  size : w.heap.size ≤ w'.heap.size
  block : ∀ b, b < w.heap.size → b ∉ F → w'.heap[b]? = w.heap[b]?

theorem Kp.refl (F : List Nat) (w : World) : Kp F w w := ⟨rfl, rfl, rfl, Nat.le_refl _, fun _ _ _ => rfl⟩
theorem Kp.trans {F : List Nat} {a b c : World} (h : Kp F a b) (k : Kp F b c) : Kp F a c :=
  ⟨k.os.trans h.os, k.tape.trans h.tape, k.output.trans h.output, Nat.le_trans h.size k.size, fun i hi hf => (k.block i (Nat.lt_of_lt_of_le hi h.size) hf).trans (h.block i hi hf)⟩
theorem Kp.mono {F G : List Nat} {a b : World} (h : Kp F a b) (hs : ∀ x ∈ F, x ∈ G) : Kp G a b :=
  ⟨h.os, h.tape, h.output, h.size, fun i hi hg => h.block i hi (fun hf => hg (hs i hf))⟩
theorem Kp.of_grown {a b : World} {r : Option Nat} (h : a.grownBy b r) : Kp r.toList a b :=
  ⟨h.os, h.tape, h.output, h.size, fun i hi hf => h.block i hi (fun e => hf (by rw [← e]; simp))⟩
theorem Kp.of_ext {F : List Nat} {a b : World} (h : Ext a b) : Kp F a b := ⟨h.os, h.tape, h.output, h.size, fun i hi _ => h.block i hi⟩
theorem Kp.ext {F : List Nat} {W a b : World} (h : Kp F a b) (hE : Ext W a) (hF : ∀ x ∈ F, W.heap.size ≤ x) : Ext W b :=
  ⟨h.os.trans hE.os, h.tape.trans hE.tape, h.output.trans hE.output, Nat.le_trans hE.size h.size, fun i hi => (h.block i (Nat.lt_of_lt_of_le hi hE.size) (fun hf => by have := hF i hf; omega)).trans (hE.block i hi)⟩
theorem Kp.set (w : World) (g o : Nat) (v : Value) : Kp [g] w (w.setCell ⟨g, o, none⟩ v) :=
  ⟨rfl, rfl, rfl, by simp, fun i _ hf => heap_setCell_other w ⟨g, o, none⟩ i v (fun e => hf (by simp [e]))⟩

theorem row_kp {F : List Nat} {B size n : Nat} {e : TypeId} {w w' : World} {v : Value} {xs : List Value} (h : w.ownsRow B e size v n xs) (hk : Kp F w w') (hd : ∀ b, v.ownBlock = some b → b ∉ F) : w'.ownsRow B e size v n xs := by
  refine ⟨h.1, ?_⟩
  rcases h.2 with hn | ⟨g, cap, cur, hv, hbg, hg, r⟩
  · exact .inl hn
  · exact .inr ⟨g, cap, cur, hv, hbg, by rw [hk.block g (lt_of_block hg) (hd g (by rw [hv]; rfl))]; exact hg, r⟩

/-- A row of ints of the call's own, and its block. -/
def IntsF (B : Nat) (w : World) (v : Value) (xs : List Int) (F : List Nat) : Prop := IntsOwn B w v xs ∧ F = v.ownBlock.toList
theorem IntsF.kp {F G : List Nat} {B : Nat} {w w' : World} {v : Value} {xs : List Int} (h : IntsF B w v xs F) (hk : Kp G w w') (hd : ∀ x ∈ F, x ∉ G) : IntsF B w' v xs F :=
  ⟨row_kp h.1 hk (fun b hb => hd b (by rw [h.2, hb]; simp)), h.2⟩
theorem IntsF.lt {F : List Nat} {B : Nat} {w : World} {v : Value} {xs : List Int} (h : IntsF B w v xs F) : ∀ x ∈ F, B ≤ x ∧ x < w.heap.size := by
  intro x hx
  rw [h.2, Option.mem_toList] at hx
  exact h.1.lt x hx

/-- A row of pairs of the call's own: each element reads by R from blocks of its own. -/
def PairsF {α : Type} (T : TypeId) (R : Nat → World → Value → Value → α → List Nat → Prop) (B : Nat) (w : World) (v : Value) (xs : List α) (F : List Nat) : Prop :=
  ∃ (vs : List Value) (Fs : List (List Nat)), w.ownsRow B T 2 v xs.length vs ∧ Fs.length = xs.length ∧ F = v.ownBlock.toList ++ Fs.flatten ∧ F.Nodup ∧
    ∀ i x, xs[i]? = some x → ∃ u0 u1 Fi, vs[i * 2]? = some u0 ∧ vs[i * 2 + 1]? = some u1 ∧ Fs[i]? = some Fi ∧ R B w u0 u1 x Fi

theorem mem_flat {Fs : List (List Nat)} {i : Nat} {Fi : List Nat} (h : Fs[i]? = some Fi) {x : Nat} (hx : x ∈ Fi) : x ∈ Fs.flatten := List.mem_flatten.2 ⟨Fi, List.mem_of_getElem? h, hx⟩

theorem PairsF.kp {α : Type} {T : TypeId} {R : Nat → World → Value → Value → α → List Nat → Prop} (hR : ∀ {B w w' u0 u1 x F G}, R B w u0 u1 x F → Kp G w w' → (∀ y ∈ F, y ∉ G) → R B w' u0 u1 x F) {B : Nat} {w w' : World} {v : Value} {xs : List α} {F G : List Nat}
    (h : PairsF T R B w v xs F) (hk : Kp G w w') (hd : ∀ x ∈ F, x ∉ G) : PairsF T R B w' v xs F := by
  obtain ⟨vs, Fs, ho, hl, hF, hn, he⟩ := h
  refine ⟨vs, Fs, row_kp ho hk (fun b hb => hd b (by rw [hF, hb]; simp)), hl, hF, hn, fun i x hi => ?_⟩
  obtain ⟨u0, u1, Fi, h0, h1, h2, h3⟩ := he i x hi
  exact ⟨u0, u1, Fi, h0, h1, h2, hR h3 hk (fun y hy => hd y (by rw [hF]; exact List.mem_append_right _ (mem_flat h2 hy)))⟩

theorem nodup_flat_ne {Fs : List (List Nat)} (h : Fs.flatten.Nodup) : ∀ {i j : Nat} {Fi Fj : List Nat}, Fs[i]? = some Fi → Fs[j]? = some Fj → i ≠ j → ∀ x ∈ Fi, x ∉ Fj := by
  intro i j Fi Fj hi hj hne x hx hx'
  have h2 := (List.pairwise_flatten.1 h).2
  rcases Nat.lt_or_gt_of_ne hne with hlt | hlt
  · have h3 := List.pairwise_iff_getElem.1 h2 i j (List.getElem?_eq_some_iff.1 hi).1 (List.getElem?_eq_some_iff.1 hj).1 hlt
    rw [(List.getElem?_eq_some_iff.1 hi).2, (List.getElem?_eq_some_iff.1 hj).2] at h3
    exact h3 x hx x hx' rfl
  · have h3 := List.pairwise_iff_getElem.1 h2 j i (List.getElem?_eq_some_iff.1 hj).1 (List.getElem?_eq_some_iff.1 hi).1 hlt
    rw [(List.getElem?_eq_some_iff.1 hi).2, (List.getElem?_eq_some_iff.1 hj).2] at h3
    exact h3 x hx' x hx rfl

/-- Element i is written in its own blocks. -/
theorem PairsF.turn {α : Type} {T : TypeId} {R : Nat → World → Value → Value → α → List Nat → Prop} (hR : ∀ {B w w' u0 u1 x F G}, R B w u0 u1 x F → Kp G w w' → (∀ y ∈ F, y ∉ G) → R B w' u0 u1 x F) {B : Nat} {w : World} {v : Value} {xs : List α} {F : List Nat}
    (h : PairsF T R B w v xs F) {i : Nat} {x : α} (hi : xs[i]? = some x) :
    ∃ u0 u1 Fi, R B w u0 u1 x Fi ∧ (∀ y ∈ Fi, y ∈ F) ∧ (∀ b, v.ownBlock = some b → b ∉ Fi) ∧
      (∀ (n c g : Nat), v = .slice (some ⟨g, 0, none⟩) n c → w.cell? ⟨g, i * 2, none⟩ = some u0 ∧ w.cell? ⟨g, i * 2 + 1, none⟩ = some u1 ∧ w.frozen? ⟨g, i * 2 + 1, none⟩ = false) ∧
      ∀ (w' : World) (x' : α), Kp Fi w w' → R B w' u0 u1 x' Fi → PairsF T R B w' v (xs.set i x') F := by
  obtain ⟨vs, Fs, ho, hl, hF, hn, he⟩ := h
  obtain ⟨u0, u1, Fi, h0, h1, h2, h3⟩ := he i x hi
  have hlt : i < xs.length := (List.getElem?_eq_some_iff.1 hi).1
  rw [hF] at hn
  have hna := List.nodup_append.1 hn
  have hown : ∀ b, v.ownBlock = some b → b ∉ Fi := fun b hb hbf => hna.2.2 b (by rw [hb]; simp) b (mem_flat h2 hbf) rfl
  refine ⟨u0, u1, Fi, h3, fun y hy => by rw [hF]; exact List.mem_append_right _ (mem_flat h2 hy), hown, ?_, ?_⟩
  · rintro n c g rfl
    have hn' : n = xs.length := by
      rcases ho.2 with ⟨e, _⟩ | ⟨g', cap, cur, e, _⟩
      · cases e
      · cases e; rfl
    subst hn'
    exact ⟨by rw [ho.cellAt (i * 2) (by omega)]; exact h0, by rw [ho.cellAt (i * 2 + 1) (by omega)]; exact h1, ho.frozenAt _⟩
  · intro w' x' hk hx'
    refine ⟨vs, Fs, by rw [List.length_set]; exact row_kp ho hk hown, by rw [List.length_set]; exact hl, hF, by rw [hF]; exact hn, fun j y hj => ?_⟩
    by_cases e : j = i
    · subst e
      rw [List.getElem?_set_self hlt] at hj
      cases hj
      exact ⟨u0, u1, Fi, h0, h1, h2, hx'⟩
    · rw [List.getElem?_set_ne (fun e' => e e'.symm)] at hj
      obtain ⟨t0, t1, Fj, g0, g1, g2, g3⟩ := he j y hj
      exact ⟨t0, t1, Fj, g0, g1, g2, hR g3 hk (nodup_flat_ne hna.2.1 g2 h2 e)⟩
/-- The second cell of element i is written. -/
theorem PairsF.turn1 {α : Type} {T : TypeId} {R : Nat → World → Value → Value → α → List Nat → Prop} (hR : ∀ {B w w' u0 u1 x F G}, R B w u0 u1 x F → Kp G w w' → (∀ y ∈ F, y ∉ G) → R B w' u0 u1 x F) {B g n c : Nat} {w : World} {xs : List α} {F : List Nat}
    (h : PairsF T R B w (.slice (some ⟨g, 0, none⟩) n c) xs F) {i : Nat} {x x' : α} (hi : xs[i]? = some x) (u1' : Value) (hx : ∀ {u0 u1 Fi w'}, R B w' u0 u1 x Fi → R B w' u0 u1' x' Fi) :
    PairsF T R B (w.setCell ⟨g, i * 2 + 1, none⟩ u1') (.slice (some ⟨g, 0, none⟩) n c) (xs.set i x') F := by
  obtain ⟨vs, Fs, ho, hl, hF, hn, he⟩ := h
  have hlt : i < xs.length := (List.getElem?_eq_some_iff.1 hi).1
  have hnl : n = xs.length := by
    rcases ho.2 with ⟨e, _⟩ | ⟨g', cap, cur, e, _⟩
    · cases e
    · cases e; rfl
  subst hnl
  have hna := List.nodup_append.1 (by rw [hF] at hn; exact hn)
  have hvl := ho.1
  refine ⟨vs.set (i * 2 + 1) u1', Fs, by rw [List.length_set]; exact (ho.stored (i * 2 + 1) u1').1, by rw [List.length_set]; exact hl, hF, hn, fun j y hj => ?_⟩
  have hgd : ∀ {Fj : List Nat} {j : Nat}, Fs[j]? = some Fj → ∀ z ∈ Fj, z ∉ [g] := by
    intro Fj j hj z hz hz'
    have : z = g := by simpa using hz'
    subst this
    exact hna.2.2 z (by simp [Value.ownBlock]) z (mem_flat hj hz) rfl
  by_cases e : j = i
  · subst e
    rw [List.getElem?_set_self hlt] at hj
    cases hj
    obtain ⟨t0, t1, Fj, g0, g1, g2, g3⟩ := he j x hi
    refine ⟨t0, u1', Fj, by rw [List.getElem?_set_ne (by omega)]; exact g0, by rw [List.getElem?_set_self (by omega)], g2, hx (hR g3 (Kp.set w g _ u1') (hgd g2))⟩
  · rw [List.getElem?_set_ne (fun e' => e e'.symm)] at hj
    obtain ⟨t0, t1, Fj, g0, g1, g2, g3⟩ := he j y hj
    exact ⟨t0, t1, Fj, by rw [List.getElem?_set_ne (by omega)]; exact g0, by rw [List.getElem?_set_ne (by omega)]; exact g1, g2, hR g3 (Kp.set w g _ u1') (hgd g2)⟩
end Go.Proofs.YtclgbnilfipobaaGreat

namespace Go.Proofs.YtclgbnilfipobaaGreat
open Go.RowKit

def AffF (B : Nat) (w : World) (u0 u1 : Value) (a : Aff) (F : List Nat) : Prop := IntsF B w u0 a.1 F ∧ u1 = .int .i64 a.2
theorem AffF.kp {B : Nat} {w w' : World} {u0 u1 : Value} {x : Aff} {F G : List Nat} (h : AffF B w u0 u1 x F) (hk : Kp G w w') (hd : ∀ y ∈ F, y ∉ G) : AffF B w' u0 u1 x F := ⟨h.1.kp hk hd, h.2⟩
def AffsF : Nat → World → Value → List Aff → List Nat → Prop := PairsF 118 AffF
theorem AffsF.kp {B : Nat} {w w' : World} {v : Value} {xs : List Aff} {F G : List Nat} (h : AffsF B w v xs F) (hk : Kp G w w') (hd : ∀ y ∈ F, y ∉ G) : AffsF B w' v xs F := PairsF.kp (fun h hk hd => h.kp hk hd) h hk hd
def LoopF (B : Nat) (w : World) (u0 u1 : Value) (x : Lp) (F : List Nat) : Prop := ∃ F0 F1, F = F0 ++ F1 ∧ F.Nodup ∧ AffsF B w u0 x.1 F0 ∧ AffsF B w u1 x.2 F1
theorem LoopF.kp {B : Nat} {w w' : World} {u0 u1 : Value} {x : Lp} {F G : List Nat} (h : LoopF B w u0 u1 x F) (hk : Kp G w w') (hd : ∀ y ∈ F, y ∉ G) : LoopF B w' u0 u1 x F := by
  obtain ⟨F0, F1, e, hn, h0, h1⟩ := h
  exact ⟨F0, F1, e, hn, h0.kp hk (fun y hy => hd y (by rw [e]; simp [hy])), h1.kp hk (fun y hy => hd y (by rw [e]; simp [hy]))⟩
def LoopsF : Nat → World → Value → List Lp → List Nat → Prop := PairsF 241 LoopF
theorem LoopsF.kp {B : Nat} {w w' : World} {v : Value} {xs : List Lp} {F G : List Nat} (h : LoopsF B w v xs F) (hk : Kp G w w') (hd : ∀ y ∈ F, y ∉ G) : LoopsF B w' v xs F := PairsF.kp (fun h hk hd => h.kp hk hd) h hk hd

theorem PairsF.at' {α : Type} {T : TypeId} {R : Nat → World → Value → Value → α → List Nat → Prop} {Q : World → Value → Value → α → Prop} (hq : ∀ {B w u0 u1 x F}, R B w u0 u1 x F → Q w u0 u1 x) {B : Nat} {w : World} {v : Value} {xs : List α} {F : List Nat} (h : PairsF T R B w v xs F) : PairsAt Q w v xs := by
  obtain ⟨vs, Fs, ho, hl, hF, hn, he⟩ := h
  rcases ho.2 with ⟨rfl, hn0⟩ | ⟨g, cap, cur, rfl, _⟩
  · refine ⟨none, 0, by rw [hn0], by omega, fun i x hi => ?_⟩
    rw [List.eq_nil_of_length_eq_zero hn0] at hi; simp at hi
  · refine PairsAt.own ho rfl (fun i x hi => ?_)
    obtain ⟨u0, u1, Fi, h0, h1, h2, h3⟩ := he i x hi
    exact ⟨u0, u1, h0, h1, hq h3⟩
theorem AffsF.at {B : Nat} {w : World} {v : Value} {xs : List Aff} {F : List Nat} (h : AffsF B w v xs F) : AffsAt w v xs := PairsF.at' (fun h => ⟨h.1.1.at, h.2⟩) h
theorem LoopsF.at {B : Nat} {w : World} {v : Value} {xs : List Lp} {F : List Nat} (h : LoopsF B w v xs F) : LoopsAt w v xs :=
  PairsF.at' (fun h => by obtain ⟨_, _, _, _, h0, h1⟩ := h; exact ⟨h0.at, h1.at⟩) h
theorem PairsF.form {α : Type} {T : TypeId} {R : Nat → World → Value → Value → α → List Nat → Prop} {B : Nat} {w : World} {v : Value} {xs : List α} {F : List Nat} (h : PairsF T R B w v xs F) (h0 : 0 < xs.length) : ∃ g c, v = .slice (some ⟨g, 0, none⟩) xs.length c := by
  obtain ⟨vs, Fs, ho, _⟩ := h
  rcases ho.2 with ⟨_, hn0⟩ | ⟨g, cap, cur, e, _⟩
  · omega
  · exact ⟨g, cap, e⟩

theorem PairsF.mem {α : Type} {T : TypeId} {R : Nat → World → Value → Value → α → List Nat → Prop} {B g n c : Nat} {w : World} {xs : List α} {F : List Nat} (h : PairsF T R B w (.slice (some ⟨g, 0, none⟩) n c) xs F) : g ∈ F := by
  obtain ⟨vs, Fs, ho, hl, hF, _⟩ := h
  rw [hF]; simp [Value.ownBlock]

/-- The marks of a list of expressions from k on, and the number behind the last one. -/
def markAs : Int → List Aff → List Aff
  | _, [] => []
  | k, a :: r => (marks k a.1.length, k + a.1.length) :: markAs (k + a.1.length + 1) r
def endA : Int → List Aff → Int
  | k, [] => k
  | k, a :: r => endA (k + a.1.length + 1) r
theorem markAs_len (k : Int) (l : List Aff) : (markAs k l).length = l.length := by
  induction l generalizing k with
  | nil => rfl
  | cons a r ih => simp [markAs, ih]
theorem endA_app (k : Int) (l r : List Aff) : endA k (l ++ r) = endA (endA k l) r := by
  induction l generalizing k with
  | nil => rfl
  | cons a l ih => simp only [List.cons_append, endA]; exact ih _
theorem markAs_app (k : Int) (l r : List Aff) : markAs k (l ++ r) = markAs k l ++ markAs (endA k l) r := by
  induction l generalizing k with
  | nil => rfl
  | cons a l ih => simp only [List.cons_append, markAs, endA]; rw [ih]
theorem endA_ge (k : Int) (l : List Aff) : k ≤ endA k l := by
  induction l generalizing k with
  | nil => exact Int.le_refl _
  | cons a l ih => have := ih (k + a.1.length + 1); simp only [endA]; omega
theorem endA_next {l : List Aff} {i : Nat} {a : Aff} (h : l[i]? = some a) (k : Int) : endA k (l.take (i + 1)) = endA k (l.take i) + a.1.length + 1 := by
  rw [take_next h, endA_app]; rfl
theorem endA_take (k : Int) (l : List Aff) (i : Nat) : endA k (l.take i) ≤ endA k l := by
  conv => rhs; rw [← List.take_append_drop i l, endA_app]
  exact endA_ge _ _
theorem markAs_get {l : List Aff} {i : Nat} {a : Aff} (h : l[i]? = some a) (k : Int) : (markAs k l)[i]? = some (marks (endA k (l.take i)) a.1.length, endA k (l.take i) + a.1.length) := by
  have hlt : i < l.length := (List.getElem?_eq_some_iff.1 h).1
  conv => lhs; rw [← List.take_append_drop i l, markAs_app]
  have hd : l.drop i = a :: l.drop (i + 1) := by
    rw [List.drop_eq_getElem_cons hlt, (List.getElem?_eq_some_iff.1 h).2]
  rw [hd, List.getElem?_append_right (by rw [markAs_len, List.length_take]; omega), markAs_len, List.length_take, Nat.min_eq_left (by omega), Nat.sub_self]
  rfl
/-- The list with its first i elements marked. -/
def midA (k : Int) (l : List Aff) (i : Nat) : List Aff := markAs k (l.take i) ++ l.drop i
theorem midA_len (k : Int) (l : List Aff) (i : Nat) : (midA k l i).length = l.length := by
  simp only [midA, List.length_append, markAs_len, List.length_take, List.length_drop]; omega
theorem midA_get {l : List Aff} {i : Nat} {a : Aff} (h : l[i]? = some a) (k : Int) : (midA k l i)[i]? = some a := by
  have hlt : i < l.length := (List.getElem?_eq_some_iff.1 h).1
  unfold midA
  rw [List.getElem?_append_right (by rw [markAs_len, List.length_take]; omega), markAs_len, List.length_take, Nat.min_eq_left (by omega), Nat.sub_self, List.getElem?_drop, Nat.add_zero]
  exact h
theorem midA_next {l : List Aff} {i : Nat} {a : Aff} (h : l[i]? = some a) (k : Int) : (midA k l i).set i (marks (endA k (l.take i)) a.1.length, endA k (l.take i) + a.1.length) = midA k l (i + 1) := by
  have hlt : i < l.length := (List.getElem?_eq_some_iff.1 h).1
  have hd : l.drop i = a :: l.drop (i + 1) := by
    rw [List.drop_eq_getElem_cons hlt, (List.getElem?_eq_some_iff.1 h).2]
  unfold midA
  rw [hd, List.set_append_right _ _ (by rw [markAs_len, List.length_take]; omega), markAs_len, List.length_take, Nat.min_eq_left (by omega), Nat.sub_self, List.set_cons_zero, take_next h, markAs_app, List.append_assoc]
  rfl

set_option maxHeartbeats 2000000 in
theorem markAffineS_any (B : Nat) (p : Option Addr) (n c : Nat) (xs : List Aff) (F : List Nat) (k : Int) (w : World) (hn : xs.length = n) (ho : AffsF B w (.slice p n c) xs F) (hk : 0 ≤ k) (hk1 : endA k xs ≤ 1000000000) (hn1 : n ≤ 2000000) :
    Calls Tryz.prog 160 #[.slice p n c, .int .i64 k] w fun e w' => e = .returned (.int .i64 (endA k xs)) ∧ AffsF B w' (.slice p n c) (markAs k xs) F ∧ Kp F w w' := by
  have HO := Lib.hid ho; have HN := Lib.hid hn; clear ho hn
  have HK1 := Lib.hid hk1; clear hk1
  go_enter Tryz.func160, Tryz.ntmps160
  go_wp2
  go_loopw [1, 5] (fun kk i wr => ∃ j : Nat, j ≤ n ∧ i = .int .i64 j ∧ kk = .int .i64 (endA k (xs.take j)) ∧ AffsF B wr (.slice p n c) (midA k xs j) F ∧ Kp F w wr) (fun _ i _ => n - (intOf i).toNat)
  case atStart => exact ⟨0, by omega, rfl, by simp [endA], by simpa [midA, markAs] using HO.out, Kp.refl _ _⟩
  case round =>
    obtain ⟨j, hj, rfl, rfl, hown, hg⟩ := hrel
    by_cases hlt : j < n
    · obtain ⟨x, hx⟩ := get_some (xs := xs) (k := j) (by rw [HN.out]; exact hlt)
      obtain ⟨g, c', e⟩ := PairsF.form hown (by rw [midA_len, HN.out]; omega)
      simp only [Value.slice.injEq] at e
      obtain ⟨rfl, -, rfl⟩ := e
      obtain ⟨u0, u1, Fi, ⟨hi0, rfl⟩, hsub, hgF, hcell, hturn⟩ := PairsF.turn (T := 118) (R := AffF) (fun h hk hd => AffF.kp h hk hd) hown (midA_get hx k)
      obtain ⟨c0, c1, f1⟩ := hcell n c g rfl
      have hFi := hi0.2
      obtain ⟨q, m, rfl, hm, -⟩ := hi0.1.at
      have hge := endA_ge k (xs.take j)
      have hnx := endA_next hx k
      have hle := endA_take k xs (j + 1)
      have hb1 := HK1.out
      have HX := Lib.hid hx; have HNX := Lib.hid hnx; have HI := Lib.hid hi0; have HT := Lib.hid hturn; have HG := Lib.hid hg; have HS := Lib.hid hsub; have HGF := Lib.hid hgF; have HFi := Lib.hid hFi
      clear hx hnx hi0 hturn hg hcell hsub hgF hFi hown
      rw [HNX.out] at hle
      generalize hE : endA k (xs.take j) = z at *
      have HE := Lib.hid hE; clear hE
      go_wp2_with (fail)
      refine (markIntS_any B q x.1.length m x.1 z _ rfl HI.out.1 (by omega) (by omega)).mono ?_
      rintro e w1 ⟨rfl, h1, h2⟩
      have hkp : Kp Fi wr w1 := by rw [HFi.out]; exact Kp.of_grown h2
      have T1 := HT.out w1 (marks z x.1.length, x.2) hkp ⟨⟨IntsOwn.mk h1 (marks_len _ _), HFi.out⟩, rfl⟩
      have hl1 : j < (midA k xs j).length := by rw [midA_len, HN.out]; exact hlt
      have he1 : ((midA k xs j).set j (marks z x.1.length, x.2))[j]? = some (marks z x.1.length, x.2) := List.getElem?_set_self hl1
      obtain ⟨_, _, _, -, -, -, hcell1, -⟩ := PairsF.turn (T := 118) (R := AffF) (fun h hk hd => AffF.kp h hk hd) T1 he1
      obtain ⟨d0, d1, f1'⟩ := hcell1 n c g rfl
      have T2 := PairsF.turn1 (T := 118) (R := AffF) (fun h hk hd => AffF.kp h hk hd) T1 he1 (.int .i64 (z + x.1.length)) (x' := (marks z x.1.length, z + x.1.length)) (fun h => ⟨h.1, rfl⟩)
      rw [List.set_set, ← HE.out, midA_next HX.out k, HE.out] at T2
      have hgm := PairsF.mem T2
      have K2 := Lib.hid ((HG.out.trans (hkp.mono HS.out)).trans ((Kp.set w1 g (j * 2 + 1) (.int .i64 (z + x.1.length))).mono (by intro y hy; simp at hy; rw [hy]; exact hgm)))
      have HT2 := Lib.hid T2
      clear T1 T2 hkp hcell1 h1 h2 he1 hgm c0 c1 f1 HT HG HS HGF HFi HI
      go_wp2
      go_roundw
      case rel => exact ⟨j + 1, by omega, by go_num, by rw [HNX.out], HT2.out, K2.out⟩
      case measure => simp [intOf]; omega
    · have e : j = n := by omega
      subst e
      go_wp2
      go_ret
      rw [List.take_of_length_le (by rw [HN.out]; omega)]
      refine ⟨rfl, ?_, hg⟩
      have h := hown
      unfold midA at h
      rwa [List.take_of_length_le (by rw [HN.out]; omega), List.drop_eq_nil_of_le (by rw [HN.out]; omega), List.append_nil] at h

end Go.Proofs.YtclgbnilfipobaaGreat

namespace Go.Proofs.YtclgbnilfipobaaGreat
open Go.RowKit

def endP (k : Int) (l : Lp) : Int := endA (endA k l.1) l.2
def markP (k : Int) (l : Lp) : Lp := (markAs k l.1, markAs (endA k l.1) l.2)
def markLs : Int → List Lp → List Lp
  | _, [] => []
  | k, a :: r => markP k a :: markLs (endP k a) r
def endL : Int → List Lp → Int
  | k, [] => k
  | k, a :: r => endL (endP k a) r
theorem endP_ge (k : Int) (l : Lp) : k ≤ endP k l := Int.le_trans (endA_ge k l.1) (endA_ge _ l.2)
theorem markLs_len (k : Int) (l : List Lp) : (markLs k l).length = l.length := by
  induction l generalizing k with
  | nil => rfl
  | cons a r ih => simp [markLs, ih]
theorem endL_app (k : Int) (l r : List Lp) : endL k (l ++ r) = endL (endL k l) r := by
  induction l generalizing k with
  | nil => rfl
  | cons a l ih => simp only [List.cons_append, endL]; exact ih _
theorem markLs_app (k : Int) (l r : List Lp) : markLs k (l ++ r) = markLs k l ++ markLs (endL k l) r := by
  induction l generalizing k with
  | nil => rfl
  | cons a l ih => simp only [List.cons_append, markLs, endL]; rw [ih]
theorem endL_ge (k : Int) (l : List Lp) : k ≤ endL k l := by
  induction l generalizing k with
  | nil => exact Int.le_refl _
  | cons a l ih => exact Int.le_trans (endP_ge k a) (ih _)
theorem endL_next {l : List Lp} {i : Nat} {a : Lp} (h : l[i]? = some a) (k : Int) : endL k (l.take (i + 1)) = endP (endL k (l.take i)) a := by
  rw [take_next h, endL_app]; rfl
theorem endL_take (k : Int) (l : List Lp) (i : Nat) : endL k (l.take i) ≤ endL k l := by
  conv => rhs; rw [← List.take_append_drop i l, endL_app]
  exact endL_ge _ _
theorem drop_cons {α : Type} {l : List α} {i : Nat} {a : α} (h : l[i]? = some a) : l.drop i = a :: l.drop (i + 1) := by
  rw [List.drop_eq_getElem_cons (List.getElem?_eq_some_iff.1 h).1, (List.getElem?_eq_some_iff.1 h).2]
theorem markLs_get {l : List Lp} {i : Nat} {a : Lp} (h : l[i]? = some a) (k : Int) : (markLs k l)[i]? = some (markP (endL k (l.take i)) a) := by
  have hlt : i < l.length := (List.getElem?_eq_some_iff.1 h).1
  conv => lhs; rw [← List.take_append_drop i l, markLs_app]
  rw [drop_cons h, List.getElem?_append_right (by rw [markLs_len, List.length_take]; omega), markLs_len, List.length_take, Nat.min_eq_left (by omega), Nat.sub_self]
  rfl
def midL (k : Int) (l : List Lp) (i : Nat) : List Lp := markLs k (l.take i) ++ l.drop i
theorem midL_len (k : Int) (l : List Lp) (i : Nat) : (midL k l i).length = l.length := by
  simp only [midL, List.length_append, markLs_len, List.length_take, List.length_drop]; omega
theorem midL_get {l : List Lp} {i : Nat} {a : Lp} (h : l[i]? = some a) (k : Int) : (midL k l i)[i]? = some a := by
  have hlt : i < l.length := (List.getElem?_eq_some_iff.1 h).1
  unfold midL
  rw [List.getElem?_append_right (by rw [markLs_len, List.length_take]; omega), markLs_len, List.length_take, Nat.min_eq_left (by omega), Nat.sub_self, List.getElem?_drop, Nat.add_zero]
  exact h
theorem midL_next {l : List Lp} {i : Nat} {a : Lp} (h : l[i]? = some a) (k : Int) : (midL k l i).set i (markP (endL k (l.take i)) a) = midL k l (i + 1) := by
  have hlt : i < l.length := (List.getElem?_eq_some_iff.1 h).1
  unfold midL
  rw [drop_cons h, List.set_append_right _ _ (by rw [markLs_len, List.length_take]; omega), markLs_len, List.length_take, Nat.min_eq_left (by omega), Nat.sub_self, List.set_cons_zero, take_next h, markLs_app, List.append_assoc]
  rfl
theorem nodup_ne {F0 F1 : List Nat} (h : (F0 ++ F1).Nodup) : (∀ y ∈ F0, y ∉ F1) ∧ ∀ y ∈ F1, y ∉ F0 :=
  ⟨fun y hy hy' => (List.nodup_append.1 h).2.2 y hy y hy' rfl, fun y hy hy' => (List.nodup_append.1 h).2.2 y hy' y hy rfl⟩

theorem SmallP {l : List Lp} (h : ∀ x ∈ l, x.1.length ≤ 2000000 ∧ x.2.length ≤ 2000000) {i : Nat} {x : Lp} (hx : l[i]? = some x) : x.1.length ≤ 2000000 ∧ x.2.length ≤ 2000000 := h x (List.mem_of_getElem? hx)

set_option maxHeartbeats 2000000 in
theorem markLoopS_any (B : Nat) (p : Option Addr) (n c : Nat) (xs : List Lp) (F : List Nat) (k : Int) (w : World) (hn : xs.length = n) (ho : LoopsF B w (.slice p n c) xs F) (hk : 0 ≤ k) (hk1 : endL k xs ≤ 1000000000) (hn1 : n ≤ 2000000) (hsm : ∀ x ∈ xs, x.1.length ≤ 2000000 ∧ x.2.length ≤ 2000000) :
    Calls Tryz.prog 128 #[.slice p n c, .int .i64 k] w fun e w' => e = .returned (.int .i64 (endL k xs)) ∧ LoopsF B w' (.slice p n c) (markLs k xs) F ∧ Kp F w w' := by
  have HO := Lib.hid ho; have HN := Lib.hid hn; have HSM := Lib.hid hsm; clear ho hn hsm
  have HK1 := Lib.hid hk1; clear hk1
  go_enter Tryz.func128, Tryz.ntmps128
  go_wp2
  go_loopw [1, 5] (fun kk i wr => ∃ j : Nat, j ≤ n ∧ i = .int .i64 j ∧ kk = .int .i64 (endL k (xs.take j)) ∧ LoopsF B wr (.slice p n c) (midL k xs j) F ∧ Kp F w wr) (fun _ i _ => n - (intOf i).toNat)
  case atStart => exact ⟨0, by omega, rfl, by simp [endL], by simpa [midL, markLs] using HO.out, Kp.refl _ _⟩
  case round =>
    obtain ⟨j, hj, rfl, rfl, hown, hg⟩ := hrel
    by_cases hlt : j < n
    · obtain ⟨x, hx⟩ := get_some (xs := xs) (k := j) (by rw [HN.out]; exact hlt)
      obtain ⟨g, c', e⟩ := PairsF.form hown (by rw [midL_len, HN.out]; omega)
      simp only [Value.slice.injEq] at e
      obtain ⟨rfl, -, rfl⟩ := e
      obtain ⟨u0, u1, Fi, ⟨F0, F1, hF01, hnd, h0, h1⟩, hsub, hgF, hcell, hturn⟩ := PairsF.turn (T := 241) (R := LoopF) (fun h hk hd => LoopF.kp h hk hd) hown (midL_get hx k)
      obtain ⟨c0, c1, f1⟩ := hcell n c g rfl
      obtain ⟨q0, m0, rfl, hm0⟩ := h0.at.form
      obtain ⟨q1, m1, rfl, hm1⟩ := h1.at.form
      obtain ⟨hs0, hs1⟩ := SmallP HSM.out hx
      have hge := endL_ge k (xs.take j)
      have hnx := endL_next hx k
      have hle := endL_take k xs (j + 1)
      have hb1 := HK1.out
      have HX := Lib.hid hx; have HNX := Lib.hid hnx; have H0 := Lib.hid h0; have H1 := Lib.hid h1; have HT := Lib.hid hturn; have HG := Lib.hid hg; have HS := Lib.hid hsub; have HF01 := Lib.hid hF01; have HND := Lib.hid hnd
      clear hx hnx h0 h1 hturn hg hcell hsub hgF hF01 hnd hown f1
      rw [HNX.out] at hle
      generalize hE : endL k (xs.take j) = z at *
      have HE := Lib.hid hE; clear hE
      have hz1 := endA_ge z x.1
      have hz2 := endA_ge (endA z x.1) x.2
      have hzP : endP z x = endA (endA z x.1) x.2 := rfl
      rw [hzP] at hle
      clear hzP
      go_wp2_with (fail)
      refine (markAffineS_any B q0 x.1.length m0 x.1 F0 z _ rfl H0.out (by omega) (by omega) hs0).mono ?_
      rintro e w1 ⟨rfl, h1', K1⟩
      have hdis := nodup_ne (by rw [← HF01.out]; exact HND.out)
      have T1 := HT.out w1 (markAs z x.1, x.2) (K1.mono (by intro y hy; rw [HF01.out]; exact List.mem_append_left _ hy)) ⟨F0, F1, HF01.out, HND.out, h1', H1.out.kp K1 hdis.2⟩
      have hl1 : j < (midL k xs j).length := by rw [midL_len, HN.out]; exact hlt
      have he1 : ((midL k xs j).set j (markAs z x.1, x.2))[j]? = some (markAs z x.1, x.2) := List.getElem?_set_self hl1
      have KW1 := HG.out.trans (K1.mono (G := F) (by intro y hy; exact HS.out y (by rw [HF01.out]; exact List.mem_append_left _ hy)))
      obtain ⟨u0', u1', Fi', ⟨F0', F1', hF01', hnd', h0', h1''⟩, hsub', -, hcell', hturn'⟩ := PairsF.turn (T := 241) (R := LoopF) (fun h hk hd => LoopF.kp h hk hd) T1 he1
      obtain ⟨d0, d1, f1'⟩ := hcell' n c g rfl
      obtain ⟨q1', m1', rfl, hm1'⟩ := h1''.at.form
      have H0' := Lib.hid h0'; have H1' := Lib.hid h1''; have HT' := Lib.hid hturn'; have HS' := Lib.hid hsub'; have HF01' := Lib.hid hF01'; have HND' := Lib.hid hnd'; have HKW := Lib.hid KW1
      clear h1' K1 hdis T1 he1 KW1 h0' h1'' hcell' hturn' hsub' hF01' hnd' H0 H1 HT HG HS HF01 HND c0 c1 hl1 f1'
      dsimp only at d0 d1
      go_wp2_with (fail)
      refine (markAffineS_any B q1' x.2.length m1' x.2 F1' (endA z x.1) _ rfl H1'.out (by omega) (by omega) hs1).mono ?_
      rintro e w2 ⟨rfl, h2', K2⟩
      have hdis := nodup_ne (by rw [← HF01'.out]; exact HND'.out)
      have T2 := HT'.out w2 (markAs z x.1, markAs (endA z x.1) x.2) (K2.mono (by intro y hy; rw [HF01'.out]; exact List.mem_append_right _ hy)) ⟨F0', F1', HF01'.out, HND'.out, H0'.out.kp K2 hdis.1, h2'⟩
      rw [List.set_set] at T2
      have hmp : (markAs z x.1, markAs (endA z x.1) x.2) = markP (endL k (xs.take j)) x := by rw [HE.out]; rfl
      rw [hmp, midL_next HX.out k] at T2
      have KW2 := HKW.out.trans (K2.mono (G := F) (by intro y hy; exact HS'.out y (by rw [HF01'.out]; exact List.mem_append_right _ hy)))
      have HT2 := Lib.hid T2; have HK2 := Lib.hid KW2
      clear T2 KW2 hmp hdis K2 h2' H0' H1' HT' HS' HF01' HND' HKW d0 d1
      go_wp2
      go_roundw
      case rel => exact ⟨j + 1, by omega, by go_num, by rw [HNX.out]; rfl, HT2.out, HK2.out⟩
      case measure => simp [intOf]; omega
    · have e : j = n := by omega
      subst e
      go_wp2
      go_ret
      rw [List.take_of_length_le (by rw [HN.out]; omega)]
      refine ⟨rfl, ?_, hg⟩
      have h := hown
      unfold midL at h
      rwa [List.take_of_length_le (by rw [HN.out]; omega), List.drop_eq_nil_of_le (by rw [HN.out]; omega), List.append_nil] at h

end Go.Proofs.YtclgbnilfipobaaGreat

namespace Go.Proofs.YtclgbnilfipobaaGreat
open Go.RowKit

theorem PairsF.push {α : Type} {T : TypeId} {R : Nat → World → Value → Value → α → List Nat → Prop} (hR : ∀ {B w w' u0 u1 x F G}, R B w u0 u1 x F → Kp G w w' → (∀ y ∈ F, y ∉ G) → R B w' u0 u1 x F) {B n : Nat} {w w' : World} {v v' u0 u1 : Value} {xs : List α} {x : α} {F Fx : List Nat} {vs : List Value} {Fs : List (List Nat)}
    (hxn' : xs.length = n) (hl : Fs.length = xs.length) (hF : F = v.ownBlock.toList ++ Fs.flatten) (hn : F.Nodup)
    (he : ∀ i x, xs[i]? = some x → ∃ u0 u1 Fi, vs[i * 2]? = some u0 ∧ vs[i * 2 + 1]? = some u1 ∧ Fs[i]? = some Fi ∧ R B w u0 u1 x Fi) (hvl : vs.length = n * 2)
    (ho' : w'.ownsRow B T 2 v' (n + 1) (vs ++ [u0, u1])) (hg : w.grownBy w' v.ownBlock) (hat : v'.ownBlock = v.ownBlock ∨ v'.ownBlock = some w.heap.size)
    (hx : R B w u0 u1 x Fx) (hxn : Fx.Nodup) (hxd : ∀ y ∈ Fx, y ∉ F) (hFlt : ∀ y ∈ F, y < w.heap.size) (hxlt : ∀ y ∈ Fx, y < w.heap.size) :
    ∃ F', PairsF T R B w' v' (xs ++ [x]) F' ∧ ∀ y ∈ F', y < w'.heap.size := by
  rw [hF] at hn
  have hna := List.nodup_append.1 hn
  have hk : Kp v.ownBlock.toList w w' := Kp.of_grown hg
  have hvF : ∀ y ∈ v.ownBlock.toList, y ∈ F := fun y hy => by rw [hF]; exact List.mem_append_left _ hy
  have hfF : ∀ y ∈ Fs.flatten, y ∈ F := fun y hy => by rw [hF]; exact List.mem_append_right _ hy
  refine ⟨v'.ownBlock.toList ++ (Fs ++ [Fx]).flatten, ⟨vs ++ [u0, u1], Fs ++ [Fx], ?_, ?_, rfl, ?_, ?_⟩, ?_⟩
  · rw [List.length_append, hxn']; exact ho'
  · simp [hl]
  · rw [List.flatten_append, List.flatten_cons, List.flatten_nil, List.append_nil]
    refine List.nodup_append.2 ⟨?_, List.nodup_append.2 ⟨hna.2.1, hxn, fun a ha b hb e => hxd b hb (by rw [← e]; exact hfF a ha)⟩, ?_⟩
    · cases v'.ownBlock with
      | none => exact List.nodup_nil
      | some b => simp
    · intro a ha b hb e
      subst e
      rcases hat with h | h
      · rw [h] at ha
        rcases List.mem_append.1 hb with hb | hb
        · exact hna.2.2 a ha a hb rfl
        · exact hxd a hb (hvF a ha)
      · rw [h, Option.mem_toList] at ha
        have ha' : w.heap.size = a := Option.some.inj ha
        rcases List.mem_append.1 hb with hb | hb
        · have := hFlt a (hfF a hb); omega
        · have := hxlt a hb; omega
  · intro i y hi
    rcases Nat.lt_or_ge i xs.length with hlt | hge
    · rw [List.getElem?_append_left hlt] at hi
      obtain ⟨t0, t1, Fi, g0, g1, g2, g3⟩ := he i y hi
      refine ⟨t0, t1, Fi, by rw [List.getElem?_append_left (by omega)]; exact g0, by rw [List.getElem?_append_left (by omega)]; exact g1, by rw [List.getElem?_append_left (by omega)]; exact g2, hR g3 hk (fun z hz hz' => hna.2.2 z hz' z (mem_flat g2 hz) rfl)⟩
    · rw [List.getElem?_append_right hge] at hi
      have hi0 : i - xs.length = 0 := by
        rcases Nat.eq_zero_or_pos (i - xs.length) with h | h
        · exact h
        · rw [List.getElem?_eq_none (by simp; omega)] at hi; cases hi
      rw [hi0] at hi
      simp at hi
      subst hi
      have hin : i = n := by omega
      subst hin
      exact ⟨u0, u1, Fx, by rw [List.getElem?_append_right (by omega)]; simp [hvl], by rw [List.getElem?_append_right (by omega), hvl]; simp [show i * 2 + 1 - i * 2 = 1 by omega], by rw [List.getElem?_append_right (by omega)]; simp [hl, hxn'], hR hx hk (fun z hz hz' => hxd z hz (hvF z hz'))⟩
  · intro y hy
    rw [List.flatten_append, List.flatten_cons, List.flatten_nil, List.append_nil] at hy
    have hs := hk.size
    rcases List.mem_append.1 hy with hy | hy
    · rw [Option.mem_toList] at hy
      exact (ho'.lt y hy).2
    · rcases List.mem_append.1 hy with hy | hy
      · have := hFlt y (hfF y hy); omega
      · have := hxlt y hy; omega

/-- A side with one bound. -/
theorem AffsF.one {B g c : Nat} {w : World} {u0 : Value} {xs : List Int} {k : Int} {Fi : List Nat} (ho : w.ownsRow B 118 2 (.slice (some ⟨g, 0, none⟩) 1 c) 1 [u0, .int .i64 k]) (hi : IntsF B w u0 xs Fi) (hn : Fi.Nodup) (hg : g ∉ Fi) : AffsF B w (.slice (some ⟨g, 0, none⟩) 1 c) [(xs, k)] ([g] ++ Fi) := by
  refine ⟨[u0, .int .i64 k], [Fi], ho, rfl, by simp [Value.ownBlock], ?_, fun i x hx => ?_⟩
  · exact List.nodup_append.2 ⟨by simp, hn, fun a ha b hb e => by simp at ha; rw [ha] at e; exact hg (by rw [e]; exact hb)⟩
  · match i, hx with
    | 0, hx => simp at hx; subst hx; exact ⟨u0, _, Fi, rfl, rfl, rfl, hi, rfl⟩

theorem IntsF.weak {B B' : Nat} {w : World} {v : Value} {xs : List Int} {F : List Nat} (h : IntsF B w v xs F) (hB : B' ≤ B) : IntsF B' w v xs F := ⟨h.1.weak hB, h.2⟩
theorem AffsF.weak {B B' : Nat} {w : World} {v : Value} {xs : List Aff} {F : List Nat} (h : AffsF B w v xs F) (hB : B' ≤ B) : AffsF B' w v xs F := by
  obtain ⟨vs, Fs, ho, hl, hF, hn, he⟩ := h
  refine ⟨vs, Fs, ownsRow_weak ho hB, hl, hF, hn, fun i x hi => ?_⟩
  obtain ⟨u0, u1, Fi, h0, h1, h2, h3⟩ := he i x hi
  exact ⟨u0, u1, Fi, h0, h1, h2, h3.1.weak hB, h3.2⟩
theorem PairsF.ge {α : Type} {T : TypeId} {R : Nat → World → Value → Value → α → List Nat → Prop} (hR : ∀ {B w u0 u1 x F}, R B w u0 u1 x F → ∀ y ∈ F, B ≤ y) {B : Nat} {w : World} {v : Value} {xs : List α} {F : List Nat} (h : PairsF T R B w v xs F) : ∀ y ∈ F, B ≤ y := by
  obtain ⟨vs, Fs, ho, hl, hF, hn, he⟩ := h
  intro y hy
  rw [hF] at hy
  rcases List.mem_append.1 hy with hy | hy
  · rw [Option.mem_toList] at hy; exact (ho.lt y hy).1
  · obtain ⟨Fi, hFi, hyi⟩ := List.mem_flatten.1 hy
    obtain ⟨i, hi⟩ := List.mem_iff_getElem?.1 hFi
    obtain ⟨x, hx⟩ := get_some (xs := xs) (k := i) (by rw [← hl]; exact (List.getElem?_eq_some_iff.1 hi).1)
    obtain ⟨_, _, Fj, _, _, h2, h3⟩ := he i x hx
    rw [hi] at h2; cases h2
    exact hR h3 y hyi
theorem AffsF.ge {B : Nat} {w : World} {v : Value} {xs : List Aff} {F : List Nat} (h : AffsF B w v xs F) : ∀ y ∈ F, B ≤ y := PairsF.ge (fun h y hy => (h.1.lt y hy).1) h
theorem LoopsF.ge {B : Nat} {w : World} {v : Value} {xs : List Lp} {F : List Nat} (h : LoopsF B w v xs F) : ∀ y ∈ F, B ≤ y :=
  PairsF.ge (fun h y hy => by
    obtain ⟨F0, F1, e, _, h0, h1⟩ := h
    rw [e] at hy
    rcases List.mem_append.1 hy with hy | hy
    · exact h0.ge y hy
    · exact h1.ge y hy) h

def constA (k : Int) : Aff := ([0, 0, 0, 0], k)
def boxLp (k : Int) : Lp := ([constA 0], [constA k])
theorem chk_const {k : Int} (h0 : 0 ≤ k) (h1 : k ≤ 99) : chk [0, 0, 0, 0] k = ([0, 0, 0, 0], k, true) := by
  unfold chk
  rw [if_pos]
  simp [affValidB, withinB]; omega

end Go.Proofs.YtclgbnilfipobaaGreat

namespace Go.Proofs.YtclgbnilfipobaaGreat
open Go.RowKit

def okS (n : Int) : Bool := decide (0 ≤ n ∧ n ≤ 99)
def boxB (ns : List Int) : Bool := decide (ns.length ≤ 4) && ns.all okS
def boxL (ns : List Int) : List Lp := if boxB ns = true then ns.map boxLp else []
theorem boxB_no {ns : List Int} {k : Nat} {x : Int} (hx : ns[k]? = some x) (h : okS x = false) : boxB ns = false := by
  simp [boxB, all_false_of (p := okS) hx h]
theorem boxL_no {ns : List Int} (h : boxB ns = false) : boxL ns = [] := by unfold boxL; rw [if_neg (by rw [h]; decide)]
theorem boxL_yes {ns : List Int} (h : boxB ns = true) : boxL ns = ns.map boxLp := by unfold boxL; rw [if_pos h]
theorem LoopsF.nil (B : Nat) (w : World) : LoopsF B w (.slice none 0 0) [] [] := ⟨[], [], World.ownsRow_nil _ _ _ _, rfl, rfl, List.nodup_nil, fun i x hi => by simp at hi⟩
theorem PairsF.slice {α : Type} {T : TypeId} {R : Nat → World → Value → Value → α → List Nat → Prop} {B : Nat} {w : World} {v : Value} {xs : List α} {F : List Nat} (h : PairsF T R B w v xs F) : ∃ p c, v = .slice p xs.length c := by
  obtain ⟨vs, Fs, ho, _⟩ := h
  rcases ho.2 with ⟨rfl, hn0⟩ | ⟨g, cap, cur, e, _⟩
  · exact ⟨none, 0, by rw [hn0]⟩
  · exact ⟨_, cap, e⟩

/-- What BoxNest leaves. -/
def BoxRet (B : Nat) (w' : World) (e : Ending) (ns : List Int) : Prop := ∃ p c F, e = .returned (.tuple #[.slice p (boxL ns).length c, .bool (boxB ns)]) ∧ LoopsF B w' (.slice p (boxL ns).length c) (boxL ns) F ∧ ∀ y ∈ F, B ≤ y ∧ y < w'.heap.size
theorem BoxRet.no {B : Nat} {w' : World} {ns : List Int} (h : boxB ns = false) : BoxRet B w' (.returned (.tuple #[.slice none 0 0, .bool false])) ns :=
  ⟨none, 0, [], by rw [boxL_no h, h]; rfl, by rw [boxL_no h]; exact LoopsF.nil _ _, fun y hy => by simp at hy⟩

end Go.Proofs.YtclgbnilfipobaaGreat

/- Comparison of a statement with a copy. No statement is proved here. -/
namespace Go.Proofs.YtclgbnilfipobaaGreat
open Go.RowKit

set_option maxHeartbeats 800000 in
theorem eqAccess_same (arr : ByteArray) (s t : Value) (subs : List Aff) (w : World) (hs : AffsAt w s subs) (ht : AffsAt w t subs) :
    Calls Tryz.prog 27 #[.agg #[.string arr, s], .agg #[.string arr, t]] w fun e w' => e = .returned (.bool true) ∧ Ext w w' := by
  obtain ⟨p, c, rfl, hm⟩ := hs.form
  obtain ⟨q, d, rfl, -⟩ := ht.form
  have HS := Lib.hid hs; have HT := Lib.hid ht; clear hs ht
  go_enter Tryz.func27, Tryz.ntmps27
  go_wp2_with (fail)
  refine (eqAffineS_any p _ c q _ d subs subs _ rfl rfl (HS.out.ext (((Ext.refl w).alloc _).alloc _)) (HT.out.ext (((Ext.refl w).alloc _).alloc _))).mono ?_
  rw [lEqB_self]
  rintro e W1 ⟨rfl, hE⟩
  have E1 := Lib.hid ((((Ext.refl w).alloc _).alloc _).trans hE)
  clear hE
  go_wp2
  go_ret
  exact ⟨rfl, E1.out⟩

/-- eqExpr says yes to two readings of the same node. -/
def EqE (w : World) (cs : List Value) (e : Ex) : Prop := ∀ (ds : List Value), ExR w ds e → ∀ (w' : World), Ext w w' → Calls Tryz.prog 208 #[.agg cs.toArray, .agg ds.toArray] w' fun r w2 => r = .returned (.bool true) ∧ Ext w' w2

set_option maxHeartbeats 1600000 in
theorem eqExprS_of (w0 : World) (p q : Option Addr) (n c d : Nat) (es : List Ex) (us vs : Nat → List Value) (hn : es.length = n) (hm : n ≤ 9223372036854775807)
    (hc : ∀ (i : Nat) (e : Ex), es[i]? = some e → ∃ b off, p = some ⟨b, off, none⟩ ∧ b < w0.heap.size ∧ ∀ (j : Nat) (v : Value), (us i)[j]? = some v → w0.cell? ⟨b, off + i * 7 + j, none⟩ = some v)
    (hd : ∀ (i : Nat) (e : Ex), es[i]? = some e → ∃ b off, q = some ⟨b, off, none⟩ ∧ b < w0.heap.size ∧ ∀ (j : Nat) (v : Value), (vs i)[j]? = some v → w0.cell? ⟨b, off + i * 7 + j, none⟩ = some v)
    (hk : ∀ (i : Nat) (e : Ex), es[i]? = some e → ExR w0 (us i) e) (hk' : ∀ (i : Nat) (e : Ex), es[i]? = some e → ExR w0 (vs i) e) (IH : ∀ (i : Nat) (e : Ex), es[i]? = some e → EqE w0 (us i) e) (w : World) (hE0 : Ext w0 w) :
    Calls Tryz.prog 226 #[.slice p n c, .slice q n d] w fun e w' => e = .returned (.bool true) ∧ Ext w w' := by
  have HC := Lib.hid hc; have HD := Lib.hid hd; have HK := Lib.hid hk; have HK' := Lib.hid hk'; have HI := Lib.hid IH; have HN := Lib.hid hn; have HE0 := Lib.hid hE0; clear hc hd hk hk' IH hn hE0
  go_enter Tryz.func226, Tryz.ntmps226
  go_wp2
  go_loopw [5] (fun i wr => ∃ k : Nat, k ≤ n ∧ i = .int .i64 k ∧ Ext w wr) (fun i _ => n - (intOf i).toNat)
  case atStart => exact ⟨0, by omega, rfl, Ext.refl w⟩
  case round =>
    obtain ⟨k, hk, rfl, hE⟩ := hrel
    by_cases hlt : k < n
    · obtain ⟨x, hx⟩ := get_some (xs := es) (k := k) (by rw [HN.out]; exact hlt)
      have E0 : Ext w0 wr := HE0.out.trans hE
      obtain ⟨b, off, rfl, hb, hcell⟩ := HC.out k x hx
      obtain ⟨b', off', rfl, hb', hcell'⟩ := HD.out k x hx
      have hi := HI.out k x hx (vs k) (HK'.out k x hx) wr.drew (E0.trans (Ext.refl wr).drew)
      obtain ⟨u, s, v, hcs, -, -, -, -⟩ := (HK.out k x hx).parts
      obtain ⟨u', s', v', hcs', -, -, -, -⟩ := (HK'.out k x hx).parts
      rw [hcs] at hcell hi
      rw [hcs'] at hcell' hi
      have c0 := E0.keep (hcell 0 _ rfl); have c1 := E0.keep (hcell 1 _ rfl); have c2 := E0.keep (hcell 2 _ rfl); have c3 := E0.keep (hcell 3 _ rfl); have c4 := E0.keep (hcell 4 _ rfl); have c5 := E0.keep (hcell 5 _ rfl); have c6 := E0.keep (hcell 6 _ rfl)
      have d0 := E0.keep (hcell' 0 _ rfl); have d1 := E0.keep (hcell' 1 _ rfl); have d2 := E0.keep (hcell' 2 _ rfl); have d3 := E0.keep (hcell' 3 _ rfl); have d4 := E0.keep (hcell' 4 _ rfl); have d5 := E0.keep (hcell' 5 _ rfl); have d6 := E0.keep (hcell' 6 _ rfl)
      rw [Nat.add_zero] at c0 d0
      have HI2 := Lib.hid hi; have HE := Lib.hid hE
      clear hx hi hcell hcell' E0 hcs hcs' hE
      go_wp2_with (fail)
      go_region_held3 (fun W => W.cell? ⟨b, off + k * 7, none⟩ = some (.int .i64 x.kind) ∧ W.cell? ⟨b, off + k * 7 + 1, none⟩ = some (.int .i64 x.num) ∧ W.cell? ⟨b, off + k * 7 + 2, none⟩ = some u ∧ W.cell? ⟨b, off + k * 7 + 3, none⟩ = some (.int .i64 x.ix.2) ∧ W.cell? ⟨b, off + k * 7 + 4, none⟩ = some (.string x.arr) ∧ W.cell? ⟨b, off + k * 7 + 5, none⟩ = some s ∧ W.cell? ⟨b, off + k * 7 + 6, none⟩ = some v ∧ W.cell? ⟨b', off' + k * 7, none⟩ = some (.int .i64 x.kind) ∧ W.cell? ⟨b', off' + k * 7 + 1, none⟩ = some (.int .i64 x.num) ∧ W.cell? ⟨b', off' + k * 7 + 2, none⟩ = some u' ∧ W.cell? ⟨b', off' + k * 7 + 3, none⟩ = some (.int .i64 x.ix.2) ∧ W.cell? ⟨b', off' + k * 7 + 4, none⟩ = some (.string x.arr) ∧ W.cell? ⟨b', off' + k * 7 + 5, none⟩ = some s' ∧ W.cell? ⟨b', off' + k * 7 + 6, none⟩ = some v')
        (first | exact ⟨c0, c1, c2, c3, c4, c5, c6, d0, d1, d2, d3, d4, d5, d6⟩ | exact ⟨g3.keep c0, g3.keep c1, g3.keep c2, g3.keep c3, g3.keep c4, g3.keep c5, g3.keep c6, g3.keep d0, g3.keep d1, g3.keep d2, g3.keep d3, g3.keep d4, g3.keep d5, g3.keep d6⟩ | fail)
        (first | (go_at_call 208; (with_reducible refine HI2.out.mono ?_); rintro e w3 ⟨rfl, hE3⟩; have g3 := (Ext.refl wr).drew.trans hE3) | fail)
      go_wp2
      go_roundw
      case rel => exact ⟨k + 1, by omega, by go_num, HE.out.trans g3⟩
      case measure => simp [intOf]; omega
    · go_wp2
      go_ret
      exact ⟨rfl, hE⟩

set_option maxHeartbeats 1600000 in
theorem eqExpr_same {w : World} {cs : List Value} {e : Ex} (h : ExR w cs e) : EqE w cs e := by
  induction h with
  | mk kind num k u s xs arr subs p cap kids us hu ha hs hl hc hk ih =>
    intro ds hds w' hE
    cases hds with
    | mk _ _ _ u' s' _ _ _ p' cap' _ us' hu' ha' hs' hl' hc' hk' =>
    obtain ⟨pu, cu, rfl, hmu, -⟩ := id hu
    obtain ⟨pu', cu', rfl, -, -⟩ := id hu'
    obtain ⟨ps, cs, rfl, hms⟩ := hs.form
    obtain ⟨ps', cs', rfl, -⟩ := hs'.form
    have HU := Lib.hid hu; have HU' := Lib.hid hu'; have HS := Lib.hid hs; have HS' := Lib.hid hs'; have HC := Lib.hid hc; have HC' := Lib.hid hc'; have HK := Lib.hid hk; have HK' := Lib.hid hk'; have HI := Lib.hid ih; have HE := Lib.hid hE
    clear hs hs' hc hc' hk hk' ih hu hu' hE
    go_enter Tryz.func208, Tryz.ntmps208
    go_wp2_with (fail)
    have EA : Ext w ((w'.alloc (.cells #[.int .i64 kind, .int .i64 num, .slice pu xs.length cu, .int .i64 k, .string arr, .slice ps subs.length cs, .slice p kids.length cap] 121)).alloc (.cells #[.int .i64 kind, .int .i64 num, .slice pu' xs.length cu', .int .i64 k, .string arr, .slice ps' subs.length cs', .slice p' kids.length cap'] 121)) := HE.out.trans (((Ext.refl w').alloc _).alloc _)
    refine (eqAffine_any _ _ xs xs k k _ (HU.out.ext EA) (HU'.out.ext EA)).mono ?_
    rw [affEqB_self]
    rintro e W1 ⟨rfl, hE1⟩
    have E1 : Hid (Ext w' W1) := Lib.hid ((((Ext.refl w').alloc _).alloc _).trans hE1)
    have BA := hE1.blk (g := w'.heap.size) (blk_old (blk_at rfl))
    have BB := hE1.blk (g := w'.heap.size + 1) (blk_at (by simp))
    obtain ⟨-, -, -, -, a4, a5, a6⟩ := blk7 BA
    obtain ⟨-, -, -, -, b4, b5, b6⟩ := blk7 BB
    have HBA := Lib.hid BA; have HBB := Lib.hid BB
    clear hE1 BA BB EA
    go_wp2_with (fail)
    refine (eqAccess_same arr _ _ subs _ (HS.out.ext (HE.out.trans E1.out)) (HS'.out.ext (HE.out.trans E1.out))).mono ?_
    rintro e W2 ⟨rfl, hE2⟩
    have E2 : Hid (Ext w' W2) := Lib.hid (E1.out.trans hE2)
    obtain ⟨-, -, -, -, -, -, c6⟩ := blk7 (hE2.blk HBA.out)
    obtain ⟨-, -, -, -, -, -, d6⟩ := blk7 (hE2.blk HBB.out)
    clear hE2 a4 a5 a6 b4 b5 b6 HBA HBB
    go_wp2_with (fail)
    refine (eqExprS_of w p p' _ cap cap' kids us us' rfl hl HC.out HC'.out HK.out HK'.out HI.out W2 (HE.out.trans E2.out)).mono ?_
    rintro e W3 ⟨rfl, hE3⟩
    have E3 : Hid (Ext w' W3) := Lib.hid (E2.out.trans hE3)
    clear hE3 c6 d6
    go_wp2
    go_ret
    exact ⟨rfl, E3.out⟩

set_option maxHeartbeats 1600000 in
theorem eqStmt_same (v v' : Value) (arr : ByteArray) (subs : List Aff) (e : Ex) (w : World) (hs : StR w v arr subs e) (ht : StR w v' arr subs e) :
    Calls Tryz.prog 179 #[v, v'] w fun r w' => r = .returned (.bool true) ∧ Ext w w' := by
  obtain ⟨q1, d1, q2, d2, q3, d3, q4, d4, rfl, ha, hs1, he⟩ := hs.parts
  obtain ⟨p1, c1, p2, c2, p3, c3, p4, c4, rfl, -, ht1, he'⟩ := ht.parts
  have HS := Lib.hid hs1; have HE := Lib.hid he; have HT := Lib.hid ht1; have HE' := Lib.hid he'; clear hs hs1 he ht ht1 he'
  go_enter Tryz.func179, Tryz.ntmps179
  go_wp2_with (fail)
  refine (eqAccess_same arr _ _ subs _ (HS.out.ext (((Ext.refl w).alloc _).alloc _)) (HT.out.ext (((Ext.refl w).alloc _).alloc _))).mono ?_
  rintro r W1 ⟨rfl, hE1⟩
  have E1 : Hid (Ext w W1) := Lib.hid ((((Ext.refl w).alloc _).alloc _).trans hE1)
  obtain ⟨-, -, x2, x3, x4, x5, x6, x7, x8⟩ := blk9 (hE1.blk (g := w.heap.size) (blk_old (blk_at rfl)))
  obtain ⟨-, -, y2, y3, y4, y5, y6, y7, y8⟩ := blk9 (hE1.blk (g := w.heap.size + 1) (blk_at (by simp)))
  clear hE1
  go_wp2_with (fail)
  refine (eqExpr_same HE.out _ HE'.out W1 E1.out).mono ?_
  rintro r W2 ⟨rfl, hE2⟩
  have E2 : Hid (Ext w W2) := Lib.hid (E1.out.trans hE2)
  clear hE2 x2 x3 x4 x5 x6 x7 x8 y2 y3 y4 y5 y6 y7 y8
  go_wp2
  go_ret
  exact ⟨rfl, E2.out⟩
end Go.Proofs.YtclgbnilfipobaaGreat

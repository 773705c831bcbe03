/- The texts Q1 S4, joined. No statement is proved here. -/
import Derived.Test.YtggpjapmhakklaaK08
import Derived.Test.YtggpjapmhakklaaK33
import Derived.Test.YtggpjapmhakklaaK11
import Derived.Test.YtggpjapmhakklaaK45
/- Rows told apart by the types of their blocks; a row of pairs, one pair more. -/
namespace Go.Proofs.Ytggpjapmhakklaa
open Go.RowKit

/-- The block that may turn holds cells of the type T. -/
def Tag (w : World) (row : Option Nat) (T : TypeId) : Prop := ∀ g, row = some g → ∃ cs fz, w.heap[g]? = some (.cells cs T fz)
theorem Tag.none (w : World) (T : TypeId) : Tag w none T := fun _ h => by cases h
theorem Tag.blk {w : World} {g : Nat} {cs : Array Value} {T : TypeId} {fz : Nat × Nat} (h : w.heap[g]? = some (.cells cs T fz)) : Tag w (some g) T := fun _ e => by cases e; exact ⟨_, _, h⟩
theorem own_tag {B size n : Nat} {e : TypeId} {w : World} {v : Value} {xs : List Value} (h : w.ownsRow B e size v n xs) : Tag w v.ownBlock e := by
  intro g hg
  rcases h.2 with ⟨rfl, _⟩ | ⟨g', cap, cur, rfl, _, hgh, _⟩
  · simp [Value.ownBlock] at hg
  · have : g' = g := Option.some.inj hg
    subst this
    exact ⟨_, _, hgh⟩
theorem row_tag {B size n : Nat} {e T : TypeId} {w w' : World} {v : Value} {xs : List Value} {row : Option Nat} (h : w.ownsRow B e size v n xs) (hg : w.grownBy w' row) (ht : Tag w row T) (hT : T ≠ e) : w'.ownsRow B e size v n xs := by
  refine ⟨h.1, ?_⟩
  rcases h.2 with hn | ⟨g, cap, cur, hv, hbg, hgh, r⟩
  · exact .inl hn
  · refine .inr ⟨g, cap, cur, hv, hbg, ?_, r⟩
    refine grownBy_blk hg hgh (fun e' => ?_)
    obtain ⟨cs, fz, h2⟩ := ht g e'.symm
    rw [hgh] at h2
    cases h2
    exact hT rfl
theorem blk_tag {T T' : TypeId} {w w' : World} {row : Option Nat} {g : Nat} {cs : Array Value} {fz : Nat × Nat} (h : w.heap[g]? = some (.cells cs T' fz)) (hg : w.grownBy w' row) (ht : Tag w row T) (hT : T ≠ T') : w'.heap[g]? = some (.cells cs T' fz) :=
  grownBy_blk hg h (fun e' => by
    obtain ⟨cs', fz', h2⟩ := ht g e'.symm
    rw [h] at h2
    cases h2
    exact hT rfl)
theorem IntsOwn.tag {B : Nat} {T : TypeId} {w w' : World} {v : Value} {xs : List Int} {row : Option Nat} (h : IntsOwn B w v xs) (hg : w.grownBy w' row) (ht : Tag w row T) (hT : T ≠ 3) : IntsOwn B w' v xs := row_tag h hg ht hT
theorem AffsOwn.tag {B : Nat} {T : TypeId} {w w' : World} {v : Value} {xs : List Aff} {row : Option Nat} (h : AffsOwn B w v xs) (hg : w.grownBy w' row) (ht : Tag w row T) (hT : T ≠ 3) (hT2 : T ≠ 45) : AffsOwn B w' v xs :=
  PairsOwn.map' h (fun _ h => row_tag h hg ht hT2) (fun h => ⟨h.1.tag hg ht hT, h.2⟩)
/-- One pair more, put behind the row where it lies or in a new block. -/
theorem PairsOwn.push {α : Type} {T : TypeId} {R : Nat → World → Value → Value → α → Prop} (hR : ∀ {B w w' u0 u1 x row}, R B w u0 u1 x → w.grownBy w' row → Tag w row T → R B w' u0 u1 x)
    {B n : Nat} {w w' : World} {v v' u0 u1 : Value} {xs : List α} {x : α} {vs : List Value} (hn : xs.length = n)
    (he : ∀ i y, xs[i]? = some y → ∃ t0 t1, vs[i * 2]? = some t0 ∧ vs[i * 2 + 1]? = some t1 ∧ R B w t0 t1 y) (hvl : vs.length = n * 2)
    (ho' : w'.ownsRow B T 2 v' (n + 1) (vs ++ [u0, u1])) (hg : w.grownBy w' v.ownBlock) (ht : Tag w v.ownBlock T) (hx : R B w u0 u1 x) : PairsOwn T R B w' v' (xs ++ [x]) := by
  refine ⟨vs ++ [u0, u1], by rw [List.length_append, hn]; exact ho', fun i y hi => ?_⟩
  rcases Nat.lt_or_ge i xs.length with hlt | hge
  · rw [List.getElem?_append_left hlt] at hi
    obtain ⟨t0, t1, h0, h1, h2⟩ := he i y hi
    exact ⟨t0, t1, by rw [List.getElem?_append_left (by omega)]; exact h0, by rw [List.getElem?_append_left (by omega)]; exact h1, hR h2 hg ht⟩
  · rw [List.getElem?_append_right hge] at hi
    have hi0 : i - xs.length = 0 := by
      rcases Nat.eq_zero_or_pos (i - xs.length) with h | h
      · exact h
      · rw [List.getElem?_eq_none (by simp; omega)] at hi; cases hi
    rw [hi0] at hi
    simp at hi
    subst hi
    have hin : i = n := by omega
    subst hin
    exact ⟨u0, u1, by rw [List.getElem?_append_right (by omega)]; simp [hvl], by rw [List.getElem?_append_right (by omega), hvl]; simp [show i * 2 + 1 - i * 2 = 1 by omega], hR hx hg ht⟩
theorem AffO.grow {B : Nat} {w w' : World} {u0 u1 : Value} {x : Aff} {row : Option Nat} (h : AffO B w u0 u1 x) (hg : w.grownBy w' row) (ht : Tag w row 45) : AffO B w' u0 u1 x := ⟨h.1.tag hg ht (by decide), h.2⟩
theorem underSliceAff : Try.prog.underlying 42 = some (.slice 45) := Try.underlying42
theorem pair_cells {L : Nat} {w : World} {u0 u1 : Value} {t : TypeId} (hL : L = w.heap.size) : ∀ j u, [u0, u1][j]? = some u → (w.alloc (.cells #[u0, u1] t)).cell? ((⟨L, 0, none⟩ : Addr).add j) = some u := by
  subst hL
  intro q u hq
  match q, hq with
  | 0, hq => simp at hq; subst hq; simp [Addr.add]
  | 1, hq => simp at hq; subst hq; simp [Addr.add, go_sem]

theorem PairsOwn.slice {α : Type} {T : TypeId} {R : Nat → World → Value → Value → α → Prop} {B : Nat} {w : World} {v : Value} {xs : List α} (h : PairsOwn T R B w v xs) : ∃ p c, v = .slice p xs.length c := by
  obtain ⟨vs, ho, -⟩ := h
  rcases ho.2 with ⟨rfl, hn⟩ | ⟨g, cap, cur, rfl, _⟩
  · exact ⟨none, 0, by rw [hn]⟩
  · exact ⟨_, _, rfl⟩
theorem AffsOwn.nil (B : Nat) (w : World) : AffsOwn B w (.slice none 0 0) [] := ⟨[], World.ownsRow_nil _ _ _ _, fun i x hi => by simp at hi⟩
/-- Lists of at most N expressions with four coefficients; nests of at most N loops with such sides. -/
def FourA (N : Nat) (zs : List Aff) : Prop := zs.length ≤ N ∧ ∀ a ∈ zs, a.1.length = 4
def FourL (N : Nat) (ls : List Lp) : Prop := ls.length ≤ N ∧ ∀ l ∈ ls, FourA N l.1 ∧ FourA N l.2
theorem FourA.mono {N M : Nat} {zs : List Aff} (h : FourA N zs) (hN : N ≤ M) : FourA M zs := ⟨by have := h.1; omega, h.2⟩
theorem FourL.mono {N M : Nat} {ls : List Lp} (h : FourL N ls) (hN : N ≤ M) : FourL M ls := ⟨by have := h.1; omega, fun l hl => ⟨(h.2 l hl).1.mono hN, (h.2 l hl).2.mono hN⟩⟩
theorem FourA.push {N : Nat} {zs : List Aff} {a : Aff} (h : FourA N zs) (ha : a.1.length = 4) : FourA (N + 1) (zs ++ [a]) :=
  ⟨by have := h.1; simp; omega, fun b hb => by rcases List.mem_append.1 hb with hb | hb; exact h.2 b hb; simp at hb; rw [hb]; exact ha⟩
theorem FourL.push {N : Nat} {ls : List Lp} {l : Lp} (h : FourL N ls) (h1 : FourA (N + 1) l.1) (h2 : FourA (N + 1) l.2) : FourL (N + 1) (ls ++ [l]) :=
  ⟨by have := h.1; simp; omega, fun b hb => by rcases List.mem_append.1 hb with hb | hb; exact (h.mono (by omega)).2 b hb; simp at hb; rw [hb]; exact ⟨h1, h2⟩⟩
end Go.Proofs.Ytggpjapmhakklaa

/- Comparison of a statement with a copy. No statement is proved here. -/
namespace Go.Proofs.Ytggpjapmhakklaa
open Go.RowKit

set_option maxHeartbeats 800000 in
theorem eqAccess_same (arr : ByteArray) (s t : Value) (subs : List Aff) (w : World) (hs : AffsAt w s subs) (ht : AffsAt w t subs) :
    Calls Try.prog 52 #[.agg #[.string arr, s], .agg #[.string arr, t]] w fun e w' => e = .returned (.bool true) ∧ Ext w w' := by
  obtain ⟨p, c, rfl, hm⟩ := hs.form
  obtain ⟨q, d, rfl, -⟩ := ht.form
  have HS := Lib.hid hs; have HT := Lib.hid ht; clear hs ht
  go_enter Try.func52, Try.ntmps52
  go_wp2_with (fail)
  refine (eqAffineS_any p _ c q _ d subs subs _ rfl rfl (HS.out.ext (((Ext.refl w).alloc _).alloc _)) (HT.out.ext (((Ext.refl w).alloc _).alloc _))).mono ?_
  rw [lEqB_self]
  rintro e W1 ⟨rfl, hE⟩
  have E1 := Lib.hid ((((Ext.refl w).alloc _).alloc _).trans hE)
  clear hE
  go_wp2
  go_ret
  exact ⟨rfl, E1.out⟩

/-- eqExpr says yes to two readings of the same node. -/
def EqE (w : World) (cs : List Value) (e : Ex) : Prop := ∀ (ds : List Value), ExR w ds e → ∀ (w' : World), Ext w w' → Calls Try.prog 53 #[.agg cs.toArray, .agg ds.toArray] w' fun r w2 => r = .returned (.bool true) ∧ Ext w' w2

set_option maxHeartbeats 1600000 in
theorem eqExprS_of (w0 : World) (p q : Option Addr) (n c d : Nat) (es : List Ex) (us vs : Nat → List Value) (hn : es.length = n) (hm : n ≤ 9223372036854775807)
    (hc : ∀ (i : Nat) (e : Ex), es[i]? = some e → ∃ b off, p = some ⟨b, off, none⟩ ∧ b < w0.heap.size ∧ ∀ (j : Nat) (v : Value), (us i)[j]? = some v → w0.cell? ⟨b, off + i * 7 + j, none⟩ = some v)
    (hd : ∀ (i : Nat) (e : Ex), es[i]? = some e → ∃ b off, q = some ⟨b, off, none⟩ ∧ b < w0.heap.size ∧ ∀ (j : Nat) (v : Value), (vs i)[j]? = some v → w0.cell? ⟨b, off + i * 7 + j, none⟩ = some v)
    (hk : ∀ (i : Nat) (e : Ex), es[i]? = some e → ExR w0 (us i) e) (hk' : ∀ (i : Nat) (e : Ex), es[i]? = some e → ExR w0 (vs i) e) (IH : ∀ (i : Nat) (e : Ex), es[i]? = some e → EqE w0 (us i) e) (w : World) (hE0 : Ext w0 w) :
    Calls Try.prog 85 #[.slice p n c, .slice q n d] w fun e w' => e = .returned (.bool true) ∧ Ext w w' := by
  have HC := Lib.hid hc; have HD := Lib.hid hd; have HK := Lib.hid hk; have HK' := Lib.hid hk'; have HI := Lib.hid IH; have HN := Lib.hid hn; have HE0 := Lib.hid hE0; clear hc hd hk hk' IH hn hE0
  go_enter Try.func85, Try.ntmps85
  go_wp2
  go_loopw [5] (fun i wr => ∃ k : Nat, k ≤ n ∧ i = .int .i64 k ∧ Ext w wr) (fun i _ => n - (intOf i).toNat)
  case atStart => exact ⟨0, by omega, rfl, Ext.refl w⟩
  case round =>
    obtain ⟨k, hk, rfl, hE⟩ := hrel
    by_cases hlt : k < n
    · obtain ⟨x, hx⟩ := get_some (xs := es) (k := k) (by rw [HN.out]; exact hlt)
      have E0 : Ext w0 wr := HE0.out.trans hE
      obtain ⟨b, off, rfl, hb, hcell⟩ := HC.out k x hx
      obtain ⟨b', off', rfl, hb', hcell'⟩ := HD.out k x hx
      have hi := HI.out k x hx (vs k) (HK'.out k x hx) wr.drew (E0.trans (Ext.refl wr).drew)
      obtain ⟨u, s, v, hcs, -, -, -, -⟩ := (HK.out k x hx).parts
      obtain ⟨u', s', v', hcs', -, -, -, -⟩ := (HK'.out k x hx).parts
      rw [hcs] at hcell hi
      rw [hcs'] at hcell' hi
      have c0 := E0.keep (hcell 0 _ rfl); have c1 := E0.keep (hcell 1 _ rfl); have c2 := E0.keep (hcell 2 _ rfl); have c3 := E0.keep (hcell 3 _ rfl); have c4 := E0.keep (hcell 4 _ rfl); have c5 := E0.keep (hcell 5 _ rfl); have c6 := E0.keep (hcell 6 _ rfl)
      have d0 := E0.keep (hcell' 0 _ rfl); have d1 := E0.keep (hcell' 1 _ rfl); have d2 := E0.keep (hcell' 2 _ rfl); have d3 := E0.keep (hcell' 3 _ rfl); have d4 := E0.keep (hcell' 4 _ rfl); have d5 := E0.keep (hcell' 5 _ rfl); have d6 := E0.keep (hcell' 6 _ rfl)
      rw [Nat.add_zero] at c0 d0
      have HI2 := Lib.hid hi; have HE := Lib.hid hE
      clear hx hi hcell hcell' E0 hcs hcs' hE
      go_wp2_with (fail)
      go_region_held3 (fun W => W.cell? ⟨b, off + k * 7, none⟩ = some (.int .i64 x.kind) ∧ W.cell? ⟨b, off + k * 7 + 1, none⟩ = some (.int .i64 x.num) ∧ W.cell? ⟨b, off + k * 7 + 2, none⟩ = some u ∧ W.cell? ⟨b, off + k * 7 + 3, none⟩ = some (.int .i64 x.ix.2) ∧ W.cell? ⟨b, off + k * 7 + 4, none⟩ = some (.string x.arr) ∧ W.cell? ⟨b, off + k * 7 + 5, none⟩ = some s ∧ W.cell? ⟨b, off + k * 7 + 6, none⟩ = some v ∧ W.cell? ⟨b', off' + k * 7, none⟩ = some (.int .i64 x.kind) ∧ W.cell? ⟨b', off' + k * 7 + 1, none⟩ = some (.int .i64 x.num) ∧ W.cell? ⟨b', off' + k * 7 + 2, none⟩ = some u' ∧ W.cell? ⟨b', off' + k * 7 + 3, none⟩ = some (.int .i64 x.ix.2) ∧ W.cell? ⟨b', off' + k * 7 + 4, none⟩ = some (.string x.arr) ∧ W.cell? ⟨b', off' + k * 7 + 5, none⟩ = some s' ∧ W.cell? ⟨b', off' + k * 7 + 6, none⟩ = some v')
        (first | exact ⟨c0, c1, c2, c3, c4, c5, c6, d0, d1, d2, d3, d4, d5, d6⟩ | exact ⟨g3.keep c0, g3.keep c1, g3.keep c2, g3.keep c3, g3.keep c4, g3.keep c5, g3.keep c6, g3.keep d0, g3.keep d1, g3.keep d2, g3.keep d3, g3.keep d4, g3.keep d5, g3.keep d6⟩ | fail)
        (first | (go_at_call 53; (with_reducible refine HI2.out.mono ?_); rintro e w3 ⟨rfl, hE3⟩; have g3 := (Ext.refl wr).drew.trans hE3) | fail)
      go_wp2
      go_roundw
      case rel => exact ⟨k + 1, by omega, by go_num, HE.out.trans g3⟩
      case measure => simp [intOf]; omega
    · go_wp2
      go_ret
      exact ⟨rfl, hE⟩

set_option maxHeartbeats 1600000 in
theorem eqExpr_same {w : World} {cs : List Value} {e : Ex} (h : ExR w cs e) : EqE w cs e := by
  induction h with
  | mk kind num k u s xs arr subs p cap kids us hu ha hs hl hc hk ih =>
    intro ds hds w' hE
    cases hds with
    | mk _ _ _ u' s' _ _ _ p' cap' _ us' hu' ha' hs' hl' hc' hk' =>
    obtain ⟨pu, cu, rfl, hmu, -⟩ := id hu
    obtain ⟨pu', cu', rfl, -, -⟩ := id hu'
    obtain ⟨ps, cs, rfl, hms⟩ := hs.form
    obtain ⟨ps', cs', rfl, -⟩ := hs'.form
    have HU := Lib.hid hu; have HU' := Lib.hid hu'; have HS := Lib.hid hs; have HS' := Lib.hid hs'; have HC := Lib.hid hc; have HC' := Lib.hid hc'; have HK := Lib.hid hk; have HK' := Lib.hid hk'; have HI := Lib.hid ih; have HE := Lib.hid hE
    clear hs hs' hc hc' hk hk' ih hu hu' hE
    go_enter Try.func53, Try.ntmps53
    go_wp2_with (fail)
    have EA : Ext w ((w'.alloc (.cells #[.int .i64 kind, .int .i64 num, .slice pu xs.length cu, .int .i64 k, .string arr, .slice ps subs.length cs, .slice p kids.length cap] 48)).alloc (.cells #[.int .i64 kind, .int .i64 num, .slice pu' xs.length cu', .int .i64 k, .string arr, .slice ps' subs.length cs', .slice p' kids.length cap'] 48)) := HE.out.trans (((Ext.refl w').alloc _).alloc _)
    refine (eqAffine_any _ _ xs xs k k _ (HU.out.ext EA) (HU'.out.ext EA)).mono ?_
    rw [affEqB_self]
    rintro e W1 ⟨rfl, hE1⟩
    have E1 : Hid (Ext w' W1) := Lib.hid ((((Ext.refl w').alloc _).alloc _).trans hE1)
    have BA := hE1.blk (g := w'.heap.size) (blk_old (blk_at rfl))
    have BB := hE1.blk (g := w'.heap.size + 1) (blk_at (by simp))
    obtain ⟨-, -, -, -, a4, a5, a6⟩ := blk7 BA
    obtain ⟨-, -, -, -, b4, b5, b6⟩ := blk7 BB
    have HBA := Lib.hid BA; have HBB := Lib.hid BB
    clear hE1 BA BB EA
    go_wp2_with (fail)
    refine (eqAccess_same arr _ _ subs _ (HS.out.ext (HE.out.trans E1.out)) (HS'.out.ext (HE.out.trans E1.out))).mono ?_
    rintro e W2 ⟨rfl, hE2⟩
    have E2 : Hid (Ext w' W2) := Lib.hid (E1.out.trans hE2)
    obtain ⟨-, -, -, -, -, -, c6⟩ := blk7 (hE2.blk HBA.out)
    obtain ⟨-, -, -, -, -, -, d6⟩ := blk7 (hE2.blk HBB.out)
    clear hE2 a4 a5 a6 b4 b5 b6 HBA HBB
    go_wp2_with (fail)
    refine (eqExprS_of w p p' _ cap cap' kids us us' rfl hl HC.out HC'.out HK.out HK'.out HI.out W2 (HE.out.trans E2.out)).mono ?_
    rintro e W3 ⟨rfl, hE3⟩
    have E3 : Hid (Ext w' W3) := Lib.hid (E2.out.trans hE3)
    clear hE3 c6 d6
    go_wp2
    go_ret
    exact ⟨rfl, E3.out⟩

set_option maxHeartbeats 1600000 in
theorem eqStmt_same (v v' : Value) (arr : ByteArray) (subs : List Aff) (e : Ex) (w : World) (hs : StR w v arr subs e) (ht : StR w v' arr subs e) :
    Calls Try.prog 28 #[v, v'] w fun r w' => r = .returned (.bool true) ∧ Ext w w' := by
  obtain ⟨q1, d1, q2, d2, q3, d3, q4, d4, rfl, ha, hs1, he⟩ := hs.parts
  obtain ⟨p1, c1, p2, c2, p3, c3, p4, c4, rfl, -, ht1, he'⟩ := ht.parts
  have HS := Lib.hid hs1; have HE := Lib.hid he; have HT := Lib.hid ht1; have HE' := Lib.hid he'; clear hs hs1 he ht ht1 he'
  go_enter Try.func28, Try.ntmps28
  go_wp2_with (fail)
  refine (eqAccess_same arr _ _ subs _ (HS.out.ext (((Ext.refl w).alloc _).alloc _)) (HT.out.ext (((Ext.refl w).alloc _).alloc _))).mono ?_
  rintro r W1 ⟨rfl, hE1⟩
  have E1 : Hid (Ext w W1) := Lib.hid ((((Ext.refl w).alloc _).alloc _).trans hE1)
  obtain ⟨-, -, x2, x3, x4, x5, x6, x7, x8⟩ := blk9 (hE1.blk (g := w.heap.size) (blk_old (blk_at rfl)))
  obtain ⟨-, -, y2, y3, y4, y5, y6, y7, y8⟩ := blk9 (hE1.blk (g := w.heap.size + 1) (blk_at (by simp)))
  clear hE1
  go_wp2_with (fail)
  refine (eqExpr_same HE.out _ HE'.out W1 E1.out).mono ?_
  rintro r W2 ⟨rfl, hE2⟩
  have E2 : Hid (Ext w W2) := Lib.hid (E1.out.trans hE2)
  clear hE2 x2 x3 x4 x5 x6 x7 x8 y2 y3 y4 y5 y6 y7 y8
  go_wp2
  go_ret
  exact ⟨rfl, E2.out⟩
end Go.Proofs.Ytggpjapmhakklaa

/- The texts S2, joined. No statement is proved here. -/
import Derived.Test.YtggpjapmhakklaaK41
import Derived.Test.YtggpjapmhakklaaK17
/- Copies of accesses and expressions. No statement is proved here. -/
namespace Go.Proofs.Ytggpjapmhakklaa
open Go.RowKit

/-- The seven cells are a node of the call's own, from block B on. -/
inductive ExO (B : Nat) (w : World) : List Value → Ex → Prop
  | mk (kind num k : Int) (u s : Value) (xs : List Int) (arr : ByteArray) (subs : List Aff) (p : Option Addr) (cap : Nat) (kids : List Ex) (us : Nat → List Value) (vs : List Value) (hu : IntsOwn B w u xs) (ha : arr.size ≤ 9223372036854775807) (hs : AffsOwn B w s subs)
      (ho : w.ownsRow B 48 7 (.slice p kids.length cap) kids.length vs)
      (hv : ∀ (i : Nat) (e : Ex), kids[i]? = some e → ∀ (j : Nat) (v : Value), (us i)[j]? = some v → vs[i * 7 + j]? = some v)
      (hk : ∀ (i : Nat) (e : Ex), kids[i]? = some e → ExO B w (us i) e) :
      ExO B w [.int .i64 kind, .int .i64 num, u, .int .i64 k, .string arr, s, .slice p kids.length cap] (.mk kind num (xs, k) arr subs kids)
theorem ExO.map {B B' : Nat} {w w' : World} {cs : List Value} {e : Ex} (h : ExO B w cs e) (hi : ∀ {v xs}, IntsOwn B w v xs → IntsOwn B' w' v xs) (ha : ∀ {v xs}, AffsOwn B w v xs → AffsOwn B' w' v xs) (hr : ∀ {v n vs}, w.ownsRow B 48 7 v n vs → w'.ownsRow B' 48 7 v n vs) : ExO B' w' cs e := by
  induction h with
  | mk kind num k u s xs arr subs p cap kids us vs hu har hs ho hv hk ih => exact .mk kind num k u s xs arr subs p cap kids us vs (hi hu) har (ha hs) (hr ho) hv ih
theorem ExO.ext {B : Nat} {w w' : World} {cs : List Value} {e : Ex} (h : ExO B w cs e) (hE : Ext w w') : ExO B w' cs e := h.map (fun h => h.ext hE) (fun h => h.ext hE) (fun h => ownsRow_ext h hE)
theorem ExO.weak {B B' : Nat} {w : World} {cs : List Value} {e : Ex} (h : ExO B w cs e) (hB : B' ≤ B) : ExO B' w cs e := h.map (fun h => h.weak hB) (fun h => h.weak hB) (fun h => ownsRow_weak h hB)
theorem ExO.setOld {B : Nat} {w : World} {cs : List Value} {e : Ex} (h : ExO B w cs e) {p : Addr} (hp : p.block < B) (u : Value) : ExO B (w.setCell p u) cs e := h.map (fun h => h.setOld hp u) (fun h => h.setOld hp u) (fun h => ownsRow_setCell_below h hp u)
/-- A row of nodes of the call's own. -/
def ExsO (B : Nat) (w : World) (v : Value) (es : List Ex) : Prop := ∃ p c, ∃ us : Nat → List Value, ∃ vs, v = .slice p es.length c ∧ w.ownsRow B 48 7 v es.length vs ∧
  (∀ (i : Nat) (e : Ex), es[i]? = some e → ∀ (j : Nat) (v : Value), (us i)[j]? = some v → vs[i * 7 + j]? = some v) ∧ ∀ (i : Nat) (e : Ex), es[i]? = some e → ExO B w (us i) e
theorem ExO.of {B : Nat} {w : World} {u s v : Value} {kind num k : Int} {xs : List Int} {arr : ByteArray} {subs : List Aff} {kids : List Ex} (hu : IntsOwn B w u xs) (ha : arr.size ≤ 9223372036854775807) (hs : AffsOwn B w s subs) (hv : ExsO B w v kids) :
    ExO B w [.int .i64 kind, .int .i64 num, u, .int .i64 k, .string arr, s, v] (.mk kind num (xs, k) arr subs kids) := by
  obtain ⟨p, c, us, vs, rfl, ho, h1, h2⟩ := hv
  exact .mk kind num k u s xs arr subs p c kids us vs hu ha hs ho h1 h2
theorem ExO.at {B : Nat} {w : World} {cs : List Value} {e : Ex} (h : ExO B w cs e) : ExR w cs e := by
  induction h with
  | mk kind num k u s xs arr subs p cap kids us vs hu ha hs ho hv hk ih =>
    have hl : kids.length ≤ 9223372036854775807 := by
      rcases ho.2 with ⟨_, hn⟩ | ⟨g, c, cur, _, _, _, h1, h2, _⟩
      · omega
      · unfold maxLen at h2; omega
    refine .mk kind num k u s xs arr subs p cap kids us hu.at ha hs.at hl (fun i e hi => ?_) ih
    have hlt := (List.getElem?_eq_some_iff.1 hi).1
    rcases ho.2 with ⟨_, hn⟩ | ⟨g, c, cur, hv', _, hgh, _⟩
    · omega
    · cases hv'
      refine ⟨g, 0, rfl, (Array.getElem?_eq_some_iff.1 hgh).1, fun j v hj => ?_⟩
      have h1 := hv i e hi j v hj
      have h2 := World.ownsRow.cells ho (g := g) rfl (i * 7 + j) v h1
      rw [Addr.add_lit, Nat.zero_add] at h2
      rw [Nat.zero_add]
      exact h2
theorem ExsO.at {B : Nat} {w : World} {v : Value} {es : List Ex} (h : ExsO B w v es) : ExsAt w v es := by
  have h1 := (ExO.of (kind := 0) (num := 0) (k := 0) (xs := []) (arr := ByteArray.empty) (subs := []) (u := .slice none 0 0) (s := .slice none 0 0) (World.ownsRow_nil w B _ _) (by decide) ⟨[], World.ownsRow_nil w B _ _, fun i x hi => by simp at hi⟩ h).at.parts
  obtain ⟨u, s, v', hcs, _, _, _, hv⟩ := h1
  simp only [List.cons.injEq, and_true] at hcs
  rw [hcs.2.2.2.2.2.2]
  exact hv

set_option maxHeartbeats 1000000 in
theorem toAccess_any (arr : ByteArray) (s : Value) (subs : List Aff) (w : World) (hs : AffsAt w s subs) (h1 : SmallAs subs) :
    Calls Try.prog 47 #[.agg #[.string arr, s]] w fun e w' => ∃ q d, e = .returned (.agg #[.string arr, .slice q subs.length d]) ∧ AffsOwn w.heap.size w' (.slice q subs.length d) subs ∧ Ext w w' := by
  obtain ⟨p, c, rfl, hm⟩ := hs.form
  have HS := Lib.hid hs; have H1 := Lib.hid h1; clear hs h1
  generalize hga : w.heap.size = ga at *
  have HGA := Lib.hid hga; clear hga
  go_enter Try.func47, Try.ntmps47
  go_wp2_with (fail)
  refine (toAffineS_any p _ c subs _ rfl (HS.out.ext ((((Ext.refl w).alloc _).alloc _).alloc _)) H1.out).mono ?_
  rintro e W1 ⟨q, d, rfl, hv, hE⟩
  have E1 : Hid (Ext w W1) := Lib.hid (((((Ext.refl w).alloc _).alloc _).alloc _).trans hE)
  have BR := hE.blk (g := ga + 1) (blk_old (blk_at (by simp [HGA.out])))
  have BO := hE.blk (g := ga + 1 + 1) (blk_at (by simp [HGA.out]))
  have hl := lt_of_block BO
  have HV := Lib.hid (hv.weak (B' := ga + 1 + 1 + 1) (by simp [HGA.out]))
  obtain ⟨o0, o1, f0, f1⟩ := blk2 BO
  obtain ⟨r0, r1, e0, e1⟩ := blk2 BR
  clear hE hv
  rw [HGA.out]
  go_wp2
  refine bodyPost_ret (v := .agg #[.string arr, .slice q subs.length d]) (by simp [results, Try.results47, go_sem, r0, r1]) rfl ⟨_, _, rfl, ?_, ?_⟩
  · refine AffsOwn.weak (B := ga + 1 + 1 + 1) ?_ (by omega)
    repeat (refine AffsOwn.setOld ?_ (by simp <;> omega) _)
    exact HV.out
  · repeat (refine Ext.setCell ?_ (by rw [HGA.out]; simp <;> omega) _)
    exact E1.out

theorem ExO.seven {B : Nat} {w : World} {cs : List Value} {e : Ex} (h : ExO B w cs e) : ∃ kind num q1 n1 d1 k arr q2 n2 d2 q3 n3 d3, cs = [.int .i64 kind, .int .i64 num, .slice q1 n1 d1, .int .i64 k, .string arr, .slice q2 n2 d2, .slice q3 n3 d3] := by
  cases h with
  | mk kind num k u s xs arr subs p cap kids us vs hu ha hs ho hv hk =>
    obtain ⟨q1, d1, rfl, -, -⟩ := hu.at
    obtain ⟨q2, d2, rfl, -⟩ := hs.at.form
    exact ⟨_, _, _, _, _, _, _, _, _, _, _, _, _, rfl⟩
def set7 (l : List Value) (m : Nat) (a0 a1 a2 a3 a4 a5 a6 : Value) : List Value := ((((((l.set m a0).set (m + 1) a1).set (m + 2) a2).set (m + 3) a3).set (m + 4) a4).set (m + 5) a5).set (m + 6) a6
theorem set7_out {l : List Value} {m i : Nat} {a0 a1 a2 a3 a4 a5 a6 : Value} (h : i < m ∨ m + 6 < i) : (set7 l m a0 a1 a2 a3 a4 a5 a6)[i]? = l[i]? := by
  unfold set7
  rw [List.getElem?_set_ne (by omega), List.getElem?_set_ne (by omega), List.getElem?_set_ne (by omega), List.getElem?_set_ne (by omega), List.getElem?_set_ne (by omega), List.getElem?_set_ne (by omega), List.getElem?_set_ne (by omega)]
theorem set7_in {l : List Value} {m j : Nat} {a0 a1 a2 a3 a4 a5 a6 v : Value} (hl : m + 6 < l.length) (h : [a0, a1, a2, a3, a4, a5, a6][j]? = some v) : (set7 l m a0 a1 a2 a3 a4 a5 a6)[m + j]? = some v := by
  have hj : j < 7 := (List.getElem?_eq_some_iff.1 h).1
  unfold set7
  match j, hj, h with
  | 0, _, h => simp at h; subst h; (repeat (rw [List.getElem?_set_ne (by omega)])); rw [Nat.add_zero, List.getElem?_set_self (by omega)]
  | 1, _, h => simp at h; subst h; (repeat (rw [List.getElem?_set_ne (by omega)])); rw [List.getElem?_set_self (by simp; omega)]
  | 2, _, h => simp at h; subst h; (repeat (rw [List.getElem?_set_ne (by omega)])); rw [List.getElem?_set_self (by simp; omega)]
  | 3, _, h => simp at h; subst h; (repeat (rw [List.getElem?_set_ne (by omega)])); rw [List.getElem?_set_self (by simp; omega)]
  | 4, _, h => simp at h; subst h; (repeat (rw [List.getElem?_set_ne (by omega)])); rw [List.getElem?_set_self (by simp; omega)]
  | 5, _, h => simp at h; subst h; (repeat (rw [List.getElem?_set_ne (by omega)])); rw [List.getElem?_set_self (by simp; omega)]
  | 6, _, h => simp at h; subst h; rw [List.getElem?_set_self (by simp; omega)]
def put7 (w : World) (g m : Nat) (a0 a1 a2 a3 a4 a5 a6 : Value) : World := ((((((w.setCell ⟨g, m, none⟩ a0).setCell ⟨g, m + 1, none⟩ a1).setCell ⟨g, m + 2, none⟩ a2).setCell ⟨g, m + 3, none⟩ a3).setCell ⟨g, m + 4, none⟩ a4).setCell ⟨g, m + 5, none⟩ a5).setCell ⟨g, m + 6, none⟩ a6
theorem put7_own {B g n cap m : Nat} {e : TypeId} {w : World} {vs : List Value} {a0 a1 a2 a3 a4 a5 a6 : Value} (h : w.ownsRow B e 7 (.slice (some ⟨g, 0, none⟩) n cap) n vs) : (put7 w g m a0 a1 a2 a3 a4 a5 a6).ownsRow B e 7 (.slice (some ⟨g, 0, none⟩) n cap) n (set7 vs m a0 a1 a2 a3 a4 a5 a6) :=
  ((((((((h.stored m a0).1.stored (m + 1) a1).1.stored (m + 2) a2).1.stored (m + 3) a3).1.stored (m + 4) a4).1.stored (m + 5) a5).1).stored (m + 6) a6).1
theorem put7_exo {B g m : Nat} {w : World} {cs : List Value} {e : Ex} {a0 a1 a2 a3 a4 a5 a6 : Value} (h : ExO B w cs e) (hg : g < B) : ExO B (put7 w g m a0 a1 a2 a3 a4 a5 a6) cs e :=
  ((((((h.setOld (p := ⟨g, m, none⟩) hg a0).setOld (p := ⟨g, m + 1, none⟩) hg a1).setOld (p := ⟨g, m + 2, none⟩) hg a2).setOld (p := ⟨g, m + 3, none⟩) hg a3).setOld (p := ⟨g, m + 4, none⟩) hg a4).setOld (p := ⟨g, m + 5, none⟩) hg a5).setOld (p := ⟨g, m + 6, none⟩) hg a6
theorem put7_ext {W w : World} {g m : Nat} {a0 a1 a2 a3 a4 a5 a6 : Value} (h : Ext W w) (hg : W.heap.size ≤ g) : Ext W (put7 w g m a0 a1 a2 a3 a4 a5 a6) :=
  ((((((h.setCell (p := ⟨g, m, none⟩) hg a0).setCell (p := ⟨g, m + 1, none⟩) hg a1).setCell (p := ⟨g, m + 2, none⟩) hg a2).setCell (p := ⟨g, m + 3, none⟩) hg a3).setCell (p := ⟨g, m + 4, none⟩) hg a4).setCell (p := ⟨g, m + 5, none⟩) hg a5).setCell (p := ⟨g, m + 6, none⟩) hg a6
/-- The first k nodes of a row of n are written. -/
def RowE (B Bi g n : Nat) (es : List Ex) (k : Nat) (w : World) : Prop := ∃ (vs : List Value) (us : Nat → List Value), w.ownsRow B 48 7 (.slice (some ⟨g, 0, none⟩) n n) n vs ∧
  ∀ (i : Nat) (e : Ex), i < k → es[i]? = some e → (us i).length = 7 ∧ (∀ (j : Nat) (v : Value), (us i)[j]? = some v → vs[i * 7 + j]? = some v) ∧ ExO Bi w (us i) e
theorem RowE.open' {B Bi g n k : Nat} {es : List Ex} {w w1 : World} (h : RowE B Bi g n es k w) (hE : Ext w w1) (hk : k < n) :
    (∀ j, w1.frozen? ⟨g, k * 7 + j, none⟩ = false) ∧ (∀ j, j < 7 → ∃ v, w1.cell? ⟨g, k * 7 + j, none⟩ = some v) ∧ B ≤ g ∧ g < w1.heap.size := by
  obtain ⟨vs, us, ho, _⟩ := h
  have ho := ownsRow_ext ho hE
  have hl := ho.1
  have := ho.lt g rfl
  refine ⟨fun j => ho.frozenAt _, fun j hj => ?_, this.1, this.2⟩
  rw [ho.cellAt (k * 7 + j) (by omega)]; exact get_some (by omega)
theorem RowE.step {B g n k : Nat} {es : List Ex} {w w1 : World} {a0 a1 a2 a3 a4 a5 a6 : Value} {x : Ex} (h : RowE B (g + 1) g n es k w) (hE : Ext w w1) (hk : k < n) (hx : es[k]? = some x) (hr : ExO (g + 1) w1 [a0, a1, a2, a3, a4, a5, a6] x) :
    RowE B (g + 1) g n es (k + 1) (put7 w1 g (k * 7) a0 a1 a2 a3 a4 a5 a6) := by
  obtain ⟨vs, us, ho, hv⟩ := h
  have ho := ownsRow_ext ho hE
  have hl := ho.1
  refine ⟨_, fun i => if i = k then [a0, a1, a2, a3, a4, a5, a6] else us i, put7_own ho, fun i y hi hy => ?_⟩
  by_cases e : i = k
  · subst e
    rw [hx] at hy; cases hy
    simp only [if_true]
    exact ⟨rfl, fun j v hj => set7_in (by omega) hj, put7_exo hr (by omega)⟩
  · simp only [if_neg e]
    obtain ⟨h7, h0, h1⟩ := hv i y (by omega) hy
    refine ⟨h7, fun j v hj => ?_, put7_exo (h1.ext hE) (by omega)⟩
    have hj7 : j < 7 := by rw [← h7]; exact (List.getElem?_eq_some_iff.1 hj).1
    rw [set7_out (by omega)]
    exact h0 j v hj
theorem RowE.done {B g n : Nat} {es : List Ex} {w : World} (h : RowE B (g + 1) g n es n w) (hn : es.length = n) (hB : B ≤ g) : ExsO B w (.slice (some ⟨g, 0, none⟩) n n) es := by
  obtain ⟨vs, us, ho, hv⟩ := h
  refine ⟨_, n, us, vs, by rw [hn], by rw [hn]; exact ho, fun i e hi j v hj => ?_, fun i e hi => ?_⟩
  · exact (hv i e (by rw [← hn]; exact (List.getElem?_eq_some_iff.1 hi).1) hi).2.1 j v hj
  · exact (hv i e (by rw [← hn]; exact (List.getElem?_eq_some_iff.1 hi).1) hi).2.2.weak (by omega)
theorem infoExpr : (Try.prog.info? 48).map (fun i => (i.zero, i.size, i.bytes)) = some (some (.agg #[.int .i64 0, .int .i64 0, .slice none 0 0, .int .i64 0, .string ⟨#[]⟩, .slice none 0 0, .slice none 0 0]), 7, 112) := by kernel_rfl

/-- What toExpr does with a node. -/
def CpE (w : World) (cs : List Value) (e : Ex) : Prop := SmallE e → ∀ (w' : World), Ext w w' → Calls Try.prog 48 #[.agg cs.toArray] w' fun r w2 => (∃ cs2, r = .returned (.agg cs2.toArray) ∧ ExO w'.heap.size w2 cs2 e) ∧ Ext w' w2

set_option maxHeartbeats 1600000 in
theorem toExprS_of (w0 : World) (p : Option Addr) (n c : Nat) (es : List Ex) (us : Nat → List Value) (hn : es.length = n) (hm : n ≤ 1048576)
    (hc : ∀ (i : Nat) (e : Ex), es[i]? = some e → ∃ b off, p = some ⟨b, off, none⟩ ∧ b < w0.heap.size ∧ ∀ (j : Nat) (v : Value), (us i)[j]? = some v → w0.cell? ⟨b, off + i * 7 + j, none⟩ = some v)
    (hk : ∀ (i : Nat) (e : Ex), es[i]? = some e → ExR w0 (us i) e) (IH : ∀ (i : Nat) (e : Ex), es[i]? = some e → CpE w0 (us i) e) (hsm : ∀ e ∈ es, SmallE e) (w : World) (hE0 : Ext w0 w) :
    Calls Try.prog 75 #[.slice p n c] w fun e w' => (∃ q d, e = .returned (.slice q n d) ∧ ExsO w.heap.size w' (.slice q n d) es) ∧ Ext w w' := by
  obtain ⟨i0, hi, hz0, hz1, hz2⟩ := info_parts infoExpr
  have HC := Lib.hid hc; have HK := Lib.hid hk; have HI := Lib.hid IH; have HN := Lib.hid hn; have HE0 := Lib.hid hE0; have HSM := Lib.hid hsm; clear hc hk IH hn hE0 hsm
  go_enter Try.func75, Try.ntmps75
  go_wp2_with (at_make; refine wpList_make_full _ rfl _ _ 46 rfl w.heap.size 48 i0 (.agg #[.int .i64 0, .int .i64 0, .slice none 0 0, .int .i64 0, .string ⟨#[]⟩, .slice none 0 0, .slice none 0 0]) 7 Try.underlying46 hi hz0 hz1 _ _ _ _ n rfl rfl rfl rfl ?b2 ?b3 (Nat.le_refl _) ?_)
  case b2 => rw [hz2]; omega
  case b3 => unfold maxLen; omega
  intro w1 hown0 hgrow0
  have HP := Lib.hid (show RowE w.heap.size (w.heap.size + 1) w.heap.size n es 0 w1 from ⟨_, fun _ => [], hown0, fun i x hi => absurd hi (by omega)⟩)
  have HG := Lib.hid ((Ext.refl w).grown hgrow0 (fun k h => by cases h))
  clear hown0 hgrow0 hi hz0 hz1 hz2
  go_wp2
  go_loopw [4] (fun i wr => ∃ k : Nat, k ≤ n ∧ i = .int .i64 k ∧ RowE w.heap.size (w.heap.size + 1) w.heap.size n es k wr ∧ Ext w wr) (fun i _ => n - (intOf i).toNat)
  case atStart => exact ⟨0, by omega, rfl, HP.out, HG.out⟩
  case round =>
    obtain ⟨k, hk, rfl, hrow, hE⟩ := hrel
    by_cases hlt : k < n
    · obtain ⟨x, hx⟩ := get_some (xs := es) (k := k) (by rw [HN.out]; exact hlt)
      have E0 : Ext w0 wr := HE0.out.trans hE
      obtain ⟨b, off, rfl, hb, hcell⟩ := HC.out k x hx
      have hi := HI.out k x hx (HSM.out x (List.mem_of_getElem? hx)) wr E0
      obtain ⟨u, s, v, hcs, -, -, -, -⟩ := (HK.out k x hx).parts
      rw [hcs] at hcell hi
      have c0 := E0.keep (hcell 0 _ rfl); have c1 := E0.keep (hcell 1 _ rfl); have c2 := E0.keep (hcell 2 _ rfl); have c3 := E0.keep (hcell 3 _ rfl); have c4 := E0.keep (hcell 4 _ rfl); have c5 := E0.keep (hcell 5 _ rfl); have c6 := E0.keep (hcell 6 _ rfl)
      rw [Nat.add_zero] at c0
      have HX := Lib.hid hx; have HI2 := Lib.hid hi; have HW := Lib.hid hrow
      clear hx hi hcell E0 hcs hrow
      go_wp2_with (fail)
      refine HI2.out.mono ?_
      rintro e w2 ⟨⟨cs2, rfl, hv⟩, hE1⟩
      obtain ⟨kind', num', q1, n1, d1', k', arr', q2, n2, d2', q3, n3, d3', rfl⟩ := hv.seven
      obtain ⟨hf, hce, hg0, hg1⟩ := HW.out.open' hE1 hlt
      have f0 := hf 0; have f1 := hf 1; have f2 := hf 2; have f3 := hf 3; have f4 := hf 4; have f5 := hf 5; have f6 := hf 6
      obtain ⟨v0, d0⟩ := hce 0 (by omega); obtain ⟨v1, d1⟩ := hce 1 (by omega); obtain ⟨v2, d2⟩ := hce 2 (by omega); obtain ⟨v3, d3⟩ := hce 3 (by omega); obtain ⟨v4, d4⟩ := hce 4 (by omega); obtain ⟨v5, d5⟩ := hce 5 (by omega); obtain ⟨v6, d6⟩ := hce 6 (by omega)
      rw [Nat.add_zero] at f0 d0
      have HV := Lib.hid (hv.weak (B' := w.heap.size + 1) (by have := (HW.out.open' (Ext.refl wr) hlt).2.2.2; omega))
      have HE1 := Lib.hid hE1
      have HST := Lib.hid (HW.out.step HE1.out hlt HX.out HV.out)
      have HEX := Lib.hid (put7_ext (m := k * 7) (a0 := .int .i64 kind') (a1 := .int .i64 num') (a2 := .slice q1 n1 d1') (a3 := .int .i64 k') (a4 := .string arr') (a5 := .slice q2 n2 d2') (a6 := .slice q3 n3 d3') (hE.trans HE1.out) (Nat.le_refl w.heap.size))
      unfold put7 at HST HEX
      clear hv hE1 c0 c1 c2 c3 c4 c5 c6 hf hce
      go_wp2
      go_roundw
      case rel => exact ⟨k + 1, by omega, by go_num, HST.out, HEX.out⟩
      case measure => simp [intOf]; omega
    · have e : k = n := by omega
      subst e
      have HW := Lib.hid hrow; clear hrow
      go_wp2
      go_ret
      exact ⟨⟨_, _, rfl, HW.out.done HN.out (Nat.le_refl _)⟩, hE⟩

theorem blk7f {W : World} {g : Nat} {a0 a1 a2 a3 a4 a5 a6 : Value} {t : TypeId} (h : W.heap[g]? = some (.cells #[a0, a1, a2, a3, a4, a5, a6] t (0, 0))) (j : Nat) : W.frozen? ⟨g, j, none⟩ = false := by
  simp [World.frozen?, h]
theorem blk7_23 {W : World} {g : Nat} {a0 a1 a2 a3 a4 a5 a6 u v : Value} {t : TypeId} (h : W.heap[g]? = some (.cells #[a0, a1, a2, a3, a4, a5, a6] t (0, 0))) : ((W.setCell ⟨g, 2, none⟩ u).setCell ⟨g, 3, none⟩ v).heap[g]? = some (.cells #[a0, a1, u, v, a4, a5, a6] t (0, 0)) := by
  have h1 := heap_setCell_same W g 2 _ t u h
  have h2 := heap_setCell_same _ g 3 _ t v h1
  simpa using h2
theorem blk7_45 {W : World} {g : Nat} {a0 a1 a2 a3 a4 a5 a6 u v : Value} {t : TypeId} (h : W.heap[g]? = some (.cells #[a0, a1, a2, a3, a4, a5, a6] t (0, 0))) : ((W.setCell ⟨g, 4, none⟩ u).setCell ⟨g, 5, none⟩ v).heap[g]? = some (.cells #[a0, a1, a2, a3, u, v, a6] t (0, 0)) := by
  have h1 := heap_setCell_same W g 4 _ t u h
  have h2 := heap_setCell_same _ g 5 _ t v h1
  simpa using h2

set_option maxHeartbeats 4000000 in
theorem toExpr_any {w : World} {cs : List Value} {e : Ex} (h : ExR w cs e) : CpE w cs e := by
  induction h with
  | mk kind num k u s xs arr subs p cap kids us hu ha hs hl hc hk ih =>
    intro hsm w' hE
    cases hsm with
    | mk _ _ _ _ _ _ hx1 ha1 hs1 hl1 hk1 =>
    obtain ⟨pu, cu, rfl, hmu, -⟩ := id hu
    obtain ⟨ps, cs, rfl, hms⟩ := hs.form
    have HU := Lib.hid hu; have HS := Lib.hid hs; have HC := Lib.hid hc; have HK := Lib.hid hk; have HI := Lib.hid ih; have HE := Lib.hid hE; have HS1 := Lib.hid hs1; have HK1 := Lib.hid hk1
    clear hs hc hk ih hu hE hs1 hk1
    generalize hga : w'.heap.size = ga at *
    have HGA := Lib.hid hga; clear hga
    go_enter Try.func48, Try.ntmps48
    go_wp2_with (fail)
    refine (toAffine_any _ xs k _ (HU.out.ext (HE.out.trans ((((Ext.refl w').alloc _).alloc _).alloc _))) hx1).mono ?_
    rintro e W1 ⟨q1, d1, rfl, hv1, hE1⟩
    have E1 : Hid (Ext w' W1) := Lib.hid (((((Ext.refl w').alloc _).alloc _).alloc _).trans hE1)
    have BA := hE1.blk (g := ga) (blk_old (blk_old (blk_at HGA.out.symm)))
    have BR := hE1.blk (g := ga + 1) (blk_old (blk_at (by simp [HGA.out])))
    have BO := hE1.blk (g := ga + 1 + 1) (blk_at (by simp [HGA.out]))
    have hl0 := lt_of_block BO
    have HV1 := Lib.hid (hv1.weak (B' := ga + 1 + 1 + 1) (by simp [HGA.out]))
    clear hE1 hv1
    obtain ⟨-, -, o2, o3, -, -, -⟩ := blk7 BO
    have f2 := blk7f BO 2; have f3 := blk7f BO 3
    obtain ⟨-, -, -, -, a4, a5, -⟩ := blk7 (blk_off (g' := ga + 1 + 1) (o' := 3) (blk_off (g' := ga + 1 + 1) (o' := 2) BA (by omega) (.slice q1 xs.length d1)) (by omega) (.int .i64 k))
    have BA2 := Lib.hid (blk_off (g' := ga + 1 + 1) (o' := 3) (blk_off (g' := ga + 1 + 1) (o' := 2) BA (by omega) (.slice q1 xs.length d1)) (by omega) (.int .i64 k))
    have BR2 := Lib.hid (blk_off (g' := ga + 1 + 1) (o' := 3) (blk_off (g' := ga + 1 + 1) (o' := 2) BR (by omega) (.slice q1 xs.length d1)) (by omega) (.int .i64 k))
    have BO2 := Lib.hid (blk7_23 (u := .slice q1 xs.length d1) (v := .int .i64 k) BO)
    have E2 : Hid (Ext w' ((W1.setCell ⟨ga + 1 + 1, 2, none⟩ (.slice q1 xs.length d1)).setCell ⟨ga + 1 + 1, 3, none⟩ (.int .i64 k))) := Lib.hid ((E1.out.setCell (by rw [HGA.out]; simp; omega) _).setCell (by rw [HGA.out]; simp; omega) _)
    have HV2 := Lib.hid ((HV1.out.setOld (p := ⟨ga + 1 + 1, 2, none⟩) (by simp) (.slice q1 xs.length d1)).setOld (p := ⟨ga + 1 + 1, 3, none⟩) (by simp) (.int .i64 k))
    clear BA BR BO HV1
    rw [HGA.out]
    go_wp2_with (fail)
    clear o2 o3 f2 f3 a4 a5 hl0 E1
    generalize (W1.setCell ⟨ga + 1 + 1, 2, none⟩ (.slice q1 xs.length d1)).setCell ⟨ga + 1 + 1, 3, none⟩ (.int .i64 k) = W2 at *
    refine (toAccess_any arr _ subs W2 (HS.out.ext (HE.out.trans E2.out)) HS1.out).mono ?_
    rintro e W3 ⟨q2, d2, rfl, hv2, hE3⟩
    have E3 : Hid (Ext w' W3) := Lib.hid (E2.out.trans hE3)
    have BA := hE3.blk BA2.out; have BR := hE3.blk BR2.out; have BO := hE3.blk BO2.out
    have hl0 := lt_of_block BO
    have HV3 := Lib.hid (HV2.out.ext hE3)
    have HA3 := Lib.hid (hv2.weak (B' := ga + 1 + 1 + 1) (by have := lt_of_block BO2.out; omega))
    clear hE3 hv2 HV2 BA2 BR2 BO2
    obtain ⟨-, -, -, -, o4, o5, -⟩ := blk7 BO
    have f4 := blk7f BO 4; have f5 := blk7f BO 5
    obtain ⟨-, -, -, -, -, -, a6⟩ := blk7 (blk_off (g' := ga + 1 + 1) (o' := 5) (blk_off (g' := ga + 1 + 1) (o' := 4) BA (by omega) (.string arr)) (by omega) (.slice q2 subs.length d2))
    have BR4 := Lib.hid (blk_off (g' := ga + 1 + 1) (o' := 5) (blk_off (g' := ga + 1 + 1) (o' := 4) BR (by omega) (.string arr)) (by omega) (.slice q2 subs.length d2))
    have BO4 := Lib.hid (blk7_45 (u := .string arr) (v := .slice q2 subs.length d2) BO)
    have E4 : Hid (Ext w' ((W3.setCell ⟨ga + 1 + 1, 4, none⟩ (.string arr)).setCell ⟨ga + 1 + 1, 5, none⟩ (.slice q2 subs.length d2))) := Lib.hid ((E3.out.setCell (by rw [HGA.out]; simp; omega) _).setCell (by rw [HGA.out]; simp; omega) _)
    have HV4 := Lib.hid ((HV3.out.setOld (p := ⟨ga + 1 + 1, 4, none⟩) (by simp) (.string arr)).setOld (p := ⟨ga + 1 + 1, 5, none⟩) (by simp) (.slice q2 subs.length d2))
    have HA4 := Lib.hid ((HA3.out.setOld (p := ⟨ga + 1 + 1, 4, none⟩) (by simp) (.string arr)).setOld (p := ⟨ga + 1 + 1, 5, none⟩) (by simp) (.slice q2 subs.length d2))
    clear BA BR BO HV3 HA3
    go_wp2_with (fail)
    clear o4 o5 f4 f5 a6 hl0 E3
    generalize (W3.setCell ⟨ga + 1 + 1, 4, none⟩ (.string arr)).setCell ⟨ga + 1 + 1, 5, none⟩ (.slice q2 subs.length d2) = W4 at *
    refine (toExprS_of w p _ cap kids us rfl hl1 HC.out HK.out HI.out HK1.out W4 (HE.out.trans E4.out)).mono ?_
    rintro e W5 ⟨⟨q3, d3, rfl, hv3⟩, hE5⟩
    have E5 : Hid (Ext w' W5) := Lib.hid (E4.out.trans hE5)
    have BR := hE5.blk BR4.out; have BO := hE5.blk BO4.out
    have hl0 := lt_of_block BO
    have HV5 := Lib.hid (HV4.out.ext hE5); have HA5 := Lib.hid (HA4.out.ext hE5)
    have hw4 := lt_of_block BO4.out
    have HK5 : Hid (ExsO (ga + 1 + 1 + 1) W5 (.slice q3 kids.length d3) kids) := Lib.hid (by
      obtain ⟨p', c', us', vs', e1, e2, e3, e4⟩ := hv3
      exact ⟨p', c', us', vs', e1, ownsRow_weak e2 (by omega), e3, fun i e hi => (e4 i e hi).weak (by omega)⟩)
    clear hE5 hv3 HV4 HA4 BR4 BO4
    obtain ⟨o0, o1, o2, o3, o4, o5, o6⟩ := blk7 BO
    have f6 := blk7f BO 6
    obtain ⟨r0, r1, r2, r3, r4, r5, r6⟩ := blk7 BR
    have g0 := blk7f BR 0; have g1 := blk7f BR 1; have g2 := blk7f BR 2; have g3 := blk7f BR 3; have g4 := blk7f BR 4; have g5 := blk7f BR 5; have g6 := blk7f BR 6
    have HEX := Lib.hid (ExO.of (kind := kind) (num := num) (k := k) HV5.out ha HA5.out HK5.out)
    clear BR BO HV5 HA5 HK5
    go_wp2
    refine bodyPost_ret (v := .agg #[.int .i64 kind, .int .i64 num, .slice q1 xs.length d1, .int .i64 k, .string arr, .slice q2 subs.length d2, .slice q3 kids.length d3]) (by simp [results, Try.results48, go_sem, r0, r1, r2, r3, r4, r5, r6]) rfl ⟨⟨_, rfl, ?_⟩, ?_⟩
    · refine ExO.weak (B := ga + 1 + 1 + 1) ?_ (by omega)
      repeat (refine ExO.setOld ?_ (by simp <;> omega) _)
      exact HEX.out
    · repeat (refine Ext.setCell ?_ (by rw [HGA.out]; simp <;> omega) _)
      exact E5.out
end Go.Proofs.Ytggpjapmhakklaa

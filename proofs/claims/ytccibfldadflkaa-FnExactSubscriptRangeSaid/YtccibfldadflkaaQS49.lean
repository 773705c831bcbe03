/- The texts R12 Ho, joined. No statement is proved here. -/
import Derived.Test.YtccibfldadflkaaQS21
import Derived.Test.YtccibfldadflkaaQS16
import Derived.Test.YtccibfldadflkaaQS43
import Derived.Test.YtccibfldadflkaaQS24
import Derived.Test.YtccibfldadflkaaQS22
import Derived.Test.YtccibfldadflkaaQS45
/- The points of a nest: which they are, their order, how many of a box. No statement is proved here. | Contracts for lists of points: equality, marks. No statement is proved here. | The elements of a list of points. No statement is proved here. -/
namespace Go.Proofs.Ytccibfldadflkaa
open Go.RowKit

theorem listLoop_iff {f : Int → List (List Int)} {x : List Int} : ∀ (k : Nat) (v : Int), x ∈ listLoop f k v ↔ ∃ j : Nat, j < k ∧ x ∈ f (v + j)
  | 0, v => by simp [listLoop]
  | k + 1, v => by
    simp only [listLoop, List.mem_append]
    rw [listLoop_iff k (v + 1)]
    constructor
    · rintro (h | ⟨j, hj, h⟩)
      · exact ⟨0, by omega, by simpa using h⟩
      · exact ⟨j + 1, by omega, by rw [show v + ((j + 1 : Nat) : Int) = v + 1 + j by omega]; exact h⟩
    · rintro ⟨j, hj, h⟩
      rcases Nat.eq_zero_or_pos j with rfl | hp
      · exact .inl (by simpa using h)
      · exact .inr ⟨j - 1, by omega, by rw [show v + 1 + ((j - 1 : Nat) : Int) = v + j by omega]; exact h⟩
theorem lpAt_getD (ls : List Lp) (ps : List Int) : lpAt ls ps = ls.getD ps.length ([], []) := rfl
theorem take_snoc {x ps : List Int} {v : Int} (h : x.take (ps.length + 1) = ps ++ [v]) : x.take ps.length = ps ∧ x[ps.length]? = some v := by
  constructor
  · have := congrArg (List.take ps.length) h
    rwa [List.take_take, Nat.min_eq_left (by omega), List.take_append_of_le_length (Nat.le_refl _), List.take_length] at this
  · have := congrArg (fun l : List Int => l[ps.length]?) h
    simp only [List.getElem?_take] at this
    rw [if_pos (by omega), List.getElem?_append_right (Nat.le_refl _)] at this
    simpa using this
/-- The points that begin with ps are those that continue ps within the ranges of the loops. -/
theorem leaves_iff (ls : List Lp) (x : List Int) : ∀ (d : Nat) (ps : List Int), ps.length + d = ls.length → (x ∈ leaves ls d ps ↔ x.length = ls.length ∧ x.take ps.length = ps ∧ ∀ i, ps.length ≤ i → i < ls.length → inB ls x i = true)
  | 0, ps, hd => by
    simp only [leaves, List.mem_singleton]
    constructor
    · rintro rfl
      exact ⟨by omega, by simp, fun i h1 h2 => by omega⟩
    · rintro ⟨h1, h2, -⟩
      rw [← h2, List.take_of_length_le (by omega)]
  | d + 1, ps, hd => by
    simp only [leaves]
    rw [listLoop_iff]
    constructor
    · rintro ⟨j, hj, h⟩
      obtain ⟨h1, h2, h3⟩ := (leaves_iff ls x d (ps ++ [loV (lpAt ls ps) ps + j]) (by rw [List.length_append]; simp; omega)).1 h
      rw [List.length_append, List.length_singleton] at h2 h3
      obtain ⟨h4, h5⟩ := take_snoc h2
      refine ⟨h1, h4, fun i hi hl => ?_⟩
      rcases Nat.eq_or_lt_of_le hi with rfl | hi
      · unfold inB
        rw [h4, List.getD_eq_getElem?_getD (l := x), h5, ← lpAt_getD]
        unfold trips at hj
        simp only [Option.getD_some, decide_eq_true_eq]
        omega
      · exact h3 i hi hl
    · rintro ⟨h1, h2, h3⟩
      have h4 := h3 ps.length (Nat.le_refl _) (by omega)
      obtain ⟨v, hv⟩ := get_some (xs := x) (k := ps.length) (by omega)
      unfold inB at h4
      rw [h2, List.getD_eq_getElem?_getD (l := x), hv, ← lpAt_getD] at h4
      simp only [Option.getD_some, decide_eq_true_eq] at h4
      have hve : loV (lpAt ls ps) ps + ((v - loV (lpAt ls ps) ps).toNat : Int) = v := by omega
      refine ⟨(v - loV (lpAt ls ps) ps).toNat, by unfold trips; omega, ?_⟩
      rw [hve]
      refine (leaves_iff ls x d (ps ++ [v]) (by rw [List.length_append]; simp; omega)).2 ⟨h1, ?_, fun i hi hl => h3 i (by rw [List.length_append] at hi; omega) hl⟩
      rw [List.length_append, List.length_singleton, take_next hv, h2]
/-- What NestPoints lists are the points that PointIn accepts, as long as they are points. -/
theorem nptsL_iff {ls : List Lp} (h : nptsB ls = true) (x : List Int) : x ∈ nptsL ls ↔ x.length = ls.length ∧ ∀ i, i < ls.length → inB ls x i = true := by
  rw [nptsL_leaves h, leaves_iff ls x ls.length [] (by simp)]
  simp
theorem nptsB_nest {ls : List Lp} (h : nptsB ls = true) : nestB ls = true := by
  simp only [nptsB, Bool.and_eq_true] at h; exact h.1
theorem nptsL_len {ls : List Lp} : (nptsL ls).length ≤ 120 := by
  unfold nptsL
  split
  · rename_i h
    simp only [nptsB, Bool.and_eq_true, decide_eq_true_eq] at h
    exact h.2.2
  · simp
end Go.Proofs.Ytccibfldadflkaa

namespace Go.Proofs.Ytccibfldadflkaa
open Go.RowKit

/-- The value reads as a list of lists of ints. -/
def PtsAt (w : World) (v : Value) (xss : List (List Int)) : Prop :=
  xss.length ≤ 1000000 ∧ ((v = .slice none 0 0 ∧ xss = []) ∨ ∃ g c, v = .slice (some ⟨g, 0, none⟩) xss.length c ∧ g < w.heap.size ∧ ∀ (i : Nat) (xs : List Int), xss[i]? = some xs → ∃ u, w.cell? ⟨g, i, none⟩ = some u ∧ IntsAt w u xs)
theorem PtsAt.ext {w w' : World} {v : Value} {xss : List (List Int)} (h : PtsAt w v xss) (hE : Ext w w') : PtsAt w' v xss := by
  refine ⟨h.1, h.2.imp id ?_⟩
  rintro ⟨g, c, hv, hg, he⟩
  refine ⟨g, c, hv, Nat.lt_of_lt_of_le hg hE.size_le, fun i xs hi => ?_⟩
  obtain ⟨u, h0, h1⟩ := he i xs hi
  exact ⟨u, hE.keep h0, h1.ext hE⟩
theorem PtsAt.form {w : World} {v : Value} {xss : List (List Int)} (h : PtsAt w v xss) : ∃ p c, v = .slice p xss.length c := by
  rcases h.2 with ⟨rfl, rfl⟩ | ⟨g, c, rfl, _⟩
  · exact ⟨none, 0, rfl⟩
  · exact ⟨_, _, rfl⟩
theorem PtsAt.elem {w : World} {p : Option Addr} {n c i : Nat} {xss : List (List Int)} {xs : List Int} (h : PtsAt w (.slice p n c) xss) (hi : xss[i]? = some xs) : ∃ g u, p = some ⟨g, 0, none⟩ ∧ w.cell? ⟨g, i, none⟩ = some u ∧ g < w.heap.size ∧ IntsAt w u xs := by
  rcases h.2 with ⟨_, rfl⟩ | ⟨g, c', hv, hg, he⟩
  · simp at hi
  · obtain ⟨u, h0, h1⟩ := he i xs hi
    simp only [Value.slice.injEq] at hv
    exact ⟨g, u, hv.1, h0, hg, h1⟩
theorem pts_at {B : Nat} {w : World} {v : Value} {xss : List (List Int)} {vs : List Value} (h0 : xss.length ≤ 1000000) (ho : w.ownsRow B 22 1 v xss.length vs) (he : ∀ (i : Nat) (xs : List Int), xss[i]? = some xs → ∃ u : Value, vs[i]? = some u ∧ IntsAt w u xs) : PtsAt w v xss := by
  refine ⟨h0, ?_⟩
  rcases ho.2 with ⟨hv, hn⟩ | ⟨g, cap, cur, hv, hb, hgh, r⟩
  · exact .inl ⟨hv, List.eq_nil_of_length_eq_zero hn⟩
  · refine .inr ⟨g, cap, hv, (Array.getElem?_eq_some_iff.1 hgh).1, fun i xs hi => ?_⟩
    obtain ⟨u, h1, h2⟩ := he i xs hi
    refine ⟨u, ?_, h2⟩
    subst hv
    rw [ho.cellAt i (by have := (List.getElem?_eq_some_iff.1 hi).1; omega)]
    exact h1
theorem PtsOwn.at {B : Nat} {w : World} {v : Value} {xss : List (List Int)} (h : PtsOwn B w v xss) (h0 : xss.length ≤ 1000000) : PtsAt w v xss := by
  obtain ⟨vs, ho, he⟩ := h
  exact pts_at h0 ho (fun i xs hi => by obtain ⟨u, h1, h2⟩ := he i xs hi; exact ⟨u, h1, h2.at⟩)
theorem PtsD.at {own : List Nat} {B : Nat} {w : World} {v : Value} {xss : List (List Int)} (h : PtsD own B w v xss) (h0 : xss.length ≤ 1000000) : PtsAt w v xss := by
  obtain ⟨vs, ho, _, he⟩ := h
  exact pts_at h0 ho (fun i xs hi => by obtain ⟨g, c, h1, h2, _⟩ := he i xs hi; exact ⟨_, h1, h2.at⟩)

end Go.Proofs.Ytccibfldadflkaa

namespace Go.Proofs.Ytccibfldadflkaa
open Go.RowKit

theorem PtsD.get {own : List Nat} {B n c i : Nat} {X : World} {p : Option Addr} {xss : List (List Int)} {xs : List Int} (h : PtsD own B X (.slice p n c) xss) (hi : xss[i]? = some xs) :
    ∃ o g c', p = some ⟨o, 0, none⟩ ∧ X.cell? ⟨o, i, none⟩ = some (.slice (some ⟨g, 0, none⟩) xs.length c') ∧ IntsAt X (.slice (some ⟨g, 0, none⟩) xs.length c') xs ∧ xs.length ≤ c' := by
  obtain ⟨vs, ho, _, he⟩ := h
  obtain ⟨g, c', h1, h2, _⟩ := he i xs hi
  have hlt := (List.getElem?_eq_some_iff.1 hi).1
  rcases ho.2 with ⟨e, h0⟩ | ⟨o, cap, cur, e, r⟩
  · omega
  · cases e
    exact ⟨o, g, c', rfl, by rw [ho.cellAt i (by omega)]; exact h1, h2.at, h2.cap⟩
end Go.Proofs.Ytccibfldadflkaa

/- A drawn region whose last operation need not keep what the others hold: so a load of the cell that the last store writes is taken first, too. No statement is proved here. -/
namespace Go.Proofs.Ytccibfldadflkaa
open Go.RowKit

section
variable {P : Program} {md : Region.Mode} {ops : Array Oper} {Q : Exit → Act → World → Prop} {S : World → Prop}

/-- 'wpAnyH', but behind the last operation S is not asked. -/
def wpAnyL (P : Program) (md : Region.Mode) (ops : Array Oper) (Q : Exit → Act → World → Prop) (S : World → Prop) : Nat → Array Bool → Act → World → Prop
  | 0, listed, a, w => Region.ready md ops listed = [] ∧ Q .normal a w
  | fuel + 1, listed, a, w =>
    (Region.ready md ops listed = [] → Q .normal a w) ∧
    ∀ i ∈ Region.ready md ops listed, wpOp P ops Q i (fun a' w' => ((listed.setIfInBounds i true).all id = false → S w') ∧ wpAnyL P md ops Q S fuel (listed.setIfInBounds i true) a' w') a w
theorem wpAny_of_last : ∀ (fuel : Nat) (listed : Array Bool) (a : Act) (w : World), wpAnyL P md ops Q S fuel listed a w → wpAny P md ops Q fuel listed a w
  | 0, _, _, _, h => h
  | fuel + 1, _, _, _, h => ⟨h.1, fun i hi => wpOp_mono (fun a' w' h' => wpAny_of_last fuel _ a' w' h'.2) (h.2 i hi)⟩
/-- Does some operation that has not come up wait for number i? -/
def waitsFor (md : Region.Mode) (ops : Array Oper) (listed : Array Bool) (i k : Nat) : Bool :=
  !(listed.getD k true) && (!(k == i) && match ops[k]? with | some o => o.after.any (fun e => Region.binds md e && e.on == i) | none => false)
theorem not_all {listed : Array Bool} {k : Nat} (h : listed.getD k true = false) : listed.all id = false := by
  rw [Bool.eq_false_iff]
  intro hall
  have h1 := Array.all_eq_true.1 hall
  by_cases hk : k < listed.size
  · have h2 := h1 k hk
    rw [Array.getD_eq_getD_getElem?, Array.getElem?_eq_getElem hk] at h
    simp only [Option.getD_some] at h
    simp only [id] at h2
    rw [h] at h2
    cases h2
  · rw [Array.getD_eq_getD_getElem?, Array.getElem?_eq_none (by omega)] at h
    cases h
theorem wpAnyL_first {i : Nat} {oi : Oper} {v : Value} (hi : ops[i]? = some oi) (hsel : ∀ (j : Nat) (o : Oper) cs b, ops[j]? = some o → o.op ≠ .select cs b)
    (hQ : ∀ c a w, Q (.panic c) (a.put oi.dst v) w → Q (.panic c) a w) (k : Nat) :
    ∀ (fuel : Nat) (listed : Array Bool) (a : Act) (w : World), waitsFor md ops listed i k = true →
      (∀ j oj, ops[j]? = some oj → j ≠ i → listed.getD j true = false → (∀ e ∈ oj.after, Region.binds md e = true → e.on ≠ i) → oi.apart ops oj = true) →
      i ∈ Region.ready md ops listed → YieldsIf P ops S oi v a → S w →
      wpAnyL P md ops Q S fuel (listed.setIfInBounds i true) (a.put oi.dst v) w → wpAnyL P md ops Q S (fuel + 1) listed a w := by
  intro fuel
  induction fuel with
  | zero =>
    intro listed a w _ _ hr hy hS H
    refine ⟨fun h => (by rw [h] at hr; cases hr), fun j hj => ?_⟩
    by_cases hji : j = i
    · subst hji; exact hy.wpOp hi hS ⟨fun _ => hS, H⟩
    · have := ready_mono hj hji
      rw [H.1] at this
      cases this
  | succ fuel ih =>
    intro listed a w hw hfree hr hy hS H
    refine ⟨fun h => (by rw [h] at hr; cases hr), fun j hj => ?_⟩
    by_cases hji : j = i
    · subst hji; exact hy.wpOp hi hS ⟨fun _ => hS, H⟩
    · have h1 := H.2 j (ready_mono hj hji)
      obtain ⟨hjun, oj, hoj, hall⟩ := mem_ready.1 hj
      have hnot : ∀ e ∈ oj.after, Region.binds md e = true → e.on ≠ i := fun e he hb heq => by
        have h1 := hall e he hb
        have h0 := (mem_ready.1 hr).1
        rw [heq] at h1
        rcases Nat.lt_or_ge i listed.size with h' | h'
        · simp [h'] at h0 h1; rw [h0] at h1; cases h1
        · simp [Array.getElem?_eq_none h'] at h1
      have hw0 := hw
      unfold waitsFor at hw0
      simp only [Bool.and_eq_true, Bool.not_eq_true', beq_eq_false_iff_ne, ne_eq] at hw0
      obtain ⟨hk0, hki, hkw⟩ := hw0
      have hkj : j ≠ k := by
        intro e
        subst e
        rw [hoj] at hkw
        obtain ⟨x, hx, hx2⟩ := Array.any_eq_true'.1 hkw
        simp only [Bool.and_eq_true, beq_iff_eq] at hx2
        exact hnot x hx hx2.1 hx2.2
      have hkl : (listed.setIfInBounds j true).getD k true = false := by rw [getD_set_ne true hkj]; exact hk0
      have hkl2 : ((listed.setIfInBounds i true).setIfInBounds j true).getD k true = false := by rw [getD_set_ne true hkj, getD_set_ne true (Ne.symm hki)]; exact hk0
      have hw' : waitsFor md ops (listed.setIfInBounds j true) i k = true := by
        unfold waitsFor
        rw [hkl]
        simp only [Bool.not_false, Bool.true_and, Bool.and_eq_true, Bool.not_eq_true', beq_eq_false_iff_ne, ne_eq]
        exact ⟨hki, hkw⟩
      have h2 := wpOp_putIf hoj (hfree j oj hoj hji hjun hnot) (fun cs b => hsel i oi cs b hi) (fun cs b => hsel j oj cs b hoj) hQ hy h1
      have hfree' : ∀ k ok, ops[k]? = some ok → k ≠ i → (listed.setIfInBounds j true).getD k true = false →
          (∀ e ∈ ok.after, Region.binds md e = true → e.on ≠ i) → oi.apart ops ok = true := fun k ok hk hki hun hno => by
        refine hfree k ok hk hki ?_ hno
        by_cases hjk : j = k
        · subst hjk; exact hjun
        · rw [getD_set_ne true hjk] at hun; exact hun
      refine wpOp_mono (fun a' w' h3 => ⟨fun _ => h3.2.1 (not_all hkl2), ih (listed.setIfInBounds j true) a' w' hw' hfree' (ready_mono hr (Ne.symm hji)) h3.1 (h3.2.1 (not_all hkl2)) ?_⟩) h2
      rw [Array.setIfInBounds_comm _ _ hji]
      exact h3.2.2
/-- Taken first (the side conditions for 'kernel_rfl'). -/
theorem tkL {oi : Oper} {fuel : Nat} {listed : Array Bool} {a : Act} {w : World} (d : Option Nat) (i : Nat) (v : Value) (hi : ops[i]? = some oi) (hd : oi.dst = d)
    (hc : (Region.noSelect ops && (Region.free md ops listed i && ((Region.ready md ops listed).contains i && (List.range ops.size).any (waitsFor md ops listed i)))) = true)
    (hQ : ∀ c a w, Q (.panic c) (a.put d v) w → Q (.panic c) a w) (hy : YieldsIf P ops S oi v a) (hS : S w)
    (h : wpAnyL P md ops Q S fuel (listed.setIfInBounds i true) (a.put d v) w) : wpAnyL P md ops Q S (fuel + 1) listed a w := by
  subst hd
  simp only [Bool.and_eq_true] at hc
  obtain ⟨k, -, hk⟩ := List.any_eq_true.1 hc.2.2.2
  exact wpAnyL_first hi (Region.noSelect_spec hc.1) hQ k fuel listed a w hk (Region.free_spec hi hc.2.1) (by simpa using hc.2.2.1) hy hS h
theorem wpAnyL_done {listed : Array Bool} {a : Act} {w : World} (hr : Region.ready md ops listed = []) (h : Q .normal a w) : ∀ fuel, wpAnyL P md ops Q S fuel listed a w
  | 0 => ⟨hr, h⟩
  | _ + 1 => ⟨fun _ => h, by rw [hr]; simp⟩
/-- One that comes up next; it is the only one. -/
theorem oneL {i : Nat} {o : Oper} {fuel : Nat} {listed : Array Bool} {a : Act} {w : World} (ho : ops[i]? = some o) (hr : Region.ready md ops listed = [i])
    (h : ∀ K' : Act → World → Prop, Shut (∀ a w, S w → (S w → wpAnyL P md ops Q S fuel (listed.setIfInBounds i true) a w) → K' a w) → if Region.wanted o (yielded ops a.tmps) = true then Oper.wp P o a w K' Q else K' (a.put o.dst undef) w) :
    wpAnyL P md ops Q S (fuel + 1) listed a w :=
  ⟨fun h0 => (by rw [hr] at h0; cases h0), fun j hj => by
    rw [hr] at hj
    obtain rfl : j = i := by simpa using hj
    exact wpOp_step ho (fun K' hK => h K' (fun a w hS hW => hK a w ⟨fun _ => hS, hW hS⟩))⟩
/-- The last one: behind it only the rest is asked. -/
theorem lastL {i : Nat} {o : Oper} {fuel : Nat} {listed : Array Bool} {a : Act} {w : World} (ho : ops[i]? = some o) (hr : Region.ready md ops listed = [i]) (hl : ((listed.setIfInBounds i true).all id && (Region.ready md ops (listed.setIfInBounds i true)).isEmpty) = true)
    (h : ∀ K' : Act → World → Prop, Shut (∀ a w, Q .normal a w → K' a w) → if Region.wanted o (yielded ops a.tmps) = true then Oper.wp P o a w K' Q else K' (a.put o.dst undef) w) :
    wpAnyL P md ops Q S (fuel + 1) listed a w :=
  ⟨fun h0 => (by rw [hr] at h0; cases h0), fun j hj => by
    rw [hr] at hj
    obtain rfl : j = i := by simpa using hj
    rw [Bool.and_eq_true, List.isEmpty_iff] at hl
    exact wpOp_step ho (fun K' hK => h K' (fun a w hQ => hK a w ⟨(fun hf => by rw [hl.1] at hf; cases hf), wpAnyL_done hl.2 hQ _⟩))⟩
theorem wpIn_round_last {l n id : Nat} {a : Act} {w : World} (hm : P.follows .mixedOrders = true) (hd : noDefer ops = true) (hL : ¬ LetsOut Q) (hS : S w.drew)
    (h : S w.drew → wpAnyL P .any ops Q S ops.size (Array.replicate ops.size false) a w.drew) : (Code.region id ops true).wpIn (Fence.wide.inRound l) n P Q a w :=
  wpIn_region_draw fun t => by
    simp only [Region.schedule, hm, Bool.true_or, if_true]
    have hd' : ∀ (i : Nat) (o : Oper), ops[i]? = some o → ∀ c, o.op ≠ .defer c := fun i o ho c e => by
      have h1 := List.all_eq_true.1 hd o (Array.mem_toList_iff.2 (Array.mem_of_getElem? ho))
      rw [e] at h1; cases h1
    exact opsIn_of_ops hd' hL _ _ _ (wpAny_sound ops.size t _ a _ (wpAny_of_last _ _ _ _ (h hS)))
end
end Go.Proofs.Ytccibfldadflkaa

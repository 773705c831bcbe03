/- The texts U0, joined. No statement is proved here. -/
import Derived.Test.YtggpjapmhakklaaK07
/- Traces as lists: stack distances, misses, what a cache that drops the cell used least recently holds; a ring of linked entries. No statement is proved here. -/
namespace Go.Proofs.Ytggpjapmhakklaa
open Go.RowKit

-- the model's stack: the cells, the one accessed last in front
def mvF (x : Int) (s : List Int) : List Int := x :: s.filter (fun y => decide (y ≠ x))
/-- The last place below k at which x stands in s, or -1. -/
def atT (x : Int) (s : List Int) : Nat → Int
  | 0 => -1
  | k + 1 => if s[k]? = some x then (k : Int) else atT x s k
def sdV (x : Int) (s : List Int) : Int := atT x s s.length
def stkF (xs : List Int) : List Int := xs.foldl (fun s x => mvF x s) []
def sdL (xs : List Int) : List Int := (List.range xs.length).map (fun j => sdV (xs.getD j 0) (stkF (xs.take j)))
def sdB (xs : List Int) : List Int := if xs.length ≤ 600 then sdL xs else []
theorem stkF_snoc (xs : List Int) (x : Int) : stkF (xs ++ [x]) = mvF x (stkF xs) := by simp [stkF, List.foldl_append]
theorem atT_ge (x : Int) (s : List Int) : ∀ k, -1 ≤ atT x s k ∧ atT x s k < max (k : Int) 1
  | 0 => by simp [atT]; omega
  | k + 1 => by
    unfold atT
    have := atT_ge x s k
    split <;> omega
theorem atT_no {x : Int} {s : List Int} (h : x ∉ s) : ∀ k, atT x s k = -1
  | 0 => rfl
  | k + 1 => by
    unfold atT
    rw [if_neg (fun e => h (List.mem_of_getElem? e)), atT_no h k]
theorem atT_yes {x : Int} {s : List Int} (hn : s.Nodup) {i : Nat} (hi : s[i]? = some x) : ∀ k, i < k → atT x s k = (i : Int)
  | 0, h => by omega
  | k + 1, h => by
    unfold atT
    by_cases e : i = k
    · subst e; rw [if_pos hi]
    · rw [if_neg (fun e2 => e ?_), atT_yes hn hi k (by omega)]
      obtain ⟨h1, h2⟩ := List.getElem?_eq_some_iff.1 hi
      obtain ⟨h3, h4⟩ := List.getElem?_eq_some_iff.1 e2
      exact (List.getElem_inj hn).1 (h2.trans h4.symm)
theorem mvF_nodup {x : Int} {s : List Int} (h : s.Nodup) : (mvF x s).Nodup := by
  unfold mvF
  rw [List.nodup_cons]
  exact ⟨by simp, h.filter _⟩
theorem foldS_nodup : ∀ (xs s : List Int), s.Nodup → (xs.foldl (fun s x => mvF x s) s).Nodup
  | [], _, h => h
  | _ :: xs, _, h => foldS_nodup xs _ (mvF_nodup h)
theorem stkF_nodup (xs : List Int) : (stkF xs).Nodup := foldS_nodup xs [] List.nodup_nil
theorem mvF_len (x : Int) (s : List Int) : (mvF x s).length ≤ s.length + 1 := by
  unfold mvF
  have := List.length_filter_le (fun y => decide (y ≠ x)) s
  simp only [List.length_cons]
  omega
theorem foldS_len : ∀ (xs s : List Int), (xs.foldl (fun s x => mvF x s) s).length ≤ s.length + xs.length
  | [], _ => by simp
  | x :: xs, s => by
    have h1 := foldS_len xs (mvF x s)
    have h2 := mvF_len x s
    simp only [List.foldl_cons, List.length_cons]
    omega
theorem stkF_len (xs : List Int) : (stkF xs).length ≤ xs.length := by
  have := foldS_len xs []
  simpa [stkF] using this
theorem sdL_len (xs : List Int) : (sdL xs).length = xs.length := by simp [sdL]
theorem sdB_len (xs : List Int) : (sdB xs).length ≤ 600 := by
  unfold sdB
  split
  · rw [sdL_len]; assumption
  · simp
/-- The distances of the first k accesses. -/
def sdP (xs : List Int) (k : Nat) : List Int := (List.range k).map (fun j => sdV (xs.getD j 0) (stkF (xs.take j)))
theorem sdP_next {xs : List Int} {k : Nat} {x : Int} (h : xs[k]? = some x) : sdP xs (k + 1) = sdP xs k ++ [sdV x (stkF (xs.take k))] := by
  unfold sdP
  rw [List.range_succ, List.map_append, List.map_cons, List.map_nil, List.getD_eq_getElem?_getD, h]
  rfl
theorem sdP_len (xs : List Int) (k : Nat) : (sdP xs k).length = k := by simp [sdP]

-- what a cache of a size holds
def lruN (xs : List Int) (z : Int) (k : Nat) : Int := (((sdP xs k).filter (fun d => decide (d < 0) || decide (z ≤ d))).length : Int)
theorem filter_take {x : Int} : ∀ {s : List Int} {z : Nat}, x ∉ s.take z → (s.filter (fun y => decide (y ≠ x))).take z = s.take z
  | [], z, _ => by simp
  | a :: s, 0, _ => by simp
  | a :: s, z + 1, h => by
    simp only [List.take_succ_cons, List.mem_cons, not_or] at h
    rw [List.filter_cons_of_pos (by simp only [decide_eq_true_eq]; exact fun e => h.1 e.symm)]
    simp only [List.take_succ_cons]
    rw [filter_take h.2]
theorem filter_take_hit {x : Int} : ∀ {s : List Int} {z : Nat}, s.Nodup → x ∈ s.take z → (s.take z).filter (fun y => decide (y ≠ x)) = (s.filter (fun y => decide (y ≠ x))).take (z - 1)
  | [], z, _, h => by simp at h
  | a :: s, 0, _, h => by simp at h
  | a :: s, z + 1, hn, h => by
    obtain ⟨ha, hn2⟩ := List.nodup_cons.1 hn
    simp only [List.take_succ_cons, List.mem_cons] at h
    by_cases e : x = a
    · subst e
      rw [List.take_succ_cons, List.filter_cons_of_neg (by simp), List.filter_cons_of_neg (by simp), Nat.add_sub_cancel]
      rw [List.filter_eq_self.2, List.filter_eq_self.2]
      · intro y hy; simp only [decide_eq_true_eq]; exact fun e => ha (e ▸ hy)
      · intro y hy; simp only [decide_eq_true_eq]; exact fun e => ha (e ▸ List.mem_of_mem_take hy)
    · have h2 : x ∈ s.take z := by rcases h with h | h; exact absurd h e; exact h
      have hz : 0 < z := by rcases Nat.eq_zero_or_pos z with h0 | h0; subst h0; simp at h2; exact h0
      obtain ⟨z', rfl⟩ : ∃ z', z = z' + 1 := ⟨z - 1, by omega⟩
      rw [List.take_succ_cons, List.filter_cons_of_pos (by simp only [decide_eq_true_eq]; exact fun e2 => e e2.symm), List.filter_cons_of_pos (by simp only [decide_eq_true_eq]; exact fun e2 => e e2.symm)]
      rw [Nat.add_sub_cancel, List.take_succ_cons, filter_take_hit hn2 h2, Nat.add_sub_cancel]
/-- A hit: the cell moves to the front. -/
theorem cache_hit {x : Int} {s : List Int} {z : Nat} (hn : s.Nodup) (h : x ∈ s.take z) : mvF x (s.take z) = (mvF x s).take z := by
  have hz : 0 < z := by rcases Nat.eq_zero_or_pos z with h0 | h0; subst h0; simp at h; exact h0
  obtain ⟨z', rfl⟩ : ∃ z', z = z' + 1 := ⟨z - 1, by omega⟩
  unfold mvF
  rw [filter_take_hit hn h, List.take_succ_cons, Nat.add_sub_cancel]
/-- A miss: the cell comes to the front, and the last one is dropped if there is no room. -/
theorem cache_miss {x : Int} {s : List Int} {z : Nat} (h : x ∉ s.take z) : (x :: s.take z).take z = (mvF x s).take z := by
  cases z with
  | zero => simp
  | succ z =>
    unfold mvF
    rw [List.take_succ_cons, List.take_succ_cons, List.take_take, Nat.min_eq_left (by omega)]
    congr 1
    refine (filter_take (z := z) (fun hm => h ?_)).symm
    obtain ⟨i, hi⟩ := List.mem_iff_getElem?.1 hm
    have hz : i < z := by have := (List.getElem?_eq_some_iff.1 hi).1; simp at this; omega
    rw [List.getElem?_take_of_lt hz] at hi
    exact List.mem_iff_getElem?.2 ⟨i, by rw [List.getElem?_take_of_lt (by omega)]; exact hi⟩
theorem sdV_hit {x : Int} {s : List Int} {z : Nat} (hn : s.Nodup) : (decide (sdV x s < 0) || decide ((z : Int) ≤ sdV x s)) = !decide (x ∈ s.take z) := by
  unfold sdV
  by_cases h : x ∈ s
  · obtain ⟨i, hi⟩ := List.mem_iff_getElem?.1 h
    have hil := (List.getElem?_eq_some_iff.1 hi).1
    rw [atT_yes hn hi _ hil]
    have e : x ∈ s.take z ↔ i < z := by
      constructor
      · intro hm
        obtain ⟨j, hj⟩ := List.mem_iff_getElem?.1 hm
        have hjz : j < z := by have := (List.getElem?_eq_some_iff.1 hj).1; simp at this; omega
        rw [List.getElem?_take_of_lt hjz] at hj
        obtain ⟨h1, h2⟩ := List.getElem?_eq_some_iff.1 hi
        obtain ⟨h3, h4⟩ := List.getElem?_eq_some_iff.1 hj
        have := (List.getElem_inj hn).1 (h2.trans h4.symm)
        omega
      · intro hz
        exact List.mem_iff_getElem?.2 ⟨i, by rw [List.getElem?_take_of_lt hz]; exact hi⟩
    by_cases hz : i < z
    · rw [decide_eq_true (e.2 hz)]; simp; omega
    · rw [decide_eq_false (fun hm => hz (e.1 hm))]; simp; omega
  · rw [atT_no h, decide_eq_false (fun hm => h (List.mem_of_mem_take hm))]
    simp
theorem lruN_next {xs : List Int} {z k : Nat} {x : Int} (h : xs[k]? = some x) : lruN xs z (k + 1) = lruN xs z k + if x ∈ (stkF (xs.take k)).take z then 0 else 1 := by
  unfold lruN
  rw [sdP_next h, List.filter_append, List.length_append]
  have hh := sdV_hit (x := x) (z := z) (stkF_nodup (xs.take k))
  by_cases hm : x ∈ (stkF (xs.take k)).take z
  · rw [if_pos hm, List.filter_cons_of_neg (by rw [hh, decide_eq_true hm]; simp)]
    simp
  · rw [if_neg hm, List.filter_cons_of_pos (by rw [hh, decide_eq_false hm]; simp)]
    simp
theorem lruN_bd (xs : List Int) (z : Int) (k : Nat) : 0 ≤ lruN xs z k ∧ lruN xs z k ≤ k := by
  unfold lruN
  have := List.length_filter_le (fun d => decide (d < 0) || decide (z ≤ d)) (sdP xs k)
  rw [sdP_len] at this
  omega
/-- What LruMisses answers. -/
def lruB (xs : List Int) (z : Int) : Int := if xs.length ≤ 600 ∧ 0 ≤ z ∧ z ≤ 40 then lruN xs z xs.length else -1
/-- What FitSize answers. -/
def fitF (l : List Int) : Int := l.foldl (fun n d => max n (d + 1)) 0
theorem fitF_snoc (l : List Int) (d : Int) : fitF (l ++ [d]) = max (fitF l) (d + 1) := by simp [fitF, List.foldl_append]

-- a ring: from a on, the blocks of l, and then z
def upN (f : Nat → Nat) (k v : Nat) : Nat → Nat := fun x => if x = k then v else f x
theorem upN_same (f : Nat → Nat) (k v : Nat) : upN f k v k = v := by simp [upN]
theorem upN_ne {f : Nat → Nat} {k v x : Nat} (h : x ≠ k) : upN f k v x = f x := by simp [upN, h]
def Lnk (la er : Nat → Nat) : Nat → Nat → List Nat → Prop
  | a, z, [] => er a = z ∧ la z = a
  | a, z, b :: r => er a = b ∧ la b = a ∧ Lnk la er b z r
theorem Lnk.split {la er : Nat → Nat} {b z : Nat} {r : List Nat} : ∀ {a : Nat} {l : List Nat}, Lnk la er a z (l ++ b :: r) ↔ Lnk la er a b l ∧ Lnk la er b z r
  | a, [] => by simp [Lnk, and_assoc]
  | a, x :: l => by simp only [List.cons_append, Lnk, Lnk.split (l := l), and_assoc]
theorem Lnk.frame {la er la' er' : Nat → Nat} {z : Nat} : ∀ {a : Nat} {l : List Nat}, Lnk la er a z l → (∀ x ∈ a :: l, er' x = er x) → (∀ x ∈ l ++ [z], la' x = la x) → Lnk la' er' a z l
  | a, [], h, h1, h2 => ⟨(h1 a (by simp)).trans h.1, (h2 z (by simp)).trans h.2⟩
  | a, x :: l, h, h1, h2 => ⟨(h1 a (by simp)).trans h.1, (h2 x (by simp)).trans h.2.1, Lnk.frame h.2.2 (fun y hy => h1 y (List.mem_cons_of_mem _ hy)) (fun y hy => h2 y (by simp only [List.cons_append, List.mem_cons]; exact .inr hy))⟩
/-- The neighbours of b are joined. -/
theorem Lnk.unlink {la er : Nat → Nat} {e b : Nat} {l r : List Nat} (h : Lnk la er e e (l ++ b :: r)) (hn : (e :: (l ++ b :: r)).Nodup) : Lnk (upN la (er b) (la b)) (upN er (la b) (er b)) e e (l ++ r) := by
  obtain ⟨h1, h2⟩ := Lnk.split.1 h
  have hb : b ∉ l ∧ b ∉ r ∧ b ≠ e ∧ e ∉ l ∧ e ∉ r := by
    rw [List.nodup_cons, List.nodup_append, List.nodup_cons] at hn
    obtain ⟨a1, a2, ⟨a3, a4⟩, a5⟩ := hn
    simp only [List.mem_append, List.mem_cons, not_or] at a1
    exact ⟨fun hm => a5 b hm b (by simp) rfl, a3, fun e1 => a1.2.1 e1.symm, a1.1, a1.2.2⟩
  have hlr : ∀ x ∈ l, x ∉ r := by
    rw [List.nodup_cons, List.nodup_append] at hn
    exact fun x hx hr => hn.2.2.2 x hx x (List.mem_cons_of_mem _ hr) rfl
  have hnl : l.Nodup ∧ r.Nodup := by
    rw [List.nodup_cons, List.nodup_append, List.nodup_cons] at hn
    exact ⟨hn.2.1, hn.2.2.1.2⟩
  -- what stands behind b
  have hr : ∀ p, p ∉ r → p ≠ e ∨ True → Lnk (upN la (er b) p) (upN er p (er b)) p e r := by
    intro p hp _
    cases r with
    | nil =>
      have e1 : er b = e := h2.1
      exact ⟨by rw [upN_same, e1], by rw [e1, upN_same]⟩
    | cons n r =>
      obtain ⟨e1, e2, h3⟩ := h2
      have hnr := List.nodup_cons.1 hnl.2
      refine ⟨by rw [upN_same, e1], by rw [e1, upN_same], h3.frame (fun x hx => upN_ne (fun ex => hp (ex ▸ hx))) (fun x hx => ?_)⟩
      rw [e1]
      refine upN_ne (fun ex => ?_)
      subst ex
      rcases List.mem_append.1 hx with hx | hx
      · exact hnr.1 hx
      · simp at hx; exact hb.2.2.2.2 (by simp [hx])
  rcases List.eq_nil_or_concat l with rfl | ⟨l0, p, rfl⟩
  · have e1 : la b = e := h1.2
    rw [e1]
    exact hr e hb.2.2.2.2 (.inr trivial)
  · rw [List.concat_eq_append] at *
    rw [List.append_assoc, List.singleton_append]
    obtain ⟨h3, h4⟩ := Lnk.split.1 h1
    have e1 : la b = p := h4.2
    rw [e1]
    simp only [List.mem_append, List.mem_cons, List.not_mem_nil, or_false, not_or] at hb
    have hp0 : p ∉ l0 := by
      have := hnl.1
      rw [List.nodup_append] at this
      exact fun hm => this.2.2 p hm p (by simp) rfl
    have hpr : p ∉ r := hlr p (by simp)
    refine Lnk.split.2 ⟨h3.frame (fun x hx => upN_ne (fun ex => ?_)) (fun x hx => upN_ne (fun ex => ?_)), hr p hpr (.inr trivial)⟩
    · subst ex
      rcases List.mem_cons.1 hx with hx | hx
      · exact hb.2.2.2.1.2 hx.symm
      · exact hp0 hx
    · have hxl : x ∈ l0 ++ [p] := hx
      cases r with
      | nil =>
        have e2 : er b = e := h2.1
        rw [e2] at ex
        subst ex
        rcases List.mem_append.1 hxl with hx | hx
        · exact hb.2.2.2.1.1 hx
        · simp at hx; exact hb.2.2.2.1.2 hx
      | cons n r =>
        have e2 : er b = n := h2.1
        rw [e2] at ex
        subst ex
        exact hlr x hxl (by simp)
/-- A block put behind e. -/
theorem Lnk.push {la er : Nat → Nat} {e n : Nat} {l : List Nat} (h : Lnk la er e e l) (hn : n ∉ l) (hne : n ≠ e) (hl : (e :: l).Nodup) :
    Lnk (upN (upN la n e) (er e) n) (upN (upN er n (er e)) e n) e e (n :: l) := by
  obtain ⟨hel, hll⟩ := List.nodup_cons.1 hl
  have hee : er e ≠ n := by
    cases l with
    | nil => have : er e = e := h.1; rw [this]; exact fun h => hne h.symm
    | cons b r => have : er e = b := h.1; rw [this]; exact fun h => hn (by simp [h])
  refine ⟨upN_same _ _ _, by rw [upN_ne (fun ex => hee ex.symm), upN_same], ?_⟩
  cases l with
  | nil =>
    have e1 : er e = e := h.1
    exact ⟨by rw [upN_ne hne, upN_same, e1], by rw [e1, upN_same]⟩
  | cons b r =>
    obtain ⟨e1, e2, h3⟩ := h
    rw [e1]
    simp only [List.mem_cons, not_or] at hn hel
    refine ⟨by rw [upN_ne hne, upN_same], upN_same _ _ _, h3.frame (fun x hx => ?_) (fun x hx => ?_)⟩
    · have hx' : x ≠ e ∧ x ≠ n := by
        rcases List.mem_cons.1 hx with rfl | hx
        · exact ⟨fun h => hel.1 h.symm, fun h => hn.1 h.symm⟩
        · exact ⟨fun h => hel.2 (h ▸ hx), fun h => hn.2 (h ▸ hx)⟩
      rw [upN_ne hx'.1, upN_ne hx'.2]
    · have hx' : x ≠ b ∧ x ≠ n := by
        rcases List.mem_append.1 hx with hx | hx
        · exact ⟨fun h => (List.nodup_cons.1 hll).1 (h ▸ hx), fun h => hn.2 (h ▸ hx)⟩
        · simp at hx; subst hx; exact ⟨hel.1, fun h => hne h.symm⟩
      rw [upN_ne hx'.1, upN_ne hx'.2]
/-- Each block's neighbour on the way back. -/
theorem Lnk.back {la er : Nat → Nat} {z : Nat} : ∀ {a : Nat} {l : List Nat}, Lnk la er a z l → ∀ i b, l[i]? = some b → la b = (if i = 0 then a else l.getD (i - 1) 0)
  | a, [], _, i, b, hb => by simp at hb
  | a, x :: l, h, 0, b, hb => by simp at hb; subst hb; exact h.2.1
  | a, x :: l, h, i + 1, b, hb => by
    rw [List.getElem?_cons_succ] at hb
    have := Lnk.back h.2.2 i b hb
    rw [this]
    cases i with
    | zero => simp
    | succ i => simp
theorem Lnk.first {la er : Nat → Nat} {z : Nat} {a : Nat} {l : List Nat} (h : Lnk la er a z l) : er a = l.headD z := by
  cases l with
  | nil => exact h.1
  | cons b r => exact h.1
theorem Lnk.last {la er : Nat → Nat} {z : Nat} : ∀ {a : Nat} {l : List Nat}, Lnk la er a z l → la z = l.getLastD a
  | a, [], h => h.2
  | a, x :: l, h => by rw [Lnk.last h.2.2]; cases l <;> simp [List.getLastD]
end Go.Proofs.Ytggpjapmhakklaa

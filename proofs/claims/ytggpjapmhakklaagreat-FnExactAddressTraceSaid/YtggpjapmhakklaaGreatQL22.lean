/- The texts G4 V1 V3 R12, joined. No statement is proved here. -/
import Derived.Test.YtggpjapmhakklaaGreatQL27
import Derived.Test.YtggpjapmhakklaaGreatQL05
import Derived.Test.YtggpjapmhakklaaGreatQL29
import Derived.Test.YtggpjapmhakklaaGreatQL09
import Derived.Test.YtggpjapmhakklaaGreatQL41
import Derived.Test.YtggpjapmhakklaaGreatQL35
set_option maxRecDepth 100000
set_option maxHeartbeats 8000000
set_option linter.unusedVariables false
set_option linter.unusedSimpArgs false
namespace Go.Proofs.YtggpjapmhakklaaGreat
open Go.RowKit
abbrev Acc := ByteArray × List Aff
def arrOkB (a : Arr) : Bool := arrB a.1 && (decide (1 ≤ a.2.length ∧ a.2.length ≤ 2) && a.2.all (fun d => decide (1 ≤ d ∧ d ≤ 6)))
def nmN (a : ByteArray) : Nat := match a.data.toList with
 | b :: _ => b.toNat
 | [] => 0
def ascB : List Nat → Bool
 | x :: y :: l => decide (x < y) && ascB (y :: l)
 | _ => true
def arrsB (ars : List Arr) : Bool := ars.all arrOkB && ascB (ars.map (fun a => nmN a.1))
def dimsN (ds : List Int) : Int := ds.foldl (· * ·) 1
def totN (ars : List Arr) : Int := (ars.map (fun a => dimsN a.2)).sum
def offD : List Int → List Int → Int → Option Int
 | [], [], n => some n
 | d :: ds, v :: vs, n => if 0 ≤ v ∧ v < d then offD ds vs (n * d + v) else none
 | _, _, _ => none
def cellI (ar : ByteArray) (subs : List Aff) (pt : List Int) : Int → List Arr → Int
 | _, [] => -1
 | base, a :: r => if a.1 = ar then (match offD a.2 (subs.map (evalA pt)) 0 with
   | some n => base + n
   | none => -1) else cellI ar subs pt (base + dimsN a.2) r
def readsE : Nat → Ex → List Acc
 | 0, _ => []
 | L + 1, e => (if e.kind = 3 then [(e.arr, e.subs)] else []) ++ e.kids.flatMap (readsE L)
def readCells (ars : List Arr) (s : St) (pt : List Int) : List Int := (readsE 5 s.2.2).map (fun a => cellI a.1 a.2 pt 0 ars)
def writeCell (ars : List Arr) (s : St) (pt : List Int) : Int := cellI s.1 s.2.1 pt 0 ars
def cellsOk (ars : List Arr) (s : St) (pt : List Int) : Bool := (readCells ars s pt).all (fun c => decide (0 ≤ c)) && decide (0 ≤ writeCell ars s pt)
def stOkB (ars : List Arr) (p : Pt) (s : St) : Bool := validB s.1 s.2.1 s.2.2 p.1.length && (nptsL p.1).all (fun pt => cellsOk ars s pt && ptB pt)
def partB (ars : List Arr) (p : Pt) : Bool := nptsB p.1 && (decide (1 ≤ p.2.length ∧ p.2.length ≤ 4) && p.2.all (stOkB ars p))
def partN (p : Pt) : Nat := (nptsL p.1).length * p.2.length
def instN (ps : List Pt) : Nat := (ps.map partN).sum
def progB (ars : List Arr) (ps : List Pt) : Bool := arrsB ars && (decide (ps.length ≤ 4) && (ps.all (partB ars) && decide (instN ps ≤ 120)))
theorem ascB_snoc : ∀ (l : List Nat) (x : Nat), ascB (l ++ [x]) = (ascB l && (match l.getLast? with | some y => decide (y < x) | none => true))
 | [], x => rfl
 | [y], x => by simp [ascB]
 | y :: z :: l, x => by
  have h := ascB_snoc (z :: l) x
  simp only [List.cons_append] at h ⊢
  simp only [ascB]
  rw [h]
  simp only [List.getLast?_cons_cons, Bool.and_assoc]
theorem ascB_tail {x : Nat} {l : List Nat} (h : ascB (x :: l) = true) : ascB l = true := by
 cases l with
 | nil => rfl
 | cons y l => simp only [ascB, Bool.and_eq_true] at h; exact h.2
theorem ascB_lt : ∀ {l : List Nat} {x y : Nat}, ascB (x :: l) = true → y ∈ l → x < y
 | z :: l, x, y, h, hy => by
  simp only [ascB, Bool.and_eq_true, decide_eq_true_eq] at h
  rcases List.mem_cons.1 hy with rfl | hy
  ·exact h.1
  ·exact Nat.lt_trans h.1 (ascB_lt h.2 hy)
theorem ascB_adj : ∀ {l : List Nat} {j : Nat} {a b : Nat}, ascB l = true → l[j]? = some a → l[j + 1]? = some b → a < b
 | x :: y :: l, 0, a, b, h, h1, h2 => by
  simp only [ascB, Bool.and_eq_true, decide_eq_true_eq] at h
  simp at h1 h2
  omega
 | x :: l, j + 1, a, b, h, h1, h2 => ascB_adj (l := l) (j := j) (ascB_tail h) (by simpa using h1) (by simpa using h2)
 | [], _, _, _, _, h1, _ => by simp at h1
 | [x], 0, _, _, _, _, h2 => by simp at h2
theorem ascB_len : ∀ {l : List Nat} (a b : Nat), ascB l = true → (∀ x ∈ l, a ≤ x ∧ x < b) → l.length ≤ b - a
 | [], a, b, _, _ => by simp
 | x :: l, a, b, h, hx => by
  have h1 := hx x (by simp)
  have := ascB_len (l := l) (x + 1) b (ascB_tail h) (fun y hy => ⟨ascB_lt h hy, (hx y (by simp [hy])).2⟩)
  simp only [List.length_cons]
  omega
theorem mul36 {d e : Int} (h1 : 1 ≤ d) (h2 : d ≤ 6) (h3 : 1 ≤ e) (h4 : e ≤ 6) : 1 ≤ d * e ∧ d * e ≤ 36 := by
 have a := Int.mul_nonneg (a := d - 1) (b := e) (by omega) (by omega)
 have b := Int.mul_nonneg (a := 6 - d) (b := e) (by omega) (by omega)
 simp only [Int.sub_mul] at a b
 omega
theorem dims_cases {ds : List Int} (hl : 1 ≤ ds.length ∧ ds.length ≤ 2) (h : ∀ d ∈ ds, 1 ≤ d ∧ d ≤ 6) : (∃ d, ds = [d] ∧ 1 ≤ d ∧ d ≤ 6) ∨ ∃ d e, ds = [d, e] ∧ (1 ≤ d ∧ d ≤ 6) ∧ (1 ≤ e ∧ e ≤ 6) := by
 match ds, hl, h with
 | [d], _, h => exact .inl ⟨d, rfl, h d (by simp)⟩
 | [d, e], _, h => exact .inr ⟨d, e, rfl, h d (by simp), h e (by simp)⟩
theorem dimsN_bd {ds : List Int} (hl : 1 ≤ ds.length ∧ ds.length ≤ 2) (h : ∀ d ∈ ds, 1 ≤ d ∧ d ≤ 6) : 1 ≤ dimsN ds ∧ dimsN ds ≤ 36 := by
 rcases dims_cases hl h with ⟨d, rfl, h1⟩ | ⟨d, e, rfl, h1, h2⟩
 ·simp [dimsN]; omega
 ·have := mul36 h1.1 h1.2 h2.1 h2.2
  simpa [dimsN] using this
theorem offD_len : ∀ {ds vs : List Int} {n r : Int}, offD ds vs n = some r → ds.length = vs.length
 | [], [], n, r, _ => rfl
 | d :: ds, v :: vs, n, r, h => by
  simp only [offD] at h
  split at h
  ·have := offD_len h; simp [this]
  ·cases h
 | [], _ :: _, n, r, h => by simp [offD] at h
 | _ :: _, [], n, r, h => by simp [offD] at h
theorem offD_bd {ds vs : List Int} {r : Int} (hl : 1 ≤ ds.length ∧ ds.length ≤ 2) (h : ∀ d ∈ ds, 1 ≤ d ∧ d ≤ 6) (ho : offD ds vs 0 = some r) : 0 ≤ r ∧ r < dimsN ds := by
 have hlen := offD_len ho
 rcases dims_cases hl h with ⟨d, rfl, h1⟩ | ⟨d, e, rfl, h1, h2⟩
 ·match vs, hlen with
  | [v], _ =>
   simp only [offD] at ho
   split at ho
   ·simp at ho; subst ho; simp [dimsN]; omega
   ·cases ho
 ·match vs, hlen with
  | [v, u], _ =>
   simp only [offD] at ho
   split at ho
   ·split at ho
    ·rename_i a b
     simp at ho; subst ho
     have c := Int.mul_nonneg (a := v) (b := e) (by omega) (by omega)
     have k := Int.mul_nonneg (a := d - 1 - v) (b := e) (by omega) (by omega)
     simp only [Int.sub_mul, Int.one_mul] at k
     simp [dimsN]; omega
    ·cases ho
   ·cases ho
theorem nm_byte (b : UInt8) : arrB ⟨#[b]⟩ = decide (65 ≤ b.toNat ∧ b.toNat ≤ 68) := by
 have h : ∀ n : Fin 256, arrB ⟨#[UInt8.ofNat n.val]⟩ = decide (65 ≤ (UInt8.ofNat n.val).toNat ∧ (UInt8.ofNat n.val).toNat ≤ 68) := by decide +kernel
 have := h ⟨b.toNat, b.toNat_lt⟩
 simpa using this
theorem arr_byte {a : ByteArray} (h : arrB a = true) : ∃ b : UInt8, a = ⟨#[b]⟩ ∧ 65 ≤ b.toNat ∧ b.toNat ≤ 68 := by
 by_cases hs : a.size = 1
 ·obtain ⟨b, rfl⟩ := one_byte hs
  rw [nm_byte] at h
  exact ⟨b, rfl, by simpa using h⟩
 ·rw [arrB_no hs] at h; cases h
theorem nm_arr {a : ByteArray} (h : arrB a = true) : 65 ≤ nmN a ∧ nmN a ≤ 68 := by
 obtain ⟨b, rfl, h1⟩ := arr_byte h
 exact h1
theorem arrOk_parts {a : Arr} (h : arrOkB a = true) : arrB a.1 = true ∧ (1 ≤ a.2.length ∧ a.2.length ≤ 2) ∧ ∀ d ∈ a.2, 1 ≤ d ∧ d ≤ 6 := by
 simpa [arrOkB, Bool.and_eq_true, List.all_eq_true] using h
theorem totN_bd : ∀ {ars : List Arr}, (∀ a ∈ ars, arrOkB a = true) → 0 ≤ totN ars ∧ totN ars ≤ 36 * ars.length
 | [], _ => by simp [totN]
 | a :: r, h => by
  obtain ⟨-, h2, h3⟩ := arrOk_parts (h a (by simp))
  have h4 := dimsN_bd h2 h3
  have h5 := totN_bd (ars := r) (fun x hx => h x (by simp [hx]))
  simp only [totN, List.map_cons, List.sum_cons, List.length_cons] at h5 ⊢
  omega
theorem cellI_bd (ar : ByteArray) (subs : List Aff) (pt : List Int) : ∀ {ars : List Arr} {base : Int}, (∀ a ∈ ars, arrOkB a = true) → cellI ar subs pt base ars = -1 ∨ (base ≤ cellI ar subs pt base ars ∧ cellI ar subs pt base ars < base + totN ars)
 | [], base, _ => .inl rfl
 | a :: r, base, h => by
  obtain ⟨-, h2, h3⟩ := arrOk_parts (h a (by simp))
  have h4 := dimsN_bd h2 h3
  have h5 := totN_bd (ars := r) (fun x hx => h x (by simp [hx]))
  have h6 := cellI_bd ar subs pt (ars := r) (base := base + dimsN a.2) (fun x hx => h x (by simp [hx]))
  have e : totN (a :: r) = dimsN a.2 + totN r := by simp [totN]
  unfold cellI
  split
  ·split
   ·rename_i n hn
    have := offD_bd h2 h3 hn
    right; omega
   ·exact .inl rfl
  ·omega
def placeOf (ar : ByteArray) : Int → List Arr → Option (Int × List Int)
 | _, [] => none
 | base, a :: r => if a.1 = ar then some (base, a.2) else placeOf ar (base + dimsN a.2) r
theorem cellI_place (ar : ByteArray) (subs : List Aff) (pt : List Int) : ∀ (ars : List Arr) (base : Int), cellI ar subs pt base ars = match placeOf ar base ars with
   | none => -1
   | some (f, ds) => match offD ds (subs.map (evalA pt)) 0 with
    | some n => f + n
    | none => -1
 | [], _ => rfl
 | a :: r, base => by
  unfold cellI placeOf
  split
  ·rfl
  ·exact cellI_place ar subs pt r _
theorem arrs_len {ars : List Arr} (h : arrsB ars = true) : ars.length ≤ 4 := by
 simp only [arrsB, Bool.and_eq_true, List.all_eq_true] at h
 have := ascB_len (l := ars.map (fun a => nmN a.1)) 65 69 h.2 (fun x hx => by
  obtain ⟨a, ha, rfl⟩ := List.mem_map.1 hx
  have h1 := (arrOk_parts (h.1 a ha)).1
  have h2 := nm_arr h1
  exact ⟨h2.1, by omega⟩)
 simpa using this
def arrsTo (ars : List Arr) (k : Nat) : Prop := (∀ a ∈ ars.take k, arrOkB a = true) ∧ ascB ((ars.take k).map (fun a => nmN a.1)) = true
theorem arrsTo_next {ars : List Arr} {k : Nat} {x : Arr} (h : arrsTo ars k) (hx : ars[k]? = some x) (ho : arrOkB x = true) (hl : ∀ j y, k = j + 1 → ars[j]? = some y → nmN y.1 < nmN x.1) : arrsTo ars (k + 1) := by
 refine ⟨mem_take_next hx h.1 ho, ?_⟩
 rw [take_next hx, List.map_append, List.map_cons, List.map_nil, ascB_snoc, h.2, Bool.true_and]
 cases k with
 | zero => simp
 | succ j =>
  obtain ⟨y, hy⟩ := get_some (xs := ars) (k := j) (by have := (List.getElem?_eq_some_iff.1 hx).1; omega)
  rw [take_next hy, List.map_append, List.map_cons, List.map_nil, List.getLast?_append]
  simpa using hl j y rfl hy
theorem arrsTo_all {ars : List Arr} (h : arrsTo ars ars.length) : arrsB ars = true := by
 have h1 := h.1; have h2 := h.2
 rw [List.take_length] at h1 h2
 simp only [arrsB, Bool.and_eq_true, List.all_eq_true]
 exact ⟨h1, h2⟩
theorem arrsB_no {ars : List Arr} {k : Nat} {x : Arr} (hx : ars[k]? = some x) (h : arrOkB x = false) : arrsB ars = false := by
 unfold arrsB
 rw [all_false_of (p := arrOkB) hx h]; rfl
theorem arrsB_no2 {ars : List Arr} {j : Nat} {x y : Arr} (hy : ars[j]? = some y) (hx : ars[j + 1]? = some x) (h : ¬ nmN y.1 < nmN x.1) : arrsB ars = false := by
 cases hq : arrsB ars with
 | false => rfl
 | true =>
  simp only [arrsB, Bool.and_eq_true] at hq
  exact absurd (ascB_adj (j := j) hq.2 (by rw [List.getElem?_map, hy]; rfl) (by rw [List.getElem?_map, hx]; rfl)) h
end Go.Proofs.YtggpjapmhakklaaGreat
namespace Go.Proofs.YtggpjapmhakklaaGreat
open Go.RowKit
def StableB (base : Nat) {α : Type} (I : List α → List Nat → World → Prop) : Prop := ∀ s own W W', I s own W → Lv (fun k => k ∉ own ∧ base ≤ k) W W' → I s own W'
def SeqB (base : Nat) {α : Type} (F : Fence) (n m : Nat) (P : Program) (g : Nat) (lb : Array Value) (enc : α → Array Value) (Rx : α → World → Prop) (Rz : World → Prop) (D Z : Nat → Prop) (xs : List α) (w : World) : Prop :=
 ∀ (l : Nat) (J Jx : List α → List Nat → World → Prop) (own : List Nat) (W : World), Lv (fun _ => False) w W → StableB base J → StableB base Jx → (∀ b ∈ own, b < W.heap.size ∧ ¬ Z b) →
  (∀ pre x own1 V, J pre own1 V → (pre ++ [x]) <+: xs → Rx x V → (∀ b ∈ own1, b < V.heap.size ∧ ¬ Z b) → YieldAt F m P l (enc x) V fun e V' => ∃ own', Grew own1 own' V V' ∧
   ((e = .returned (.bool true) ∧ J (pre ++ [x]) own' V') ∨ (e = .returned (.bool false) ∧ Jx (pre ++ [x]) own' V'))) →
  J [] own W →
  CallsIn F n P g (#[.func (.yield l) #[] #[]] ++ lb) W fun e W' => (∃ v, e = .returned v) ∧ ∃ own', (∀ b ∈ own', (b ∈ own ∨ W.heap.size ≤ b) ∧ b < W'.heap.size) ∧ Lv (fun k => k ∈ own ∨ D k) W W' ∧ Rz W' ∧ (J xs own' W' ∨ ∃ q, q <+: xs ∧ Jx q own' W')
theorem wpIn_rangeFunc_base {F : Fence} {n : Nat} {P : Program} {α : Type} {g : Operand} {ps : Array Tmp} {assign body : Code} {Q : Exit → Act → World → Prop} {a : Act} {w : World}
  (hro : F.round = none) (h1 : F.depth.isSome = true → 1 ≤ n) {gf : Nat} {lb : Array Value} (hg : a.eval g = .func (.func gf) #[] lb) (hFg : F.fn gf) (eg : ∀ args w, (callFunc gf args).run P w = .ok (.enter gf args) w)
  {enc : α → Array Value} {Rx : α → World → Prop} {Rz : World → Prop} {D Z : Nat → Prop} {xs : List α} (base : Nat) (hbw : base ≤ w.heap.size) (hseq : SeqB base F (n - 1) (n - 1 - 1) P gf lb enc Rx Rz D Z xs w)
  (hZ : ∀ b, Z b → b < w.heap.size) (hDZ : ∀ b, D b → Z b) (hRx : ∀ x W W', Rx x W → Lv (fun k => ¬ D k) W W' → Rx x W') (hRz : ∀ W W', Rz W → Lv (fun k => ¬ D k) W W' → Rz W') (hps : ∀ x, (enc x).size = ps.size)
  (I : List α → List Nat → World → Prop) (Ix : Code → List α → List Nat → World → Prop) (hI : StableB base I) (hIx : ∀ c, StableB base (Ix c)) (own0 : List Nat) (hown : ∀ b ∈ own0, b < w.heap.size ∧ ¬ Z b) (h0 : I [] own0 w) (a₁ : α → Act)
  (hassign : ∀ (l : Nat) (x : α) (W : World) (K : Act → World → Prop), K (a₁ x) W →
   assign.wpIn (F.inRound l) (n - 1 - 1) P (Exit.then K (fun _ _ _ => False)) { tmps := (ps.zip (enc x)).foldl (fun t (p, v) => t.setIfInBounds p v) a.tmps, defers := [] } W)
  (hbody : ∀ (l : Nat) (pre : List α) (x : α) (own1 : List Nat) (W : World), I pre own1 W → (pre ++ [x]) <+: xs → Rx x W → (∀ b ∈ own1, b < W.heap.size ∧ ¬ Z b) → body.wpIn (F.inRound l) (n - 1 - 1) P (sepPost own1 I Ix (pre ++ [x]) W) (a₁ x) W)
  (hdone : ∀ (E : Nat) (own' : List Nat) (W : World), w.heap.size ≤ E → E ∉ own' → I xs own' W → (∀ b ∈ own', (b ∈ own0 ∨ w.heap.size ≤ b) ∧ b < W.heap.size) → Lv (fun k => k ∈ own0 ∨ D k) w W → Rz W → W.heap[E]? = some (.deferred (some [])) → Q .normal { a with defers := { target := .collected E, args := #[] } :: a.defers } W)
  (hstop : ∀ (E : Nat) (c : Code) (q : List α) (own' : List Nat) (W : World), w.heap.size ≤ E → E ∉ own' → q <+: xs → Ix c q own' W → (∀ b ∈ own', (b ∈ own0 ∨ w.heap.size ≤ b) ∧ b < W.heap.size) → Lv (fun k => k ∈ own0 ∨ D k) w W → Rz W → W.heap[E]? = some (.deferred (some [])) → c.wpIn F n P Q { a with defers := { target := .collected E, args := #[] } :: a.defers } W) :
  (Code.rangeFunc g ps assign body).wpIn F n P Q a w := by
 refine wpIn_rangeFunc ?_
 intro fn hfn
 rw [hro]
 obtain ⟨rec, hrec⟩ : ∃ rec : LoopState → Option Code → Loop, rec = fun st pe => { state := st, pending := pe, fn, tmps := a.tmps, params := ps, assign, body, defers := w.heap.size } := ⟨_, rfl⟩
 obtain ⟨W1, hW1⟩ : ∃ W1, (w.alloc (.deferred (some []))).alloc (.loop (rec .ready none)) = W1 := ⟨_, rfl⟩
 have hL1 : W1.heap[w.heap.size + 1]? = some (.loop (rec .ready none)) := by
  rw [← hW1]; have := World.alloc_heap_new (w.alloc (.deferred (some []))) (.loop (rec .ready none)); rwa [World.size_alloc] at this
 have hK1 : W1.heap[w.heap.size]? = some (.deferred (some [])) := by
  rw [← hW1]; exact (Below.heap_alloc _ _ _ (by simp)).trans (World.alloc_heap_new w _)
 have hs1 : W1.heap.size = w.heap.size + 2 := by rw [← hW1]; simp
 have hv1 : Lv (fun _ => False) w W1 := by
  rw [← hW1]; exact (Lv.alloc _ w _).trans (Lv.alloc (fun _ => False) _ _) (fun _ _ h => h) (fun _ _ h => h)
 have hI1 : I [] own0 W1 := hI _ _ _ _ h0 (hv1.mono (fun _ _ h => h.elim))
 refine ⟨w.heap.size + 1, [{ target := .collected w.heap.size, args := #[] }], W1, { target := .fn (.func gf) lb, args := #[.func (.yield (w.heap.size + 1)) #[] #[]] }, W1, gf,
  #[.func (.yield (w.heap.size + 1)) #[] #[]] ++ lb, W1, ?_, ?_, ?_, ?_, h1, ?_⟩
 ·rw [← hW1, hrec]; exact run_enterLoop_outer _ _ _ _ _
 ·simp only [resolve, hg]
  simp [go_sem]
 ·intro f' hf'; simp [Target.leads] at hf'; subst hf'; exact hFg
 ·simp [invoke, go_sem, eg]
 ·obtain ⟨A, hA⟩ : ∃ A, w.heap.size = A := ⟨_, rfl⟩
  rw [hA] at hL1 hK1 hs1
  rw [hA]
  have hZA : ∀ b, Z b → b < A := fun b hb => hA ▸ hZ b hb
  have hbA : ∀ b, b = A + 1 → base ≤ b := fun b e => by rw [hA] at hbw; omega
  have hDA : ∀ b, D b → b < A := fun b hb => hZA b (hDZ b hb)
  refine (hseq (A + 1)
   (fun pre own W => ∃ own1, own = A :: (A + 1) :: own1 ∧ (∀ b ∈ own1, b ≠ A ∧ b ≠ A + 1) ∧ I pre own1 W ∧ W.heap[A + 1]? = some (.loop (rec .ready none)) ∧ W.heap[A]? = some (.deferred (some [])))
   (fun pre own W => ∃ own1 c, own = A :: (A + 1) :: own1 ∧ (∀ b ∈ own1, b ≠ A ∧ b ≠ A + 1) ∧ Ix c pre own1 W ∧ W.heap[A + 1]? = some (.loop (rec .done (some c))) ∧ W.heap[A]? = some (.deferred (some [])))
   (A :: (A + 1) :: own0) W1 hv1 ?_ ?_ ?_ ?_ ⟨own0, rfl, fun b hb => by have := (hown b hb).1; omega, hI1, hL1, hK1⟩).mono ?_
  ·rintro s own W W' ⟨own1, rfl, hne, hi, hl, hk⟩ hv
   exact ⟨own1, rfl, hne, hI _ _ _ _ hi (hv.mono (fun b _ h1 => ⟨fun h2 => h1.1 (by simp [h2]), h1.2⟩)), hv.heap hl (by simp), hv.heap hk (by simp)⟩
  ·rintro s own W W' ⟨own1, c, rfl, hne, hi, hl, hk⟩ hv
   exact ⟨own1, c, rfl, hne, hIx c _ _ _ _ hi (hv.mono (fun b _ h1 => ⟨fun h2 => h1.1 (by simp [h2]), h1.2⟩)), hv.heap hl (by simp), hv.heap hk (by simp)⟩
  ·intro b hb
   simp only [List.mem_cons] at hb
   rcases hb with rfl | rfl | hb
   ·exact ⟨by omega, fun h => by have := hZA _ h; omega⟩
   ·exact ⟨by omega, fun h => by have := hZA _ h; omega⟩
   ·exact ⟨by have := (hown b hb).1; omega, (hown b hb).2⟩
  ·-- ONE ROUND
   rintro pre x own W ⟨own1, rfl, hne, hi, hl, hk⟩ hpx hrx hob
   have hlt : A + 1 < W.heap.size := (Array.getElem?_eq_some_iff.1 hl).1
   have hy := run_yield (P := P) (args := enc x) hl (by rw [hrec]; exact hps x)
   rw [hrec] at hy
   refine ⟨fn, _, assign, body, hy, roundIn_of_wpIn hfn (hassign _ x W _ ⟨_, run_beginRound hl (by rw [hrec]), ?_⟩)⟩
   obtain ⟨V, hV⟩ : ∃ V, W.putObj (A + 1) (.loop { rec .ready none with state := .busy }) = V := ⟨_, rfl⟩
   have hl2 : V.heap[A + 1]? = some (.loop { rec .ready none with state := .busy }) := by rw [← hV]; exact World.putObj_heap_same hlt
   have hk2 : V.heap[A]? = some (.deferred (some [])) := by rw [← hV]; exact (World.putObj_heap_other (by omega)).trans hk
   have hvV : Lv (fun k => k = A + 1) W V := by rw [← hV]; exact Lv.putObj W _ _ rfl
   have hsV : V.heap.size = W.heap.size := by rw [← hV]; simp
   have hi2 : I pre own1 V := hI _ _ _ _ hi (hvV.mono (fun b _ e => ⟨fun hb => (hne b hb).2 e, hbA b e⟩))
   have hr2 : Rx x V := hRx _ _ _ hrx (hvV.mono (fun b _ e hb => by have := hDA _ hb; omega))
   rw [hV]
   refine wpIn_mono (hbody _ pre x own1 V hi2 hpx hr2 (fun b hb => by rw [hsV]; exact hob b (by simp [hb]))) ?_
   have fin : ∀ (jump : Option Code) (own' : List Nat) (W3 : World), Grew own1 own' V W3 →
     ∃ W4, (Instr.endRound (A + 1) jump).run P W3 = .ok (.bool jump.isNone) W4 ∧ Lv (fun k => k = A + 1) W3 W4 ∧
     W4.heap[A + 1]? = some (.loop (rec (if jump.isNone then .ready else .done) jump)) ∧ W4.heap[A]? = some (.deferred (some [])) ∧ (∀ b ∈ own', b ≠ A ∧ b ≠ A + 1) ∧ Grew (A :: (A + 1) :: own1) (A :: (A + 1) :: own') W W4 := fun jump own' W3 hg3 => by
    have hl3 := hg3.1.heap hl2 (fun hb => (hne _ hb).2 rfl)
    have hk3 := hg3.1.heap hk2 (fun hb => (hne _ hb).1 rfl)
    have hs3 := hg3.1.size
    have hv4 : Lv (fun k => k = A + 1) W3 (W3.putObj (A + 1) (.loop (rec (if jump.isNone then .ready else .done) jump))) := Lv.putObj W3 _ _ rfl
    have hs4 : (W3.putObj (A + 1) (.loop (rec (if jump.isNone then .ready else .done) jump))).heap.size = W3.heap.size := by simp
    have := run_endRound (P := P) jump hl3
    rw [hrec] at this ⊢
    rw [hrec] at hv4 hs4
    refine ⟨_, this, hv4, World.putObj_heap_same (by omega), (World.putObj_heap_other (by omega)).trans hk3, fun b hb => ?_, ?_, fun b hb => ?_⟩
    ·rcases (hg3.2 b hb).1 with h | h
     ·exact hne b h
     ·omega
    ·exact ((hvV.trans hg3.1 (E := fun k => k ∈ A :: (A + 1) :: own1) (fun b _ e => by simp [e]) (fun b _ e => by simp [e])).trans hv4 (fun b _ e => e) (fun b _ e => by simp [e]))
    ·rw [hs4]
     simp only [List.mem_cons] at hb ⊢
     rcases hb with rfl | rfl | hb
     ·exact ⟨.inl (.inl rfl), by omega⟩
     ·exact ⟨.inl (.inr (.inl rfl)), by omega⟩
     ·obtain ⟨h1, h2⟩ := hg3.2 b hb
      refine ⟨?_, h2⟩
      rcases h1 with h | h
      ·exact .inl (.inr (.inr h))
      ·exact .inr (by omega)
   rintro e a3 W3 hp
   cases e with
   | normal =>
    obtain ⟨own', hg3, hi3⟩ := hp
    obtain ⟨W4, hr, hv4, hl4, hk4, hne4, hg4⟩ := fin none own' W3 hg3
    exact ⟨_, _, hr, _, hg4, .inl ⟨rfl, own', rfl, hne4, hI _ _ _ _ hi3 (hv4.mono (fun b _ e => ⟨fun hb => (hne4 b hb).2 e, hbA b e⟩)), hl4, hk4⟩⟩
   | ret =>
    obtain ⟨own', hg3, hi3⟩ := hp
    obtain ⟨W4, hr, hv4, hl4, hk4, hne4, hg4⟩ := fin (some .ret) own' W3 hg3
    exact ⟨_, _, hr, _, hg4, .inr ⟨rfl, own', .ret, rfl, hne4, hIx _ _ _ _ _ hi3 (hv4.mono (fun b _ e => ⟨fun hb => (hne4 b hb).2 e, hbA b e⟩)), hl4, hk4⟩⟩
   | exit id =>
    obtain ⟨own', hg3, hi3⟩ := hp
    obtain ⟨W4, hr, hv4, hl4, hk4, hne4, hg4⟩ := fin (some (.exit id)) own' W3 hg3
    exact ⟨_, _, hr, _, hg4, .inr ⟨rfl, own', .exit id, rfl, hne4, hIx _ _ _ _ _ hi3 (hv4.mono (fun b _ e => ⟨fun hb => (hne4 b hb).2 e, hbA b e⟩)), hl4, hk4⟩⟩
   | goto t =>
    obtain ⟨own', hg3, hi3⟩ := hp
    obtain ⟨W4, hr, hv4, hl4, hk4, hne4, hg4⟩ := fin (some (.goto t)) own' W3 hg3
    exact ⟨_, _, hr, _, hg4, .inr ⟨rfl, own', .goto t, rfl, hne4, hIx _ _ _ _ _ hi3 (hv4.mono (fun b _ e => ⟨fun hb => (hne4 b hb).2 e, hbA b e⟩)), hl4, hk4⟩⟩
   | panic ch => exact hp.elim
   | outgrown => exact hp.elim
  ·-- BEHIND THE ITERATOR
   have fin2 : ∀ (own' own1 : List Nat) (W2 : World) (o : Obj), own' = A :: (A + 1) :: own1 → (∀ b ∈ own1, b ≠ A ∧ b ≠ A + 1) → (∀ b ∈ own', (b ∈ A :: (A + 1) :: own0 ∨ W1.heap.size ≤ b) ∧ b < W2.heap.size) → Lv (fun k => k ∈ A :: (A + 1) :: own0 ∨ D k) W1 W2 →
     (∀ b ∈ own1, (b ∈ own0 ∨ A ≤ b) ∧ b < (W2.putObj (A + 1) o).heap.size) ∧ Lv (fun k => k ∈ own0 ∨ D k) w (W2.putObj (A + 1) o) := fun own' own1 W2 o e hne ho hv => by
    subst e
    refine ⟨fun b hb => ?_, ?_⟩
    ·obtain ⟨h1, h2⟩ := ho b (by simp [hb])
     refine ⟨?_, by simpa using h2⟩
     rcases h1 with h | h
     ·simp only [List.mem_cons] at h
      rcases h with h | h | h
      ·exact absurd h (hne b hb).1
      ·exact absurd h (hne b hb).2
      ·exact .inl h
     ·exact .inr (by omega)
    ·refine (hv1.trans hv (E := fun k => k ∈ own0 ∨ D k) (fun b _ h => h.elim) (fun b hb h => ?_)).trans (Lv.putObj (D := fun k => k = A + 1) W2 (A + 1) o rfl) (fun b _ h => h) (fun b hb h => by omega)
     rcases h with h | h
     ·simp only [List.mem_cons] at h
      rcases h with h | h | h
      ·omega
      ·omega
      ·exact .inl h
     ·exact .inr h
   rintro e W2 ⟨⟨v, rfl⟩, own', ho, hv, hz, (⟨own1, e1, hne, hi, hl, hk⟩ | ⟨q, hq, own1, c, e1, hne, hi, hl, hk⟩)⟩
   ·refine ⟨none, _, by have := run_endLoop (P := P) hl (by rw [hrec]; simp); rw [hrec] at this; exact this, ?_⟩
    exact hdone A own1 _ (by omega) (fun hb => (hne _ hb).1 rfl) (hI _ _ _ _ hi ((Lv.putObj (D := fun k => k = A + 1) W2 _ _ rfl).mono (fun b _ e => ⟨fun hb => (hne b hb).2 e, hbA b e⟩))) (by rw [hA]; exact (fin2 own' own1 W2 _ e1 hne ho hv).1) (fin2 own' own1 W2 _ e1 hne ho hv).2 (hRz _ _ hz ((Lv.putObj (D := fun k => k = A + 1) W2 _ _ rfl).mono (fun b _ e hb => by have := hDA b hb; omega))) ((World.putObj_heap_other (by omega)).trans hk)
   ·refine ⟨some c, _, by have := run_endLoop (P := P) hl (by rw [hrec]; simp); rw [hrec] at this; exact this, ?_⟩
    exact hstop A c q own1 _ (by omega) (fun hb => (hne _ hb).1 rfl) hq (hIx c _ _ _ _ hi ((Lv.putObj (D := fun k => k = A + 1) W2 _ _ rfl).mono (fun b _ e => ⟨fun hb => (hne b hb).2 e, hbA b e⟩))) (by rw [hA]; exact (fin2 own' own1 W2 _ e1 hne ho hv).1) (fin2 own' own1 W2 _ e1 hne ho hv).2 (hRz _ _ hz ((Lv.putObj (D := fun k => k = A + 1) W2 _ _ rfl).mono (fun b _ e hb => by have := hDA b hb; omega))) ((World.putObj_heap_other (by omega)).trans hk)
end Go.Proofs.YtggpjapmhakklaaGreat
namespace Go.Proofs.YtggpjapmhakklaaGreat
open Go.RowKit
theorem Grew.refl (own : List Nat) (W : World) (h : ∀ b ∈ own, b < W.heap.size) : Grew own own W W := ⟨Lv.refl _ W, fun b hb => ⟨.inl hb, h b hb⟩⟩
theorem Grew.trans {o1 o2 o3 : List Nat} {A B C : World} (h : Grew o1 o2 A B) (k : Grew o2 o3 B C) : Grew o1 o3 A C := by
 refine ⟨h.1.trans k.1 (fun _ _ e => e) (fun b hb e => ?_), fun b hb => ?_⟩
 ·rcases (h.2 b e).1 with h' | h'
  ·exact h'
  ·omega
 ·obtain ⟨h1, h2⟩ := k.2 b hb
  refine ⟨?_, h2⟩
  rcases h1 with h1 | h1
  ·exact (h.2 b h1).1
  ·have := h.1.size; exact .inr (by omega)
theorem Grew.alloc (own : List Nat) (W : World) (o : Obj) (h : ∀ b ∈ own, b < W.heap.size) : Grew own own W (W.alloc o) := ⟨Lv.alloc _ W o, fun b hb => ⟨.inl hb, by have := h b hb; simp; omega⟩⟩
theorem Grew.same {own : List Nat} {W W' : World} (h : Lv (fun k => k ∈ own) W W') (hb : ∀ b ∈ own, b < W.heap.size) : Grew own own W W' := ⟨h, fun b k => ⟨.inl k, by have := hb b k; have := h.size; omega⟩⟩
theorem Grew.pre {own own' : List Nat} {A B C : World} (h : Lv (fun _ => False) A B) (k : Grew own own' B C) : Grew own own' A C :=
 ⟨h.trans k.1 (fun _ _ h => h.elim) (fun _ _ h => h), fun b hb => by
  obtain ⟨h1, h2⟩ := k.2 b hb
  have := h.size
  exact ⟨h1.imp id (fun h => by omega), h2⟩⟩
theorem wpIn_rangeFunc_baseA {F : Fence} {n : Nat} {P : Program} {α : Type} {g : Operand} {ps : Array Tmp} {assign body : Code} {Q : Exit → Act → World → Prop} {a : Act} {w : World}
  (hro : F.round = none) (h1 : F.depth.isSome = true → 1 ≤ n) {gf : Nat} {lb : Array Value} (hg : a.eval g = .func (.func gf) #[] lb) (hFg : F.fn gf) (eg : ∀ args w, (callFunc gf args).run P w = .ok (.enter gf args) w)
  {enc : α → Array Value} {Rx : α → World → Prop} {Rz : World → Prop} {D Z : Nat → Prop} {xs : List α} (base : Nat) (hbw : base ≤ w.heap.size) (hseq : SeqB base F (n - 1) (n - 1 - 1) P gf lb enc Rx Rz D Z xs w)
  (hZ : ∀ b, Z b → b < w.heap.size) (hDZ : ∀ b, D b → Z b) (hRx : ∀ x W W', Rx x W → Lv (fun k => ¬ D k) W W' → Rx x W') (hRz : ∀ W W', Rz W → Lv (fun k => ¬ D k) W W' → Rz W') (hps : ∀ x, (enc x).size = ps.size)
  (I : List α → List Nat → World → Prop) (Ix : Code → List α → List Nat → World → Prop) (hI : StableB base I) (hIx : ∀ c, StableB base (Ix c)) (own0 : List Nat) (hown : ∀ b ∈ own0, b < w.heap.size ∧ ¬ Z b) (h0 : I [] own0 w) (As : α → Act → World → Prop)
  (hAs : ∀ (x : α) (a' : Act) (W W' : World) (l : Nat) (o : Loop), As x a' W → W.heap[l]? = some (.loop o) → Lv (fun k => k = l) W W' → As x a' W')
  (hassign : ∀ (l : Nat) (x : α) (W : World) (K : Act → World → Prop), x ∈ xs → (∀ a' W', Lv (fun _ => False) W W' → As x a' W' → K a' W') →
   assign.wpIn (F.inRound l) (n - 1 - 1) P (Exit.then K (fun _ _ _ => False)) { tmps := (ps.zip (enc x)).foldl (fun t (p, v) => t.setIfInBounds p v) a.tmps, defers := [] } W)
  (hbody : ∀ (l : Nat) (pre : List α) (x : α) (own1 : List Nat) (a' : Act) (W : World), I pre own1 W → (pre ++ [x]) <+: xs → Rx x W → (∀ b ∈ own1, b < W.heap.size ∧ ¬ Z b) → As x a' W → body.wpIn (F.inRound l) (n - 1 - 1) P (sepPost own1 I Ix (pre ++ [x]) W) a' W)
  (hdone : ∀ (E : Nat) (own' : List Nat) (W : World), w.heap.size ≤ E → E ∉ own' → I xs own' W → (∀ b ∈ own', (b ∈ own0 ∨ w.heap.size ≤ b) ∧ b < W.heap.size) → Lv (fun k => k ∈ own0 ∨ D k) w W → Rz W → W.heap[E]? = some (.deferred (some [])) → Q .normal { a with defers := { target := .collected E, args := #[] } :: a.defers } W)
  (hstop : ∀ (E : Nat) (c : Code) (q : List α) (own' : List Nat) (W : World), w.heap.size ≤ E → E ∉ own' → q <+: xs → Ix c q own' W → (∀ b ∈ own', (b ∈ own0 ∨ w.heap.size ≤ b) ∧ b < W.heap.size) → Lv (fun k => k ∈ own0 ∨ D k) w W → Rz W → W.heap[E]? = some (.deferred (some [])) → c.wpIn F n P Q { a with defers := { target := .collected E, args := #[] } :: a.defers } W) :
  (Code.rangeFunc g ps assign body).wpIn F n P Q a w := by
 refine wpIn_rangeFunc ?_
 intro fn hfn
 rw [hro]
 obtain ⟨rec, hrec⟩ : ∃ rec : LoopState → Option Code → Loop, rec = fun st pe => { state := st, pending := pe, fn, tmps := a.tmps, params := ps, assign, body, defers := w.heap.size } := ⟨_, rfl⟩
 obtain ⟨W1, hW1⟩ : ∃ W1, (w.alloc (.deferred (some []))).alloc (.loop (rec .ready none)) = W1 := ⟨_, rfl⟩
 have hL1 : W1.heap[w.heap.size + 1]? = some (.loop (rec .ready none)) := by
  rw [← hW1]; have := World.alloc_heap_new (w.alloc (.deferred (some []))) (.loop (rec .ready none)); rwa [World.size_alloc] at this
 have hK1 : W1.heap[w.heap.size]? = some (.deferred (some [])) := by
  rw [← hW1]; exact (Below.heap_alloc _ _ _ (by simp)).trans (World.alloc_heap_new w _)
 have hs1 : W1.heap.size = w.heap.size + 2 := by rw [← hW1]; simp
 have hv1 : Lv (fun _ => False) w W1 := by
  rw [← hW1]; exact (Lv.alloc _ w _).trans (Lv.alloc (fun _ => False) _ _) (fun _ _ h => h) (fun _ _ h => h)
 have hI1 : I [] own0 W1 := hI _ _ _ _ h0 (hv1.mono (fun _ _ h => h.elim))
 refine ⟨w.heap.size + 1, [{ target := .collected w.heap.size, args := #[] }], W1, { target := .fn (.func gf) lb, args := #[.func (.yield (w.heap.size + 1)) #[] #[]] }, W1, gf,
  #[.func (.yield (w.heap.size + 1)) #[] #[]] ++ lb, W1, ?_, ?_, ?_, ?_, h1, ?_⟩
 ·rw [← hW1, hrec]; exact run_enterLoop_outer _ _ _ _ _
 ·simp only [resolve, hg]
  simp [go_sem]
 ·intro f' hf'; simp [Target.leads] at hf'; subst hf'; exact hFg
 ·simp [invoke, go_sem, eg]
 ·obtain ⟨A, hA⟩ : ∃ A, w.heap.size = A := ⟨_, rfl⟩
  rw [hA] at hL1 hK1 hs1
  rw [hA]
  have hZA : ∀ b, Z b → b < A := fun b hb => hA ▸ hZ b hb
  have hbA : ∀ b, b = A + 1 → base ≤ b := fun b e => by rw [hA] at hbw; omega
  have hDA : ∀ b, D b → b < A := fun b hb => hZA b (hDZ b hb)
  refine (hseq (A + 1)
   (fun pre own W => ∃ own1, own = A :: (A + 1) :: own1 ∧ (∀ b ∈ own1, b ≠ A ∧ b ≠ A + 1) ∧ I pre own1 W ∧ W.heap[A + 1]? = some (.loop (rec .ready none)) ∧ W.heap[A]? = some (.deferred (some [])))
   (fun pre own W => ∃ own1 c, own = A :: (A + 1) :: own1 ∧ (∀ b ∈ own1, b ≠ A ∧ b ≠ A + 1) ∧ Ix c pre own1 W ∧ W.heap[A + 1]? = some (.loop (rec .done (some c))) ∧ W.heap[A]? = some (.deferred (some [])))
   (A :: (A + 1) :: own0) W1 hv1 ?_ ?_ ?_ ?_ ⟨own0, rfl, fun b hb => by have := (hown b hb).1; omega, hI1, hL1, hK1⟩).mono ?_
  ·rintro s own W W' ⟨own1, rfl, hne, hi, hl, hk⟩ hv
   exact ⟨own1, rfl, hne, hI _ _ _ _ hi (hv.mono (fun b _ h1 => ⟨fun h2 => h1.1 (by simp [h2]), h1.2⟩)), hv.heap hl (by simp), hv.heap hk (by simp)⟩
  ·rintro s own W W' ⟨own1, c, rfl, hne, hi, hl, hk⟩ hv
   exact ⟨own1, c, rfl, hne, hIx c _ _ _ _ hi (hv.mono (fun b _ h1 => ⟨fun h2 => h1.1 (by simp [h2]), h1.2⟩)), hv.heap hl (by simp), hv.heap hk (by simp)⟩
  ·intro b hb
   simp only [List.mem_cons] at hb
   rcases hb with rfl | rfl | hb
   ·exact ⟨by omega, fun h => by have := hZA _ h; omega⟩
   ·exact ⟨by omega, fun h => by have := hZA _ h; omega⟩
   ·exact ⟨by have := (hown b hb).1; omega, (hown b hb).2⟩
  ·-- ONE ROUND
   rintro pre x own W ⟨own1, rfl, hne, hi, hl, hk⟩ hpx hrx hob
   have hlt : A + 1 < W.heap.size := (Array.getElem?_eq_some_iff.1 hl).1
   have hy := run_yield (P := P) (args := enc x) hl (by rw [hrec]; exact hps x)
   rw [hrec] at hy
   have hxm : x ∈ xs := by obtain ⟨t, ht⟩ := hpx; rw [← ht]; simp
   refine ⟨fn, _, assign, body, hy, roundIn_of_wpIn hfn (hassign _ x W _ hxm (fun a' Wa hva haa => ⟨_, run_beginRound (hva.heap hl (fun h => h)) (by rw [hrec]), ?_⟩))⟩
   replace hl := hva.heap hl (fun h => h)
   replace hk := hva.heap hk (fun h => h)
   replace hi := hI _ _ _ _ hi (hva.mono (fun _ _ h => h.elim))
   replace hrx := hRx _ _ _ hrx (hva.mono (fun _ _ h => h.elim))
   have hsa := hva.size
   replace hlt : A + 1 < Wa.heap.size := by omega
   obtain ⟨V, hV⟩ : ∃ V, Wa.putObj (A + 1) (.loop { rec .ready none with state := .busy }) = V := ⟨_, rfl⟩
   have hl2 : V.heap[A + 1]? = some (.loop { rec .ready none with state := .busy }) := by rw [← hV]; exact World.putObj_heap_same hlt
   have hk2 : V.heap[A]? = some (.deferred (some [])) := by rw [← hV]; exact (World.putObj_heap_other (by omega)).trans hk
   have hvV : Lv (fun k => k = A + 1) Wa V := by rw [← hV]; exact Lv.putObj Wa _ _ rfl
   have hsV : V.heap.size = Wa.heap.size := by rw [← hV]; simp
   have hi2 : I pre own1 V := hI _ _ _ _ hi (hvV.mono (fun b _ e => ⟨fun hb => (hne b hb).2 e, hbA b e⟩))
   have hr2 : Rx x V := hRx _ _ _ hrx (hvV.mono (fun b _ e hb => by have := hDA _ hb; omega))
   have ha2 : As x a' V := hAs x a' Wa V (A + 1) _ haa hl hvV
   rw [hV]
   refine wpIn_mono (hbody _ pre x own1 a' V hi2 hpx hr2 (fun b hb => ⟨by rw [hsV]; have := (hob b (by simp [hb])).1; omega, (hob b (by simp [hb])).2⟩) ha2) ?_
   have fin : ∀ (jump : Option Code) (own' : List Nat) (W3 : World), Grew own1 own' V W3 →
     ∃ W4, (Instr.endRound (A + 1) jump).run P W3 = .ok (.bool jump.isNone) W4 ∧ Lv (fun k => k = A + 1) W3 W4 ∧
     W4.heap[A + 1]? = some (.loop (rec (if jump.isNone then .ready else .done) jump)) ∧ W4.heap[A]? = some (.deferred (some [])) ∧ (∀ b ∈ own', b ≠ A ∧ b ≠ A + 1) ∧ Grew (A :: (A + 1) :: own1) (A :: (A + 1) :: own') W W4 := fun jump own' W3 hg3 => by
    have hl3 := hg3.1.heap hl2 (fun hb => (hne _ hb).2 rfl)
    have hk3 := hg3.1.heap hk2 (fun hb => (hne _ hb).1 rfl)
    have hs3 := hg3.1.size
    have hv4 : Lv (fun k => k = A + 1) W3 (W3.putObj (A + 1) (.loop (rec (if jump.isNone then .ready else .done) jump))) := Lv.putObj W3 _ _ rfl
    have hs4 : (W3.putObj (A + 1) (.loop (rec (if jump.isNone then .ready else .done) jump))).heap.size = W3.heap.size := by simp
    have := run_endRound (P := P) jump hl3
    rw [hrec] at this ⊢
    rw [hrec] at hv4 hs4
    refine ⟨_, this, hv4, World.putObj_heap_same (by omega), (World.putObj_heap_other (by omega)).trans hk3, fun b hb => ?_, Grew.pre hva ⟨?_, fun b hb => ?_⟩⟩
    ·rcases (hg3.2 b hb).1 with h | h
     ·exact hne b h
     ·omega
    ·exact ((hvV.trans hg3.1 (E := fun k => k ∈ A :: (A + 1) :: own1) (fun b _ e => by simp [e]) (fun b _ e => by simp [e])).trans hv4 (fun b _ e => e) (fun b _ e => by simp [e]))
    ·rw [hs4]
     simp only [List.mem_cons] at hb ⊢
     rcases hb with rfl | rfl | hb
     ·exact ⟨.inl (.inl rfl), by omega⟩
     ·exact ⟨.inl (.inr (.inl rfl)), by omega⟩
     ·obtain ⟨h1, h2⟩ := hg3.2 b hb
      refine ⟨?_, h2⟩
      rcases h1 with h | h
      ·exact .inl (.inr (.inr h))
      ·exact .inr (by omega)
   rintro e a3 W3 hp
   cases e with
   | normal =>
    obtain ⟨own', hg3, hi3⟩ := hp
    obtain ⟨W4, hr, hv4, hl4, hk4, hne4, hg4⟩ := fin none own' W3 hg3
    exact ⟨_, _, hr, _, hg4, .inl ⟨rfl, own', rfl, hne4, hI _ _ _ _ hi3 (hv4.mono (fun b _ e => ⟨fun hb => (hne4 b hb).2 e, hbA b e⟩)), hl4, hk4⟩⟩
   | ret =>
    obtain ⟨own', hg3, hi3⟩ := hp
    obtain ⟨W4, hr, hv4, hl4, hk4, hne4, hg4⟩ := fin (some .ret) own' W3 hg3
    exact ⟨_, _, hr, _, hg4, .inr ⟨rfl, own', .ret, rfl, hne4, hIx _ _ _ _ _ hi3 (hv4.mono (fun b _ e => ⟨fun hb => (hne4 b hb).2 e, hbA b e⟩)), hl4, hk4⟩⟩
   | exit id =>
    obtain ⟨own', hg3, hi3⟩ := hp
    obtain ⟨W4, hr, hv4, hl4, hk4, hne4, hg4⟩ := fin (some (.exit id)) own' W3 hg3
    exact ⟨_, _, hr, _, hg4, .inr ⟨rfl, own', .exit id, rfl, hne4, hIx _ _ _ _ _ hi3 (hv4.mono (fun b _ e => ⟨fun hb => (hne4 b hb).2 e, hbA b e⟩)), hl4, hk4⟩⟩
   | goto t =>
    obtain ⟨own', hg3, hi3⟩ := hp
    obtain ⟨W4, hr, hv4, hl4, hk4, hne4, hg4⟩ := fin (some (.goto t)) own' W3 hg3
    exact ⟨_, _, hr, _, hg4, .inr ⟨rfl, own', .goto t, rfl, hne4, hIx _ _ _ _ _ hi3 (hv4.mono (fun b _ e => ⟨fun hb => (hne4 b hb).2 e, hbA b e⟩)), hl4, hk4⟩⟩
   | panic ch => exact hp.elim
   | outgrown => exact hp.elim
  ·-- BEHIND THE ITERATOR
   have fin2 : ∀ (own' own1 : List Nat) (W2 : World) (o : Obj), own' = A :: (A + 1) :: own1 → (∀ b ∈ own1, b ≠ A ∧ b ≠ A + 1) → (∀ b ∈ own', (b ∈ A :: (A + 1) :: own0 ∨ W1.heap.size ≤ b) ∧ b < W2.heap.size) → Lv (fun k => k ∈ A :: (A + 1) :: own0 ∨ D k) W1 W2 →
     (∀ b ∈ own1, (b ∈ own0 ∨ A ≤ b) ∧ b < (W2.putObj (A + 1) o).heap.size) ∧ Lv (fun k => k ∈ own0 ∨ D k) w (W2.putObj (A + 1) o) := fun own' own1 W2 o e hne ho hv => by
    subst e
    refine ⟨fun b hb => ?_, ?_⟩
    ·obtain ⟨h1, h2⟩ := ho b (by simp [hb])
     refine ⟨?_, by simpa using h2⟩
     rcases h1 with h | h
     ·simp only [List.mem_cons] at h
      rcases h with h | h | h
      ·exact absurd h (hne b hb).1
      ·exact absurd h (hne b hb).2
      ·exact .inl h
     ·exact .inr (by omega)
    ·refine (hv1.trans hv (E := fun k => k ∈ own0 ∨ D k) (fun b _ h => h.elim) (fun b hb h => ?_)).trans (Lv.putObj (D := fun k => k = A + 1) W2 (A + 1) o rfl) (fun b _ h => h) (fun b hb h => by omega)
     rcases h with h | h
     ·simp only [List.mem_cons] at h
      rcases h with h | h | h
      ·omega
      ·omega
      ·exact .inl h
     ·exact .inr h
   rintro e W2 ⟨⟨v, rfl⟩, own', ho, hv, hz, (⟨own1, e1, hne, hi, hl, hk⟩ | ⟨q, hq, own1, c, e1, hne, hi, hl, hk⟩)⟩
   ·refine ⟨none, _, by have := run_endLoop (P := P) hl (by rw [hrec]; simp); rw [hrec] at this; exact this, ?_⟩
    exact hdone A own1 _ (by omega) (fun hb => (hne _ hb).1 rfl) (hI _ _ _ _ hi ((Lv.putObj (D := fun k => k = A + 1) W2 _ _ rfl).mono (fun b _ e => ⟨fun hb => (hne b hb).2 e, hbA b e⟩))) (by rw [hA]; exact (fin2 own' own1 W2 _ e1 hne ho hv).1) (fin2 own' own1 W2 _ e1 hne ho hv).2 (hRz _ _ hz ((Lv.putObj (D := fun k => k = A + 1) W2 _ _ rfl).mono (fun b _ e hb => by have := hDA b hb; omega))) ((World.putObj_heap_other (by omega)).trans hk)
   ·refine ⟨some c, _, by have := run_endLoop (P := P) hl (by rw [hrec]; simp); rw [hrec] at this; exact this, ?_⟩
    exact hstop A c q own1 _ (by omega) (fun hb => (hne _ hb).1 rfl) hq (hIx c _ _ _ _ hi ((Lv.putObj (D := fun k => k = A + 1) W2 _ _ rfl).mono (fun b _ e => ⟨fun hb => (hne b hb).2 e, hbA b e⟩))) (by rw [hA]; exact (fin2 own' own1 W2 _ e1 hne ho hv).1) (fin2 own' own1 W2 _ e1 hne ho hv).2 (hRz _ _ hz ((Lv.putObj (D := fun k => k = A + 1) W2 _ _ rfl).mono (fun b _ e hb => by have := hDA b hb; omega))) ((World.putObj_heap_other (by omega)).trans hk)
end Go.Proofs.YtggpjapmhakklaaGreat
namespace Go.Proofs.YtggpjapmhakklaaGreat
open Go.RowKit
theorem listLoop_iff {f : Int → List (List Int)} {x : List Int} : ∀ (k : Nat) (v : Int), x ∈ listLoop f k v ↔ ∃ j : Nat, j < k ∧ x ∈ f (v + j)
 | 0, v => by simp [listLoop]
 | k + 1, v => by
  simp only [listLoop, List.mem_append]
  rw [listLoop_iff k (v + 1)]
  constructor
  ·rintro (h | ⟨j, hj, h⟩)
   ·exact ⟨0, by omega, by simpa using h⟩
   ·exact ⟨j + 1, by omega, by rw [show v + ((j + 1 : Nat) : Int) = v + 1 + j by omega]; exact h⟩
  ·rintro ⟨j, hj, h⟩
   rcases Nat.eq_zero_or_pos j with rfl | hp
   ·exact .inl (by simpa using h)
   ·exact .inr ⟨j - 1, by omega, by rw [show v + 1 + ((j - 1 : Nat) : Int) = v + j by omega]; exact h⟩
theorem lpAt_getD (ls : List Lp) (ps : List Int) : lpAt ls ps = ls.getD ps.length ([], []) := rfl
theorem take_snoc {x ps : List Int} {v : Int} (h : x.take (ps.length + 1) = ps ++ [v]) : x.take ps.length = ps ∧ x[ps.length]? = some v := by
 constructor
 ·have := congrArg (List.take ps.length) h
  rwa [List.take_take, Nat.min_eq_left (by omega), List.take_append_of_le_length (Nat.le_refl _), List.take_length] at this
 ·have := congrArg (fun l : List Int => l[ps.length]?) h
  simp only [List.getElem?_take] at this
  rw [if_pos (by omega), List.getElem?_append_right (Nat.le_refl _)] at this
  simpa using this
theorem leaves_iff (ls : List Lp) (x : List Int) : ∀ (d : Nat) (ps : List Int), ps.length + d = ls.length → (x ∈ leaves ls d ps ↔ x.length = ls.length ∧ x.take ps.length = ps ∧ ∀ i, ps.length ≤ i → i < ls.length → inB ls x i = true)
 | 0, ps, hd => by
  simp only [leaves, List.mem_singleton]
  constructor
  ·rintro rfl
   exact ⟨by omega, by simp, fun i h1 h2 => by omega⟩
  ·rintro ⟨h1, h2, -⟩
   rw [← h2, List.take_of_length_le (by omega)]
 | d + 1, ps, hd => by
  simp only [leaves]
  rw [listLoop_iff]
  constructor
  ·rintro ⟨j, hj, h⟩
   obtain ⟨h1, h2, h3⟩ := (leaves_iff ls x d (ps ++ [loV (lpAt ls ps) ps + j]) (by rw [List.length_append]; simp; omega)).1 h
   rw [List.length_append, List.length_singleton] at h2 h3
   obtain ⟨h4, h5⟩ := take_snoc h2
   refine ⟨h1, h4, fun i hi hl => ?_⟩
   rcases Nat.eq_or_lt_of_le hi with rfl | hi
   ·unfold inB
    rw [h4, List.getD_eq_getElem?_getD (l := x), h5, ← lpAt_getD]
    unfold trips at hj
    simp only [Option.getD_some, decide_eq_true_eq]
    omega
   ·exact h3 i hi hl
  ·rintro ⟨h1, h2, h3⟩
   have h4 := h3 ps.length (Nat.le_refl _) (by omega)
   obtain ⟨v, hv⟩ := get_some (xs := x) (k := ps.length) (by omega)
   unfold inB at h4
   rw [h2, List.getD_eq_getElem?_getD (l := x), hv, ← lpAt_getD] at h4
   simp only [Option.getD_some, decide_eq_true_eq] at h4
   have hve : loV (lpAt ls ps) ps + ((v - loV (lpAt ls ps) ps).toNat : Int) = v := by omega
   refine ⟨(v - loV (lpAt ls ps) ps).toNat, by unfold trips; omega, ?_⟩
   rw [hve]
   refine (leaves_iff ls x d (ps ++ [v]) (by rw [List.length_append]; simp; omega)).2 ⟨h1, ?_, fun i hi hl => h3 i (by rw [List.length_append] at hi; omega) hl⟩
   rw [List.length_append, List.length_singleton, take_next hv, h2]
theorem nptsL_iff {ls : List Lp} (h : nptsB ls = true) (x : List Int) : x ∈ nptsL ls ↔ x.length = ls.length ∧ ∀ i, i < ls.length → inB ls x i = true := by
 rw [nptsL_leaves h, leaves_iff ls x ls.length [] (by simp)]
 simp
theorem nptsB_nest {ls : List Lp} (h : nptsB ls = true) : nestB ls = true := by
 simp only [nptsB, Bool.and_eq_true] at h; exact h.1
theorem nptsL_len {ls : List Lp} : (nptsL ls).length ≤ 120 := by
 unfold nptsL
 split
 ·rename_i h
  simp only [nptsB, Bool.and_eq_true, decide_eq_true_eq] at h
  exact h.2.2
 ·simp
end Go.Proofs.YtggpjapmhakklaaGreat
namespace Go.Proofs.YtggpjapmhakklaaGreat
open Go.RowKit
def PtsAt (w : World) (v : Value) (xss : List (List Int)) : Prop :=
 xss.length ≤ 1000000 ∧ ((v = .slice none 0 0 ∧ xss = []) ∨ ∃ g c, v = .slice (some ⟨g, 0, none⟩) xss.length c ∧ g < w.heap.size ∧ ∀ (i : Nat) (xs : List Int), xss[i]? = some xs → ∃ u, w.cell? ⟨g, i, none⟩ = some u ∧ IntsAt w u xs)
theorem PtsAt.ext {w w' : World} {v : Value} {xss : List (List Int)} (h : PtsAt w v xss) (hE : Ext w w') : PtsAt w' v xss := by
 refine ⟨h.1, h.2.imp id ?_⟩
 rintro ⟨g, c, hv, hg, he⟩
 refine ⟨g, c, hv, Nat.lt_of_lt_of_le hg hE.size_le, fun i xs hi => ?_⟩
 obtain ⟨u, h0, h1⟩ := he i xs hi
 exact ⟨u, hE.keep h0, h1.ext hE⟩
theorem PtsAt.form {w : World} {v : Value} {xss : List (List Int)} (h : PtsAt w v xss) : ∃ p c, v = .slice p xss.length c := by
 rcases h.2 with ⟨rfl, rfl⟩ | ⟨g, c, rfl, _⟩
 ·exact ⟨none, 0, rfl⟩
 ·exact ⟨_, _, rfl⟩
theorem PtsAt.elem {w : World} {p : Option Addr} {n c i : Nat} {xss : List (List Int)} {xs : List Int} (h : PtsAt w (.slice p n c) xss) (hi : xss[i]? = some xs) : ∃ g u, p = some ⟨g, 0, none⟩ ∧ w.cell? ⟨g, i, none⟩ = some u ∧ g < w.heap.size ∧ IntsAt w u xs := by
 rcases h.2 with ⟨_, rfl⟩ | ⟨g, c', hv, hg, he⟩
 ·simp at hi
 ·obtain ⟨u, h0, h1⟩ := he i xs hi
  simp only [Value.slice.injEq] at hv
  exact ⟨g, u, hv.1, h0, hg, h1⟩
theorem pts_at {B : Nat} {w : World} {v : Value} {xss : List (List Int)} {vs : List Value} (h0 : xss.length ≤ 1000000) (ho : w.ownsRow B 27 1 v xss.length vs) (he : ∀ (i : Nat) (xs : List Int), xss[i]? = some xs → ∃ u : Value, vs[i]? = some u ∧ IntsAt w u xs) : PtsAt w v xss := by
 refine ⟨h0, ?_⟩
 rcases ho.2 with ⟨hv, hn⟩ | ⟨g, cap, cur, hv, hb, hgh, r⟩
 ·exact .inl ⟨hv, List.eq_nil_of_length_eq_zero hn⟩
 ·refine .inr ⟨g, cap, hv, (Array.getElem?_eq_some_iff.1 hgh).1, fun i xs hi => ?_⟩
  obtain ⟨u, h1, h2⟩ := he i xs hi
  refine ⟨u, ?_, h2⟩
  subst hv
  rw [ho.cellAt i (by have := (List.getElem?_eq_some_iff.1 hi).1; omega)]
  exact h1
theorem PtsOwn.at {B : Nat} {w : World} {v : Value} {xss : List (List Int)} (h : PtsOwn B w v xss) (h0 : xss.length ≤ 1000000) : PtsAt w v xss := by
 obtain ⟨vs, ho, he⟩ := h
 exact pts_at h0 ho (fun i xs hi => by obtain ⟨u, h1, h2⟩ := he i xs hi; exact ⟨u, h1, h2.at⟩)
theorem PtsD.at {own : List Nat} {B : Nat} {w : World} {v : Value} {xss : List (List Int)} (h : PtsD own B w v xss) (h0 : xss.length ≤ 1000000) : PtsAt w v xss := by
 obtain ⟨vs, ho, _, he⟩ := h
 exact pts_at h0 ho (fun i xs hi => by obtain ⟨g, c, h1, h2, _⟩ := he i xs hi; exact ⟨_, h1, h2.at⟩)
end Go.Proofs.YtggpjapmhakklaaGreat
namespace Go.Proofs.YtggpjapmhakklaaGreat
open Go.RowKit
theorem PtsD.get {own : List Nat} {B n c i : Nat} {X : World} {p : Option Addr} {xss : List (List Int)} {xs : List Int} (h : PtsD own B X (.slice p n c) xss) (hi : xss[i]? = some xs) :
  ∃ o g c', p = some ⟨o, 0, none⟩ ∧ X.cell? ⟨o, i, none⟩ = some (.slice (some ⟨g, 0, none⟩) xs.length c') ∧ IntsAt X (.slice (some ⟨g, 0, none⟩) xs.length c') xs ∧ xs.length ≤ c' := by
 obtain ⟨vs, ho, _, he⟩ := h
 obtain ⟨g, c', h1, h2, _⟩ := he i xs hi
 have hlt := (List.getElem?_eq_some_iff.1 hi).1
 rcases ho.2 with ⟨e, h0⟩ | ⟨o, cap, cur, e, r⟩
 ·omega
 ·cases e
  exact ⟨o, g, c', rfl, by rw [ho.cellAt i (by omega)]; exact h1, h2.at, h2.cap⟩
end Go.Proofs.YtggpjapmhakklaaGreat

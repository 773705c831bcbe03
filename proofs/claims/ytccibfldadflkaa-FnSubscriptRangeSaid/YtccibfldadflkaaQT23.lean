/- The texts R7, joined. No statement is proved here. -/
import Derived.RangeFuncNested
import Derived.RangeFuncBound
import Derived.RangeFuncCalls
import Derived.Test.YtccibfldadflkaaQT17
import Derived.Deep.DeepAppendRoom
import Derived.OwnWalkIn
import Derived.Shelf.Abstract
import Derived.RangeFuncStops
import Derived.TacticsInMore
import Derived.LoopNIn
import Derived.LoopIn
import Derived.Maps.AppendAt
import Derived.OrdersIn
import Derived.OrdersHeld
/- Ranges over functions: a law for an iterator and a consumer that are kept apart by their blocks. No statement is proved here. | The prefixes that the program's iterator yields. Under way: the deepest level. | The prefixes that the program's iterator yields: a level with loops below. Under way. | The prefixes that the program's iterator yields: every level. | Drawn regions inside a round of a range over a function; copies of points; rows of points kept by their blocks. No statement is proved here. -/
namespace Go.Proofs.Ytccibfldadflkaa
open Go.RowKit

/-- From W to W' no block that lay has turned but those of D. -/
structure Lv (D : Nat → Prop) (W W' : World) : Prop where
  os : W'.os = W.os
  tape : W'.tape = W.tape
  output : W'.output = W.output
  size : W.heap.size ≤ W'.heap.size
  block : ∀ k, k < W.heap.size → ¬ D k → W'.heap[k]? = W.heap[k]?
theorem Lv.refl (D : Nat → Prop) (W : World) : Lv D W W := ⟨rfl, rfl, rfl, Nat.le_refl _, fun _ _ _ => rfl⟩
theorem Lv.trans {D D' E : Nat → Prop} {A B C : World} (h : Lv D A B) (k : Lv D' B C) (hD : ∀ b, b < A.heap.size → D b → E b) (hD' : ∀ b, b < A.heap.size → D' b → E b) : Lv E A C :=
  ⟨k.os.trans h.os, k.tape.trans h.tape, k.output.trans h.output, Nat.le_trans h.size k.size, fun b hb hn => (k.block b (Nat.lt_of_lt_of_le hb h.size) (fun e => hn (hD' b hb e))).trans (h.block b hb (fun e => hn (hD b hb e)))⟩
theorem Lv.mono {D E : Nat → Prop} {A B : World} (h : Lv D A B) (hD : ∀ b, b < A.heap.size → D b → E b) : Lv E A B := h.trans (Lv.refl D B) hD (fun b hb e => hD b hb e)
theorem Lv.grown {D : Nat → Prop} {A B : World} {row : Option Nat} (h : A.grownBy B row) (hr : ∀ r, row = some r → r < A.heap.size → D r) : Lv D A B :=
  ⟨h.os, h.tape, h.output, h.size, fun b hb hn => h.block b hb (fun e => hn (hr b e.symm hb))⟩
theorem Lv.alloc (D : Nat → Prop) (W : World) (o : Obj) : Lv D W (W.alloc o) := Lv.grown (World.grownBy_alloc W o none) (fun _ e => by cases e)
theorem Lv.putObj {D : Nat → Prop} (W : World) (l : Nat) (o : Obj) (h : D l) : Lv D W (W.putObj l o) := Lv.grown (grownBy_putObj' W l o) (fun r e _ => by cases e; exact h)
theorem Lv.heap {D : Nat → Prop} {A B : World} {k : Nat} {o : Obj} (h : Lv D A B) (hk : A.heap[k]? = some o) (hn : ¬ D k) : B.heap[k]? = some o := (h.block k (Array.getElem?_eq_some_iff.1 hk).1 hn).trans hk

/-- What is said with the blocks it speaks of. -/
def Stable {α : Type} (I : List α → List Nat → World → Prop) : Prop := ∀ s own W W', I s own W → Lv (fun k => k ∉ own) W W' → I s own W'
/-- What a round has left of the consumer's blocks. -/
def Grew (own own' : List Nat) (W W' : World) : Prop := Lv (fun k => k ∈ own) W W' ∧ ∀ b ∈ own', (b ∈ own ∨ W.heap.size ≤ b) ∧ b < W'.heap.size

/-- The contract of an iterator: it turns blocks of D and what it has laid itself; the consumer turns its own, among which are none of Z. -/
def SeqSep {α : Type} (F : Fence) (n m : Nat) (P : Program) (g : Nat) (lb : Array Value) (enc : α → Array Value) (Rx : α → World → Prop) (Rz : World → Prop) (D Z : Nat → Prop) (xs : List α) (w : World) : Prop :=
  ∀ (l : Nat) (J Jx : List α → List Nat → World → Prop) (own : List Nat) (W : World), Lv (fun _ => False) w W → Stable J → Stable Jx → (∀ b ∈ own, b < W.heap.size ∧ ¬ Z b) →
    (∀ pre x own1 V, J pre own1 V → (pre ++ [x]) <+: xs → Rx x V → (∀ b ∈ own1, b < V.heap.size ∧ ¬ Z b) → YieldAt F m P l (enc x) V fun e V' => ∃ own', Grew own1 own' V V' ∧
      ((e = .returned (.bool true) ∧ J (pre ++ [x]) own' V') ∨ (e = .returned (.bool false) ∧ Jx (pre ++ [x]) own' V'))) →
    J [] own W →
    CallsIn F n P g (#[.func (.yield l) #[] #[]] ++ lb) W fun e W' => (∃ v, e = .returned v) ∧ ∃ own', (∀ b ∈ own', (b ∈ own ∨ W.heap.size ≤ b) ∧ b < W'.heap.size) ∧ Lv (fun k => k ∈ own ∨ D k) W W' ∧ Rz W' ∧ (J xs own' W' ∨ ∃ q, q <+: xs ∧ Jx q own' W')

/-- How the body of a round may be left. -/
def sepPost {α : Type} (own : List Nat) (I : List α → List Nat → World → Prop) (Ix : Code → List α → List Nat → World → Prop) (xs : List α) (W : World) : Exit → Act → World → Prop
  | .normal, _, W' => ∃ own', Grew own own' W W' ∧ I xs own' W'
  | .ret, _, W' => ∃ own', Grew own own' W W' ∧ Ix .ret xs own' W'
  | .exit id, _, W' => ∃ own', Grew own own' W W' ∧ Ix (.exit id) xs own' W'
  | .goto t, _, W' => ∃ own', Grew own own' W W' ∧ Ix (.goto t) xs own' W'
  | .panic _, _, _ => False
  | .outgrown, _, _ => False

set_option linter.unusedVariables false in
theorem wpIn_rangeFunc_sep {F : Fence} {n : Nat} {P : Program} {α : Type} {g : Operand} {ps : Array Tmp} {assign body : Code} {Q : Exit → Act → World → Prop} {a : Act} {w : World}
    (hro : F.round = none) (h1 : F.depth.isSome = true → 1 ≤ n) {gf : Nat} {lb : Array Value} (hg : a.eval g = .func (.func gf) #[] lb) (hFg : F.fn gf) (eg : ∀ args w, (callFunc gf args).run P w = .ok (.enter gf args) w)
    {enc : α → Array Value} {Rx : α → World → Prop} {Rz : World → Prop} {D Z : Nat → Prop} {xs : List α} (hseq : SeqSep F (n - 1) (n - 1 - 1) P gf lb enc Rx Rz D Z xs w)
    (hZ : ∀ b, Z b → b < w.heap.size) (hDZ : ∀ b, D b → Z b) (hRx : ∀ x W W', Rx x W → Lv (fun k => ¬ D k) W W' → Rx x W') (hRz : ∀ W W', Rz W → Lv (fun k => ¬ D k) W W' → Rz W') (hps : ∀ x, (enc x).size = ps.size)
    (I : List α → List Nat → World → Prop) (Ix : Code → List α → List Nat → World → Prop) (hI : Stable I) (hIx : ∀ c, Stable (Ix c)) (own0 : List Nat) (hown : ∀ b ∈ own0, b < w.heap.size ∧ ¬ Z b) (h0 : I [] own0 w) (a₁ : α → Act)
    (hassign : ∀ (l : Nat) (x : α) (W : World) (K : Act → World → Prop), K (a₁ x) W →
      assign.wpIn (F.inRound l) (n - 1 - 1) P (Exit.then K (fun _ _ _ => False)) { tmps := (ps.zip (enc x)).foldl (fun t (p, v) => t.setIfInBounds p v) a.tmps, defers := [] } W)
    (hbody : ∀ (l : Nat) (pre : List α) (x : α) (own1 : List Nat) (W : World), I pre own1 W → (pre ++ [x]) <+: xs → Rx x W → (∀ b ∈ own1, b < W.heap.size ∧ ¬ Z b) → body.wpIn (F.inRound l) (n - 1 - 1) P (sepPost own1 I Ix (pre ++ [x]) W) (a₁ x) W)
    (hdone : ∀ (E : Nat) (own' : List Nat) (W : World), w.heap.size ≤ E → E ∉ own' → I xs own' W → (∀ b ∈ own', (b ∈ own0 ∨ w.heap.size ≤ b) ∧ b < W.heap.size) → Lv (fun k => k ∈ own0 ∨ D k) w W → Rz W → W.heap[E]? = some (.deferred (some [])) → Q .normal { a with defers := { target := .collected E, args := #[] } :: a.defers } W)
    (hstop : ∀ (E : Nat) (c : Code) (q : List α) (own' : List Nat) (W : World), w.heap.size ≤ E → E ∉ own' → q <+: xs → Ix c q own' W → (∀ b ∈ own', (b ∈ own0 ∨ w.heap.size ≤ b) ∧ b < W.heap.size) → Lv (fun k => k ∈ own0 ∨ D k) w W → Rz W → W.heap[E]? = some (.deferred (some [])) → c.wpIn F n P Q { a with defers := { target := .collected E, args := #[] } :: a.defers } W) :
    (Code.rangeFunc g ps assign body).wpIn F n P Q a w := by
  refine wpIn_rangeFunc ?_
  intro fn hfn
  rw [hro]
  obtain ⟨rec, hrec⟩ : ∃ rec : LoopState → Option Code → Loop, rec = fun st pe => { state := st, pending := pe, fn, tmps := a.tmps, params := ps, assign, body, defers := w.heap.size } := ⟨_, rfl⟩
  obtain ⟨W1, hW1⟩ : ∃ W1, (w.alloc (.deferred (some []))).alloc (.loop (rec .ready none)) = W1 := ⟨_, rfl⟩
  have hL1 : W1.heap[w.heap.size + 1]? = some (.loop (rec .ready none)) := by
    rw [← hW1]; have := World.alloc_heap_new (w.alloc (.deferred (some []))) (.loop (rec .ready none)); rwa [World.size_alloc] at this
  have hK1 : W1.heap[w.heap.size]? = some (.deferred (some [])) := by
    rw [← hW1]; exact (Below.heap_alloc _ _ _ (by simp)).trans (World.alloc_heap_new w _)
  have hs1 : W1.heap.size = w.heap.size + 2 := by rw [← hW1]; simp
  have hv1 : Lv (fun _ => False) w W1 := by
    rw [← hW1]; exact (Lv.alloc _ w _).trans (Lv.alloc (fun _ => False) _ _) (fun _ _ h => h) (fun _ _ h => h)
  have hI1 : I [] own0 W1 := hI _ _ _ _ h0 (hv1.mono (fun _ _ h => h.elim))
  refine ⟨w.heap.size + 1, [{ target := .collected w.heap.size, args := #[] }], W1, { target := .fn (.func gf) lb, args := #[.func (.yield (w.heap.size + 1)) #[] #[]] }, W1, gf,
    #[.func (.yield (w.heap.size + 1)) #[] #[]] ++ lb, W1, ?_, ?_, ?_, ?_, h1, ?_⟩
  · rw [← hW1, hrec]; exact run_enterLoop_outer _ _ _ _ _
  · simp only [resolve, hg]
    simp [go_sem]
  · intro f' hf'; simp [Target.leads] at hf'; subst hf'; exact hFg
  · simp [invoke, go_sem, eg]
  · obtain ⟨A, hA⟩ : ∃ A, w.heap.size = A := ⟨_, rfl⟩
    rw [hA] at hL1 hK1 hs1
    rw [hA]
    have hZA : ∀ b, Z b → b < A := fun b hb => hA ▸ hZ b hb
    have hDA : ∀ b, D b → b < A := fun b hb => hZA b (hDZ b hb)
    refine (hseq (A + 1)
      (fun pre own W => ∃ own1, own = A :: (A + 1) :: own1 ∧ (∀ b ∈ own1, b ≠ A ∧ b ≠ A + 1) ∧ I pre own1 W ∧ W.heap[A + 1]? = some (.loop (rec .ready none)) ∧ W.heap[A]? = some (.deferred (some [])))
      (fun pre own W => ∃ own1 c, own = A :: (A + 1) :: own1 ∧ (∀ b ∈ own1, b ≠ A ∧ b ≠ A + 1) ∧ Ix c pre own1 W ∧ W.heap[A + 1]? = some (.loop (rec .done (some c))) ∧ W.heap[A]? = some (.deferred (some [])))
      (A :: (A + 1) :: own0) W1 hv1 ?_ ?_ ?_ ?_ ⟨own0, rfl, fun b hb => by have := (hown b hb).1; omega, hI1, hL1, hK1⟩).mono ?_
    · rintro s own W W' ⟨own1, rfl, hne, hi, hl, hk⟩ hv
      exact ⟨own1, rfl, hne, hI _ _ _ _ hi (hv.mono (fun b _ h1 h2 => h1 (by simp [h2]))), hv.heap hl (by simp), hv.heap hk (by simp)⟩
    · rintro s own W W' ⟨own1, c, rfl, hne, hi, hl, hk⟩ hv
      exact ⟨own1, c, rfl, hne, hIx c _ _ _ _ hi (hv.mono (fun b _ h1 h2 => h1 (by simp [h2]))), hv.heap hl (by simp), hv.heap hk (by simp)⟩
    · intro b hb
      simp only [List.mem_cons] at hb
      rcases hb with rfl | rfl | hb
      · exact ⟨by omega, fun h => by have := hZA _ h; omega⟩
      · exact ⟨by omega, fun h => by have := hZA _ h; omega⟩
      · exact ⟨by have := (hown b hb).1; omega, (hown b hb).2⟩
    · -- ONE ROUND
      rintro pre x own W ⟨own1, rfl, hne, hi, hl, hk⟩ hpx hrx hob
      have hlt : A + 1 < W.heap.size := (Array.getElem?_eq_some_iff.1 hl).1
      have hy := run_yield (P := P) (args := enc x) hl (by rw [hrec]; exact hps x)
      rw [hrec] at hy
      refine ⟨fn, _, assign, body, hy, roundIn_of_wpIn hfn (hassign _ x W _ ⟨_, run_beginRound hl (by rw [hrec]), ?_⟩)⟩
      obtain ⟨V, hV⟩ : ∃ V, W.putObj (A + 1) (.loop { rec .ready none with state := .busy }) = V := ⟨_, rfl⟩
      have hl2 : V.heap[A + 1]? = some (.loop { rec .ready none with state := .busy }) := by rw [← hV]; exact World.putObj_heap_same hlt
      have hk2 : V.heap[A]? = some (.deferred (some [])) := by rw [← hV]; exact (World.putObj_heap_other (by omega)).trans hk
      have hvV : Lv (fun k => k = A + 1) W V := by rw [← hV]; exact Lv.putObj W _ _ rfl
      have hsV : V.heap.size = W.heap.size := by rw [← hV]; simp
      have hi2 : I pre own1 V := hI _ _ _ _ hi (hvV.mono (fun b _ e hb => (hne b hb).2 e))
      have hr2 : Rx x V := hRx _ _ _ hrx (hvV.mono (fun b _ e hb => by have := hDA _ hb; omega))
      rw [hV]
      refine wpIn_mono (hbody _ pre x own1 V hi2 hpx hr2 (fun b hb => by rw [hsV]; exact hob b (by simp [hb]))) ?_
      have fin : ∀ (jump : Option Code) (own' : List Nat) (W3 : World), Grew own1 own' V W3 →
          ∃ W4, (Instr.endRound (A + 1) jump).run P W3 = .ok (.bool jump.isNone) W4 ∧ Lv (fun k => k = A + 1) W3 W4 ∧
          W4.heap[A + 1]? = some (.loop (rec (if jump.isNone then .ready else .done) jump)) ∧ W4.heap[A]? = some (.deferred (some [])) ∧ (∀ b ∈ own', b ≠ A ∧ b ≠ A + 1) ∧ Grew (A :: (A + 1) :: own1) (A :: (A + 1) :: own') W W4 := fun jump own' W3 hg3 => by
        have hl3 := hg3.1.heap hl2 (fun hb => (hne _ hb).2 rfl)
        have hk3 := hg3.1.heap hk2 (fun hb => (hne _ hb).1 rfl)
        have hs3 := hg3.1.size
        have hv4 : Lv (fun k => k = A + 1) W3 (W3.putObj (A + 1) (.loop (rec (if jump.isNone then .ready else .done) jump))) := Lv.putObj W3 _ _ rfl
        have hs4 : (W3.putObj (A + 1) (.loop (rec (if jump.isNone then .ready else .done) jump))).heap.size = W3.heap.size := by simp
        have := run_endRound (P := P) jump hl3
        rw [hrec] at this ⊢
        rw [hrec] at hv4 hs4
        refine ⟨_, this, hv4, World.putObj_heap_same (by omega), (World.putObj_heap_other (by omega)).trans hk3, fun b hb => ?_, ?_, fun b hb => ?_⟩
        · rcases (hg3.2 b hb).1 with h | h
          · exact hne b h
          · omega
        · exact ((hvV.trans hg3.1 (E := fun k => k ∈ A :: (A + 1) :: own1) (fun b _ e => by simp [e]) (fun b _ e => by simp [e])).trans hv4 (fun b _ e => e) (fun b _ e => by simp [e]))
        · rw [hs4]
          simp only [List.mem_cons] at hb ⊢
          rcases hb with rfl | rfl | hb
          · exact ⟨.inl (.inl rfl), by omega⟩
          · exact ⟨.inl (.inr (.inl rfl)), by omega⟩
          · obtain ⟨h1, h2⟩ := hg3.2 b hb
            refine ⟨?_, h2⟩
            rcases h1 with h | h
            · exact .inl (.inr (.inr h))
            · exact .inr (by omega)
      rintro e a3 W3 hp
      cases e with
      | normal =>
        obtain ⟨own', hg3, hi3⟩ := hp
        obtain ⟨W4, hr, hv4, hl4, hk4, hne4, hg4⟩ := fin none own' W3 hg3
        exact ⟨_, _, hr, _, hg4, .inl ⟨rfl, own', rfl, hne4, hI _ _ _ _ hi3 (hv4.mono (fun b _ e hb => (hne4 b hb).2 e)), hl4, hk4⟩⟩
      | ret =>
        obtain ⟨own', hg3, hi3⟩ := hp
        obtain ⟨W4, hr, hv4, hl4, hk4, hne4, hg4⟩ := fin (some .ret) own' W3 hg3
        exact ⟨_, _, hr, _, hg4, .inr ⟨rfl, own', .ret, rfl, hne4, hIx _ _ _ _ _ hi3 (hv4.mono (fun b _ e hb => (hne4 b hb).2 e)), hl4, hk4⟩⟩
      | exit id =>
        obtain ⟨own', hg3, hi3⟩ := hp
        obtain ⟨W4, hr, hv4, hl4, hk4, hne4, hg4⟩ := fin (some (.exit id)) own' W3 hg3
        exact ⟨_, _, hr, _, hg4, .inr ⟨rfl, own', .exit id, rfl, hne4, hIx _ _ _ _ _ hi3 (hv4.mono (fun b _ e hb => (hne4 b hb).2 e)), hl4, hk4⟩⟩
      | goto t =>
        obtain ⟨own', hg3, hi3⟩ := hp
        obtain ⟨W4, hr, hv4, hl4, hk4, hne4, hg4⟩ := fin (some (.goto t)) own' W3 hg3
        exact ⟨_, _, hr, _, hg4, .inr ⟨rfl, own', .goto t, rfl, hne4, hIx _ _ _ _ _ hi3 (hv4.mono (fun b _ e hb => (hne4 b hb).2 e)), hl4, hk4⟩⟩
      | panic ch => exact hp.elim
      | outgrown => exact hp.elim
    · -- BEHIND THE ITERATOR
      have fin2 : ∀ (own' own1 : List Nat) (W2 : World) (o : Obj), own' = A :: (A + 1) :: own1 → (∀ b ∈ own1, b ≠ A ∧ b ≠ A + 1) → (∀ b ∈ own', (b ∈ A :: (A + 1) :: own0 ∨ W1.heap.size ≤ b) ∧ b < W2.heap.size) → Lv (fun k => k ∈ A :: (A + 1) :: own0 ∨ D k) W1 W2 →
          (∀ b ∈ own1, (b ∈ own0 ∨ A ≤ b) ∧ b < (W2.putObj (A + 1) o).heap.size) ∧ Lv (fun k => k ∈ own0 ∨ D k) w (W2.putObj (A + 1) o) := fun own' own1 W2 o e hne ho hv => by
        subst e
        refine ⟨fun b hb => ?_, ?_⟩
        · obtain ⟨h1, h2⟩ := ho b (by simp [hb])
          refine ⟨?_, by simpa using h2⟩
          rcases h1 with h | h
          · simp only [List.mem_cons] at h
            rcases h with h | h | h
            · exact absurd h (hne b hb).1
            · exact absurd h (hne b hb).2
            · exact .inl h
          · exact .inr (by omega)
        · refine (hv1.trans hv (E := fun k => k ∈ own0 ∨ D k) (fun b _ h => h.elim) (fun b hb h => ?_)).trans (Lv.putObj (D := fun k => k = A + 1) W2 (A + 1) o rfl) (fun b _ h => h) (fun b hb h => by omega)
          rcases h with h | h
          · simp only [List.mem_cons] at h
            rcases h with h | h | h
            · omega
            · omega
            · exact .inl h
          · exact .inr h
      rintro e W2 ⟨⟨v, rfl⟩, own', ho, hv, hz, (⟨own1, e1, hne, hi, hl, hk⟩ | ⟨q, hq, own1, c, e1, hne, hi, hl, hk⟩)⟩
      · refine ⟨none, _, by have := run_endLoop (P := P) hl (by rw [hrec]; simp); rw [hrec] at this; exact this, ?_⟩
        exact hdone A own1 _ (by omega) (fun hb => (hne _ hb).1 rfl) (hI _ _ _ _ hi ((Lv.putObj (D := fun k => k = A + 1) W2 _ _ rfl).mono (fun b _ e hb => (hne b hb).2 e))) (by rw [hA]; exact (fin2 own' own1 W2 _ e1 hne ho hv).1) (fin2 own' own1 W2 _ e1 hne ho hv).2 (hRz _ _ hz ((Lv.putObj (D := fun k => k = A + 1) W2 _ _ rfl).mono (fun b _ e hb => by have := hDA b hb; omega))) ((World.putObj_heap_other (by omega)).trans hk)
      · refine ⟨some c, _, by have := run_endLoop (P := P) hl (by rw [hrec]; simp); rw [hrec] at this; exact this, ?_⟩
        exact hstop A c q own1 _ (by omega) (fun hb => (hne _ hb).1 rfl) hq (hIx c _ _ _ _ hi ((Lv.putObj (D := fun k => k = A + 1) W2 _ _ rfl).mono (fun b _ e hb => (hne b hb).2 e))) (by rw [hA]; exact (fin2 own' own1 W2 _ e1 hne ho hv).1) (fin2 own' own1 W2 _ e1 hne ho hv).2 (hRz _ _ hz ((Lv.putObj (D := fun k => k = A + 1) W2 _ _ rfl).mono (fun b _ e hb => by have := hDA b hb; omega))) ((World.putObj_heap_other (by omega)).trans hk)

/-- A function's return where several ranges over functions have left their marks. -/
theorem leaves_marks {F : Fence} {n : Nat} {P : Program} {fn : Func} {tmps : Array Value} {R : Ending → World → Prop} {v : Value} (hres : ∀ W, (results fn tmps).run P W = .ok v W) :
    ∀ (Es : List Nat) (W : World), (∀ E ∈ Es, W.heap[E]? = some (.deferred (some []))) → Es.Nodup → (∀ W', Lv (fun k => k ∈ Es) W W' → R (.returned v) W') →
      LeavesInM F n P fn tmps R (Es.map fun E => { target := .collected E, args := #[] }) .returning W
  | [], W, _, _, h => ⟨v, hres W, h W (Lv.refl _ W)⟩
  | E :: Es, W, hE, hn, h => by
    have h0 := hE E (by simp)
    have hlt : E < W.heap.size := (Array.getElem?_eq_some_iff.1 h0).1
    obtain ⟨hni, hn'⟩ := List.nodup_cons.1 hn
    have hv : Lv (fun k => k = E) W (W.putObj E (.deferred none)) := Lv.putObj W E _ rfl
    refine ⟨by simp, .inl ⟨E, _, rfl, run_takeDeferred h0, ?_⟩⟩
    refine leaves_marks hres Es _ (fun e he => hv.heap (hE e (by simp [he])) (fun h => hni (h ▸ he))) hn' (fun W' hw => h W' ?_)
    exact hv.trans hw (fun b _ e => by simp [e]) (fun b _ e => by simp [e])
end Go.Proofs.Ytccibfldadflkaa

namespace Go.Proofs.Ytccibfldadflkaa
open Go.RowKit
attribute [local go_sem] Oper.semAt_some

/-- The block of a row of four ints begins with x. -/
def RowX (bp : Nat) (x : List Int) (V : World) : Prop := V.ownsRow 0 3 1 (.slice (some ⟨bp, 0, none⟩) x.length 4) x.length (x.map (Value.int .i64))
def encX (bp : Nat) (x : List Int) : Array Value := #[.slice (some ⟨bp, 0, none⟩) x.length 4]
theorem RowX.lv {bp : Nat} {x : List Int} {V V' : World} {D : Nat → Prop} (h : RowX bp x V) (hv : Lv D V V') (hn : ¬ D bp) : RowX bp x V' := by
  refine ⟨h.1, ?_⟩
  rcases h.2 with hn' | ⟨g, cap, cur, e, hb, hg, r⟩
  · exact .inl hn'
  · cases e
    exact .inr ⟨bp, 4, cur, rfl, hb, hv.heap hg hn, r⟩
theorem RowX.ints {bp : Nat} {x : List Int} {V : World} (h : RowX bp x V) : IntsAt V (.slice (some ⟨bp, 0, none⟩) x.length 4) x := row_at h rfl
theorem RowX.block {bp : Nat} {x : List Int} {V : World} (h : RowX bp x V) : ∃ cs, V.heap[bp]? = some (.cells cs 3 (0, 0)) := by
  rcases h.2 with ⟨e, -⟩ | ⟨g, cap, cur, e, hb, hg, r⟩
  · cases e
  · cases e; exact ⟨cur, hg⟩
/-- A shorter beginning of the row. -/
theorem RowX.front {bp : Nat} {x y : List Int} {V : World} (h : RowX bp (x ++ y) V) : RowX bp x V := by
  rcases h.2 with ⟨e, -⟩ | ⟨g, cap, cur, e, hb, hg, h1, h2, h3, h4⟩
  · cases e
  · cases e
    rw [List.length_append] at h1 h4
    refine ⟨by simp, .inr ⟨bp, 4, cur, rfl, hb, hg, by omega, h2, h3, ?_⟩⟩
    have h5 := congrArg (List.take x.length) h4
    rw [List.take_take, Nat.min_eq_left (by omega), List.map_append, List.take_append_of_le_length (by simp)] at h5
    rw [Nat.mul_one, h5, List.take_of_length_le (by simp)]
theorem round_wide {m m' : Nat} {P : Program} {l : Nat} {f : FuncId} {tmps : Array Value} {assign body : Code} {w : World} {R : Ending → World → Prop} (h : RoundIn Fence.wide m P l f tmps assign body w R) : RoundIn Fence.wide m' P l f tmps assign body w R := ⟨h.1, fun c cs _ => h.2 c cs (room_wide _)⟩
theorem box_cell {W : World} {B : Nat} {v : Value} {t : TypeId} (h : W.heap[B]? = some (.cells #[v] t (0, 0))) : W.cell? ⟨B, 0, none⟩ = some v := by simp [World.cell?, h]

set_option linter.unusedVariables false in
set_option maxHeartbeats 2000000 in
theorem prefixes_last (ls : List Lp) (bp P1 N1 m m' n c : Nat) (pn : Option Addr) (ps : List Int) (Z : Nat → Prop) (w : World) (hn : ps.length = n) (hn4 : n ≤ 4) (hrow : RowX bp ps w)
    (hp : w.heap[P1]? = some (.cells #[.slice (some ⟨bp, 0, none⟩) ps.length 4] 22 (0, 0))) (hN : w.heap[N1]? = some (.cells #[.slice pn n c] 34 (0, 0))) (hZb : Z bp) (hZp : Z P1) (hZn : Z N1) :
    SeqSep Fence.wide m m' Try.prog 79 #[.pointer (some ⟨P1, 0, none⟩), .pointer (some ⟨N1, 0, none⟩)] (encX bp) (RowX bp) (RowX bp ps) (fun k => k = bp) Z (pre ls 0 ps) w := by
  intro l J Jx own W hv hJ hJx hown hY h0
  have hp1 := hv.heap hp (fun h => h)
  have hN1 := hv.heap hN (fun h => h)
  have hr1 := hrow.lv hv (fun h => h)
  obtain ⟨V, hV⟩ : ∃ V, W.alloc (.cells #[.func (.yield l) #[] #[]] 99) = V := ⟨_, rfl⟩
  have hvV : Lv (fun _ => False) W V := by rw [← hV]; exact Lv.alloc _ W _
  have hVb : V.cell? ⟨W.heap.size, 0, none⟩ = some (.func (.yield l) #[] #[]) := box_cell (by rw [← hV]; exact World.alloc_heap_new W _)
  have hsV : V.heap.size = W.heap.size + 1 := by rw [← hV]; simp
  have hpV := hvV.heap hp1 (fun h => h)
  have hNV := hvV.heap hN1 (fun h => h)
  have hpc := box_cell hpV
  obtain ⟨fn, tmps, assign, body, hy, hR⟩ := hY [] ps own V (hJ _ _ _ _ h0 (hvV.mono (fun _ _ h => h.elim))) (by simp [pre]) (hr1.lv hvV (fun h => h)) (fun b hb => ⟨by have := (hown b hb).1; omega, (hown b hb).2⟩)
  dsimp only [encX] at hy
  rw [hn] at hy hpV hpc
  have fin : ∀ (V2 : World) (own' : List Nat), Grew own own' V V2 → (∀ b ∈ own', (b ∈ own ∨ W.heap.size ≤ b) ∧ b < V2.heap.size) ∧ Lv (fun k => k ∈ own ∨ k = bp) W V2 := fun V2 own' hg => ⟨fun b hb => by
    obtain ⟨h1, h2⟩ := hg.2 b hb
    refine ⟨?_, h2⟩
    rcases h1 with h | h
    · exact .inl h
    · exact .inr (by omega), hvV.trans hg.1 (fun _ _ h => h.elim) (fun _ _ h => .inl h)⟩
  have HWN := Lib.hid hsV; have FIN := Lib.hid fin; clear fin
  have hb : ((n : Int) == (n : Int)) = true := by simp
  have HPS := Lib.hid hn
  have HR1 := Lib.hid hr1
  clear hY hJ hJx h0 hsV hn hr1 hrow
  refine callsIn_of_wp Try.func79 rfl trivial ?_ rfl
  simp only [Try.ntmps79, List.size_toArray, List.length_cons, List.length_nil, Nat.reduceAdd, Nat.reduceSub, Array.replicate_succ, Array.replicate_zero, List.push_toArray, List.append_toArray, List.nil_append, List.cons_append]
  have hdd : ∀ k : Nat, (Fence.wide.depth.isSome = true → 1 ≤ k) := fun k h => by cases h
  gi_wp2_with (refine ⟨hdd _, ?_⟩; refine (round_wide hR).mono ?_; clear hR; rintro e V2 ⟨own', hg, (⟨rfl, hj⟩ | ⟨rfl, hj⟩)⟩ <;> have hpc2 := box_cell (hg.1.heap hpV (fun h => (hown _ h).2 hZp)) <;> have hnc2 := box_cell (hg.1.heap hNV (fun h => (hown _ h).2 hZn)))
  all_goals try refine bodyPost_ret (results_none rfl _ _ _) rfl ?_
  · exact ⟨⟨_, rfl⟩, own', (FIN.out V2 own' hg).1, (FIN.out V2 own' hg).2, (HR1.out.lv hvV (fun h => h)).lv hg.1 (fun h => (hown _ h).2 hZb), .inl hj⟩
  · exact ⟨⟨_, rfl⟩, own', (FIN.out V2 own' hg).1, (FIN.out V2 own' hg).2, (HR1.out.lv hvV (fun h => h)).lv hg.1 (fun h => (hown _ h).2 hZb), .inr ⟨[ps], List.prefix_refl _, hj⟩⟩

/-- An append for which there is room, at a step of a region that draws its order. -/
theorem step_append_spare {P : Program} (w : World) {ops : Array Oper} {o : Oper} {a : Act} {K : Act → World → Prop} {Q : Exit → Act → World → Prop} {E : Prop} (hgd : o.guard = none) (s x : Operand) (t : TypeId)
    (ho : o.op = .call { callee := .builtin .append, args := #[s, x], argTypes := #[t, t] })
    (base : Nat) (e : TypeId) (i : TypeInfo) (size : Nat) (ht : P.underlying t = some (.slice e)) (hi : P.info? e = some i) (hsize : i.size = size)
    (g n cap : Nat) (xs : List Value) (hs : a.eval s = .slice (some ⟨g, 0, none⟩) n cap) (hown : w.ownsRow base e size (.slice (some ⟨g, 0, none⟩) n cap) n xs)
    (ad : Addr) (m c : Nat) (news : List Value) (hx : a.eval x = .slice (some ad) m c) (hl : news.length = m * size) (hnews : ∀ j u, news[j]? = some u → w.cell? (ad.add j) = some u) (h1 : ∀ u ∈ news, u.oneCell' = true)
    (hroom : n + m ≤ cap)
    (h : ∀ w', w'.ownsRow base e size (.slice (some ⟨g, 0, none⟩) (n + m) cap) (n + m) (xs ++ news) → w.grownBy w' (some g) → K (a.put o.dst (.slice (some ⟨g, 0, none⟩) (n + m) cap)) w') :
    if Region.wanted o (yielded ops a.tmps) = true then Oper.wp P o a w K Q else E := by
  have hw : Region.wanted o (yielded ops a.tmps) = true := by simp [Region.wanted, hgd]
  rw [if_pos hw]
  exact wp_append_own_spare w s x t ho base e i size ht hi hsize g n cap xs hs hown ad m c news hx hl hnews h1 hroom h
theorem Ext.lv {D : Nat → Prop} {A B : World} (h : Ext A B) : Lv D A B := ⟨h.os, h.tape, h.output, h.size, fun k hk _ => h.block k hk⟩
set_option linter.unusedVariables false in
/-- The iterator's maker: boxes for the nest and for the row, and the closure. -/
theorem prefixes_call (p q : Option Addr) (n c k c' : Nat) (w : World) :
    Calls Try.prog 50 #[.slice p n c, .slice q k c'] w fun e w' => e = .returned (.func (.func 79) #[] #[.pointer (some ⟨w.heap.size + 1, 0, none⟩), .pointer (some ⟨w.heap.size, 0, none⟩)]) ∧
      w' = (w.alloc (.cells #[.slice p n c] 34)).alloc (.cells #[.slice q k c'] 22) := by
  go_enter Try.func50, Try.ntmps50
  go_wp2
  go_ret
  exact ⟨rfl, rfl⟩
end Go.Proofs.Ytccibfldadflkaa

namespace Go.Proofs.Ytccibfldadflkaa
open Go.RowKit
attribute [local go_sem] Oper.semAt_some

theorem Lv.ext0 {D : Nat → Prop} {W0 A B : World} (h : Lv D A B) (hE : Ext W0 A) (hD : ∀ b, b < W0.heap.size → ¬ D b) : Ext W0 B :=
  Below.trans hE ⟨h.os, h.tape, h.output, h.size, fun b hb => h.block b (Nat.lt_of_lt_of_le hb hE.size_le) (hD b hb)⟩
theorem round_any {m m' : Nat} {P : Program} {l l2 : Nat} {f : FuncId} {tmps : Array Value} {assign body : Code} {w : World} {R : Ending → World → Prop} (h : RoundIn Fence.wide m P l f tmps assign body w R) : RoundIn (Fence.wide.inRound l2) m' P l f tmps assign body w R := ⟨h.1, fun c cs _ => h.2 c cs (room_wide _)⟩
theorem Lv.drew0 (D : Nat → Prop) (W : World) : Lv D W W.drew := ⟨rfl, rfl, rfl, Nat.le_refl _, fun _ _ _ => rfl⟩
theorem listLoop_snoc (f : Int → List (List Int)) : ∀ (k : Nat) (v : Int), listLoop f (k + 1) v = listLoop f k v ++ f (v + k)
  | 0, v => by simp [listLoop]
  | k + 1, v => by
    rw [listLoop, listLoop_snoc f k (v + 1), ← List.append_assoc]
    rw [show v + ((k + 1 : Nat) : Int) = v + 1 + k by omega]
    rfl
theorem listLoop_split (f : Int → List (List Int)) : ∀ (j k : Nat) (v : Int), j ≤ k → ∃ r, listLoop f k v = listLoop f j v ++ r
  | 0, k, v, _ => ⟨_, rfl⟩
  | j + 1, 0, v, h => by omega
  | j + 1, k + 1, v, h => by
    obtain ⟨r, hr⟩ := listLoop_split f j k (v + 1) (by omega)
    exact ⟨r, by simp only [listLoop]; rw [hr, List.append_assoc]⟩

set_option linter.unusedVariables false in
set_option maxRecDepth 100000 in
set_option maxHeartbeats 2000000 in
theorem prefixes_next (W0 : World) (ls : List Lp) (hnb : nestB ls = true) (d bp P1 N1 m m' n k c : Nat) (pn : Option Addr) (ps : List Int) (Z : Nat → Prop) (w : World) (hs : LoopsAt W0 (.slice pn n c) ls) (hE : Ext W0 w) (hpb : PB ps) (hln : ls.length = n) (hn : ps.length = k) (hkd : k + (d + 1) = n) (hn4 : n ≤ 4) (hrow : RowX bp ps w)
    (hp : w.heap[P1]? = some (.cells #[.slice (some ⟨bp, 0, none⟩) ps.length 4] 22 (0, 0))) (hN : w.heap[N1]? = some (.cells #[.slice pn n c] 34 (0, 0))) (hZb : Z bp) (hZp : Z P1) (hZn : Z N1) (hZ0 : ∀ b, b < W0.heap.size → Z b) (hZw : ∀ b, Z b → b < w.heap.size)
    (IH : ∀ (bp P1 N1 : Nat) (ps : List Int) (Z : Nat → Prop) (w : World), Ext W0 w → PB ps → ps.length + d = n → RowX bp ps w → W0.heap.size ≤ bp →
      w.heap[P1]? = some (.cells #[.slice (some ⟨bp, 0, none⟩) ps.length 4] 22 (0, 0)) → w.heap[N1]? = some (.cells #[.slice pn n c] 34 (0, 0)) → Z bp → Z P1 → Z N1 → (∀ b, b < W0.heap.size → Z b) → (∀ b, Z b → b < w.heap.size) →
      ∀ m m', SeqSep Fence.wide m m' Try.prog 79 #[.pointer (some ⟨P1, 0, none⟩), .pointer (some ⟨N1, 0, none⟩)] (encX bp) (RowX bp) (RowX bp ps) (fun b => b = bp) Z (pre ls d ps) w) (hb0 : W0.heap.size ≤ bp) :
    SeqSep Fence.wide m m' Try.prog 79 #[.pointer (some ⟨P1, 0, none⟩), .pointer (some ⟨N1, 0, none⟩)] (encX bp) (RowX bp) (RowX bp ps) (fun b => b = bp) Z (pre ls (d + 1) ps) w := by
  intro l J Jx own W hv hJ hJx hown hY h0
  have hp1 := hv.heap hp (fun h => h)
  have hN1 := hv.heap hN (fun h => h)
  have hr1 := hrow.lv hv (fun h => h)
  obtain ⟨V, hV⟩ : ∃ V, W.alloc (.cells #[.func (.yield l) #[] #[]] 99) = V := ⟨_, rfl⟩
  have hvV : Lv (fun _ => False) W V := by rw [← hV]; exact Lv.alloc _ W _
  have hVb : V.cell? ⟨W.heap.size, 0, none⟩ = some (.func (.yield l) #[] #[]) := box_cell (by rw [← hV]; exact World.alloc_heap_new W _)
  have hsV : V.heap.size = W.heap.size + 1 := by rw [← hV]; simp
  have hpV := hvV.heap hp1 (fun h => h)
  have hNV := hvV.heap hN1 (fun h => h)
  have hpc := box_cell hpV
  obtain ⟨fn, tmps, assign, body, hy, hR⟩ := hY [] ps own V (hJ _ _ _ _ h0 (hvV.mono (fun _ _ h => h.elim))) (by simp [pre]) (hr1.lv hvV (fun h => h)) (fun b hb => ⟨by have := (hown b hb).1; omega, (hown b hb).2⟩)
  dsimp only [encX] at hy
  rw [hn] at hy hpV hpc
  have fin : ∀ (V2 : World) (own' : List Nat), Grew own own' V V2 → (∀ b ∈ own', (b ∈ own ∨ W.heap.size ≤ b) ∧ b < V2.heap.size) ∧ Lv (fun b => b ∈ own ∨ b = bp) W V2 := fun V2 own' hg => ⟨fun b hb => by
    obtain ⟨h1, h2⟩ := hg.2 b hb
    refine ⟨?_, h2⟩
    rcases h1 with h | h
    · exact .inl h
    · exact .inr (by omega), hvV.trans hg.1 (fun _ _ h => h.elim) (fun _ _ h => .inl h)⟩
  have HWN := Lib.hid hsV; have FIN := Lib.hid fin; clear fin
  have hb : ((k : Int) == (n : Int)) = false := by simp; omega
  have HPS := Lib.hid hn
  clear h0 hsV hn
  refine callsIn_of_wp_marks Try.func79 rfl trivial ?_ rfl
  simp only [Try.ntmps79, List.size_toArray, List.length_cons, List.length_nil, Nat.reduceAdd, Nat.reduceSub, Array.replicate_succ, Array.replicate_zero, List.push_toArray, List.append_toArray, List.nil_append, List.cons_append]
  have hdd : ∀ j : Nat, (Fence.wide.depth.isSome = true → 1 ≤ j) := fun j h => by cases h
  gi_wp2_with (refine ⟨hdd _, ?_⟩; refine (round_wide hR).mono ?_; clear hR; rintro e V2 ⟨own', hg, (⟨rfl, hj⟩ | ⟨rfl, hj⟩)⟩ <;> have hpc2 := box_cell (hg.1.heap hpV (fun h => (hown _ h).2 hZp)) <;> have hnc2 := box_cell (hg.1.heap hNV (fun h => (hown _ h).2 hZn)))
  · have E2 : Ext W0 V2 := hg.1.ext0 (hvV.ext0 (hv.ext0 hE (fun _ _ h => h)) (fun _ _ h => h)) (fun b hb h => (hown b h).2 (hZ0 b hb))
    obtain ⟨x, hx⟩ := get_some (xs := ls) (k := k) (by omega)
    obtain ⟨s1, s2⟩ := nest_side hnb hx
    obtain ⟨b, off, q, m2, q', m3, rfl, c0, c1, hbl, hr, hr'⟩ := (hs.ext E2).elem hx
    have hr2 : RowX bp ps V2 := (hr1.lv hvV (fun h => h)).lv hg.1 (fun h => (hown _ h).2 hZb)
    have HF : Hid (IntsAt V2 (.slice (some ⟨bp, 0, none⟩) k 4) ps) := Lib.hid (by rw [← HPS.out]; exact hr2.ints)
    have HPK := Lib.hid (hpb.pt (by rw [HPS.out]; omega))
    have HR1 := Lib.hid hr; have HR2 := Lib.hid hr'; have S1 := Lib.hid s1; have S2 := Lib.hid s2
    have hkn : (k : Int) < (n : Int) := by omega
    have HV2 := Lib.hid hg; have HV := Lib.hid hv; have HVV := Lib.hid hvV; have HE2 := Lib.hid E2
    have HPRE : Hid (pre ls (d + 1) ps = [ps] ++ listLoop (fun v => pre ls d (ps ++ [v])) (hiV x ps - loV x ps).toNat (loV x ps)) := Lib.hid (by
      simp only [pre, trips]
      rw [lpAt_of (by rw [HPS.out]; exact hx)]
      rfl)
    obtain ⟨i0, hi0, hz0', hz1', hz2'⟩ := info_parts infoInt
    clear hr hr' s1 s2 hv hvV hg E2 hx
    refine wpIn_wide.2 ?_
    go_region_held3 (fun W => W.cell? ⟨P1, 0, none⟩ = some (.slice (some ⟨bp, 0, none⟩) k 4) ∧ W.cell? ⟨N1, 0, none⟩ = some (.slice (some ⟨b, off, none⟩) n c) ∧ W.cell? ⟨b, off + k * 2, none⟩ = some (.slice q x.1.length m2) ∧ W.cell? ⟨b, off + k * 2 + 1, none⟩ = some (.slice q' x.2.length m3))
      (first
        | exact ⟨hpc2, hnc2, c0, c1⟩
        | exact ⟨g3.keep hpc2, g3.keep hnc2, g3.keep c0, g3.keep c1⟩
        | fail)
      (first
        | (go_at_call 80; (with_reducible refine (span_any _ _ x _ ps _ (HR1.out.ext (Ext.refl V2).drew) (HR2.out.ext (Ext.refl V2).drew) (HF.out.ext (Ext.refl V2).drew) S1.out S2.out HPK.out).mono ?_); rintro e w3 ⟨rfl, hE3⟩; have g3 : Ext V2 w3 := (Ext.refl V2).drew.trans hE3)
        | fail)
    have G3 := Lib.hid g3
    have HRW := Lib.hid hr2
    rw [HPS.out] at hp1; have HPV := Lib.hid hp1; have HNV := Lib.hid hN1; have HVB := Lib.hid hVb
    have hz0 : P1 ≠ bp := fun e => by
      obtain ⟨cs, hcs⟩ := hr1.block
      rw [e, hcs] at hp1
      cases hp1
    have hz1 : N1 ≠ bp := fun e => by
      obtain ⟨cs, hcs⟩ := hr1.block
      rw [e, hcs] at hN1
      cases hN1
    have HRB := Lib.hid hr1.block; have HWW : Hid (w.heap.size ≤ W.heap.size) := Lib.hid HV.out.size
    clear hp1 hN1 hpV hNV hVb hpc hpc2 hnc2 c0 c1 hy hr1 hrow hp hN hE3
    have hlo := lo_bd S1.out hpb (by rw [HPS.out]; omega)
    have hhi := hi_bd S2.out hpb (by rw [HPS.out]; omega)
    generalize loV x ps = lo at *
    generalize hiV x ps = hi at *
    have hlv3 : Lv (fun b => b ∈ own ∨ b = bp) V w3 := HV2.out.1.trans (Ext.lv (D := fun _ => False) G3.out) (fun _ _ h => .inl h) (fun _ _ h => h.elim)
    have HL3 : Hid (Lv (fun b => b ∈ own ∨ b = bp) W w3 ∧ w3.heap[W.heap.size]? = some (.cells #[.func (.yield l) #[] #[]] 99 (0, 0))) := Lib.hid ⟨HVV.out.trans hlv3 (fun _ _ h => h.elim) (fun _ _ h => h), hlv3.heap (by rw [← hV]; exact World.alloc_heap_new W _) (fun h => h.elim (fun h1 => by have := (hown _ h1).1; omega) (fun h1 => by have := hZw _ hZb; have := HWW.out; omega))⟩
    have HJ3 := Lib.hid (hJ _ _ _ _ hj (Ext.lv G3.out)); have HRW3 := Lib.hid (HRW.out.lv (D := fun _ => False) (Ext.lv G3.out) (fun h => h))
    have HO3 : Hid (∀ b ∈ own', (b ∈ own ∨ V.heap.size ≤ b) ∧ b < w3.heap.size) := Lib.hid (fun b hb => ⟨(HV2.out.2 b hb).1, Nat.lt_of_lt_of_le (HV2.out.2 b hb).2 G3.out.size_le⟩)
    clear hlv3 hj
    gi_wp2
    refine wpIn_loop (fun a' wr => ∃ (u7 u30 u31 u32 u33 u34 u35 u36 u37 u38 u39 u40 u41 u42 u43 u44 u45 : Value) (j : Nat) (own1 Es : List Nat), (j ≤ (hi - lo).toNat ∧ J ([ps] ++ listLoop (fun v => pre ls d (ps ++ [v])) j lo) own1 wr ∧ (∀ b ∈ own1, (b ∈ own ∨ V.heap.size ≤ b) ∧ b < wr.heap.size) ∧ (Lv (fun b => b ∈ own ∨ b = bp) W wr ∧ wr.heap[W.heap.size]? = some (.cells #[.func (.yield l) #[] #[]] 99 (0, 0))) ∧ RowX bp ps wr ∧ (∀ E ∈ Es, wr.heap[E]? = some (.deferred (some [])) ∧ V.heap.size ≤ E ∧ E ∉ own1) ∧ Es.Nodup) ∧
      a' = { tmps := #[.func (.yield l) #[] #[], .pointer (some ⟨P1, 0, none⟩), .pointer (some ⟨N1, 0, none⟩), .pointer (some ⟨W.heap.size, 0, none⟩), .int .i64 lo, .int .i64 hi, .int .i64 (lo + (j : Int)), u7, .func (.yield l) #[] #[], .slice (some ⟨bp, 0, none⟩) k 4, .bool true, .bool false, .bool false, .slice (some ⟨bp, 0, none⟩) k 4, .int .i64 (k : Int), .slice (some ⟨b, off, none⟩) n c, .int .i64 (n : Int), .bool false, .bool false, .tuple #[.int .i64 lo, .int .i64 hi], .slice (some ⟨b, off, none⟩) n c, .slice (some ⟨bp, 0, none⟩) k 4, .int .i64 (k : Int), .pointer (some ⟨b, off + k * 2, none⟩), .agg #[.slice q x.1.length m2, .slice q' x.2.length m3], .slice (some ⟨bp, 0, none⟩) k 4, .tuple #[.int .i64 lo, .int .i64 hi], .int .i64 lo, .int .i64 hi, .int .i64 lo, u30, u31, u32, u33, u34, u35, u36, u37, u38, u39, u40, u41, u42, u43, u44, u45], defers := Es.map fun E => { target := .collected E, args := #[] } }) (fun a' _ => (hi - intOf (a'.tmps.getD 6 undef)).toNat) ?_ ?_
    · exact ⟨undef, undef, undef, undef, undef, undef, undef, undef, undef, undef, undef, undef, undef, undef, undef, undef, undef, 0, own', [], ⟨by omega, by simpa [listLoop] using HJ3.out, HO3.out, HL3.out, HRW3.out, by simp, by simp⟩, by simp⟩
    · clear HJ3 HO3 HL3 HRW3
      rintro a' wr ⟨u7, u30, u31, u32, u33, u34, u35, u36, u37, u38, u39, u40, u41, u42, u43, u44, u45, j, own1, Es, ⟨hjt, hj1, ho1, ⟨hl1, hyb⟩, hrw1, hes, hnd⟩, rfl⟩
      have hwp := hl1.heap HPV.out (fun h => h.elim (fun h => (hown _ h).2 hZp) hz0)
      have hwn := hl1.heap HNV.out (fun h => h.elim (fun h => (hown _ h).2 hZn) hz1)
      have hcp := box_cell hwp
      have hcn := box_cell hwn
      have HWP := Lib.hid hwp; have HWN' := Lib.hid hwn
      have HJ1 := Lib.hid hj1; have HO1 := Lib.hid ho1; have HL1 := Lib.hid hl1; have HRW1 := Lib.hid hrw1
      have HRK : Hid (wr.ownsRow 0 3 1 (.slice (some ⟨bp, 0, none⟩) k 4) k (ps.map (Value.int .i64))) := Lib.hid (by rw [← HPS.out]; exact hrw1)
      have HYB := Lib.hid hyb
      clear hwp hwn hj1 ho1 hl1 hrw1 hyb
      by_cases hlt : lo + (j : Int) < hi
      · have hk4 : k + 1 ≤ 4 := by omega
        have hcpA := (((Ext.refl wr).alloc (.cells #[.int .i64 (lo + (j : Int))] 3)).drew).keep hcp
        have hcnA := (((Ext.refl wr).alloc (.cells #[.int .i64 (lo + (j : Int))] 3)).drew).keep hcn
        have HRA : Hid (((wr.alloc (.cells #[.int .i64 (lo + (j : Int))] 3)).drew).ownsRow 0 3 1 (.slice (some ⟨bp, 0, none⟩) k 4) k (ps.map (Value.int .i64))) := Lib.hid (HRK.out.alloc (.cells #[.int .i64 (lo + (j : Int))] 3))
        have HNW : Hid (∀ q u, [Value.int .i64 (lo + (j : Int))][q]? = some u → ((wr.alloc (.cells #[.int .i64 (lo + (j : Int))] 3)).drew).cell? ((⟨wr.heap.size, 0, none⟩ : Addr).add q) = some u) := Lib.hid (one_cell (w := wr) (u := .int .i64 (lo + (j : Int))) (t := 3) rfl)
        have HOC : Hid (∀ u ∈ [Value.int .i64 (lo + (j : Int))], u.oneCell' = true) := Lib.hid (by intro u hu; simp at hu; subst hu; rfl)
        gi_wp2
        refine wpIn_wide.2 ?_
        go_region_held3 (fun W => W.cell? ⟨P1, 0, none⟩ = some (.slice (some ⟨bp, 0, none⟩) k 4) ∧ W.cell? ⟨N1, 0, none⟩ = some (.slice (some ⟨b, off, none⟩) n c))
          (first
            | exact ⟨hcp, hcn⟩
            | with_reducible exact ⟨hcpA, hcnA⟩
            | with_reducible exact ⟨hcp5, hcn5⟩
            | with_reducible exact ⟨hcp6, hcn6⟩
            | fail)
          (first
            | (refine step_append_spare _ rfl (.tmp 36) (.tmp 38) 22 rfl 0 3 i0 1 Try.underlying22 hi0 hz1' bp k 4 (ps.map (Value.int .i64)) rfl HRA.out ⟨wr.heap.size, 0, none⟩ 1 1 [.int .i64 (lo + (j : Int))] rfl rfl HNW.out HOC.out hk4 ?_; intro w5 hown5 hgr5; have hcp5 := hgr5.cell hcpA (fun e => hz0 (Option.some.inj e)); have hcn5 := hgr5.cell hcnA (fun e => hz1 (Option.some.inj e)))
            | (go_at_call 50; refine (prefixes_call _ _ _ _ _ _ _).mono ?_; rintro e w6 ⟨rfl, rfl⟩; have hcp6 := (((Ext.refl w5).alloc (.cells #[.slice (some ⟨b, off, none⟩) n c] 34)).alloc (.cells #[.slice (some ⟨bp, 0, none⟩) (k + 1) 4] 22)).keep hcp5; have hcn6 := (((Ext.refl w5).alloc (.cells #[.slice (some ⟨b, off, none⟩) n c] 34)).alloc (.cells #[.slice (some ⟨bp, 0, none⟩) (k + 1) 4] 22)).keep hcn5)
            | fail)
        obtain ⟨w6, hw6⟩ : ∃ w6, ((w5.alloc (.cells #[.slice (some ⟨b, off, none⟩) n c] 34)).alloc (.cells #[.slice (some ⟨bp, 0, none⟩) (k + 1) 4] 22)) = w6 := ⟨_, rfl⟩
        have hv56 : Lv (fun _ => False) w5 w6 := by rw [← hw6]; exact (Lv.alloc _ w5 _).trans (Lv.alloc (fun _ => False) _ _) (fun _ _ h => h) (fun _ _ h => h)
        have hvr5 : Lv (fun b => b = bp) wr w5 := ((Lv.alloc (fun _ => False) wr (.cells #[.int .i64 (lo + (j : Int))] 3)).trans (Lv.drew0 (fun _ => False) _) (E := fun _ => False) (fun _ _ h => h) (fun _ _ h => h)).trans (Lv.grown (D := fun b => b = bp) hgr5 (fun r e _ => (Option.some.inj e).symm)) (fun _ _ h => h.elim) (fun _ _ h => h)
        have hvr6 : Lv (fun b => b = bp) wr w6 := hvr5.trans hv56 (fun _ _ h => h) (fun _ _ h => h.elim)
        have hbo : bp ∉ own1 := fun h => ((HO1.out bp h).1).elim (fun h1 => (hown _ h1).2 hZb) (fun h1 => by have := hZw _ hZb; have := HWW.out; have := HWN.out; omega)
        have hJ6 := hJ _ _ _ _ HJ1.out (hvr6.mono (fun b' _ e h => hbo (e ▸ h)))
        have hrow6 : RowX bp (ps ++ [lo + (j : Int)]) w6 := RowX.lv (D := fun _ => False) (V := w5) (by
          unfold RowX
          rw [List.length_append, HPS.out, List.map_append]
          exact hown5) hv56 (fun h => h)
        have hs56 : w6.heap.size = w5.heap.size + 2 := by rw [← hw6]; simp
        have hsr : wr.heap.size ≤ w5.heap.size := hvr5.size
        have HP6 : Hid (w6.heap[w5.heap.size + 1]? = some (.cells #[.slice (some ⟨bp, 0, none⟩) (ps ++ [lo + (j : Int)]).length 4] 22 (0, 0))) := Lib.hid (by
          rw [← hw6, List.length_append, HPS.out]
          have := World.alloc_heap_new (w5.alloc (.cells #[.slice (some ⟨b, off, none⟩) n c] 34)) (.cells #[.slice (some ⟨bp, 0, none⟩) (k + 1) 4] 22)
          rwa [World.size_alloc] at this)
        have HN6 : Hid (w6.heap[w5.heap.size]? = some (.cells #[.slice (some ⟨b, off, none⟩) n c] 34 (0, 0))) := Lib.hid (by
          rw [← hw6]; exact (Below.heap_alloc _ _ _ (by simp)).trans (World.alloc_heap_new w5 _))
        have HEV : Hid (Ext W0 W) := Lib.hid (HV.out.ext0 hE (fun _ _ h => h))
        have HE6 : Hid (Ext W0 w6) := Lib.hid (hvr6.ext0 (HL1.out.ext0 HEV.out (fun b' hb' h => h.elim (fun h => (hown _ h).2 (hZ0 b' hb')) (fun h => by omega))) (fun b' hb' h => by omega))
        have HPB6 : Hid (PB (ps ++ [lo + (j : Int)])) := Lib.hid (hpb.push (by omega) (by omega))
        have HLN6 : Hid ((ps ++ [lo + (j : Int)]).length + d = n) := Lib.hid (by rw [List.length_append, HPS.out]; simp; omega)
        have hw0 := HWW.out
        have hw1 := HWN.out
        have hlv : W.heap.size < wr.heap.size := (Array.getElem?_eq_some_iff.1 HYB.out).1
        have HZ6 : Hid (∀ b', (Z b' ∨ b' = w5.heap.size + 1 ∨ b' = w5.heap.size) → b' < w6.heap.size) := Lib.hid (fun b' h => by
          rcases h with h | h | h
          · have := hZw _ h; omega
          · omega
          · omega)
        have HYN : Hid (W.heap.size ∉ own1) := Lib.hid (fun h => ((HO1.out _ h).1).elim (fun h1 => by have := (hown _ h1).1; omega) (fun h1 => by omega))
        have HB6 : Hid (w6.heap[W.heap.size]? = some (.cells #[.func (.yield l) #[] #[]] 99 (0, 0))) := Lib.hid (hvr6.heap HYB.out (fun h1 => by have := hZw _ hZb; omega))
        rw [hw6]
        gi_wp2
        obtain ⟨BASE, hBASE⟩ : ∃ B, [ps] ++ listLoop (fun v => pre ls d (ps ++ [v])) j lo = B := ⟨_, rfl⟩
        have HPFX : Hid (∃ r, pre ls (d + 1) ps = BASE ++ pre ls d (ps ++ [lo + (j : Int)]) ++ r) := Lib.hid (by
          obtain ⟨r, hr⟩ := listLoop_split (fun v => pre ls d (ps ++ [v])) (j + 1) (hi - lo).toNat lo (by omega)
          exact ⟨r, by rw [HPRE.out, hr, listLoop_snoc, ← hBASE]; simp⟩)
        rw [hBASE] at hJ6
        refine wpIn_rangeFunc_sep (w := w6) rfl (hdd _) (gf := 79) (lb := #[.pointer (some ⟨w5.heap.size + 1, 0, none⟩), .pointer (some ⟨w5.heap.size, 0, none⟩)]) rfl trivial (enters_of Try.func79 (by kernel_rfl) rfl)
          (IH bp (w5.heap.size + 1) w5.heap.size (ps ++ [lo + (j : Int)]) (fun b' => Z b' ∨ b' = w5.heap.size + 1 ∨ b' = w5.heap.size) w6 HE6.out HPB6.out HLN6.out hrow6 hb0 HP6.out HN6.out (.inl hZb) (.inr (.inl rfl)) (.inr (.inr rfl)) (fun b' h => .inl (hZ0 b' h)) HZ6.out _ _)
          HZ6.out (fun b' e => .inl (e ▸ hZb)) (fun x W1 W2 h hv => RowX.lv h hv (fun h => h rfl)) (fun W1 W2 h hv => RowX.lv h hv (fun h => h rfl)) (fun _ => rfl)
          (fun pre0 ow X => ∃ o1, ow = W.heap.size :: o1 ∧ W.heap.size ∉ o1 ∧ J (BASE ++ pre0) o1 X ∧ X.heap[W.heap.size]? = some (.cells #[.func (.yield l) #[] #[]] 99 (0, 0)))
          (fun cd pre0 ow X => cd = .ret ∧ ∃ o1, ow = W.heap.size :: o1 ∧ W.heap.size ∉ o1 ∧ Jx (BASE ++ pre0) o1 X)
          ?hI ?hIx (W.heap.size :: own1) ?hown ⟨own1, rfl, HYN.out, by simpa using hJ6, HB6.out⟩ (fun y => { tmps := #[.func (.yield l) #[] #[], .pointer (some ⟨P1, 0, none⟩), .pointer (some ⟨N1, 0, none⟩), .pointer (some ⟨W.heap.size, 0, none⟩), .int .i64 lo, .int .i64 hi, .int .i64 (lo + (j : Int)), .slice (some ⟨bp, 0, none⟩) y.length 4, .func (.yield l) #[] #[], .slice (some ⟨bp, 0, none⟩) k 4, .bool true, .bool false, .bool false, .slice (some ⟨bp, 0, none⟩) k 4, .int .i64 (k : Int), .slice (some ⟨b, off, none⟩) n c, .int .i64 (n : Int), .bool false, .bool false, .tuple #[.int .i64 lo, .int .i64 hi], .slice (some ⟨b, off, none⟩) n c, .slice (some ⟨bp, 0, none⟩) k 4, .int .i64 (k : Int), .pointer (some ⟨b, off + k * 2, none⟩), .agg #[.slice q x.1.length m2, .slice q' x.2.length m3], .slice (some ⟨bp, 0, none⟩) k 4, .tuple #[.int .i64 lo, .int .i64 hi], .int .i64 lo, .int .i64 hi, .int .i64 lo, .int .i64 (lo + (j : Int)), .int .i64 hi, .bool true, u33, u34, .slice (some ⟨b, off, none⟩) n c, .slice (some ⟨bp, 0, none⟩) k 4, .int .i64 (lo + (j : Int)), .slice (some ⟨wr.heap.size, 0, none⟩) 1 1, .slice (some ⟨bp, 0, none⟩) (k + 1) 4, .func (.func 79) #[] #[.pointer (some ⟨w5.heap.size + 1, 0, none⟩), .pointer (some ⟨w5.heap.size, 0, none⟩)], .slice (some ⟨bp, 0, none⟩) y.length 4, u42, u43, u44, u45], defers := [] }) ?assign ?body ?done ?stop
        case hI =>
          rintro s ow X X' ⟨o1, rfl, hn, hj, hy⟩ hv
          exact ⟨o1, rfl, hn, hJ _ _ _ _ hj (hv.mono (fun b _ h h2 => h (by simp [h2]))), hv.heap hy (by simp)⟩
        case hIx =>
          intro cd
          rintro s ow X X' ⟨hc, o1, rfl, hn, hj⟩ hv
          exact ⟨hc, o1, rfl, hn, hJx _ _ _ _ hj (hv.mono (fun b _ h h2 => h (by simp [h2])))⟩
        case hown =>
          intro b' hb'
          rcases List.mem_cons.1 hb' with rfl | h
          · exact ⟨by omega, fun h => by
              rcases h with h | h | h
              · have := hZw _ h; omega
              · omega
              · omega⟩
          · have h1 := HO1.out b' h
            refine ⟨by have := h1.2; omega, fun h2 => ?_⟩
            rcases h2 with h2 | h2 | h2
            · rcases h1.1 with h3 | h3
              · exact (hown _ h3).2 h2
              · have := hZw _ h2; omega
            · have := h1.2; omega
            · have := h1.2; omega
        case assign =>
          intro l2 y X K hK
          simp only [encX]
          gi_wp2
          exact hK
        case body =>
          rintro l2 pre0 y ow X ⟨o1, rfl, hn1, hj1, hy1⟩ hpx hrx hob
          obtain ⟨t, ht⟩ := hpx
          obtain ⟨r, hr⟩ := HPFX.out
          obtain ⟨fn2, tmps2, assign2, body2, hyy, hRR⟩ := hY (BASE ++ pre0) y o1 X hj1 ⟨t ++ r, by rw [hr, ← ht]; simp⟩ hrx (fun b' hb' => ⟨(hob b' (by simp [hb'])).1, fun h => (hob b' (by simp [hb'])).2 (.inl h)⟩)
          dsimp only [encX] at hyy
          have hyc := box_cell hy1
          have hdd2 : ∀ j : Nat, ((Fence.wide.inRound l2).depth.isSome = true → 1 ≤ j) := fun j h => by cases h
          clear hr ht
          gi_wp2_with (refine ⟨hdd2 _, ?_⟩; refine (round_any hRR).mono ?_; clear hRR; rintro e X2 ⟨o2, hg2, (⟨rfl, hj2⟩ | ⟨rfl, hj2⟩)⟩)
          all_goals (
            have hxs : W.heap.size < X.heap.size := (Array.getElem?_eq_some_iff.1 hy1).1
            have hn2 : W.heap.size ∉ o2 := fun h => ((hg2.2 _ h).1).elim hn1 (fun h1 => by omega)
            have hgG : Grew (W.heap.size :: o1) (W.heap.size :: o2) X X2 := ⟨hg2.1.mono (fun b' _ h => by simp [h]), fun b' hb' => by
              rcases List.mem_cons.1 hb' with rfl | h
              · exact ⟨.inl (by simp), Nat.lt_of_lt_of_le hxs hg2.1.size⟩
              · exact ⟨((hg2.2 _ h).1).imp (fun h => by simp [h]) id, (hg2.2 _ h).2⟩⟩)
          · exact ⟨W.heap.size :: o2, hgG, o2, rfl, hn2, by rw [← List.append_assoc]; exact hj2, hg2.1.heap hy1 hn1⟩
          · exact ⟨W.heap.size :: o2, hgG, rfl, o2, rfl, hn2, by rw [← List.append_assoc]; exact hj2⟩
        case done =>
          rintro E ow X hE6 hEn ⟨o1, rfl, hn1, hj1, hy1⟩ hob hv6 hz hdf
          have hbk := bnd_le ps.length
          have hlo9 : -99000 ≤ lo := by omega
          have hhi9 : hi ≤ 99000 := by omega
          have hXV : Lv (fun b => b ∈ own ∨ b = bp) W X := (HL1.out.trans hvr6 (fun _ _ h => h) (fun _ _ h => .inr h)).trans hv6 (fun _ _ h => h) (fun b' hb' h => by
            rcases h with h | h
            · rcases List.mem_cons.1 h with h | h
              · omega
              · exact ((HO1.out b' h).1).elim .inl (fun h1 => by omega)
            · exact .inr h)
          have hwx : w6.heap.size ≤ X.heap.size := hv6.size
          have hje : lo + ((j + 1 : Nat) : Int) = lo + (j : Int) + 1 := by omega
          have hXE : ∀ E' ∈ Es, X.heap[E']? = some (.deferred (some [])) ∧ V.heap.size ≤ E' ∧ E' ∉ o1 := fun E' h => by
            obtain ⟨h1, h2, h3⟩ := hes E' h
            have h4 : E' < wr.heap.size := (Array.getElem?_eq_some_iff.1 h1).1
            have hbl : bp < W.heap.size := by have := hZw _ hZb; omega
            refine ⟨hv6.heap (hvr6.heap h1 (fun h => by omega)) (fun h => ?_), h2, fun h => ?_⟩
            · rcases h with h | h
              · rcases List.mem_cons.1 h with h | h
                · omega
                · exact h3 h
              · omega
            · rcases (hob E' (by simp [h])).1 with h5 | h5
              · rcases List.mem_cons.1 h5 with h5 | h5
                · omega
                · exact h3 h5
              · omega
          have hEl : ∀ E' ∈ Es, E' < wr.heap.size := fun E' h => (Array.getElem?_eq_some_iff.1 (hes E' h).1).1
          have HFX : Hid (J ([ps] ++ listLoop (fun v => pre ls d (ps ++ [v])) (j + 1) lo) o1 X) := Lib.hid (by rw [listLoop_snoc, ← List.append_assoc, hBASE]; exact hj1)
          have HO2 : Hid (∀ b' ∈ o1, (b' ∈ own ∨ V.heap.size ≤ b') ∧ b' < X.heap.size) := Lib.hid (fun b' h => by
            obtain ⟨h1, h2⟩ := hob b' (by simp [h])
            refine ⟨?_, h2⟩
            rcases h1 with h1 | h1
            · rcases List.mem_cons.1 h1 with h1 | h1
              · exact absurd h (h1 ▸ hn1)
              · exact (HO1.out b' h1).1
            · exact .inr (by omega))
          have HXV := Lib.hid hXV; have HXE := Lib.hid hXE; have HHZ := Lib.hid hz; have HY1 := Lib.hid hy1
          have HEO : Hid (E ∉ o1) := Lib.hid (fun h => hEn (by simp [h]))
          have HNE : Hid ((E :: Es).Nodup) := Lib.hid (List.nodup_cons.2 ⟨fun h => by have := hEl E h; omega, hnd⟩)
          clear hXV hXE hEl hob hv6 hz hj1 hy1
          gi_wp2
          refine ⟨⟨u7, .int .i64 (lo + (j : Int)), .int .i64 hi, .bool true, .int .i64 (lo + (j : Int)), .int .i64 (lo + (j : Int) + 1), .slice (some ⟨b, off, none⟩) n c, .slice (some ⟨bp, 0, none⟩) k 4, .int .i64 (lo + (j : Int)), .slice (some ⟨wr.heap.size, 0, none⟩) 1 1, .slice (some ⟨bp, 0, none⟩) (k + 1) 4, .func (.func 79) #[] #[.pointer (some ⟨w5.heap.size + 1, 0, none⟩), .pointer (some ⟨w5.heap.size, 0, none⟩)], u41, u42, u43, u44, u45, j + 1, o1, E :: Es, ⟨by omega, HFX.out, HO2.out, ⟨HXV.out, HY1.out⟩, HHZ.out.front, fun E' h => ?_, HNE.out⟩, ?_⟩, ?_⟩
          · rcases List.mem_cons.1 h with rfl | h
            · exact ⟨hdf, by omega, HEO.out⟩
            · exact HXE.out E' h
          · rw [hje]; rfl
          · simp [intOf]; omega
        case stop =>
          rintro E cd pre0 ow X hE6 hEn hq ⟨rfl, o1, rfl, hn1, hj1⟩ hob hv6 hz hdf
          have hXV : Lv (fun b => b ∈ own ∨ b = bp) W X := (HL1.out.trans hvr6 (fun _ _ h => h) (fun _ _ h => .inr h)).trans hv6 (fun _ _ h => h) (fun b' hb' h => by
            rcases h with h | h
            · rcases List.mem_cons.1 h with h | h
              · omega
              · exact ((HO1.out b' h).1).elim .inl (fun h1 => by omega)
            · exact .inr h)
          have hwx : w6.heap.size ≤ X.heap.size := hv6.size
          have hje : lo + ((j + 1 : Nat) : Int) = lo + (j : Int) + 1 := by omega
          have hXE : ∀ E' ∈ Es, X.heap[E']? = some (.deferred (some [])) ∧ V.heap.size ≤ E' ∧ E' ∉ o1 := fun E' h => by
            obtain ⟨h1, h2, h3⟩ := hes E' h
            have h4 : E' < wr.heap.size := (Array.getElem?_eq_some_iff.1 h1).1
            have hbl : bp < W.heap.size := by have := hZw _ hZb; omega
            refine ⟨hv6.heap (hvr6.heap h1 (fun h => by omega)) (fun h => ?_), h2, fun h => ?_⟩
            · rcases h with h | h
              · rcases List.mem_cons.1 h with h | h
                · omega
                · exact h3 h
              · omega
            · rcases (hob E' (by simp [h])).1 with h5 | h5
              · rcases List.mem_cons.1 h5 with h5 | h5
                · omega
                · exact h3 h5
              · omega
          have hEl : ∀ E' ∈ Es, E' < wr.heap.size := fun E' h => (Array.getElem?_eq_some_iff.1 (hes E' h).1).1
          have HO2 : Hid (∀ b' ∈ o1, (b' ∈ own ∨ V.heap.size ≤ b') ∧ b' < X.heap.size) := Lib.hid (fun b' h => by
            obtain ⟨h1, h2⟩ := hob b' (by simp [h])
            refine ⟨?_, h2⟩
            rcases h1 with h1 | h1
            · rcases List.mem_cons.1 h1 with h1 | h1
              · exact absurd h (h1 ▸ hn1)
              · exact (HO1.out b' h1).1
            · exact .inr (by omega))
          have hnE : E ∉ Es := fun h => by have := hEl E h; omega
          obtain ⟨t, ht⟩ := hq
          obtain ⟨r, hr⟩ := HPFX.out
          have HPP : Hid (BASE ++ pre0 <+: pre ls (d + 1) ps) := Lib.hid ⟨t ++ r, by rw [hr, ← ht]; simp⟩
          have HXV := Lib.hid hXV; have HHZ := Lib.hid hz; have HJX := Lib.hid hj1
          have HNE : Hid ((E :: Es).Nodup) := Lib.hid (List.nodup_cons.2 ⟨hnE, hnd⟩)
          have HEE : Hid (∀ E' ∈ E :: Es, X.heap[E']? = some (.deferred (some [])) ∧ W.heap.size < E' ∧ E' ∉ o1) := Lib.hid (fun E' h => by
            rcases List.mem_cons.1 h with rfl | h
            · exact ⟨hdf, by omega, fun h => hEn (by simp [h])⟩
            · obtain ⟨h1, h2, h3⟩ := hXE E' h
              exact ⟨h1, by omega, h3⟩)
          clear hXV hXE hEl hob hv6 hz hj1 hr ht
          gi_wp2
          refine leaves_marks (fun _ => results_none rfl _ _ _) (E :: Es) X (fun E' h => (HEE.out E' h).1) HNE.out (fun W' hW' => ?_)
          exact ⟨⟨_, rfl⟩, o1, fun b' hb' => ⟨(HO2.out b' hb').1.imp id (fun h => by omega), Nat.lt_of_lt_of_le (HO2.out b' hb').2 hW'.size⟩, HXV.out.trans hW' (fun _ _ h => h) (fun b' hb' h => by have := (HEE.out b' h).2.1; omega), RowX.lv HHZ.out.front hW' (fun h => by have := (HEE.out _ h).2.1; have := hZw _ hZb; omega), .inr ⟨BASE ++ pre0, HPP.out, hJx _ _ _ _ HJX.out (hW'.mono (fun b' _ h hb' => (HEE.out b' h).2.2 hb'))⟩⟩
      · have hjt2 : j = (hi - lo).toNat := by omega
        subst hjt2
        gi_wp2
        refine leaves_marks (fun _ => results_none rfl _ _ _) Es wr (fun E h => (hes E h).1) hnd (fun W' hW' => ?_)
        have hvw : V.heap.size = W.heap.size + 1 := HWN.out
        exact ⟨⟨_, rfl⟩, own1, fun b hb => ⟨(HO1.out b hb).1.imp id (fun h => by omega), Nat.lt_of_lt_of_le (HO1.out b hb).2 hW'.size⟩, HL1.out.trans hW' (fun _ _ h => h) (fun b hb h => by have := (hes b h).2.1; omega), HRW1.out.lv hW' (fun h => by have h1 := (hes _ h).2.1; obtain ⟨cs, hcs⟩ := HRB.out; have h2 := (Array.getElem?_eq_some_iff.1 hcs).1; omega), .inl (by rw [HPRE.out]; exact hJ _ _ _ _ HJ1.out (hW'.mono (fun b _ h hb => (hes b h).2.2 hb)))⟩
  · refine ⟨_, results_none rfl _ _ _, ?_⟩
    exact ⟨⟨_, rfl⟩, own', (FIN.out V2 own' hg).1, (FIN.out V2 own' hg).2, (hr1.lv hvV (fun h => h)).lv hg.1 (fun h => (hown _ h).2 hZb), .inr ⟨[ps], ⟨_, rfl⟩, hj⟩⟩
end Go.Proofs.Ytccibfldadflkaa

namespace Go.Proofs.Ytccibfldadflkaa
open Go.RowKit

theorem prefixes_sep (W0 : World) (ls : List Lp) (hnb : nestB ls = true) (n c : Nat) (pn : Option Addr) (hs : LoopsAt W0 (.slice pn n c) ls) (hln : ls.length = n) (hn4 : n ≤ 4) : ∀ (d bp P1 N1 : Nat) (ps : List Int) (Z : Nat → Prop) (w : World), Ext W0 w → PB ps → ps.length + d = n → RowX bp ps w → W0.heap.size ≤ bp →
      w.heap[P1]? = some (.cells #[.slice (some ⟨bp, 0, none⟩) ps.length 4] 22 (0, 0)) → w.heap[N1]? = some (.cells #[.slice pn n c] 34 (0, 0)) → Z bp → Z P1 → Z N1 → (∀ b, b < W0.heap.size → Z b) → (∀ b, Z b → b < w.heap.size) →
      ∀ m m', SeqSep Fence.wide m m' Try.prog 79 #[.pointer (some ⟨P1, 0, none⟩), .pointer (some ⟨N1, 0, none⟩)] (encX bp) (RowX bp) (RowX bp ps) (fun b => b = bp) Z (pre ls d ps) w
  | 0, bp, P1, N1, ps, Z, w, _, _, hk, hrow, _, hp, hN, hZb, hZp, hZn, _, _, m, m' => prefixes_last ls bp P1 N1 m m' n c pn ps Z w (by omega) hn4 hrow hp hN hZb hZp hZn
  | d + 1, bp, P1, N1, ps, Z, w, hE, hpb, hk, hrow, hb0, hp, hN, hZb, hZp, hZn, hZ0, hZw, m, m' =>
    prefixes_next W0 ls hnb d bp P1 N1 m m' n ps.length c pn ps Z w hs hE hpb hln rfl (by omega) hn4 hrow hp hN hZb hZp hZn hZ0 hZw (prefixes_sep W0 ls hnb n c pn hs hln hn4 d) hb0
end Go.Proofs.Ytccibfldadflkaa

namespace Go.Proofs.Ytccibfldadflkaa
open Go.RowKit

/-- In a round the operations of a region do what they do outside, if none of them is a defer. -/
theorem opsIn_of_ops {l n : Nat} {P : Program} {ops : Array Oper} {Q : Exit → Act → World → Prop} (hd : ∀ (i : Nat) (o : Oper), ops[i]? = some o → ∀ c, o.op ≠ .defer c) (hL : ¬ LetsOut Q) :
    ∀ (is : List Nat) (a : Act) (w : World), wpOps P ops Q is a w → wpOpsIn (Fence.wide.inRound l) n P ops Q is a w
  | [], a, w, h => h
  | i :: is, a, w, h => by
    simp only [wpOps] at h
    simp only [wpOpsIn]
    cases ho : ops[i]? with
    | none => rw [ho] at h; exact opsIn_of_ops hd hL is a w h
    | some o =>
      rw [ho] at h
      dsimp only at h ⊢
      by_cases hw : Region.wanted o (yielded ops a.tmps) = true
      · rw [if_pos hw] at h ⊢
        have h := h.resolve_right (fun e => hL e.2)
        refine ⟨fun _ _ => trivial, ?_⟩
        rw [Oper.semAt_eq _ _ _ (hd i o ho)]
        unfold Oper.wp at h
        generalize (execOp a.eval o).run P w = r at h ⊢
        cases r with
        | ok x w' =>
          cases x with
          | value v => exact opsIn_of_ops hd hL is _ _ h
          | skip => exact opsIn_of_ops hd hL is _ _ h
          | defer d => exact opsIn_of_ops hd hL is _ _ h
          | enter f args =>
            refine ⟨fun e => (by cases e), ?_⟩
            have h1 : CallsIn Fence.wide (n - 1) P f args w' _ := callsIn_wide.2 h
            exact CallsIn.mono (F := Fence.wide.inRound l) h1 (fun e w'' he => by
              cases e with
              | returned v => exact opsIn_of_ops hd hL is _ _ he
              | panicked c => exact he
              | outgrown => exact he)
          | row r args =>
            refine ⟨fun e => (by cases e), fun c cs _ => ?_⟩
            obtain ⟨v, w'', r, s⟩ := h c cs
            exact ⟨v, w'', opsIn_of_ops hd hL is _ _ r, stepsIn_wide.2 s⟩
          | _ => exact h.elim
        | halt x w' =>
          cases x <;> exact h
      · rw [if_neg hw] at h ⊢
        exact ⟨fun _ _ => trivial, opsIn_of_ops hd hL is _ _ h⟩
def noDefer (ops : Array Oper) : Bool := ops.toList.all (fun o => match o.op with | .defer _ => false | _ => true)
theorem wpIn_round_held {l n id : Nat} {P : Program} {ops : Array Oper} {Q : Exit → Act → World → Prop} {S : World → Prop} {a : Act} {w : World} (hm : P.follows .mixedOrders = true) (hd : noDefer ops = true) (hL : ¬ LetsOut Q) (hS : S w.drew)
    (h : S w.drew → wpAnyH P .any ops Q S ops.size (Array.replicate ops.size false) a w.drew) : (Code.region id ops true).wpIn (Fence.wide.inRound l) n P Q a w :=
  wpIn_region_draw fun t => by
    simp only [Region.schedule, hm, Bool.true_or, if_true]
    have hd' : ∀ (i : Nat) (o : Oper), ops[i]? = some o → ∀ c, o.op ≠ .defer c := fun i o ho c e => by
      have h1 := List.all_eq_true.1 hd o (Array.mem_toList_iff.2 (Array.mem_of_getElem? ho))
      rw [e] at h1; cases h1
    exact opsIn_of_ops hd' hL _ _ _ (wpAny_sound ops.size t _ a _ (wpAny_of_held _ _ _ _ (h hS)))

/-- An append that tells where its row lies, at a step of a region that draws its order. -/
theorem step_append_at {P : Program} (w : World) {ops : Array Oper} {o : Oper} {a : Act} {K : Act → World → Prop} {Q : Exit → Act → World → Prop} {E : Prop} (hgd : o.guard = none) (s x : Operand) (t : TypeId)
    (ho : o.op = .call { callee := .builtin .append, args := #[s, x], argTypes := #[t, t] })
    (base : Nat) (e : TypeId) (i : TypeInfo) (z : Value) (size bytes : Nat) (ht : P.underlying t = some (.slice e)) (hi : P.info? e = some i) (hz : i.zero = some z)
    (hsize : i.size = size) (hby : i.bytes = bytes) (hzs : z.cells.size = size) (hsz : 0 < size)
    (v : Value) (n : Nat) (xs : List Value) (hs : a.eval s = v) (hown : w.ownsRow base e size v n xs)
    (ad : Addr) (m c : Nat) (news : List Value) (hx : a.eval x = .slice (some ad) m c) (hl : news.length = m * size) (hnews : ∀ j u, news[j]? = some u → w.cell? (ad.add j) = some u) (h1 : ∀ u ∈ news, u.oneCell' = true)
    (h63 : n + m ≤ maxLen) (hbytes : (n + m) * bytes ≤ 140737488355328) (hbase : base ≤ w.heap.size)
    (h : ∀ v' w', w'.ownsRow base e size v' (n + m) (xs ++ news) → w.grownBy w' v.ownBlock → (v' = .slice none 0 0 ↔ v = .slice none 0 0 ∧ m = 0) → (v'.ownBlock = v.ownBlock ∨ v'.ownBlock = some w.heap.size) → K (a.put o.dst v') w') :
    if Region.wanted o (yielded ops a.tmps) = true then Oper.wp P o a w K Q else E := by
  have hw : Region.wanted o (yielded ops a.tmps) = true := by simp [Region.wanted, hgd]
  rw [if_pos hw]
  obtain ⟨v', w', hr, h2, h3, h4, h5⟩ := run_append_own_at (P := P) w base t o.type e i z size bytes ht hi hz hsize hby hzs hsz v n xs hown ad m c news hl hnews h1 h63 hbytes hbase
  unfold Oper.wp execOp
  simp only [ho, resolve, invoke, builtin, Sem.run_bind, Sem.run_pure, Result.andThen_ok, List.map_toArray, List.map_cons, List.map_nil, hs, hx, hr]
  exact h v' w' h2 h3 h4 h5

set_option maxHeartbeats 1000000 in
theorem cloneNew_any (ad : Addr) (n c : Nat) (xs : List Int) (w : World) (hl : xs.length = n) (hs : ∀ i x, xs[i]? = some x → w.cell? (ad.add i) = some (.int .i64 x)) (hn : n ≤ 1048576) :
    Calls Try.prog 51 #[.slice (some ad) n c] w fun e w' => ∃ g c, e = .returned (.slice (some ⟨g, 0, none⟩) n c) ∧ IntsOwn w.heap.size w' (.slice (some ⟨g, 0, none⟩) n c) xs ∧ w.heap.size ≤ g ∧ g < w'.heap.size ∧ Ext w w' := by
  obtain ⟨i0, hi, hz0, hz1, hz2⟩ := info_parts infoInt
  have HS := Lib.hid hs; clear hs
  have HL := Lib.hid hl; clear hl
  have hnil : ∀ (w' : World), Sem.run Try.prog (binOp .eql 22 (.slice (some ad) n c) (.slice none 0 0)) w' = .ok (.bool false) w' := by
    intro w'
    have h : ∀ d : Nat, (Op.equalIn (d + 1) 22 (.slice (some ad) n c) (.slice none 0 0)).run Try.prog w' = .ok false w' := fun d => by
      simp [Op.equalIn, run_underlying underSliceInt]
    simp [binOp, Op.equal, Op.maxDepth, h 9999]
  go_enter Try.func51, Try.ntmps51
  go_wp2_with (at_builtin; refine wpList_append_own _ rfl (.tmp 5) (.tmp 6) 22 rfl w.heap.size 3 i0 (.int .i64 0) 1 8 Try.underlying22 hi hz0 hz1 hz2 rfl (by decide) (.slice (some ⟨w.heap.size, 0, none⟩) 0 0) 0 [] rfl (World.ownsRow_made w #[] 0 (Nat.le_refl _) (Nat.zero_le _) rfl) ad n c (xs.map (Value.int .i64)) rfl ?c0 ?c1 ?c2 ?c3 ?c4 ?c5 ?_)
  case c0 => rw [List.length_map, HL.out, Nat.mul_one]
  case c1 =>
    intro j u hu
    rw [List.getElem?_map] at hu
    obtain ⟨x, hx, rfl⟩ := Option.map_eq_some_iff.1 hu
    exact ((Ext.refl w).alloc _).keep (HS.out j x hx)
  case c2 => exact ints_oneCell _ _
  case c3 => unfold maxLen; omega
  case c4 => omega
  case c5 => simp
  intro v' w1 hown hg hnn
  have hE : Ext w w1 := ((Ext.refl w).alloc _).grown hg (fun k h => by cases h; exact Nat.le_refl _)
  have hne : v' ≠ .slice none 0 0 := hnn
  obtain ⟨g, cc, rfl, hgb, hgl⟩ : ∃ g cc, v' = .slice (some ⟨g, 0, none⟩) n cc ∧ w.heap.size ≤ g ∧ g < w1.heap.size := by
    rcases hown.2 with ⟨h, hz⟩ | ⟨g, cap, cur, h, hb, hgh, _⟩
    · exact absurd h hne
    · exact ⟨_, _, h, hb, (Array.getElem?_eq_some_iff.1 hgh).1⟩
  have HO := Lib.hid hown; clear hown hnn hne
  go_wp2
  go_ret
  exact ⟨_, _, rfl, IntsOwn.mk HO.out HL.out, hgb, hgl, hE⟩

/-- Lists of ints that lie in blocks of 'own', each in one of its own. -/
def PtsD (own : List Nat) (B : Nat) (X : World) (v : Value) (xss : List (List Int)) : Prop :=
  ∃ vs, X.ownsRow B 22 1 v xss.length vs ∧ (∀ b, v.ownBlock = some b → b ∈ own) ∧
    (∀ (i : Nat) (xs : List Int), xss[i]? = some xs → ∃ g c, vs[i]? = some (.slice (some ⟨g, 0, none⟩) xs.length c) ∧ IntsOwn B X (.slice (some ⟨g, 0, none⟩) xs.length c) xs ∧ g ∈ own ∧
      ∀ (j : Nat) (g' n' c' : Nat), j < i → vs[j]? = some (.slice (some ⟨g', 0, none⟩) n' c') → g' ≠ g)
theorem row_lv {B size n : Nat} {e : TypeId} {D : Nat → Prop} {w w' : World} {v : Value} {xs : List Value} (h : w.ownsRow B e size v n xs) (hv : Lv D w w') (hn : ∀ b, v.ownBlock = some b → ¬ D b) : w'.ownsRow B e size v n xs := by
  refine ⟨h.1, ?_⟩
  rcases h.2 with hn' | ⟨g, cap, cur, rfl, hb, hg, r⟩
  · exact .inl hn'
  · exact .inr ⟨g, cap, cur, rfl, hb, hv.heap hg (hn g rfl), r⟩
theorem PtsD.lv {own : List Nat} {B : Nat} {X X' : World} {v : Value} {xss : List (List Int)} (h : PtsD own B X v xss) (hv : Lv (fun k => k ∉ own) X X') : PtsD own B X' v xss := by
  obtain ⟨vs, ho, hb, he⟩ := h
  refine ⟨vs, row_lv ho hv (fun b h1 h2 => h2 (hb b h1)), hb, fun i xs hi => ?_⟩
  obtain ⟨g, c, h1, h2, h3, h4⟩ := he i xs hi
  exact ⟨g, c, h1, row_lv h2 hv (fun b h5 h6 => by simp [Value.ownBlock] at h5; subst h5; exact h6 h3), h3, h4⟩
theorem PtsD.nil (own : List Nat) (B : Nat) (X : World) : PtsD own B X (.slice none 0 0) [] := ⟨[], World.ownsRow_nil X B _ _, fun b h => by simp [Value.ownBlock] at h, fun i xs h => by simp at h⟩
/-- One point more. -/
theorem PtsD.push {own : List Nat} {B g c m : Nat} {X0 X1 X2 : World} {v v' : Value} {xss : List (List Int)} {x : List Int} {vs : List Value} (hm : xss.length = m) (hvl : vs.length = m) (hb : ∀ b ∈ own, b < X0.heap.size)
    (he : ∀ (i : Nat) (xs : List Int), xss[i]? = some xs → ∃ g c, vs[i]? = some (.slice (some ⟨g, 0, none⟩) xs.length c) ∧ IntsOwn B X1 (.slice (some ⟨g, 0, none⟩) xs.length c) xs ∧ g ∈ own ∧
      ∀ (j : Nat) (g' n' c' : Nat), j < i → vs[j]? = some (.slice (some ⟨g', 0, none⟩) n' c') → g' ≠ g)
    (hx : IntsOwn B X1 (.slice (some ⟨g, 0, none⟩) x.length c) x) (hg : X0.heap.size ≤ g) (ho' : X2.ownsRow B 22 1 v' (m + 1) (vs ++ [.slice (some ⟨g, 0, none⟩) x.length c])) (hgr : X1.grownBy X2 v.ownBlock) (ht : Tag X1 v.ownBlock 22) :
    PtsD (own ++ g :: v'.ownBlock.toList) B X2 v' (xss ++ [x]) := by
  refine ⟨_, by rw [List.length_append, hm]; exact ho', fun b h => by simp [h], fun i xs hi => ?_⟩
  rcases Nat.lt_or_ge i m with hlt | hge
  · rw [List.getElem?_append_left (by omega)] at hi
    obtain ⟨g1, c1, h1, h2, h3, h4⟩ := he i xs hi
    refine ⟨g1, c1, by rw [List.getElem?_append_left (by omega)]; exact h1, h2.tag hgr ht (by decide), by simp [h3], fun j g' n' c' hj h5 => h4 j g' n' c' hj ?_⟩
    rwa [List.getElem?_append_left (by omega)] at h5
  · rw [List.getElem?_append_right (by omega)] at hi
    have hi0 : i = m := by
      rcases Nat.eq_or_lt_of_le hge with h | h
      · exact h.symm
      · rw [List.getElem?_eq_none (by simp; omega)] at hi; cases hi
    subst hi0
    rw [hm, Nat.sub_self] at hi
    simp at hi
    subst hi
    refine ⟨g, c, by rw [List.getElem?_append_right (by omega)]; simp [hvl], hx.tag hgr ht (by decide), by simp, fun j g' n' c' hj h5 => ?_⟩
    rw [List.getElem?_append_left (by omega)] at h5
    obtain ⟨xs', hxs⟩ := get_some (xs := xss) (k := j) (by omega)
    obtain ⟨g1, c1, h1, -, h3, -⟩ := he j xs' hxs
    rw [h5] at h1
    simp only [Option.some.injEq, Value.slice.injEq, Addr.mk.injEq] at h1
    have := hb _ h3
    omega

/-- A function's return with its results in cells, where ranges over functions have left their marks. -/
theorem leaves_marks2 {F : Fence} {n : Nat} {P : Program} {fn : Func} {tmps : Array Value} {R : Ending → World → Prop} :
    ∀ (Es : List Nat) (W : World), (∀ E ∈ Es, W.heap[E]? = some (.deferred (some []))) → Es.Nodup → (∀ W', Lv (fun k => k ∈ Es) W W' → ∃ v, (results fn tmps).run P W' = .ok v W' ∧ R (.returned v) W') →
      LeavesInM F n P fn tmps R (Es.map fun E => { target := .collected E, args := #[] }) .returning W
  | [], W, _, _, h => by
    obtain ⟨v, h1, h2⟩ := h W (Lv.refl _ W)
    exact ⟨v, h1, h2⟩
  | E :: Es, W, hE, hn, h => by
    have h0 := hE E (by simp)
    have hlt : E < W.heap.size := (Array.getElem?_eq_some_iff.1 h0).1
    obtain ⟨hni, hn'⟩ := List.nodup_cons.1 hn
    have hv : Lv (fun k => k = E) W (W.putObj E (.deferred none)) := Lv.putObj W E _ rfl
    refine ⟨by simp, .inl ⟨E, _, rfl, run_takeDeferred h0, ?_⟩⟩
    refine leaves_marks2 Es _ (fun e he => hv.heap (hE e (by simp [he])) (fun h => hni (h ▸ he))) hn' (fun W' hw => h W' ?_)
    exact hv.trans hw (fun b _ e => by simp [e]) (fun b _ e => by simp [e])
end Go.Proofs.Ytccibfldadflkaa

/- The texts S6 V1, joined. No statement is proved here. -/
import Derived.Test.YtccibfldadflkaaQT26
import Derived.Test.YtccibfldadflkaaQT23
/- The model's checks of a node's own fields. No statement is proved here. -/
namespace Go.Proofs.Ytccibfldadflkaa
open Go.RowKit

end Go.Proofs.Ytccibfldadflkaa

/- Ranges over functions: the law of R7 with a base: what lies below it, neither side turns. No statement is proved here. -/
namespace Go.Proofs.Ytccibfldadflkaa
open Go.RowKit

/-- What is said with the blocks it speaks of. -/
def StableB (base : Nat) {α : Type} (I : List α → List Nat → World → Prop) : Prop := ∀ s own W W', I s own W → Lv (fun k => k ∉ own ∧ base ≤ k) W W' → I s own W'
/-- The contract of an iterator: it turns blocks of D and what it has laid itself; the consumer turns its own, among which are none of Z. -/
def SeqB (base : Nat) {α : Type} (F : Fence) (n m : Nat) (P : Program) (g : Nat) (lb : Array Value) (enc : α → Array Value) (Rx : α → World → Prop) (Rz : World → Prop) (D Z : Nat → Prop) (xs : List α) (w : World) : Prop :=
  ∀ (l : Nat) (J Jx : List α → List Nat → World → Prop) (own : List Nat) (W : World), Lv (fun _ => False) w W → StableB base J → StableB base Jx → (∀ b ∈ own, b < W.heap.size ∧ ¬ Z b) →
    (∀ pre x own1 V, J pre own1 V → (pre ++ [x]) <+: xs → Rx x V → (∀ b ∈ own1, b < V.heap.size ∧ ¬ Z b) → YieldAt F m P l (enc x) V fun e V' => ∃ own', Grew own1 own' V V' ∧
      ((e = .returned (.bool true) ∧ J (pre ++ [x]) own' V') ∨ (e = .returned (.bool false) ∧ Jx (pre ++ [x]) own' V'))) →
    J [] own W →
    CallsIn F n P g (#[.func (.yield l) #[] #[]] ++ lb) W fun e W' => (∃ v, e = .returned v) ∧ ∃ own', (∀ b ∈ own', (b ∈ own ∨ W.heap.size ≤ b) ∧ b < W'.heap.size) ∧ Lv (fun k => k ∈ own ∨ D k) W W' ∧ Rz W' ∧ (J xs own' W' ∨ ∃ q, q <+: xs ∧ Jx q own' W')

set_option linter.unusedVariables false in
theorem wpIn_rangeFunc_base {F : Fence} {n : Nat} {P : Program} {α : Type} {g : Operand} {ps : Array Tmp} {assign body : Code} {Q : Exit → Act → World → Prop} {a : Act} {w : World}
    (hro : F.round = none) (h1 : F.depth.isSome = true → 1 ≤ n) {gf : Nat} {lb : Array Value} (hg : a.eval g = .func (.func gf) #[] lb) (hFg : F.fn gf) (eg : ∀ args w, (callFunc gf args).run P w = .ok (.enter gf args) w)
    {enc : α → Array Value} {Rx : α → World → Prop} {Rz : World → Prop} {D Z : Nat → Prop} {xs : List α} (base : Nat) (hbw : base ≤ w.heap.size) (hseq : SeqB base F (n - 1) (n - 1 - 1) P gf lb enc Rx Rz D Z xs w)
    (hZ : ∀ b, Z b → b < w.heap.size) (hDZ : ∀ b, D b → Z b) (hRx : ∀ x W W', Rx x W → Lv (fun k => ¬ D k) W W' → Rx x W') (hRz : ∀ W W', Rz W → Lv (fun k => ¬ D k) W W' → Rz W') (hps : ∀ x, (enc x).size = ps.size)
    (I : List α → List Nat → World → Prop) (Ix : Code → List α → List Nat → World → Prop) (hI : StableB base I) (hIx : ∀ c, StableB base (Ix c)) (own0 : List Nat) (hown : ∀ b ∈ own0, b < w.heap.size ∧ ¬ Z b) (h0 : I [] own0 w) (a₁ : α → Act)
    (hassign : ∀ (l : Nat) (x : α) (W : World) (K : Act → World → Prop), K (a₁ x) W →
      assign.wpIn (F.inRound l) (n - 1 - 1) P (Exit.then K (fun _ _ _ => False)) { tmps := (ps.zip (enc x)).foldl (fun t (p, v) => t.setIfInBounds p v) a.tmps, defers := [] } W)
    (hbody : ∀ (l : Nat) (pre : List α) (x : α) (own1 : List Nat) (W : World), I pre own1 W → (pre ++ [x]) <+: xs → Rx x W → (∀ b ∈ own1, b < W.heap.size ∧ ¬ Z b) → body.wpIn (F.inRound l) (n - 1 - 1) P (sepPost own1 I Ix (pre ++ [x]) W) (a₁ x) W)
    (hdone : ∀ (E : Nat) (own' : List Nat) (W : World), w.heap.size ≤ E → E ∉ own' → I xs own' W → (∀ b ∈ own', (b ∈ own0 ∨ w.heap.size ≤ b) ∧ b < W.heap.size) → Lv (fun k => k ∈ own0 ∨ D k) w W → Rz W → W.heap[E]? = some (.deferred (some [])) → Q .normal { a with defers := { target := .collected E, args := #[] } :: a.defers } W)
    (hstop : ∀ (E : Nat) (c : Code) (q : List α) (own' : List Nat) (W : World), w.heap.size ≤ E → E ∉ own' → q <+: xs → Ix c q own' W → (∀ b ∈ own', (b ∈ own0 ∨ w.heap.size ≤ b) ∧ b < W.heap.size) → Lv (fun k => k ∈ own0 ∨ D k) w W → Rz W → W.heap[E]? = some (.deferred (some [])) → c.wpIn F n P Q { a with defers := { target := .collected E, args := #[] } :: a.defers } W) :
    (Code.rangeFunc g ps assign body).wpIn F n P Q a w := by
  refine wpIn_rangeFunc ?_
  intro fn hfn
  rw [hro]
  obtain ⟨rec, hrec⟩ : ∃ rec : LoopState → Option Code → Loop, rec = fun st pe => { state := st, pending := pe, fn, tmps := a.tmps, params := ps, assign, body, defers := w.heap.size } := ⟨_, rfl⟩
  obtain ⟨W1, hW1⟩ : ∃ W1, (w.alloc (.deferred (some []))).alloc (.loop (rec .ready none)) = W1 := ⟨_, rfl⟩
  have hL1 : W1.heap[w.heap.size + 1]? = some (.loop (rec .ready none)) := by
    rw [← hW1]; have := World.alloc_heap_new (w.alloc (.deferred (some []))) (.loop (rec .ready none)); rwa [World.size_alloc] at this
  have hK1 : W1.heap[w.heap.size]? = some (.deferred (some [])) := by
    rw [← hW1]; exact (Below.heap_alloc _ _ _ (by simp)).trans (World.alloc_heap_new w _)
  have hs1 : W1.heap.size = w.heap.size + 2 := by rw [← hW1]; simp
  have hv1 : Lv (fun _ => False) w W1 := by
    rw [← hW1]; exact (Lv.alloc _ w _).trans (Lv.alloc (fun _ => False) _ _) (fun _ _ h => h) (fun _ _ h => h)
  have hI1 : I [] own0 W1 := hI _ _ _ _ h0 (hv1.mono (fun _ _ h => h.elim))
  refine ⟨w.heap.size + 1, [{ target := .collected w.heap.size, args := #[] }], W1, { target := .fn (.func gf) lb, args := #[.func (.yield (w.heap.size + 1)) #[] #[]] }, W1, gf,
    #[.func (.yield (w.heap.size + 1)) #[] #[]] ++ lb, W1, ?_, ?_, ?_, ?_, h1, ?_⟩
  · rw [← hW1, hrec]; exact run_enterLoop_outer _ _ _ _ _
  · simp only [resolve, hg]
    simp [go_sem]
  · intro f' hf'; simp [Target.leads] at hf'; subst hf'; exact hFg
  · simp [invoke, go_sem, eg]
  · obtain ⟨A, hA⟩ : ∃ A, w.heap.size = A := ⟨_, rfl⟩
    rw [hA] at hL1 hK1 hs1
    rw [hA]
    have hZA : ∀ b, Z b → b < A := fun b hb => hA ▸ hZ b hb
    have hbA : ∀ b, b = A + 1 → base ≤ b := fun b e => by rw [hA] at hbw; omega
    have hDA : ∀ b, D b → b < A := fun b hb => hZA b (hDZ b hb)
    refine (hseq (A + 1)
      (fun pre own W => ∃ own1, own = A :: (A + 1) :: own1 ∧ (∀ b ∈ own1, b ≠ A ∧ b ≠ A + 1) ∧ I pre own1 W ∧ W.heap[A + 1]? = some (.loop (rec .ready none)) ∧ W.heap[A]? = some (.deferred (some [])))
      (fun pre own W => ∃ own1 c, own = A :: (A + 1) :: own1 ∧ (∀ b ∈ own1, b ≠ A ∧ b ≠ A + 1) ∧ Ix c pre own1 W ∧ W.heap[A + 1]? = some (.loop (rec .done (some c))) ∧ W.heap[A]? = some (.deferred (some [])))
      (A :: (A + 1) :: own0) W1 hv1 ?_ ?_ ?_ ?_ ⟨own0, rfl, fun b hb => by have := (hown b hb).1; omega, hI1, hL1, hK1⟩).mono ?_
    · rintro s own W W' ⟨own1, rfl, hne, hi, hl, hk⟩ hv
      exact ⟨own1, rfl, hne, hI _ _ _ _ hi (hv.mono (fun b _ h1 => ⟨fun h2 => h1.1 (by simp [h2]), h1.2⟩)), hv.heap hl (by simp), hv.heap hk (by simp)⟩
    · rintro s own W W' ⟨own1, c, rfl, hne, hi, hl, hk⟩ hv
      exact ⟨own1, c, rfl, hne, hIx c _ _ _ _ hi (hv.mono (fun b _ h1 => ⟨fun h2 => h1.1 (by simp [h2]), h1.2⟩)), hv.heap hl (by simp), hv.heap hk (by simp)⟩
    · intro b hb
      simp only [List.mem_cons] at hb
      rcases hb with rfl | rfl | hb
      · exact ⟨by omega, fun h => by have := hZA _ h; omega⟩
      · exact ⟨by omega, fun h => by have := hZA _ h; omega⟩
      · exact ⟨by have := (hown b hb).1; omega, (hown b hb).2⟩
    · -- ONE ROUND
      rintro pre x own W ⟨own1, rfl, hne, hi, hl, hk⟩ hpx hrx hob
      have hlt : A + 1 < W.heap.size := (Array.getElem?_eq_some_iff.1 hl).1
      have hy := run_yield (P := P) (args := enc x) hl (by rw [hrec]; exact hps x)
      rw [hrec] at hy
      refine ⟨fn, _, assign, body, hy, roundIn_of_wpIn hfn (hassign _ x W _ ⟨_, run_beginRound hl (by rw [hrec]), ?_⟩)⟩
      obtain ⟨V, hV⟩ : ∃ V, W.putObj (A + 1) (.loop { rec .ready none with state := .busy }) = V := ⟨_, rfl⟩
      have hl2 : V.heap[A + 1]? = some (.loop { rec .ready none with state := .busy }) := by rw [← hV]; exact World.putObj_heap_same hlt
      have hk2 : V.heap[A]? = some (.deferred (some [])) := by rw [← hV]; exact (World.putObj_heap_other (by omega)).trans hk
      have hvV : Lv (fun k => k = A + 1) W V := by rw [← hV]; exact Lv.putObj W _ _ rfl
      have hsV : V.heap.size = W.heap.size := by rw [← hV]; simp
      have hi2 : I pre own1 V := hI _ _ _ _ hi (hvV.mono (fun b _ e => ⟨fun hb => (hne b hb).2 e, hbA b e⟩))
      have hr2 : Rx x V := hRx _ _ _ hrx (hvV.mono (fun b _ e hb => by have := hDA _ hb; omega))
      rw [hV]
      refine wpIn_mono (hbody _ pre x own1 V hi2 hpx hr2 (fun b hb => by rw [hsV]; exact hob b (by simp [hb]))) ?_
      have fin : ∀ (jump : Option Code) (own' : List Nat) (W3 : World), Grew own1 own' V W3 →
          ∃ W4, (Instr.endRound (A + 1) jump).run P W3 = .ok (.bool jump.isNone) W4 ∧ Lv (fun k => k = A + 1) W3 W4 ∧
          W4.heap[A + 1]? = some (.loop (rec (if jump.isNone then .ready else .done) jump)) ∧ W4.heap[A]? = some (.deferred (some [])) ∧ (∀ b ∈ own', b ≠ A ∧ b ≠ A + 1) ∧ Grew (A :: (A + 1) :: own1) (A :: (A + 1) :: own') W W4 := fun jump own' W3 hg3 => by
        have hl3 := hg3.1.heap hl2 (fun hb => (hne _ hb).2 rfl)
        have hk3 := hg3.1.heap hk2 (fun hb => (hne _ hb).1 rfl)
        have hs3 := hg3.1.size
        have hv4 : Lv (fun k => k = A + 1) W3 (W3.putObj (A + 1) (.loop (rec (if jump.isNone then .ready else .done) jump))) := Lv.putObj W3 _ _ rfl
        have hs4 : (W3.putObj (A + 1) (.loop (rec (if jump.isNone then .ready else .done) jump))).heap.size = W3.heap.size := by simp
        have := run_endRound (P := P) jump hl3
        rw [hrec] at this ⊢
        rw [hrec] at hv4 hs4
        refine ⟨_, this, hv4, World.putObj_heap_same (by omega), (World.putObj_heap_other (by omega)).trans hk3, fun b hb => ?_, ?_, fun b hb => ?_⟩
        · rcases (hg3.2 b hb).1 with h | h
          · exact hne b h
          · omega
        · exact ((hvV.trans hg3.1 (E := fun k => k ∈ A :: (A + 1) :: own1) (fun b _ e => by simp [e]) (fun b _ e => by simp [e])).trans hv4 (fun b _ e => e) (fun b _ e => by simp [e]))
        · rw [hs4]
          simp only [List.mem_cons] at hb ⊢
          rcases hb with rfl | rfl | hb
          · exact ⟨.inl (.inl rfl), by omega⟩
          · exact ⟨.inl (.inr (.inl rfl)), by omega⟩
          · obtain ⟨h1, h2⟩ := hg3.2 b hb
            refine ⟨?_, h2⟩
            rcases h1 with h | h
            · exact .inl (.inr (.inr h))
            · exact .inr (by omega)
      rintro e a3 W3 hp
      cases e with
      | normal =>
        obtain ⟨own', hg3, hi3⟩ := hp
        obtain ⟨W4, hr, hv4, hl4, hk4, hne4, hg4⟩ := fin none own' W3 hg3
        exact ⟨_, _, hr, _, hg4, .inl ⟨rfl, own', rfl, hne4, hI _ _ _ _ hi3 (hv4.mono (fun b _ e => ⟨fun hb => (hne4 b hb).2 e, hbA b e⟩)), hl4, hk4⟩⟩
      | ret =>
        obtain ⟨own', hg3, hi3⟩ := hp
        obtain ⟨W4, hr, hv4, hl4, hk4, hne4, hg4⟩ := fin (some .ret) own' W3 hg3
        exact ⟨_, _, hr, _, hg4, .inr ⟨rfl, own', .ret, rfl, hne4, hIx _ _ _ _ _ hi3 (hv4.mono (fun b _ e => ⟨fun hb => (hne4 b hb).2 e, hbA b e⟩)), hl4, hk4⟩⟩
      | exit id =>
        obtain ⟨own', hg3, hi3⟩ := hp
        obtain ⟨W4, hr, hv4, hl4, hk4, hne4, hg4⟩ := fin (some (.exit id)) own' W3 hg3
        exact ⟨_, _, hr, _, hg4, .inr ⟨rfl, own', .exit id, rfl, hne4, hIx _ _ _ _ _ hi3 (hv4.mono (fun b _ e => ⟨fun hb => (hne4 b hb).2 e, hbA b e⟩)), hl4, hk4⟩⟩
      | goto t =>
        obtain ⟨own', hg3, hi3⟩ := hp
        obtain ⟨W4, hr, hv4, hl4, hk4, hne4, hg4⟩ := fin (some (.goto t)) own' W3 hg3
        exact ⟨_, _, hr, _, hg4, .inr ⟨rfl, own', .goto t, rfl, hne4, hIx _ _ _ _ _ hi3 (hv4.mono (fun b _ e => ⟨fun hb => (hne4 b hb).2 e, hbA b e⟩)), hl4, hk4⟩⟩
      | panic ch => exact hp.elim
      | outgrown => exact hp.elim
    · -- BEHIND THE ITERATOR
      have fin2 : ∀ (own' own1 : List Nat) (W2 : World) (o : Obj), own' = A :: (A + 1) :: own1 → (∀ b ∈ own1, b ≠ A ∧ b ≠ A + 1) → (∀ b ∈ own', (b ∈ A :: (A + 1) :: own0 ∨ W1.heap.size ≤ b) ∧ b < W2.heap.size) → Lv (fun k => k ∈ A :: (A + 1) :: own0 ∨ D k) W1 W2 →
          (∀ b ∈ own1, (b ∈ own0 ∨ A ≤ b) ∧ b < (W2.putObj (A + 1) o).heap.size) ∧ Lv (fun k => k ∈ own0 ∨ D k) w (W2.putObj (A + 1) o) := fun own' own1 W2 o e hne ho hv => by
        subst e
        refine ⟨fun b hb => ?_, ?_⟩
        · obtain ⟨h1, h2⟩ := ho b (by simp [hb])
          refine ⟨?_, by simpa using h2⟩
          rcases h1 with h | h
          · simp only [List.mem_cons] at h
            rcases h with h | h | h
            · exact absurd h (hne b hb).1
            · exact absurd h (hne b hb).2
            · exact .inl h
          · exact .inr (by omega)
        · refine (hv1.trans hv (E := fun k => k ∈ own0 ∨ D k) (fun b _ h => h.elim) (fun b hb h => ?_)).trans (Lv.putObj (D := fun k => k = A + 1) W2 (A + 1) o rfl) (fun b _ h => h) (fun b hb h => by omega)
          rcases h with h | h
          · simp only [List.mem_cons] at h
            rcases h with h | h | h
            · omega
            · omega
            · exact .inl h
          · exact .inr h
      rintro e W2 ⟨⟨v, rfl⟩, own', ho, hv, hz, (⟨own1, e1, hne, hi, hl, hk⟩ | ⟨q, hq, own1, c, e1, hne, hi, hl, hk⟩)⟩
      · refine ⟨none, _, by have := run_endLoop (P := P) hl (by rw [hrec]; simp); rw [hrec] at this; exact this, ?_⟩
        exact hdone A own1 _ (by omega) (fun hb => (hne _ hb).1 rfl) (hI _ _ _ _ hi ((Lv.putObj (D := fun k => k = A + 1) W2 _ _ rfl).mono (fun b _ e => ⟨fun hb => (hne b hb).2 e, hbA b e⟩))) (by rw [hA]; exact (fin2 own' own1 W2 _ e1 hne ho hv).1) (fin2 own' own1 W2 _ e1 hne ho hv).2 (hRz _ _ hz ((Lv.putObj (D := fun k => k = A + 1) W2 _ _ rfl).mono (fun b _ e hb => by have := hDA b hb; omega))) ((World.putObj_heap_other (by omega)).trans hk)
      · refine ⟨some c, _, by have := run_endLoop (P := P) hl (by rw [hrec]; simp); rw [hrec] at this; exact this, ?_⟩
        exact hstop A c q own1 _ (by omega) (fun hb => (hne _ hb).1 rfl) hq (hIx c _ _ _ _ hi ((Lv.putObj (D := fun k => k = A + 1) W2 _ _ rfl).mono (fun b _ e => ⟨fun hb => (hne b hb).2 e, hbA b e⟩))) (by rw [hA]; exact (fin2 own' own1 W2 _ e1 hne ho hv).1) (fin2 own' own1 W2 _ e1 hne ho hv).2 (hRz _ _ hz ((Lv.putObj (D := fun k => k = A + 1) W2 _ _ rfl).mono (fun b _ e hb => by have := hDA b hb; omega))) ((World.putObj_heap_other (by omega)).trans hk)
end Go.Proofs.Ytccibfldadflkaa

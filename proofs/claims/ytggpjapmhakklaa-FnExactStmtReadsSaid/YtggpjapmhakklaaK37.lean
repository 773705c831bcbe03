/- The texts V1 V5, joined. No statement is proved here. -/
import Derived.Test.YtggpjapmhakklaaK02
/- Ranges over functions: the law of R7 with a base: what lies below it, neither side turns. No statement is proved here. -/
namespace Go.Proofs.Ytggpjapmhakklaa
open Go.RowKit

/-- What is said with the blocks it speaks of. -/
def StableB (base : Nat) {α : Type} (I : List α → List Nat → World → Prop) : Prop := ∀ s own W W', I s own W → Lv (fun k => k ∉ own ∧ base ≤ k) W W' → I s own W'
/-- The contract of an iterator: it turns blocks of D and what it has laid itself; the consumer turns its own, among which are none of Z. -/
def SeqB (base : Nat) {α : Type} (F : Fence) (n m : Nat) (P : Program) (g : Nat) (lb : Array Value) (enc : α → Array Value) (Rx : α → World → Prop) (Rz : World → Prop) (D Z : Nat → Prop) (xs : List α) (w : World) : Prop :=
  ∀ (l : Nat) (J Jx : List α → List Nat → World → Prop) (own : List Nat) (W : World), Lv (fun _ => False) w W → StableB base J → StableB base Jx → (∀ b ∈ own, b < W.heap.size ∧ ¬ Z b) →
    (∀ pre x own1 V, J pre own1 V → (pre ++ [x]) <+: xs → Rx x V → (∀ b ∈ own1, b < V.heap.size ∧ ¬ Z b) → YieldAt F m P l (enc x) V fun e V' => ∃ own', Grew own1 own' V V' ∧
      ((e = .returned (.bool true) ∧ J (pre ++ [x]) own' V') ∨ (e = .returned (.bool false) ∧ Jx (pre ++ [x]) own' V'))) →
    J [] own W →
    CallsIn F n P g (#[.func (.yield l) #[] #[]] ++ lb) W fun e W' => (∃ v, e = .returned v) ∧ ∃ own', (∀ b ∈ own', (b ∈ own ∨ W.heap.size ≤ b) ∧ b < W'.heap.size) ∧ Lv (fun k => k ∈ own ∨ D k) W W' ∧ Rz W' ∧ (J xs own' W' ∨ ∃ q, q <+: xs ∧ Jx q own' W')

end Go.Proofs.Ytggpjapmhakklaa

/- Drawn regions inside a round of a range over a function, with calls of yield among their operations: by the orders of the plain fence. No statement is proved here. -/
namespace Go.Proofs.Ytggpjapmhakklaa
open Go.RowKit

theorem calls_any {l n n' : Nat} {P : Program} {f : FuncId} {args : Array Value} {w : World} {R : Ending → World → Prop} (h : CallsIn Fence.wide n P f args w R) : CallsIn (Fence.wide.inRound l) n' P f args w R := ⟨h.1, fun cs _ => h.2 cs (room_wide _)⟩
theorem rows_any {l n n' : Nat} {P : Program} {row : String} {args : Array Value} {w : World} {R : Value → World → Prop} (h : RowsIn Fence.wide n P row args w R) : RowsIn (Fence.wide.inRound l) n' P row args w R := fun c cs _ => h c cs (room_wide _)
theorem opsIn_round {l n n' : Nat} {P : Program} {ops : Array Oper} {Q : Exit → Act → World → Prop} (hd : ∀ (i : Nat) (o : Oper), ops[i]? = some o → ∀ c, o.op ≠ .defer c) :
    ∀ (is : List Nat) (a : Act) (w : World), wpOpsIn Fence.wide n P ops Q is a w → wpOpsIn (Fence.wide.inRound l) n' P ops Q is a w
  | [], a, w, h => h
  | i :: is, a, w, h => by
    simp only [wpOpsIn] at h ⊢
    cases ho : ops[i]? with
    | none => rw [ho] at h; exact opsIn_round hd is a w h
    | some o =>
      rw [ho] at h
      dsimp only at h ⊢
      by_cases hw : Region.wanted o (yielded ops a.tmps) = true
      · rw [if_pos hw] at h ⊢
        obtain ⟨-, h⟩ := h
        refine ⟨fun _ _ => trivial, ?_⟩
        rw [Oper.semAt_eq _ _ _ (hd i o ho)] at h ⊢
        generalize (execOp a.eval o).run P w = r at h ⊢
        cases r with
        | ok x w' =>
          cases x with
          | value v => exact opsIn_round hd is _ _ h
          | skip => exact opsIn_round hd is _ _ h
          | defer d => exact opsIn_round hd is _ _ h
          | enter f args =>
            refine ⟨fun e => (by cases e), CallsIn.mono (calls_any h.2) (fun e w'' he => ?_)⟩
            cases e with
            | returned v => exact opsIn_round hd is _ _ he
            | panicked c => exact he
            | outgrown => exact he
          | row r args => exact ⟨fun e => (by cases e), RowsIn.mono (rows_any h.2) (fun v w'' he => opsIn_round hd is _ _ he)⟩
          | round l' f tmps assign body =>
            refine ⟨fun e => (by cases e), RoundIn.mono (round_any h.2) (fun e w'' he => ?_)⟩
            cases e with
            | returned v => exact opsIn_round hd is _ _ he
            | panicked c => exact he
            | outgrown => exact he
          | _ => exact h.elim
        | halt x w' => cases x <;> exact h
      · rw [if_neg hw] at h ⊢
        exact ⟨fun _ _ => trivial, opsIn_round hd is _ _ h.2⟩
theorem wpIn_round_any {l n n' id : Nat} {P : Program} {ops : Array Oper} {Q : Exit → Act → World → Prop} {a : Act} {w : World} (hm : P.follows .mixedOrders = true) (hd : noDefer ops = true)
    (h : wpAnyIn Fence.wide n P .any ops Q ops.size (Array.replicate ops.size false) a w.drew) : (Code.region id ops true).wpIn (Fence.wide.inRound l) n' P Q a w :=
  wpIn_region_draw fun t => by
    simp only [Region.schedule, hm, Bool.true_or, if_true]
    have hd' : ∀ (i : Nat) (o : Oper), ops[i]? = some o → ∀ c, o.op ≠ .defer c := fun i o ho c e => by
      have h1 := List.all_eq_true.1 hd o (Array.mem_toList_iff.2 (Array.mem_of_getElem? ho))
      rw [e] at h1; cases h1
    exact opsIn_round hd' _ _ _ (wpAnyIn_sound ops.size t _ a _ h)
end Go.Proofs.Ytggpjapmhakklaa

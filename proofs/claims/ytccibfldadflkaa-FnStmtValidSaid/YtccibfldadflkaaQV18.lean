/- The texts S9, joined. No statement is proved here. -/
import Derived.Test.YtccibfldadflkaaQV17
/- The model's StmtValid. No statement is proved here. -/
namespace Go.Proofs.Ytccibfldadflkaa
open Go.RowKit

def countE : Nat → Ex → Int
  | 0, _ => 1
  | L + 1, e => 1 + (e.kids.map (countE L)).sum
def bC : Nat → Int
  | 0 => 1
  | L + 1 => 1 + 2 * bC L
theorem sum_bd {f : Ex → Int} {B : Int} : ∀ {l : List Ex}, (∀ x ∈ l, 0 ≤ f x ∧ f x ≤ B) → 0 ≤ (l.map f).sum ∧ (l.map f).sum ≤ l.length * B
  | [], _ => by simp
  | x :: l, h => by
    have h1 := h x (by simp)
    have h2 := sum_bd (l := l) (fun y hy => h y (by simp [hy]))
    simp only [List.map_cons, List.sum_cons, List.length_cons]
    have h3 : ((l.length + 1 : Nat) : Int) * B = l.length * B + B := by rw [Int.natCast_add, Int.add_mul]; simp
    omega
theorem kids_two {L : Nat} {e : Ex} {d : Int} (h : shapeB L e d = true) : e.kids.length ≤ 2 := by
  cases L with
  | zero => simp [shapeB] at h
  | succ L =>
    simp only [shapeB, Bool.and_eq_true, decide_eq_true_eq] at h
    have h1 := h.1
    unfold kidsN at h1
    split at h1
    · omega
    · split at h1 <;> omega
theorem shape_kids {L : Nat} {e : Ex} {d : Int} (h : shapeB (L + 1) e d = true) : ∀ x ∈ e.kids, shapeB L x d = true := by
  simp only [shapeB, Bool.and_eq_true, List.all_eq_true] at h
  exact h.2.2
theorem bC_pos : ∀ L, 1 ≤ bC L
  | 0 => by simp [bC]
  | L + 1 => by have := bC_pos L; simp only [bC]; omega
theorem countE_bd {d : Int} : ∀ (L : Nat) (e : Ex), shapeB L e d = true → 0 ≤ countE L e ∧ countE L e ≤ bC L
  | 0, e, h => by simp [shapeB] at h
  | L + 1, e, h => by
    have h1 := sum_bd (f := countE L) (B := bC L) (l := e.kids) (fun x hx => countE_bd L x (shape_kids h x hx))
    have h2 := kids_two h
    have h3 := bC_pos L
    have h4 : (e.kids.length : Int) * bC L ≤ 2 * bC L := Int.mul_le_mul_of_nonneg_right (by omega) (by omega)
    simp only [countE, bC]
    omega
theorem bC_five {L : Nat} (h : L ≤ 5) : bC L ≤ 63 := by
  match L, h with
  | 0, _ => decide
  | 1, _ => decide
  | 2, _ => decide
  | 3, _ => decide
  | 4, _ => decide
  | 5, _ => decide

set_option maxRecDepth 100000 in
set_option maxHeartbeats 1600000 in
theorem l3Count_any (dd : Int) : ∀ (L : Nat) (e : Ex) (u s v : Value) (w : World), L ≤ 5 → shapeB L e dd = true → IntsAt w u e.ix.1 → AffsAt w s e.subs → ExsAt w v e.kids →
    Calls Try.prog 61 #[.agg #[.int .i64 e.kind, .int .i64 e.num, u, .int .i64 e.ix.2, .string e.arr, s, v], .int .i64 (L : Int)] w fun r w' => r = .returned (.int .i64 (countE L e)) ∧ Ext w w'
  | 0, e, u, s, v, w, hL, hsh, hu, hs, hv => by simp [shapeB] at hsh
  | L + 1, e, u, s, v, w, hL, hsh, hu, hs, hv => by
    obtain ⟨pu, cu, rfl, hmu, -⟩ := id hu
    obtain ⟨ps, cs, rfl, hms⟩ := hs.form
    obtain ⟨pv, cv, rfl, hmv⟩ := hv.form
    have hk2 := kids_two hsh
    have HV := Lib.hid hv; have HSH := Lib.hid hsh; clear hu hs hv hsh
    generalize hn : e.kids.length = n at *
    have HN := Lib.hid hn; clear hn
    have hl1 : (0 : Int) < (L : Int) + 1 := by omega
    have hlv : decide ((0 : Int) < (L : Int) + 1) = true := decide_eq_true (by omega)
    have hwl : IntKind.i64.wrap (L : Int) = (L : Int) := by rw [IntKind.wrap_i64]; omega
    rw [show ((L + 1 : Nat) : Int) = (L : Int) + 1 by omega]
    go_enter Try.func61, Try.ntmps61
    go_wp2_with (fail)
    obtain ⟨W1, hW1⟩ : ∃ W1, w.alloc (.cells #[.int .i64 e.kind, .int .i64 e.num, .slice pu e.ix.1.length cu, .int .i64 e.ix.2, .string e.arr, .slice ps e.subs.length cs, .slice pv n cv] 54) = W1 := ⟨_, rfl⟩
    have EA : Hid (Ext w W1) := Lib.hid (by rw [← hW1]; exact (Ext.refl w).alloc _)
    have HBX : Hid (W1.heap[w.heap.size]? = some (.cells #[.int .i64 e.kind, .int .i64 e.num, .slice pu e.ix.1.length cu, .int .i64 e.ix.2, .string e.arr, .slice ps e.subs.length cs, .slice pv n cv] 54 (0, 0))) := Lib.hid (by rw [← hW1]; exact blk_at rfl)
    rw [hW1]
    clear hW1
    go_loopw [5, 6] (fun c i wr => ∃ k : Nat, k ≤ n ∧ i = .int .i64 k ∧ c = .int .i64 (1 + ((e.kids.take k).map (countE L)).sum) ∧ Ext W1 wr) (fun _ i _ => n - (intOf i).toNat)
    case atStart => exact ⟨0, by omega, rfl, by simp, Ext.refl _⟩
    case round =>
      obtain ⟨k, hk, rfl, rfl, hE⟩ := hrel
      obtain ⟨-, -, -, -, -, -, y6⟩ := blk7 (hE.blk HBX.out)
      have hbd := sum_bd (f := countE L) (B := bC L) (l := e.kids.take k) (fun x hx => countE_bd L x (shape_kids HSH.out x (List.mem_of_mem_take hx)))
      have h5 := bC_five (L := L) (by omega)
      have h6 := bC_pos L
      have h7 : ((e.kids.take k).length : Int) * bC L ≤ 2 * 63 := by
        have hl : ((e.kids.take k).length : Int) ≤ 2 := by rw [List.length_take]; omega
        have h8 : ((e.kids.take k).length : Int) * bC L ≤ 2 * bC L := Int.mul_le_mul_of_nonneg_right hl (by omega)
        omega
      obtain ⟨A, hA⟩ : ∃ A, ((e.kids.take k).map (countE L)).sum = A := ⟨_, rfl⟩
      rw [hA] at hbd ⊢
      have HA := Lib.hid hA
      have hA0 : 0 ≤ A := hbd.1
      have hA1 : A ≤ 126 := by omega
      clear hA hbd h7
      by_cases hlt : k < n
      · obtain ⟨x, hx⟩ := get_some (xs := e.kids) (k := k) (by rw [HN.out]; exact hlt)
        obtain ⟨b, off, u', s', v', rfl, hb, c0, c1, c2, c3, c4, c5, c6, hu', ha', hs', hv'⟩ := (HV.out.ext (EA.out.trans hE)).elem hx
        have hsx := shape_kids HSH.out x (List.mem_of_getElem? hx)
        have hcx := countE_bd L x hsx
        have HX := Lib.hid hx; have HU' := Lib.hid hu'; have HS' := Lib.hid hs'; have HV' := Lib.hid hv'; have HE := Lib.hid hE; have HSX := Lib.hid hsx
        clear hx hu' hs' hv' hE hsx
        go_wp2_with (fail)
        refine (l3Count_any dd L x u' s' v' wr (by omega) HSX.out HU'.out HS'.out HV'.out).mono ?_
        rintro r w5 ⟨rfl, hE5⟩
        have E5 := Lib.hid (HE.out.trans hE5); clear hE5
        obtain ⟨C, hC⟩ : ∃ C, countE L x = C := ⟨_, rfl⟩
        rw [hC] at hcx ⊢
        have HC := Lib.hid hC; clear hC
        have hC0 := hcx.1
        have hC1 : C ≤ 63 := by omega
        clear hcx
        go_wp2
        go_roundw
        case rel => exact ⟨k + 1, by omega, by go_num, by rw [take_next HX.out, List.map_append, List.sum_append, HA.out]; simp only [List.map_cons, List.map_nil, List.sum_cons, List.sum_nil, HC.out]; congr 1; omega, E5.out⟩
        case measure => simp [intOf]; omega
      · obtain rfl : k = n := by omega
        have HR : Hid (countE (L + 1) e = 1 + A) := Lib.hid (by simp only [countE]; rw [← HA.out, List.take_of_length_le (by rw [HN.out]; omega)])
        have E5 := Lib.hid (EA.out.trans hE); clear hE
        go_wp2
        go_ret
        exact ⟨by rw [HR.out]; rfl, E5.out⟩

def validB (arr : ByteArray) (subs : List Aff) (e : Ex) (d : Int) : Bool := decide (0 ≤ d) && (decide (d ≤ 4) && (accB arr subs d && (shapeB 5 e d && decide (countE 5 e ≤ 12))))
end Go.Proofs.Ytccibfldadflkaa

/- The texts A3, joined. No statement is proved here. -/
import Derived.Test.YtggpjapmhakklaaK00
/- Contracts: equality of affine expressions, marks. -/
namespace Go.Proofs.Ytggpjapmhakklaa
open Go.RowKit

/-- The marks k, k + 1, .. of n elements. -/
def marks (k : Int) (n : Nat) : List Int := (List.range n).map (fun (i : Nat) => k + (i : Int))
theorem marks_len (k : Int) (n : Nat) : (marks k n).length = n := by simp [marks]
theorem marks_get (k : Int) (n i : Nat) (h : i < n) : (marks k n)[i]? = some (k + (i : Int)) := by simp [marks, h]
theorem marks_next (xs : List Int) (k : Int) (i : Nat) (h : i < xs.length) :
    ((marks k i ++ xs.drop i).map (Value.int .i64)).set i (.int .i64 (k + (i : Int))) = (marks k (i + 1) ++ xs.drop (i + 1)).map (Value.int .i64) := by
  rw [← List.map_set]
  congr 1
  rw [List.drop_eq_getElem_cons h]
  have hl : i = (marks k i).length := (marks_len k i).symm
  conv => lhs; arg 2; rw [hl]
  rw [List.set_append_right _ _ (Nat.le_refl _), Nat.sub_self, List.set_cons_zero]
  simp [marks, List.range_succ]

theorem grownBy_trans {a b c : World} {r : Option Nat} (h : a.grownBy b r) (k : b.grownBy c r) : a.grownBy c r :=
  ⟨k.os.trans h.os, k.tape.trans h.tape, k.output.trans h.output, Nat.le_trans h.size k.size, fun i hi hr => (k.block i (Nat.lt_of_lt_of_le hi h.size) hr).trans (h.block i hi hr)⟩
theorem Ext.grownBy {a b : World} (h : Ext a b) (r : Option Nat) : a.grownBy b r := ⟨h.os, h.tape, h.output, h.size, fun i hi _ => h.block i hi⟩

set_option maxHeartbeats 800000 in
theorem markIntS_any (B : Nat) (p : Option Addr) (n c : Nat) (xs : List Int) (k : Int) (w : World) (hn : xs.length = n) (ho : w.ownsRow B 3 1 (.slice p n c) n (xs.map (Value.int .i64))) (hk : 0 ≤ k) (hk1 : k + n ≤ 1000000000000) :
    Calls Try.prog 15 #[.slice p n c, .int .i64 k] w fun e w' => e = .returned (.int .i64 (k + n)) ∧ w'.ownsRow B 3 1 (.slice p n c) n ((marks k n).map (Value.int .i64)) ∧ w.grownBy w' (Value.slice p n c).ownBlock := by
  have HO := Lib.hid ho; clear ho
  have HL := Lib.hid hn; clear hn
  go_enter Try.func15, Try.ntmps15
  go_wp2
  go_loopw [1, 5] (fun kk i wr => ∃ j : Nat, j ≤ n ∧ i = .int .i64 j ∧ kk = .int .i64 (k + j) ∧ wr.ownsRow B 3 1 (.slice p n c) n ((marks k j ++ xs.drop j).map (Value.int .i64)) ∧ w.grownBy wr (Value.slice p n c).ownBlock) (fun _ i _ => n - (intOf i).toNat)
  case atStart => exact ⟨0, by omega, rfl, by simp, by simpa [marks] using HO.out, World.grownBy.refl _ _⟩
  case round =>
    obtain ⟨j, hj, rfl, rfl, hown, hg⟩ := hrel
    by_cases hlt : j < n
    · obtain ⟨g, rfl⟩ : ∃ g, p = some ⟨g, 0, none⟩ := by
        rcases hown.2 with ⟨h, h0⟩ | ⟨g, cap, cur, h, _⟩
        · omega
        · exact ⟨g, by simpa using (Value.slice.inj h).1⟩
      have hfr := hown.frozenAt j
      have hcc : ∃ v0, wr.cell? ⟨g, j, none⟩ = some v0 := by
        rw [hown.cellAt j (by omega)]; exact get_some (by simp [marks_len, HL.out]; omega)
      obtain ⟨v0, hcc⟩ := hcc
      have hst := hown.stored j (.int .i64 (k + j))
      rw [marks_next xs k j (by rw [HL.out]; omega)] at hst
      have HS := Lib.hid hst; clear hst
      have HW := Lib.hid hown; clear hown
      have HG := Lib.hid hg; clear hg
      go_wp2
      go_roundw
      case rel => exact ⟨j + 1, by omega, by go_num, by go_num, HS.out.1, grownBy_trans HG.out HS.out.2⟩
      case measure => simp [intOf]; omega
    · have e : j = n := by omega
      subst e
      rw [List.drop_eq_nil_of_le (by rw [HL.out]; omega), List.append_nil] at hown
      have HW := Lib.hid hown; clear hown
      go_wp2
      go_ret
      exact ⟨rfl, HW.out, hg⟩

set_option maxHeartbeats 800000 in
theorem heldIntS_any (s : Value) (n : Nat) (k : Int) (w : World) (hs : IntsAt w s (marks k n)) (hk : 0 ≤ k) (hk1 : k + n ≤ 1000000000000) :
    Calls Try.prog 16 #[s, .int .i64 k] w fun e w' => e = .returned (.int .i64 (k + n)) ∧ w = w' := by
  obtain ⟨p, c, rfl, hm, hc⟩ := hs.get
  rw [marks_len] at hm ⊢
  have HC := Lib.hid hc; clear hc hs
  go_enter Try.func16, Try.ntmps16
  go_wp2
  go_loop [1, 5] (fun kk i => ∃ j : Nat, j ≤ n ∧ i = .int .i64 j ∧ kk = .int .i64 (k + j)) (fun _ i => n - (intOf i).toNat)
  case atStart => exact ⟨0, by omega, rfl, by simp⟩
  case round =>
    obtain ⟨j, hj, rfl, rfl⟩ := hrel
    by_cases hlt : j < n
    · obtain ⟨b, off, rfl, hck, hbl⟩ := HC.out j _ (marks_get k n j hlt)
      go_wp2
      go_round
      case rel => exact ⟨j + 1, by omega, by go_num, by go_num⟩
      case measure => simp [intOf]; omega
    · have e : j = n := by omega
      subst e
      go_wp2
      go_ret
      exact ⟨rfl, rfl⟩
end Go.Proofs.Ytggpjapmhakklaa

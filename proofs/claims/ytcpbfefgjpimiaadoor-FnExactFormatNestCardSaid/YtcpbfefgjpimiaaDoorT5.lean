/- The model's terms. No statement is proved here. -/
import Derived.Test.YtcpbfefgjpimiaaDoorT4
namespace Go.Proofs.YtcpbfefgjpimiaaDoor
open Go.RowKit

theorem one_ne (c : UInt8) : (ByteArray.mk #[c]).toList.isEmpty = false := by
  cases h : (ByteArray.mk #[c]).toList.isEmpty with
  | false => rfl
  | true =>
    have h1 : (ByteArray.mk #[c]).toList = [] := List.isEmpty_iff.1 h
    unfold ByteArray.toList at h1
    rw [ByteArray.toList.loop.eq_def, if_pos (show 0 < (ByteArray.mk #[c]).size from Nat.zero_lt_one), ByteArray.toList.loop.eq_def, if_neg (show ¬ 0 + 1 < (ByteArray.mk #[c]).size from Nat.lt_irrefl 1)] at h1
    simp at h1
/-- The bytes of a term behind its sign. -/
def tmR (u : Nat) (c : UInt8) : List UInt8 := (if u = 1 then [] else dg u ++ [42]) ++ [c]

set_option maxRecDepth 100000 in
set_option maxHeartbeats 1000000 in
theorem l1Term_pos (u : Nat) (c : UInt8) (w : World) (h1 : 1 ≤ u) (hu : u ≤ 99) :
    Calls Tryd.prog 60 #[.int .i64 (u : Int), .string ⟨#[c]⟩] w fun e w' => e = .returned (.string ⟨(43 :: tmR u c).toArray⟩) ∧ Ext w w' := by
  have hne := one_ne c
  by_cases hu1 : u = 1
  · subst hu1
    have HR : Hid (tmR 1 c = [c]) := Lib.hid rfl
    go_enter Tryd.func60, Tryd.ntmps60
    go_wp2_with (fail)
    go_ret
    refine ⟨?_, Ext.refl w⟩
    rw [HR.out]
    refine ret_str ?_
    apply ByteArray.ext
    simp
  · have hb : ((u : Int) == 1) = false := beq_eq_false_iff_ne.2 (by omega)
    have HR : Hid (tmR u c = dg u ++ [42] ++ [c]) := Lib.hid (by unfold tmR; rw [if_neg hu1])
    clear hu1
    go_enter Tryd.func60, Tryd.ntmps60
    go_wp2_with (fail)
    refine (l16Dec_any u _ hu).mono ?_
    rintro e w1 ⟨rfl, hE⟩
    have E1 := Lib.hid hE; clear hE
    have hdl := (dg_len u).2
    obtain ⟨t, ht⟩ : ∃ t, dg u = t := ⟨_, rfl⟩
    rw [ht] at hdl ⊢
    have HT := Lib.hid ht; clear ht
    go_wp2
    go_ret
    refine ⟨?_, E1.out⟩
    rw [HR.out, HT.out]
    refine ret_str ?_
    apply ByteArray.ext
    simp

set_option maxRecDepth 100000 in
set_option maxHeartbeats 1000000 in
theorem l1Term_neg (u : Nat) (c : UInt8) (w : World) (h1 : 1 ≤ u) (hu : u ≤ 99) :
    Calls Tryd.prog 60 #[.int .i64 (-(u : Int)), .string ⟨#[c]⟩] w fun e w' => e = .returned (.string ⟨(45 :: tmR u c).toArray⟩) ∧ Ext w w' := by
  have hne := one_ne c
  by_cases hu1 : u = 1
  · subst hu1
    have HR : Hid (tmR 1 c = [c]) := Lib.hid rfl
    go_enter Tryd.func60, Tryd.ntmps60
    go_wp2_with (fail)
    go_ret
    refine ⟨?_, Ext.refl w⟩
    rw [HR.out]
    refine ret_str ?_
    apply ByteArray.ext
    simp
  · have hb : ((u : Int) == 1) = false := beq_eq_false_iff_ne.2 (by omega)
    have HR : Hid (tmR u c = dg u ++ [42] ++ [c]) := Lib.hid (by unfold tmR; rw [if_neg hu1])
    have hneg : decide (-(u : Int) < 0) = true := by simp; omega
    clear hu1
    go_enter Tryd.func60, Tryd.ntmps60
    go_wp2_with (fail)
    refine (l16Dec_any u _ hu).mono ?_
    rintro e w1 ⟨rfl, hE⟩
    have E1 := Lib.hid hE; clear hE
    have hdl := (dg_len u).2
    obtain ⟨t, ht⟩ : ∃ t, dg u = t := ⟨_, rfl⟩
    rw [ht] at hdl ⊢
    have HT := Lib.hid ht; clear ht
    go_wp2
    go_ret
    refine ⟨?_, E1.out⟩
    rw [HR.out, HT.out]
    refine ret_str ?_
    apply ByteArray.ext
    simp

set_option maxRecDepth 100000 in
set_option maxHeartbeats 1000000 in
theorem l1Term_cpos (u : Nat) (w : World) (hu : u ≤ 99) :
    Calls Tryd.prog 60 #[.int .i64 (u : Int), .string ⟨#[]⟩] w fun e w' => e = .returned (.string ⟨(43 :: dg u).toArray⟩) ∧ Ext w w' := by
  go_enter Tryd.func60, Tryd.ntmps60
  go_wp2_with (fail)
  refine (l16Dec_any u _ hu).mono ?_
  rintro e w1 ⟨rfl, hE⟩
  have E1 := Lib.hid hE; clear hE
  have hdl := (dg_len u).2
  obtain ⟨t, ht⟩ : ∃ t, dg u = t := ⟨_, rfl⟩
  rw [ht] at hdl ⊢
  have HT := Lib.hid ht; clear ht
  go_wp2
  go_ret
  refine ⟨?_, E1.out⟩
  rw [HT.out]
  refine ret_str ?_
  apply ByteArray.ext
  simp

set_option maxRecDepth 100000 in
set_option maxHeartbeats 1000000 in
theorem l1Term_cneg (u : Nat) (w : World) (h1 : 1 ≤ u) (hu : u ≤ 99) :
    Calls Tryd.prog 60 #[.int .i64 (-(u : Int)), .string ⟨#[]⟩] w fun e w' => e = .returned (.string ⟨(45 :: dg u).toArray⟩) ∧ Ext w w' := by
  have hneg : decide (-(u : Int) < 0) = true := by simp; omega
  go_enter Tryd.func60, Tryd.ntmps60
  go_wp2_with (fail)
  refine (l16Dec_any u _ hu).mono ?_
  rintro e w1 ⟨rfl, hE⟩
  have E1 := Lib.hid hE; clear hE
  have hdl := (dg_len u).2
  obtain ⟨t, ht⟩ : ∃ t, dg u = t := ⟨_, rfl⟩
  rw [ht] at hdl ⊢
  have HT := Lib.hid ht; clear ht
  go_wp2
  go_ret
  refine ⟨?_, E1.out⟩
  rw [HT.out]
  refine ret_str ?_
  apply ByteArray.ext
  simp

theorem l1Term_any (v : Nat) (n : Int) (w : World) (h0 : n ≠ 0) (hn : -99 ≤ n ∧ n ≤ 99) :
    Calls Tryd.prog 60 #[.int .i64 n, .string ⟨#[UInt8.ofNat (105 + v)]⟩] w fun e w' => e = .returned (.string ⟨(tm v n).toArray⟩) ∧ Ext w w' := by
  by_cases hl : n < 0
  · have h := l1Term_neg n.natAbs (UInt8.ofNat (105 + v)) w (by omega) (by omega)
    rw [show (-(n.natAbs : Int)) = n by omega] at h
    have e : tm v n = 45 :: tmR n.natAbs (UInt8.ofNat (105 + v)) := by simp [tm, tmR, sgn, hl]
    rw [e]; exact h
  · have h := l1Term_pos n.natAbs (UInt8.ofNat (105 + v)) w (by omega) (by omega)
    rw [show (n.natAbs : Int) = n by omega] at h
    have e : tm v n = 43 :: tmR n.natAbs (UInt8.ofNat (105 + v)) := by simp [tm, tmR, sgn, hl]
    rw [e]; exact h
theorem l1Term_const (n : Int) (w : World) (hn : -99 ≤ n ∧ n ≤ 99) :
    Calls Tryd.prog 60 #[.int .i64 n, .string ⟨#[]⟩] w fun e w' => e = .returned (.string ⟨(tc n).toArray⟩) ∧ Ext w w' := by
  by_cases hl : n < 0
  · have h := l1Term_cneg n.natAbs w (by omega) (by omega)
    rw [show (-(n.natAbs : Int)) = n by omega] at h
    have e : tc n = 45 :: dg n.natAbs := by simp [tc, sgn, hl]
    rw [e]; exact h
  · have h := l1Term_cpos n.natAbs w (by omega)
    rw [show (n.natAbs : Int) = n by omega] at h
    have e : tc n = 43 :: dg n.natAbs := by simp [tc, sgn, hl]
    rw [e]; exact h
end Go.Proofs.YtcpbfefgjpimiaaDoor

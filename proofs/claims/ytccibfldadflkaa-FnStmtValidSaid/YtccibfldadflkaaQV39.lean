/- The texts Fw A1, joined. No statement is proved here. -/
import Derived.Test.YtccibfldadflkaaRows
import Derived.WalkKit
import Derived.WalkSpells
import Derived.WalkLawsBesides
import Derived.Lib.Hide
import Derived.WalkSmall
import Derived.BigQuiet
import Derived.Deep.QuietTactic
/- The framework: how lists of ints read in memory; what a call leaves of old memory. No statement of the seat is proved here. -/
namespace Go.Proofs.Ytccibfldadflkaa
open Go.RowKit

theorem ret_bool {a b : Bool} (h : a = b) : Ending.returned (.bool a) = .returned (.bool b) := by rw [h]
theorem ret_int {a b : Int} (h : a = b) : Ending.returned (.int .i64 a) = .returned (.int .i64 b) := by rw [h]

/-- What was there before is there still. -/
def Ext (w w' : World) : Prop := Below w.heap.size w w'
theorem Ext.refl (w : World) : Ext w w := Below.refl _ _
theorem Ext.trans {a b c : World} (h : Ext a b) (k : Ext b c) : Ext a c := Below.trans h (Below.mono k h.size)
theorem Ext.alloc {a b : World} (h : Ext a b) (o : Obj) : Ext a (b.alloc o) := Below.alloc h h.size o
theorem Ext.drew {a b : World} (h : Ext a b) : Ext a b.drew := Below.drew h
theorem Ext.drewN {a b : World} (h : Ext a b) (n : Nat) : Ext a (b.drewN n) := below_drewN h n
theorem Ext.setCell {a b : World} (h : Ext a b) {p : Addr} (hp : a.heap.size ≤ p.block) (u : Value) : Ext a (b.setCell p u) := Below.setCell h hp u
theorem Ext.grown {a b c : World} {row : Option Nat} (h : Ext a b) (hg : b.grownBy c row) (hr : ∀ k, row = some k → a.heap.size ≤ k) : Ext a c := Below.grown h hg h.size hr
theorem Ext.cells {W w1 : World} (hb : Ext W w1) : (∀ b o, b < W.heap.size → w1.cell? ⟨b, o, none⟩ = W.cell? ⟨b, o, none⟩) ∧ (∀ b o, b < W.heap.size → w1.frozen? ⟨b, o, none⟩ = W.frozen? ⟨b, o, none⟩) :=
  ⟨fun b o h => Below.cell hb (p := ⟨b, o, none⟩) h, fun b o h => Below.frozen hb (p := ⟨b, o, none⟩) h⟩
theorem Ext.size_le {W w1 : World} (hb : Ext W w1) : W.heap.size ≤ w1.heap.size := Below.size hb

/-- The value v reads as the list xs of ints in w. -/
def IntsAt (w : World) (v : Value) (xs : List Int) : Prop :=
  ∃ p c, v = .slice p xs.length c ∧ xs.length ≤ 9223372036854775807 ∧ ∀ i x, xs[i]? = some x → ∃ b off, p = some ⟨b, off, none⟩ ∧ w.cell? ⟨b, off + i, none⟩ = some (.int .i64 x)

theorem IntsAt.ext {w w' : World} {v : Value} {xs : List Int} (h : IntsAt w v xs) (hb : Ext w w') : IntsAt w' v xs := by
  obtain ⟨p, c, hv, hm, hc⟩ := h
  refine ⟨p, c, hv, hm, fun i x hi => ?_⟩
  obtain ⟨b, off, hp, hcell⟩ := hc i x hi
  exact ⟨b, off, hp, (Below.cell hb (World.block_lt_of_cell? w _ hcell)).trans hcell⟩

/-- The value v is a row of the call's own, from block B on, that holds the ints xs. -/
def IntsOwn (B : Nat) (w : World) (v : Value) (xs : List Int) : Prop := w.ownsRow B 3 1 v xs.length (xs.map (Value.int .i64))

theorem IntsOwn.at {B : Nat} {w : World} {v : Value} {xs : List Int} (h : IntsOwn B w v xs) : IntsAt w v xs := by
  rcases h.2 with ⟨hv, hn⟩ | ⟨g, cap, cur, hv, _, hg, hnc, hcm, hcs, ht⟩
  · have : xs = [] := List.eq_nil_of_length_eq_zero hn
    subst this
    exact ⟨none, 0, hv, by simp, fun i x hi => by simp at hi⟩
  · refine ⟨some ⟨g, 0, none⟩, cap, hv, by unfold maxLen at hcm; omega, fun i x hi => ⟨g, 0, rfl, ?_⟩⟩
    have hc := World.ownsRow.cells h (g := g) (by rw [hv]; rfl) i (.int .i64 x) (by simp [hi])
    rw [Addr.add_lit] at hc
    exact hc

theorem ownsRow_ext {B : Nat} {w w' : World} {e : TypeId} {size : Nat} {v : Value} {n : Nat} {xs : List Value} (h : w.ownsRow B e size v n xs) (hb : Ext w w') : w'.ownsRow B e size v n xs := by
  refine ⟨h.1, ?_⟩
  rcases h.2 with hn | ⟨g, cap, cur, hv, hbg, hg, r⟩
  · exact .inl hn
  · exact .inr ⟨g, cap, cur, hv, hbg, by rw [hb.block g (lt_of_block hg)]; exact hg, r⟩

theorem IntsOwn.ext {B : Nat} {w w' : World} {v : Value} {xs : List Int} (h : IntsOwn B w v xs) (hb : Ext w w') : IntsOwn B w' v xs := ownsRow_ext h hb

/-- A test on all elements, one element more. -/
theorem take_next {α : Type} {xs : List α} {k : Nat} {x : α} (h : xs[k]? = some x) : xs.take (k+1) = xs.take k ++ [x] := by
  rw [List.take_add_one, h]; rfl
theorem all_take_next {α : Type} {p : α → Bool} {xs : List α} {k : Nat} {x : α} (h : xs[k]? = some x) (h1 : (xs.take k).all p = true) (h2 : p x = true) : (xs.take (k+1)).all p = true := by
  rw [take_next h, List.all_append, h1]; simp [h2]
theorem all_false_of {α : Type} {p : α → Bool} {xs : List α} {k : Nat} {x : α} (h : xs[k]? = some x) (h2 : p x = false) : xs.all p = false := by
  rw [List.all_eq_false]
  exact ⟨x, List.mem_of_getElem? h, by simp [h2]⟩
theorem all_take_end {α : Type} {p : α → Bool} {xs : List α} {k : Nat} (h : xs.length ≤ k) (h1 : (xs.take k).all p = true) : xs.all p = true := by
  rwa [List.take_of_length_le h] at h1
theorem get_some {α : Type} {xs : List α} {k : Nat} (h : k < xs.length) : ∃ x, xs[k]? = some x := ⟨xs[k], List.getElem?_eq_getElem h⟩

theorem nt {b : Bool} (h : (!b) = true) : b = false := by simpa using h
theorem nf {b : Bool} (h : (!b) = false) : b = true := by simpa using h

def withinB (n l : Int) : Bool := decide (-l ≤ n ∧ n ≤ l)
/-- A valid affine expression: coefficients and constant. -/
def affValidB (xs : List Int) (c : Int) : Bool := decide (xs.length = 4) && (xs.all (withinB · 9) && withinB c 99)
theorem affValidB_len {xs : List Int} {c : Int} (h : affValidB xs c = true) : xs.length = 4 := by
  simp [affValidB] at h; exact h.1
def i64 (n : Int) : Prop := -9223372036854775808 ≤ n ∧ n ≤ 9223372036854775807

theorem infoInt : (Try.prog.info? 3).map (fun i => (i.zero, i.size, i.bytes)) = some (some (.int .i64 0), 1, 8) := by kernel_rfl

end Go.Proofs.Ytccibfldadflkaa

/- Contracts of the small functions: tests of limits, validity. -/
namespace Go.Proofs.Ytccibfldadflkaa
open Go.RowKit

set_option maxHeartbeats 400000 in
theorem within_any (n l : Int) (w : World) (h0 : 0 ≤ l) (h1 : l ≤ 1000000) :
    Calls Try.prog 103 #[.int .i64 n, .int .i64 l] w fun e w' => e = .returned (.bool (withinB n l)) ∧ w = w' := by
  by_cases a : -l ≤ n
  · go_enter Try.func103, Try.ntmps103
    go_wp2
    go_ret
    exact ⟨ret_bool (by simp [withinB, a]), rfl⟩
  · go_enter Try.func103, Try.ntmps103
    go_wp2
    go_ret
    exact ⟨ret_bool (by simp [withinB]; omega), rfl⟩

set_option maxHeartbeats 400000 in
theorem l1Within_any (n l : Int) (w : World) (h0 : 0 ≤ l) (h1 : l ≤ 1000000) :
    Calls Try.prog 69 #[.int .i64 n, .int .i64 l] w fun e w' => e = .returned (.bool (withinB n l)) ∧ w = w' := by
  by_cases a : -l ≤ n
  · go_enter Try.func69, Try.ntmps69
    go_wp2
    go_ret
    exact ⟨ret_bool (by simp [withinB, a]), rfl⟩
  · go_enter Try.func69, Try.ntmps69
    go_wp2
    go_ret
    exact ⟨ret_bool (by simp [withinB]; omega), rfl⟩

set_option maxHeartbeats 400000 in
theorem allWithin_any (s : Value) (xs : List Int) (l : Int) (w : World) (hs : IntsAt w s xs) (h0 : 0 ≤ l) (h1 : l ≤ 1000000) :
    Calls Try.prog 82 #[s, .int .i64 l] w fun e w' => e = .returned (.bool (xs.all (withinB · l))) ∧ w = w' := by
  obtain ⟨p, c, rfl, hm, hc⟩ := hs
  generalize hlen : xs.length = n at *
  have HL := Lib.hid hlen; clear hlen
  have HC := Lib.hid hc; clear hc
  go_enter Try.func82, Try.ntmps82
  go_wp2
  go_loop [9] (fun i => ∃ k : Nat, k ≤ n ∧ i = .int .i64 k ∧ (xs.take k).all (withinB · l) = true) (fun i => n - (intOf i).toNat)
  case atStart => exact ⟨0, by omega, rfl, by simp⟩
  case round =>
    obtain ⟨k, hk, rfl, hall⟩ := hrel
    have HA := Lib.hid hall; clear hall
    by_cases hlt : k < n
    · obtain ⟨x, hx⟩ := get_some (xs := xs) (k := k) (by rw [HL.out]; exact hlt)
      obtain ⟨b, off, rfl, hck⟩ := HC.out k x hx
      have HX := Lib.hid hx; clear hx
      go_wp2_with (go_at_call 103; refine (within_any x l _ h0 h1).mono ?_; rintro e w' ⟨rfl, rfl⟩)
      · have hw : withinB x l = false := nt (by assumption)
        go_ret
        exact ⟨ret_bool (all_false_of HX.out hw).symm, rfl⟩
      · have hw : withinB x l = true := nf (by assumption)
        go_round
        case rel => exact ⟨k + 1, by omega, by go_num, all_take_next HX.out HA.out hw⟩
        case measure => simp [intOf]; omega
    · go_wp2
      go_ret
      exact ⟨ret_bool (all_take_end (by rw [HL.out]; omega) HA.out).symm, rfl⟩

set_option maxHeartbeats 800000 in
theorem AffineValid_any (s : Value) (xs : List Int) (c : Int) (w : World) (hs : IntsAt w s xs) :
    Calls Try.prog 81 #[.agg #[s, .int .i64 c]] w fun e w' => e = .returned (.bool (affValidB xs c)) ∧ Ext w w' := by
  obtain ⟨p, cc, rfl, hm, hc⟩ := id hs
  clear hc
  have HS := Lib.hid hs; clear hs
  by_cases h4 : xs.length = 4
  · have h4' : ((xs.length : Int) == 4) = true := by simp [h4]
    have H4 := Lib.hid h4; clear h4
    cases ha : xs.all (withinB · 9) with
    | true =>
      have HA := Lib.hid ha; clear ha
      go_enter Try.func81, Try.ntmps81
      go_wp2_with (first
        | (go_at_call 82; refine (allWithin_any _ xs 9 _ (HS.out.ext ((Ext.refl w).alloc _)) (by omega) (by omega)).mono ?_; rw [HA.out]; rintro e w' ⟨rfl, rfl⟩)
        | (go_at_call 103; refine (within_any c 99 _ (by omega) (by omega)).mono ?_; rintro e w' ⟨rfl, rfl⟩))
      go_ret
      exact ⟨ret_bool (by simp [affValidB, HA.out, H4.out]), (Ext.refl w).alloc _⟩
    | false =>
      have HA := Lib.hid ha; clear ha
      go_enter Try.func81, Try.ntmps81
      go_wp2_with (go_at_call 82; refine (allWithin_any _ xs 9 _ (HS.out.ext ((Ext.refl w).alloc _)) (by omega) (by omega)).mono ?_; rw [HA.out]; rintro e w' ⟨rfl, rfl⟩)
      go_ret
      exact ⟨ret_bool (by simp [affValidB, HA.out]), (Ext.refl w).alloc _⟩
  · have h4' : ((xs.length : Int) == 4) = false := by simp; omega
    have H4 := Lib.hid h4; clear h4
    go_enter Try.func81, Try.ntmps81
    go_wp2
    go_ret
    exact ⟨ret_bool (by simp [affValidB, H4.out]), (Ext.refl w).alloc _⟩

set_option maxHeartbeats 800000 in
theorem specAffineValid_any (s : Value) (xs : List Int) (c : Int) (w : World) (hs : IntsAt w s xs) :
    Calls Try.prog 35 #[.agg #[s, .int .i64 c]] w fun e w' => e = .returned (.bool (affValidB xs c)) ∧ Ext w w' := by
  obtain ⟨p, cc, rfl, hm, hc⟩ := hs
  generalize hlen : xs.length = n at *
  have HL := Lib.hid hlen; clear hlen
  have HC := Lib.hid hc; clear hc
  go_enter Try.func35, Try.ntmps35
  go_wp2
  go_loop [3] (fun i => ∃ k : Nat, k ≤ n ∧ i = .int .i64 k ∧ (xs.take k).all (withinB · 9) = true) (fun i => n - (intOf i).toNat)
  case atStart => exact ⟨0, by omega, rfl, by simp⟩
  case round =>
    obtain ⟨k, hk, rfl, hall⟩ := hrel
    have HA := Lib.hid hall; clear hall
    by_cases hlt : k < n
    · obtain ⟨x, hx⟩ := get_some (xs := xs) (k := k) (by rw [HL.out]; exact hlt)
      obtain ⟨b, off, rfl, hck⟩ := HC.out k x hx
      have hbl := World.block_lt_of_cell? w _ hck
      have HX := Lib.hid hx; clear hx
      go_wp2_with (go_at_call 69; refine (l1Within_any x 9 _ (by omega) (by omega)).mono ?_; rintro e w' ⟨rfl, rfl⟩)
      · have hw : withinB x 9 = false := nt (by assumption)
        go_ret
        exact ⟨ret_bool (by simp [affValidB, all_false_of (p := (withinB · 9)) HX.out hw]), (Ext.refl w).alloc _⟩
      · have hw : withinB x 9 = true := nf (by assumption)
        go_round
        case rel => exact ⟨k + 1, by omega, by go_num, all_take_next HX.out HA.out hw⟩
        case measure => simp [intOf]; omega
    · have hal : xs.all (withinB · 9) = true := all_take_end (by rw [HL.out]; omega) HA.out
      have HAl := Lib.hid hal; clear hal
      by_cases h4 : n = 4
      · have h4' : ((n : Int) == 4) = true := by simp [h4]
        have H4 := Lib.hid h4; clear h4
        go_wp2_with (go_at_call 69; refine (l1Within_any c 99 _ (by omega) (by omega)).mono ?_; rintro e w' ⟨rfl, rfl⟩)
        go_ret
        exact ⟨ret_bool (by simp [affValidB, HAl.out, HL.out, H4.out]), (Ext.refl w).alloc _⟩
      · have h4' : ((n : Int) == 4) = false := by simp; omega
        have H4 := Lib.hid h4; clear h4
        go_wp2
        go_ret
        exact ⟨ret_bool (by simp [affValidB, HL.out, H4.out]), (Ext.refl w).alloc _⟩

end Go.Proofs.Ytccibfldadflkaa

/- The texts Fw A1 A2 A3, joined. No statement is proved here. -/
import Derived.Test.YtggpjapmhakklaaGreatRows
import Derived.WalkKit
import Derived.WalkSpells
import Derived.WalkLawsBesides
import Derived.Lib.Hide
import Derived.WalkSmall
import Derived.BigQuiet
import Derived.Deep.QuietTactic
set_option maxRecDepth 100000
set_option maxHeartbeats 8000000
set_option linter.unusedVariables false
set_option linter.unusedSimpArgs false
namespace Go.Proofs.YtggpjapmhakklaaGreat
theorem sA9 {l : List Value} {i : Nat} {a : Value} : l.toArray.setIfInBounds i a = (l.set i a).toArray := List.setIfInBounds_toArray l i a
theorem sZ9 {x : Value} {l : List Value} {a : Value} : (x :: l).set 0 a = a :: l := rfl
theorem sS9 {x : Value} {l : List Value} {i : Nat} {a : Value} : (x :: l).set (i + 1) a = x :: l.set i a := rfl
open Go.Lib (hid)
open Go.RowKit
theorem ret_bool {a b : Bool} (h : a = b) : Ending.returned (.bool a) = .returned (.bool b) := by rw [h]
theorem ret_int {a b : Int} (h : a = b) : Ending.returned (.int .i64 a) = .returned (.int .i64 b) := by rw [h]
def Ext (w w' : World) : Prop := Below w.heap.size w w'
theorem Ext.refl (w : World) : Ext w w := Below.refl _ _
theorem Ext.trans {a b c : World} (h : Ext a b) (k : Ext b c) : Ext a c := Below.trans h (Below.mono k h.size)
theorem Ext.alloc {a b : World} (h : Ext a b) (o : Obj) : Ext a (b.alloc o) := Below.alloc h h.size o
theorem Ext.drew {a b : World} (h : Ext a b) : Ext a b.drew := Below.drew h
theorem Ext.drewN {a b : World} (h : Ext a b) (n : Nat) : Ext a (b.drewN n) := below_drewN h n
theorem Ext.setCell {a b : World} (h : Ext a b) {p : Addr} (hp : a.heap.size ≤ p.block) (u : Value) : Ext a (b.setCell p u) := Below.setCell h hp u
theorem Ext.grown {a b c : World} {row : Option Nat} (h : Ext a b) (hg : b.grownBy c row) (hr : ∀ k, row = some k → a.heap.size ≤ k) : Ext a c := Below.grown h hg h.size hr
theorem Ext.cells {W w1 : World} (hb : Ext W w1) : (∀ b o, b < W.heap.size → w1.cell? ⟨b, o, none⟩ = W.cell? ⟨b, o, none⟩) ∧ (∀ b o, b < W.heap.size → w1.frozen? ⟨b, o, none⟩ = W.frozen? ⟨b, o, none⟩) :=
 ⟨fun b o h => Below.cell hb (p := ⟨b, o, none⟩) h, fun b o h => Below.frozen hb (p := ⟨b, o, none⟩) h⟩
theorem Ext.size_le {W w1 : World} (hb : Ext W w1) : W.heap.size ≤ w1.heap.size := Below.size hb
def IntsAt (w : World) (v : Value) (xs : List Int) : Prop :=
 ∃ p c, v = .slice p xs.length c ∧ xs.length ≤ 9223372036854775807 ∧ ∀ i x, xs[i]? = some x → ∃ b off, p = some ⟨b, off, none⟩ ∧ w.cell? ⟨b, off + i, none⟩ = some (.int .i64 x)
theorem IntsAt.ext {w w' : World} {v : Value} {xs : List Int} (h : IntsAt w v xs) (hb : Ext w w') : IntsAt w' v xs := by
 obtain ⟨p, c, hv, hm, hc⟩ := h
 refine ⟨p, c, hv, hm, fun i x hi => ?_⟩
 obtain ⟨b, off, hp, hcell⟩ := hc i x hi
 exact ⟨b, off, hp, (Below.cell hb (World.block_lt_of_cell? w _ hcell)).trans hcell⟩
def IntsOwn (B : Nat) (w : World) (v : Value) (xs : List Int) : Prop := w.ownsRow B 3 1 v xs.length (xs.map (Value.int .i64))
theorem IntsOwn.at {B : Nat} {w : World} {v : Value} {xs : List Int} (h : IntsOwn B w v xs) : IntsAt w v xs := by
 rcases h.2 with ⟨hv, hn⟩ | ⟨g, cap, cur, hv, _, hg, hnc, hcm, hcs, ht⟩
 ·have : xs = [] := List.eq_nil_of_length_eq_zero hn
  subst this
  exact ⟨none, 0, hv, by simp, fun i x hi => by simp at hi⟩
 ·refine ⟨some ⟨g, 0, none⟩, cap, hv, by unfold maxLen at hcm; omega, fun i x hi => ⟨g, 0, rfl, ?_⟩⟩
  have hc := World.ownsRow.cells h (g := g) (by rw [hv]; rfl) i (.int .i64 x) (by simp [hi])
  rw [Addr.add_lit] at hc
  exact hc
theorem ownsRow_ext {B : Nat} {w w' : World} {e : TypeId} {size : Nat} {v : Value} {n : Nat} {xs : List Value} (h : w.ownsRow B e size v n xs) (hb : Ext w w') : w'.ownsRow B e size v n xs := by
 refine ⟨h.1, ?_⟩
 rcases h.2 with hn | ⟨g, cap, cur, hv, hbg, hg, r⟩
 ·exact .inl hn
 ·exact .inr ⟨g, cap, cur, hv, hbg, by rw [hb.block g (lt_of_block hg)]; exact hg, r⟩
theorem IntsOwn.ext {B : Nat} {w w' : World} {v : Value} {xs : List Int} (h : IntsOwn B w v xs) (hb : Ext w w') : IntsOwn B w' v xs := ownsRow_ext h hb
theorem take_next {α : Type} {xs : List α} {k : Nat} {x : α} (h : xs[k]? = some x) : xs.take (k+1) = xs.take k ++ [x] := by
 rw [List.take_add_one, h]; rfl
theorem all_take_next {α : Type} {p : α → Bool} {xs : List α} {k : Nat} {x : α} (h : xs[k]? = some x) (h1 : (xs.take k).all p = true) (h2 : p x = true) : (xs.take (k+1)).all p = true := by
 rw [take_next h, List.all_append, h1]; simp [h2]
theorem all_false_of {α : Type} {p : α → Bool} {xs : List α} {k : Nat} {x : α} (h : xs[k]? = some x) (h2 : p x = false) : xs.all p = false := by
 rw [List.all_eq_false]
 exact ⟨x, List.mem_of_getElem? h, by simp [h2]⟩
theorem all_take_end {α : Type} {p : α → Bool} {xs : List α} {k : Nat} (h : xs.length ≤ k) (h1 : (xs.take k).all p = true) : xs.all p = true := by
 rwa [List.take_of_length_le h] at h1
theorem get_some {α : Type} {xs : List α} {k : Nat} (h : k < xs.length) : ∃ x, xs[k]? = some x := ⟨xs[k], List.getElem?_eq_getElem h⟩
theorem nt {b : Bool} (h : (!b) = true) : b = false := by simpa using h
theorem nf {b : Bool} (h : (!b) = false) : b = true := by simpa using h
def withinB (n l : Int) : Bool := decide (-l ≤ n ∧ n ≤ l)
theorem withinB_iff {n l : Int} : withinB n l = true ↔ -l ≤ n ∧ n ≤ l := by simp [withinB]
def affValidB (xs : List Int) (c : Int) : Bool := decide (xs.length = 4) && (xs.all (withinB · 9) && withinB c 99)
theorem affValidB_len {xs : List Int} {c : Int} (h : affValidB xs c = true) : xs.length = 4 := by
 simp [affValidB] at h; exact h.1
def i64 (n : Int) : Prop := -9223372036854775808 ≤ n ∧ n ≤ 9223372036854775807
theorem infoInt : (Tryz.prog.info? 3).map (fun i => (i.zero, i.size, i.bytes)) = some (some (.int .i64 0), 1, 8) := by kernel_rfl
end Go.Proofs.YtggpjapmhakklaaGreat
namespace Go.Proofs.YtggpjapmhakklaaGreat
open Go.Lib (hid)
open Go.RowKit
theorem within_any (n l : Int) (w : World) (h0 : 0 ≤ l) (h1 : l ≤ 1000000) :
  Calls Tryz.prog 158 #[.int .i64 n, .int .i64 l] w fun e w' => e = .returned (.bool (withinB n l)) ∧ w = w' := by
 by_cases a : -l ≤ n
 ·go_enter Tryz.func158, Tryz.ntmps158
  go_wp2
  go_ret
  exact ⟨ret_bool (by simp [withinB, a]), rfl⟩
 ·go_enter Tryz.func158, Tryz.ntmps158
  go_wp2
  go_ret
  exact ⟨ret_bool (by simp [withinB]; omega), rfl⟩
theorem l1Within_any (n l : Int) (w : World) (h0 : 0 ≤ l) (h1 : l ≤ 1000000) :
  Calls Tryz.prog 98 #[.int .i64 n, .int .i64 l] w fun e w' => e = .returned (.bool (withinB n l)) ∧ w = w' := by
 by_cases a : -l ≤ n
 ·go_enter Tryz.func98, Tryz.ntmps98
  go_wp2
  go_ret
  exact ⟨ret_bool (by simp [withinB, a]), rfl⟩
 ·go_enter Tryz.func98, Tryz.ntmps98
  go_wp2
  go_ret
  exact ⟨ret_bool (by simp [withinB]; omega), rfl⟩
theorem allWithin_any (s : Value) (xs : List Int) (l : Int) (w : World) (hs : IntsAt w s xs) (h0 : 0 ≤ l) (h1 : l ≤ 1000000) :
  Calls Tryz.prog 137 #[s, .int .i64 l] w fun e w' => e = .returned (.bool (xs.all (withinB · l))) ∧ w = w' := by
 obtain ⟨p, c, rfl, hm, hc⟩ := hs
 generalize hlen : xs.length = n at *
 have HL := hid hlen; clear hlen
 have HC := hid hc; clear hc
 go_enter Tryz.func137, Tryz.ntmps137
 go_wp2
 go_loop [9] (fun i => ∃ k : Nat, k ≤ n ∧ i = .int .i64 k ∧ (xs.take k).all (withinB · l) = true) (fun i => n - (intOf i).toNat)
 case atStart => exact ⟨0, by omega, rfl, by simp⟩
 case round =>
  obtain ⟨k, hk, rfl, hall⟩ := hrel
  have HA := hid hall; clear hall
  by_cases hlt : k < n
  ·obtain ⟨x, hx⟩ := get_some (xs := xs) (k := k) (by rw [HL.out]; exact hlt)
   obtain ⟨b, off, rfl, hck⟩ := HC.out k x hx
   have HX := hid hx; clear hx
   go_wp2_with (go_at_call 158; refine (within_any x l _ h0 h1).mono ?_; rintro e w' ⟨rfl, rfl⟩)
   ·have hw : withinB x l = false := nt (by assumption)
    go_ret
    exact ⟨ret_bool (all_false_of HX.out hw).symm, rfl⟩
   ·have hw : withinB x l = true := nf (by assumption)
    go_round
    case rel => exact ⟨k + 1, by omega, by go_num, all_take_next HX.out HA.out hw⟩
    case measure => simp [intOf]; omega
  ·go_wp2
   go_ret
   exact ⟨ret_bool (all_take_end (by rw [HL.out]; omega) HA.out).symm, rfl⟩
theorem AffineValid_any (s : Value) (xs : List Int) (c : Int) (w : World) (hs : IntsAt w s xs) :
  Calls Tryz.prog 178 #[.agg #[s, .int .i64 c]] w fun e w' => e = .returned (.bool (affValidB xs c)) ∧ Ext w w' := by
 obtain ⟨p, cc, rfl, hm, hc⟩ := id hs
 clear hc
 have HS := hid hs; clear hs
 by_cases h4 : xs.length = 4
 ·have h4' : ((xs.length : Int) == 4) = true := by simp [h4]
  have H4 := hid h4; clear h4
  cases ha : xs.all (withinB · 9) with
  | true =>
   have HA := hid ha; clear ha
   go_enter Tryz.func178, Tryz.ntmps178
   go_wp2_with (first
    | (go_at_call 137; refine (allWithin_any _ xs 9 _ (HS.out.ext ((Ext.refl w).alloc _)) (by omega) (by omega)).mono ?_; rw [HA.out]; rintro e w' ⟨rfl, rfl⟩)
    | (go_at_call 158; refine (within_any c 99 _ (by omega) (by omega)).mono ?_; rintro e w' ⟨rfl, rfl⟩))
   go_ret
   exact ⟨ret_bool (by simp [affValidB, HA.out, H4.out]), (Ext.refl w).alloc _⟩
  | false =>
   have HA := hid ha; clear ha
   go_enter Tryz.func178, Tryz.ntmps178
   go_wp2_with (go_at_call 137; refine (allWithin_any _ xs 9 _ (HS.out.ext ((Ext.refl w).alloc _)) (by omega) (by omega)).mono ?_; rw [HA.out]; rintro e w' ⟨rfl, rfl⟩)
   go_ret
   exact ⟨ret_bool (by simp [affValidB, HA.out]), (Ext.refl w).alloc _⟩
 ·have h4' : ((xs.length : Int) == 4) = false := by simp; omega
  have H4 := hid h4; clear h4
  go_enter Tryz.func178, Tryz.ntmps178
  go_wp2
  go_ret
  exact ⟨ret_bool (by simp [affValidB, H4.out]), (Ext.refl w).alloc _⟩
theorem specAffineValid_any (s : Value) (xs : List Int) (c : Int) (w : World) (hs : IntsAt w s xs) :
  Calls Tryz.prog 126 #[.agg #[s, .int .i64 c]] w fun e w' => e = .returned (.bool (affValidB xs c)) ∧ Ext w w' := by
 obtain ⟨p, cc, rfl, hm, hc⟩ := hs
 generalize hlen : xs.length = n at *
 have HL := hid hlen; clear hlen
 have HC := hid hc; clear hc
 go_enter Tryz.func126, Tryz.ntmps126
 go_wp2
 go_loop [3] (fun i => ∃ k : Nat, k ≤ n ∧ i = .int .i64 k ∧ (xs.take k).all (withinB · 9) = true) (fun i => n - (intOf i).toNat)
 case atStart => exact ⟨0, by omega, rfl, by simp⟩
 case round =>
  obtain ⟨k, hk, rfl, hall⟩ := hrel
  have HA := hid hall; clear hall
  by_cases hlt : k < n
  ·obtain ⟨x, hx⟩ := get_some (xs := xs) (k := k) (by rw [HL.out]; exact hlt)
   obtain ⟨b, off, rfl, hck⟩ := HC.out k x hx
   have hbl := World.block_lt_of_cell? w _ hck
   have HX := hid hx; clear hx
   go_wp2_with (go_at_call 98; refine (l1Within_any x 9 _ (by omega) (by omega)).mono ?_; rintro e w' ⟨rfl, rfl⟩)
   ·have hw : withinB x 9 = false := nt (by assumption)
    go_ret
    exact ⟨ret_bool (by simp [affValidB, all_false_of (p := (withinB · 9)) HX.out hw]), (Ext.refl w).alloc _⟩
   ·have hw : withinB x 9 = true := nf (by assumption)
    go_round
    case rel => exact ⟨k + 1, by omega, by go_num, all_take_next HX.out HA.out hw⟩
    case measure => simp [intOf]; omega
  ·have hal : xs.all (withinB · 9) = true := all_take_end (by rw [HL.out]; omega) HA.out
   have HAl := hid hal; clear hal
   by_cases h4 : n = 4
   ·have h4' : ((n : Int) == 4) = true := by simp [h4]
    have H4 := hid h4; clear h4
    go_wp2_with (go_at_call 98; refine (l1Within_any c 99 _ (by omega) (by omega)).mono ?_; rintro e w' ⟨rfl, rfl⟩)
    go_ret
    exact ⟨ret_bool (by simp [affValidB, HAl.out, HL.out, H4.out]), (Ext.refl w).alloc _⟩
   ·have h4' : ((n : Int) == 4) = false := by simp; omega
    have H4 := hid h4; clear h4
    go_wp2
    go_ret
    exact ⟨ret_bool (by simp [affValidB, HL.out, H4.out]), (Ext.refl w).alloc _⟩
def szI (left : Int) (n : Nat) : Int := if left - n < 0 then -1 else left - n
theorem szIntS_any (p : Option Addr) (n c : Nat) (left : Int) (w : World) (hn : n ≤ 9223372036854775807) (h0 : 0 ≤ left) (h1 : left ≤ 1048576) :
  Calls Tryz.prog 62 #[.slice p n c, .int .i64 left] w fun e w' => e = .returned (.int .i64 (szI left n)) ∧ w = w' := by
 by_cases h : left - n < 0
 all_goals
  go_enter Tryz.func62, Tryz.ntmps62
  go_wp2
  go_ret
  exact ⟨ret_int (by simp [szI]; omega), rfl⟩
theorem szAffine_any (p : Option Addr) (n c : Nat) (k left : Int) (w : World) (hn : n ≤ 9223372036854775807) (h0 : 0 ≤ left) (h1 : left ≤ 1048576) :
  Calls Tryz.prog 148 #[.agg #[.slice p n c, .int .i64 k], .int .i64 left] w fun e w' => e = .returned (.int .i64 (szI left n)) ∧ Ext w w' := by
 have hb : -1 ≤ szI left n ∧ szI left n ≤ 1048576 := by unfold szI; split <;> omega
 have hneg : szI left n < 0 → szI left n = -1 := by unfold szI; split <;> omega
 have HB := hid hneg; clear hneg
 go_enter Tryz.func148, Tryz.ntmps148
 go_wp2_with (go_at_call 62; refine (szIntS_any p n c left _ hn h0 h1).mono ?_; rintro e w' ⟨rfl, rfl⟩)
 ·have h : szI left n < 0 := by assumption
  go_ret
  exact ⟨ret_int (HB.out h).symm, (Ext.refl w).alloc _⟩
 ·go_ret
  exact ⟨rfl, (Ext.refl w).alloc _⟩
end Go.Proofs.YtggpjapmhakklaaGreat
namespace Go.Proofs.YtggpjapmhakklaaGreat
open Go.Lib (hid)
open Go.RowKit
theorem IntsAt.get {w : World} {v : Value} {xs : List Int} (h : IntsAt w v xs) : ∃ p c, v = .slice p xs.length c ∧ xs.length ≤ 9223372036854775807 ∧ ∀ i x, xs[i]? = some x → ∃ b off, p = some ⟨b, off, none⟩ ∧ w.cell? ⟨b, off + i, none⟩ = some (.int .i64 x) ∧ b < w.heap.size := by
 obtain ⟨p, c, hv, hm, hc⟩ := h
 refine ⟨p, c, hv, hm, fun i x hx => ?_⟩
 obtain ⟨b, off, hp, hck⟩ := hc i x hx
 exact ⟨b, off, hp, hck, World.block_lt_of_cell? w _ hck⟩
theorem Ext.keep {w w' : World} {a : Addr} {v : Value} (h : Ext w w') (hc : w.cell? a = some v) : w'.cell? a = some v := (Below.cell h (World.block_lt_of_cell? w _ hc)).trans hc
theorem new0 (w : World) (v : Value) (vs : List Value) (t : TypeId) : (w.alloc (.cells (v :: vs).toArray t)).cell? ⟨w.heap.size, 0, none⟩ = some v := by simp [go_sem]
theorem new1 (w : World) (v0 v : Value) (vs : List Value) (t : TypeId) : (w.alloc (.cells (v0 :: v :: vs).toArray t)).cell? ⟨w.heap.size, 1, none⟩ = some v := by simp [go_sem]
theorem set_next (xs : List Int) (n k : Nat) (x : Int) (hx : xs[k]? = some x) (hn : xs.length = n) :
  ((xs.take k).map (Value.int .i64) ++ List.replicate (n - k) (Value.int .i64 0)).set k (.int .i64 x) = (xs.take (k + 1)).map (Value.int .i64) ++ List.replicate (n - (k + 1)) (Value.int .i64 0) := by
 have hk : k < xs.length := by
  rcases Nat.lt_or_ge k xs.length with h | h
  ·exact h
  ·rw [List.getElem?_eq_none h] at hx; cases hx
 rw [take_next hx]
 have e : n - k = (n - (k + 1)) + 1 := by omega
 rw [e, List.replicate_succ]
 have hl : k = ((xs.take k).map (Value.int .i64)).length := by simp; omega
 conv => lhs; rw [hl]
 simp [Nat.min_eq_left (Nat.le_of_lt hk)]
theorem get_rest {α : Type} (A : List α) (z : α) (n k : Nat) (h : A.length = k) (hk : k < n) : (A ++ List.replicate (n - k) z)[k]? = some z := by
 rw [List.getElem?_append_right (by omega), h, Nat.sub_self, List.getElem?_replicate, if_pos (by omega)]
theorem IntsOwn.mk {B n : Nat} {w : World} {v : Value} {xs : List Int} (h : w.ownsRow B 3 1 v n (xs.map (Value.int .i64))) (hn : xs.length = n) : IntsOwn B w v xs := by
 unfold IntsOwn; rw [hn]; exact h
theorem ownsRow_weak {B B' : Nat} {w : World} {e : TypeId} {size : Nat} {v : Value} {n : Nat} {xs : List Value} (h : w.ownsRow B e size v n xs) (hB : B' ≤ B) : w.ownsRow B' e size v n xs := by
 refine ⟨h.1, ?_⟩
 rcases h.2 with hn | ⟨g, cap, cur, hv, hbg, r⟩
 ·exact .inl hn
 ·exact .inr ⟨g, cap, cur, hv, Nat.le_trans hB hbg, r⟩
theorem IntsOwn.weak {B B' : Nat} {w : World} {v : Value} {xs : List Int} (h : IntsOwn B w v xs) (hB : B' ≤ B) : IntsOwn B' w v xs := ownsRow_weak h hB
theorem IntsOwn.setOld {B : Nat} {w : World} {v : Value} {xs : List Int} (h : IntsOwn B w v xs) {p : Addr} (hp : p.block < B) (u : Value) : IntsOwn B (w.setCell p u) v xs := ownsRow_setCell_below h hp u
theorem toIntS_any (s : Value) (xs : List Int) (w : World) (hs : IntsAt w s xs) (hn : xs.length ≤ 1048576) :
  Calls Tryz.prog 15 #[s] w fun e w' => ∃ p c, e = .returned (.slice p xs.length c) ∧ IntsOwn w.heap.size w' (.slice p xs.length c) xs ∧ Ext w w' := by
 obtain ⟨p, c, rfl, hm, hc⟩ := hs.get
 clear hs
 obtain ⟨i0, hi, hz0, hz1, hz2⟩ := info_parts infoInt
 generalize hlen : xs.length = n at *
 have HL := hid hlen; clear hlen
 have HC := hid hc; clear hc
 go_enter Tryz.func15, Tryz.ntmps15
 go_wp2_with (at_make; refine wpList_make_full _ rfl _ _ 27 rfl w.heap.size 3 i0 (.int .i64 0) 1 Tryz.underlying27 hi hz0 hz1 _ _ _ _ n rfl rfl rfl rfl ?b2 ?b3 (Nat.le_refl _) ?_)
 case b2 => rw [hz2]; omega
 case b3 => unfold maxLen; omega
 intro w0 hown0 hgrow0
 rw [toList_madeCells_one] at hown0
 have HO := hid hown0; clear hown0
 have HG := hid hgrow0; clear hgrow0
 clear hi hz0 hz1 hz2
 go_wp2
 go_loopw [4] (fun i wr => ∃ k : Nat, k ≤ n ∧ i = .int .i64 k ∧ wr.ownsRow w.heap.size 3 1 (.slice (some ⟨w.heap.size, 0, none⟩) n n) n ((xs.take k).map (Value.int .i64) ++ List.replicate (n - k) (Value.int .i64 0)) ∧ Ext w wr) (fun i _ => n - (intOf i).toNat)
 case atStart => exact ⟨0, by omega, rfl, by simpa using HO.out, (Ext.refl w).grown HG.out (fun k h => by cases h)⟩
 case round =>
  obtain ⟨k, hk, rfl, hown, hE⟩ := hrel
  by_cases hlt : k < n
  ·obtain ⟨x, hx⟩ := get_some (xs := xs) (k := k) (by rw [HL.out]; exact hlt)
   obtain ⟨b, off, rfl, hck, hbl⟩ := HC.out k x hx
   have hck' := (hE.cells.1 _ (off + k) hbl).trans hck
   have hfr := hown.frozenAt k
   have hcc : wr.cell? ⟨w.heap.size, k, none⟩ = some (.int .i64 0) := by
    rw [hown.cellAt k (by omega), get_rest _ _ n k (by rw [List.length_map, List.length_take, HL.out]; omega) hlt]
   have hst := (hown.stored k (.int .i64 x)).1
   rw [set_next xs n k x hx HL.out] at hst
   have HS := hid hst; clear hst
   have HX := hid hx; clear hx
   have HOw := hid hown; clear hown
   clear hck
   go_wp2
   go_roundw
   case rel => exact ⟨k + 1, by omega, by go_num, HS.out, hE.setCell (Nat.le_refl _) _⟩
   case measure => simp [intOf]; omega
  ·go_wp2
   go_ret
   have e : k = n := by omega
   subst e
   rw [List.take_of_length_le (by rw [HL.out]; omega), Nat.sub_self, List.replicate_zero, List.append_nil] at hown
   exact ⟨_, _, rfl, IntsOwn.mk hown HL.out, hE⟩
theorem toAffine_any (s : Value) (xs : List Int) (c : Int) (w : World) (hs : IntsAt w s xs) (hn : xs.length ≤ 1048576) :
  Calls Tryz.prog 152 #[.agg #[s, .int .i64 c]] w fun e w' => ∃ p cc, e = .returned (.agg #[.slice p xs.length cc, .int .i64 c]) ∧ IntsOwn w.heap.size w' (.slice p xs.length cc) xs ∧ Ext w w' := by
 have HS := hid hs; clear hs
 obtain ⟨p, cc, rfl, hm, hc⟩ := HS.out
 clear hc
 go_enter Tryz.func152, Tryz.ntmps152
 go_wp2_with (go_at_call 15; refine (toIntS_any _ xs _ (HS.out.ext ((((Ext.refl w).alloc _).alloc _).alloc _)) hn).mono ?_; rintro e w1 ⟨p1, c1, rfl, hv, hE⟩; obtain ⟨hc1, hf1⟩ := hE.cells; have hsz := hE.size_le; have HV := hid (hv.weak (B' := w.heap.size + 3) (by simp)); have HE := hid hE; clear hv hE)
 refine bodyPost_ret (v := .agg #[.slice p1 xs.length c1, .int .i64 c]) (by simp [results, Tryz.results152, go_sem, hc1]) rfl ⟨_, _, rfl, ?_, ?_⟩
 ·refine IntsOwn.weak (B := w.heap.size + 3) ?_ (by omega)
  repeat (refine IntsOwn.setOld ?_ (by simp <;> omega) _)
  exact HV.out
 ·repeat (refine Ext.setCell ?_ (by simp <;> omega) _)
  exact (((Ext.refl w).alloc _).alloc _).alloc _ |>.trans HE.out
def eqB (xs ys : List Int) : Bool := decide (xs = ys)
theorem eqB_len {xs ys : List Int} (h : xs.length ≠ ys.length) : eqB xs ys = false := by
 unfold eqB; apply decide_eq_false; intro e; exact h (by rw [e])
theorem eqB_ne {xs ys : List Int} {k : Nat} {x y : Int} (hx : xs[k]? = some x) (hy : ys[k]? = some y) (h : x ≠ y) : eqB xs ys = false := by
 unfold eqB; apply decide_eq_false; intro e; rw [e, hy] at hx; exact h (Option.some.inj hx).symm
theorem take_eq_next {xs ys : List Int} {k : Nat} {x y : Int} (hx : xs[k]? = some x) (hy : ys[k]? = some y) (h : xs.take k = ys.take k) (e : x = y) : xs.take (k + 1) = ys.take (k + 1) := by
 rw [take_next hx, take_next hy, h, e]
theorem eqB_all {xs ys : List Int} {k : Nat} (hx : xs.length ≤ k) (hy : ys.length ≤ k) (h : xs.take k = ys.take k) : eqB xs ys = true := by
 rw [List.take_of_length_le hx, List.take_of_length_le hy] at h; simp [eqB, h]
theorem eqIntS_any (s t : Value) (xs ys : List Int) (w : World) (hs : IntsAt w s xs) (ht : IntsAt w t ys) :
  Calls Tryz.prog 9 #[s, t] w fun e w' => e = .returned (.bool (eqB xs ys)) ∧ Ext w w' := by
 obtain ⟨p, c, rfl, hm, hc⟩ := hs.get
 obtain ⟨q, d, rfl, hm2, hd⟩ := ht.get
 clear hs ht
 generalize hlen : xs.length = n at *
 have HL := hid hlen; clear hlen
 have HC := hid hc; clear hc
 have HD := hid hd; clear hd
 by_cases hne : ys.length = n
 ·have HN := hid hne
  rw [hne] at hm2 ⊢
  clear hne
  go_enter Tryz.func9, Tryz.ntmps9
  go_wp2
  go_loopw [5] (fun i wr => ∃ k : Nat, k ≤ n ∧ i = .int .i64 k ∧ xs.take k = ys.take k ∧ Ext w wr) (fun i _ => n - (intOf i).toNat)
  case atStart => exact ⟨0, by omega, rfl, rfl, Ext.refl w⟩
  case round =>
   obtain ⟨k, hk, rfl, htk, hE⟩ := hrel
   have HT := hid htk; clear htk
   by_cases hlt : k < n
   ·obtain ⟨x, hx⟩ := get_some (xs := xs) (k := k) (by rw [HL.out]; exact hlt)
    obtain ⟨y, hy⟩ := get_some (xs := ys) (k := k) (by rw [HN.out]; exact hlt)
    obtain ⟨b, off, rfl, hck, hbl⟩ := HC.out k x hx
    obtain ⟨b2, off2, rfl, hdk, hbl2⟩ := HD.out k y hy
    have hck' := (hE.cells.1 _ (off + k) hbl).trans hck
    have hdk' := (hE.cells.1 _ (off2 + k) hbl2).trans hdk
    have HX := hid hx; clear hx
    have HY := hid hy; clear hy
    clear hck hdk
    by_cases hxy : x = y
    ·subst hxy
     go_wp2
     go_quiet (fail)
     go_wp2
     go_roundw
     case rel => exact ⟨k + 1, by omega, by go_num, take_eq_next HX.out HY.out HT.out rfl, hE.drewN _⟩
     case measure => simp [intOf]; omega
    ·have hb : (x != y) = true := by simp [hxy]
     have HXY := hid hxy; clear hxy
     go_wp2
     go_quiet (fail)
     go_wp2
     go_ret
     exact ⟨ret_bool (eqB_ne HX.out HY.out HXY.out).symm, hE.drewN _⟩
   ·go_wp2
    go_ret
    exact ⟨ret_bool (eqB_all (by rw [HL.out]; omega) (by rw [HN.out]; omega) HT.out).symm, hE⟩
 ·have hb : ((n : Int) != ys.length) = true := by simp; omega
  have HN := hid hne; clear hne
  go_enter Tryz.func9, Tryz.ntmps9
  go_wp2
  go_ret
  exact ⟨ret_bool (eqB_len (by rw [HL.out]; exact fun e => HN.out e.symm)).symm, Ext.refl w⟩
theorem slicesEqual_any (s t : Value) (xs ys : List Int) (w : World) (hs : IntsAt w s xs) (ht : IntsAt w t ys) :
  Calls Tryz.prog 183 #[s, t] w fun e w' => e = .returned (.bool (eqB xs ys)) ∧ Ext w w' := by
 obtain ⟨p, c, rfl, hm, hc⟩ := hs.get
 obtain ⟨q, d, rfl, hm2, hd⟩ := ht.get
 clear hs ht
 generalize hlen : xs.length = n at *
 have HL := hid hlen; clear hlen
 have HC := hid hc; clear hc
 have HD := hid hd; clear hd
 by_cases hne : ys.length = n
 ·have HN := hid hne
  rw [hne] at hm2 ⊢
  clear hne
  go_enter Tryz.func183, Tryz.ntmps183
  go_wp2
  go_loopw [13] (fun i wr => ∃ k : Nat, k ≤ n ∧ i = .int .i64 k ∧ xs.take k = ys.take k ∧ Ext w wr) (fun i _ => n - (intOf i).toNat)
  case atStart => exact ⟨0, by omega, rfl, rfl, Ext.refl w⟩
  case round =>
   obtain ⟨k, hk, rfl, htk, hE⟩ := hrel
   have HT := hid htk; clear htk
   by_cases hlt : k < n
   ·obtain ⟨x, hx⟩ := get_some (xs := xs) (k := k) (by rw [HL.out]; exact hlt)
    obtain ⟨y, hy⟩ := get_some (xs := ys) (k := k) (by rw [HN.out]; exact hlt)
    obtain ⟨b, off, rfl, hck, hbl⟩ := HC.out k x hx
    obtain ⟨b2, off2, rfl, hdk, hbl2⟩ := HD.out k y hy
    have hck' := (hE.cells.1 _ (off + k) hbl).trans hck
    have hdk' := (hE.cells.1 _ (off2 + k) hbl2).trans hdk
    have HX := hid hx; clear hx
    have HY := hid hy; clear hy
    clear hck hdk
    by_cases hxy : x = y
    ·subst hxy
     go_wp2
     go_quiet (fail)
     go_wp2
     go_roundw
     case rel => exact ⟨k + 1, by omega, by go_num, take_eq_next HX.out HY.out HT.out rfl, hE.drewN _⟩
     case measure => simp [intOf]; omega
    ·have hb : (x != y) = true := by simp [hxy]
     have HXY := hid hxy; clear hxy
     go_wp2
     go_quiet (fail)
     go_wp2
     go_ret
     exact ⟨ret_bool (eqB_ne HX.out HY.out HXY.out).symm, hE.drewN _⟩
   ·go_wp2
    go_ret
    exact ⟨ret_bool (eqB_all (by rw [HL.out]; omega) (by rw [HN.out]; omega) HT.out).symm, hE⟩
 ·have hb : ((n : Int) != ys.length) = true := by simp; omega
  have HN := hid hne; clear hne
  go_enter Tryz.func183, Tryz.ntmps183
  go_wp2
  go_ret
  exact ⟨ret_bool (eqB_len (by rw [HL.out]; exact fun e => HN.out e.symm)).symm, Ext.refl w⟩
end Go.Proofs.YtggpjapmhakklaaGreat
namespace Go.Proofs.YtggpjapmhakklaaGreat
open Go.Lib (hid)
open Go.RowKit
def affEqB (xs : List Int) (c : Int) (ys : List Int) (d : Int) : Bool := eqB xs ys && decide (c = d)
theorem eqAffine_any (s t : Value) (xs ys : List Int) (c d : Int) (w : World) (hs : IntsAt w s xs) (ht : IntsAt w t ys) :
  Calls Tryz.prog 162 #[.agg #[s, .int .i64 c], .agg #[t, .int .i64 d]] w fun e w' => e = .returned (.bool (affEqB xs c ys d)) ∧ Ext w w' := by
 obtain ⟨p, k, rfl, hm, hc⟩ := id hs
 obtain ⟨q, l, rfl, hm2, hd⟩ := id ht
 clear hc hd
 have HS := hid hs; clear hs
 have HT := hid ht; clear ht
 by_cases hcd : c = d
 ·subst hcd
  go_enter Tryz.func162, Tryz.ntmps162
  go_wp2_with (go_at_call 9; refine (eqIntS_any _ _ xs ys _ (HS.out.ext (((Ext.refl w).alloc _).alloc _)) (HT.out.ext (((Ext.refl w).alloc _).alloc _))).mono ?_; rintro e w1 ⟨rfl, hE⟩; obtain ⟨hc1, hf1⟩ := hE.cells; have hsz := hE.size_le; have HE := hid hE; clear hE)
  ·have h := nt (by assumption)
   go_ret
   exact ⟨ret_bool (by simp [affEqB, h]), (((Ext.refl w).alloc _).alloc _).trans HE.out⟩
  ·have h := nf (by assumption)
   go_ret
   exact ⟨ret_bool (by simp [affEqB, h]), (((Ext.refl w).alloc _).alloc _).trans HE.out⟩
 ·have hb : (c != d) = true := by simp [hcd]
  have HCD := hid hcd; clear hcd
  go_enter Tryz.func162, Tryz.ntmps162
  go_wp2_with (go_at_call 9; refine (eqIntS_any _ _ xs ys _ (HS.out.ext (((Ext.refl w).alloc _).alloc _)) (HT.out.ext (((Ext.refl w).alloc _).alloc _))).mono ?_; rintro e w1 ⟨rfl, hE⟩; obtain ⟨hc1, hf1⟩ := hE.cells; have hsz := hE.size_le; have HE := hid hE; clear hE)
  all_goals
   go_ret
   exact ⟨ret_bool (by simp [affEqB, HCD.out]), (((Ext.refl w).alloc _).alloc _).trans HE.out⟩
theorem AffineSame_any (s t : Value) (xs ys : List Int) (c d : Int) (w : World) (hs : IntsAt w s xs) (ht : IntsAt w t ys) :
  Calls Tryz.prog 179 #[.agg #[s, .int .i64 c], .agg #[t, .int .i64 d]] w fun e w' => e = .returned (.bool (affEqB xs c ys d)) ∧ Ext w w' := by
 obtain ⟨p, k, rfl, hm, hc⟩ := id hs
 obtain ⟨q, l, rfl, hm2, hd⟩ := id ht
 clear hc hd
 have HS := hid hs; clear hs
 have HT := hid ht; clear ht
 by_cases hcd : c = d
 ·subst hcd
  go_enter Tryz.func179, Tryz.ntmps179
  go_wp2_with (go_at_call 183; refine (slicesEqual_any _ _ xs ys _ (HS.out.ext (((Ext.refl w).alloc _).alloc _)) (HT.out.ext (((Ext.refl w).alloc _).alloc _))).mono ?_; rintro e w1 ⟨rfl, hE⟩; have HE := hid hE; clear hE)
  go_ret
  exact ⟨ret_bool (by simp [affEqB]), (((Ext.refl w).alloc _).alloc _).trans HE.out⟩
 ·have hb : (c == d) = false := by simp [hcd]
  have HCD := hid hcd; clear hcd
  go_enter Tryz.func179, Tryz.ntmps179
  go_wp2
  go_ret
  exact ⟨ret_bool (by simp [affEqB, HCD.out]), (((Ext.refl w).alloc _).alloc _)⟩
def marks (k : Int) (n : Nat) : List Int := (List.range n).map (fun (i : Nat) => k + (i : Int))
theorem marks_len (k : Int) (n : Nat) : (marks k n).length = n := by simp [marks]
theorem marks_get (k : Int) (n i : Nat) (h : i < n) : (marks k n)[i]? = some (k + (i : Int)) := by simp [marks, h]
theorem marks_next (xs : List Int) (k : Int) (i : Nat) (h : i < xs.length) :
  ((marks k i ++ xs.drop i).map (Value.int .i64)).set i (.int .i64 (k + (i : Int))) = (marks k (i + 1) ++ xs.drop (i + 1)).map (Value.int .i64) := by
 rw [← List.map_set]
 congr 1
 rw [List.drop_eq_getElem_cons h]
 have hl : i = (marks k i).length := (marks_len k i).symm
 conv => lhs; arg 2; rw [hl]
 rw [List.set_append_right _ _ (Nat.le_refl _), Nat.sub_self, List.set_cons_zero]
 simp [marks, List.range_succ]
theorem grownBy_trans {a b c : World} {r : Option Nat} (h : a.grownBy b r) (k : b.grownBy c r) : a.grownBy c r :=
 ⟨k.os.trans h.os, k.tape.trans h.tape, k.output.trans h.output, Nat.le_trans h.size k.size, fun i hi hr => (k.block i (Nat.lt_of_lt_of_le hi h.size) hr).trans (h.block i hi hr)⟩
theorem Ext.grownBy {a b : World} (h : Ext a b) (r : Option Nat) : a.grownBy b r := ⟨h.os, h.tape, h.output, h.size, fun i hi _ => h.block i hi⟩
theorem markIntS_any (B : Nat) (p : Option Addr) (n c : Nat) (xs : List Int) (k : Int) (w : World) (hn : xs.length = n) (ho : w.ownsRow B 3 1 (.slice p n c) n (xs.map (Value.int .i64))) (hk : 0 ≤ k) (hk1 : k + n ≤ 1000000000000) :
  Calls Tryz.prog 12 #[.slice p n c, .int .i64 k] w fun e w' => e = .returned (.int .i64 (k + n)) ∧ w'.ownsRow B 3 1 (.slice p n c) n ((marks k n).map (Value.int .i64)) ∧ w.grownBy w' (Value.slice p n c).ownBlock := by
 have HO := hid ho; clear ho
 have HL := hid hn; clear hn
 go_enter Tryz.func12, Tryz.ntmps12
 go_wp2
 go_loopw [1, 5] (fun kk i wr => ∃ j : Nat, j ≤ n ∧ i = .int .i64 j ∧ kk = .int .i64 (k + j) ∧ wr.ownsRow B 3 1 (.slice p n c) n ((marks k j ++ xs.drop j).map (Value.int .i64)) ∧ w.grownBy wr (Value.slice p n c).ownBlock) (fun _ i _ => n - (intOf i).toNat)
 case atStart => exact ⟨0, by omega, rfl, by simp, by simpa [marks] using HO.out, World.grownBy.refl _ _⟩
 case round =>
  obtain ⟨j, hj, rfl, rfl, hown, hg⟩ := hrel
  by_cases hlt : j < n
  ·obtain ⟨g, rfl⟩ : ∃ g, p = some ⟨g, 0, none⟩ := by
    rcases hown.2 with ⟨h, h0⟩ | ⟨g, cap, cur, h, _⟩
    ·omega
    ·exact ⟨g, by simpa using (Value.slice.inj h).1⟩
   have hfr := hown.frozenAt j
   have hcc : ∃ v0, wr.cell? ⟨g, j, none⟩ = some v0 := by
    rw [hown.cellAt j (by omega)]; exact get_some (by simp [marks_len, HL.out]; omega)
   obtain ⟨v0, hcc⟩ := hcc
   have hst := hown.stored j (.int .i64 (k + j))
   rw [marks_next xs k j (by rw [HL.out]; omega)] at hst
   have HS := hid hst; clear hst
   have HW := hid hown; clear hown
   have HG := hid hg; clear hg
   go_wp2
   go_roundw
   case rel => exact ⟨j + 1, by omega, by go_num, by go_num, HS.out.1, grownBy_trans HG.out HS.out.2⟩
   case measure => simp [intOf]; omega
  ·have e : j = n := by omega
   subst e
   rw [List.drop_eq_nil_of_le (by rw [HL.out]; omega), List.append_nil] at hown
   have HW := hid hown; clear hown
   go_wp2
   go_ret
   exact ⟨rfl, HW.out, hg⟩
theorem heldIntS_any (s : Value) (n : Nat) (k : Int) (w : World) (hs : IntsAt w s (marks k n)) (hk : 0 ≤ k) (hk1 : k + n ≤ 1000000000000) :
  Calls Tryz.prog 13 #[s, .int .i64 k] w fun e w' => e = .returned (.int .i64 (k + n)) ∧ w = w' := by
 obtain ⟨p, c, rfl, hm, hc⟩ := hs.get
 rw [marks_len] at hm ⊢
 have HC := hid hc; clear hc hs
 go_enter Tryz.func13, Tryz.ntmps13
 go_wp2
 go_loop [1, 5] (fun kk i => ∃ j : Nat, j ≤ n ∧ i = .int .i64 j ∧ kk = .int .i64 (k + j)) (fun _ i => n - (intOf i).toNat)
 case atStart => exact ⟨0, by omega, rfl, by simp⟩
 case round =>
  obtain ⟨j, hj, rfl, rfl⟩ := hrel
  by_cases hlt : j < n
  ·obtain ⟨b, off, rfl, hck, hbl⟩ := HC.out j _ (marks_get k n j hlt)
   go_wp2
   go_round
   case rel => exact ⟨j + 1, by omega, by go_num, by go_num⟩
   case measure => simp [intOf]; omega
  ·have e : j = n := by omega
   subst e
   go_wp2
   go_ret
   exact ⟨rfl, rfl⟩
end Go.Proofs.YtggpjapmhakklaaGreat

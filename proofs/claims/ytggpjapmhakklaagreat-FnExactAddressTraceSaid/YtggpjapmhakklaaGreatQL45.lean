/- The texts G24 G31, joined. No statement is proved here. -/
import Derived.Test.YtggpjapmhakklaaGreatQL38
import Derived.Test.YtggpjapmhakklaaGreatQL39
import Derived.Test.YtggpjapmhakklaaGreatQL21
import Derived.Test.YtggpjapmhakklaaGreatQL26
import Derived.Test.YtggpjapmhakklaaGreatQL09
import Derived.Laws.IdiomStrings
set_option maxRecDepth 100000
set_option maxHeartbeats 8000000
set_option linter.unusedVariables false
set_option linter.unusedSimpArgs false
namespace Go.Proofs.YtggpjapmhakklaaGreat
open Go.Lib (hid)
open Go.RowKit Go.Maps
theorem insM_120 {ars : List Arr} {ps : List Pt} (h : progB ars ps = true) : (insM ps).length ≤ 120 := by rw [insM_len]; exact (progB_inv h).2.2.2
end Go.Proofs.YtggpjapmhakklaaGreat
namespace Go.Proofs.YtggpjapmhakklaaGreat
open Go.Lib (hid)
open Go.RowKit
structure Sh (B : Nat) (w0 w : World) : Prop where
 size : w0.heap.size ≤ w.heap.size
 cell : ∀ g o u, B ≤ g → g < w0.heap.size → w0.cell? ⟨g, o, none⟩ = some u → ∃ u', w.cell? ⟨g, o, none⟩ = some u'
 slc : ∀ g o p n c, B ≤ g → g < w0.heap.size → w0.cell? ⟨g, o, none⟩ = some (.slice p n c) → w.cell? ⟨g, o, none⟩ = some (.slice p n c)
 frz : ∀ g o, B ≤ g → g < w0.heap.size → w0.frozen? ⟨g, o, none⟩ = false → w.frozen? ⟨g, o, none⟩ = false
theorem Sh.refl (B : Nat) (w : World) : Sh B w w := ⟨Nat.le_refl _, fun _ _ u _ _ h => ⟨u, h⟩, fun _ _ _ _ _ _ _ h => h, fun _ _ _ _ h => h⟩
def NoSl (u : Value) : Prop := ∀ p n c, u ≠ .slice p n c
theorem NoSl.int (x : Int) : NoSl (.int .i64 x) := fun _ _ _ h => by cases h
theorem NoSl.str (x : ByteArray) : NoSl (.string x) := fun _ _ _ h => by cases h
theorem frozen_block {w w' : World} {g o : Nat} (h : w'.heap[g]? = w.heap[g]?) : w'.frozen? ⟨g, o, none⟩ = w.frozen? ⟨g, o, none⟩ := by
 simp only [World.frozen?, h]
theorem Sh.ext {B : Nat} {w0 w w' : World} (h : Sh B w0 w) (hE : Ext w w') : Sh B w0 w' := by
 have hb : ∀ g, g < w0.heap.size → w'.heap[g]? = w.heap[g]? := fun g hg => hE.block g (Nat.lt_of_lt_of_le hg h.size)
 refine ⟨Nat.le_trans h.size hE.size, fun g o u h1 h2 h3 => ?_, fun g o p n c h1 h2 h3 => ?_, fun g o h1 h2 h3 => ?_⟩
 ·rw [World.cell?_of_block (hb g h2)]; exact h.cell g o u h1 h2 h3
 ·rw [World.cell?_of_block (hb g h2)]; exact h.slc g o p n c h1 h2 h3
 ·rw [frozen_block (hb g h2)]; exact h.frz g o h1 h2 h3
theorem Sh.set {B : Nat} {w0 w : World} (h : Sh B w0 w) {g o : Nat} {u : Value} (hg : w0.cell? ⟨g, o, none⟩ = some u) (hu : NoSl u) (x : Value) : Sh B w0 (w.setCell ⟨g, o, none⟩ x) := by
 refine ⟨by rw [World.size_setCell]; exact h.size, fun g' o' u' h1 h2 h3 => ?_, fun g' o' p n c h1 h2 h3 => ?_, fun g' o' h1 h2 h3 => ?_⟩
 ·by_cases e : (⟨g, o, none⟩ : Addr) = ⟨g', o', none⟩
  ·cases e
   obtain ⟨u2, h4⟩ := h.cell g o u' h1 h2 h3
   exact ⟨x, World.cell?_setCell_same _ _ _ h4⟩
  ·rw [World.cell?_setCell_other _ _ _ _ e]; exact h.cell g' o' u' h1 h2 h3
 ·by_cases e : (⟨g, o, none⟩ : Addr) = ⟨g', o', none⟩
  ·cases e
   rw [hg] at h3; cases h3
   exact absurd rfl (hu p n c)
  ·rw [World.cell?_setCell_other _ _ _ _ e]; exact h.slc g' o' p n c h1 h2 h3
 ·rw [World.frozen?_setCell]; exact h.frz g' o' h1 h2 h3
structure Mk (B : Nat) (w0 w w' : World) : Prop where
 sh : Sh B w0 w'
 lv : Lv (fun b => B ≤ b ∧ b < w0.heap.size) w w'
theorem Mk.refl {B : Nat} {w0 w : World} (h : Sh B w0 w) : Mk B w0 w w := ⟨h, Lv.refl _ _⟩
theorem Mk.trans {B : Nat} {w0 a b c : World} (h : Mk B w0 a b) (k : Mk B w0 b c) : Mk B w0 a c := ⟨k.sh, h.lv.trans k.lv (fun _ _ h => h) (fun _ _ h => h)⟩
theorem Mk.ext {B : Nat} {w0 a b c : World} (h : Mk B w0 a b) (hE : Ext b c) : Mk B w0 a c := h.trans ⟨h.sh.ext hE, hE.lv⟩
theorem Mk.set {B : Nat} {w0 a b : World} (h : Mk B w0 a b) {g o : Nat} {u : Value} (hB : B ≤ g) (hl : g < w0.heap.size) (hg : w0.cell? ⟨g, o, none⟩ = some u) (hu : NoSl u) (x : Value) : Mk B w0 a (b.setCell ⟨g, o, none⟩ x) :=
 h.trans ⟨h.sh.set hg hu x, ⟨rfl, rfl, rfl, by rw [World.size_setCell]; exact Nat.le_refl _, fun k _ hn => Below.heap_setCell _ _ _ _ (fun e => hn (by rw [e]; exact ⟨hB, hl⟩))⟩⟩
structure Cl (B : Nat) (w0 : World) (g o : Nat) (u : Value) : Prop where
 lo : B ≤ g
 hi : g < w0.heap.size
 cell : w0.cell? ⟨g, o, none⟩ = some u
 frz : w0.frozen? ⟨g, o, none⟩ = false
theorem Cl.of {B g n c j size : Nat} {e : TypeId} {w0 : World} {vs : List Value} {u : Value} (ho : w0.ownsRow B e size (.slice (some ⟨g, 0, none⟩) n c) n vs) (hu : vs[j]? = some u) : Cl B w0 g j u := by
 have h := ho.lt g rfl
 have hl := ho.1
 have hj := (List.getElem?_eq_some_iff.1 hu).1
 exact ⟨h.1, h.2, by rw [ho.cellAt j (by omega)]; exact hu, ho.frozenAt j⟩
theorem slRow_at {B n c size : Nat} {e : TypeId} {w0 : World} {p : Option Addr} {vs : List Value} (ho : w0.ownsRow B e size (.slice p n c) n vs) (h : 0 < n) : ∃ g, p = some ⟨g, 0, none⟩ := by
 rcases ho.2 with ⟨_, h0⟩ | ⟨g, cap, cur, h, _⟩
 ·omega
 ·exact ⟨g, (Value.slice.inj h).1⟩
theorem row_form {B n size : Nat} {e : TypeId} {w0 : World} {v : Value} {vs : List Value} (ho : w0.ownsRow B e size v n vs) : ∃ p c, v = .slice p n c := by
 rcases ho.2 with ⟨h, h0⟩ | ⟨g, cap, cur, h, _⟩
 ·exact ⟨none, 0, by rw [h, h0]⟩
 ·exact ⟨_, _, h⟩
theorem row_len {B n size : Nat} {e : TypeId} {w0 : World} {v : Value} {vs : List Value} (ho : w0.ownsRow B e size v n vs) : n ≤ 9223372036854775807 := by
 rcases ho.2 with ⟨h, h0⟩ | ⟨g, cap, cur, _, _, _, h1, h2, _⟩
 ·omega
 ·unfold maxLen at h2; omega
theorem Cl.open {B g o : Nat} {w0 w : World} {u : Value} (h : Cl B w0 g o u) (hS : Sh B w0 w) : w.frozen? ⟨g, o, none⟩ = false ∧ (∃ v, w.cell? ⟨g, o, none⟩ = some v) ∧ g < w.heap.size :=
 ⟨hS.frz g o h.lo h.hi h.frz, hS.cell g o u h.lo h.hi h.cell, Nat.lt_of_lt_of_le h.hi hS.size⟩
theorem Cl.slc {B g o n c : Nat} {w0 w : World} {p : Option Addr} (h : Cl B w0 g o (.slice p n c)) (hS : Sh B w0 w) : w.cell? ⟨g, o, none⟩ = some (.slice p n c) := hS.slc g o p n c h.lo h.hi h.cell
theorem Mk.put {B : Nat} {w0 a b : World} (h : Mk B w0 a b) {g o : Nat} {u : Value} (hc : Cl B w0 g o u) (hu : NoSl u) (x : Value) : Mk B w0 a (b.setCell ⟨g, o, none⟩ x) := h.set hc.lo hc.hi hc.cell hu x
def tot {α : Type} (f : α → Nat) : List α → Nat
 | [] => 0
 | x :: r => f x + tot f r
theorem tot_app {α : Type} (f : α → Nat) (xs ys : List α) : tot f (xs ++ ys) = tot f xs + tot f ys := by
 induction xs with
 | nil => simp [tot]
 | cons x r ih => simp only [List.cons_append, tot, ih]; omega
theorem tot_next {α : Type} (f : α → Nat) {xs : List α} {k : Nat} {x : α} (h : xs[k]? = some x) : tot f (xs.take (k + 1)) = tot f (xs.take k) + f x := by
 rw [take_next h, tot_app]; simp [tot]
theorem tot_take {α : Type} (f : α → Nat) (xs : List α) (k : Nat) : tot f (xs.take k) ≤ tot f xs := by
 conv => rhs; rw [← List.take_append_drop k xs, tot_app]
 omega
theorem tot_at {α : Type} (f : α → Nat) {xs : List α} {k : Nat} {x : α} (h : xs[k]? = some x) : tot f (xs.take k) + f x ≤ tot f xs := by
 rw [← tot_next f h]; exact tot_take f xs (k + 1)
def cA (a : Aff) : Nat := a.1.length + 1
def cL (l : Lp) : Nat := tot cA l.1 + tot cA l.2
def cAr (a : Arr) : Nat := a.2.length + 1
theorem size_pre (b : UInt8) (s : ByteArray) : (ByteArray.mk #[b] ++ s).size = s.size + 1 := by
 rw [ByteArray.size_append]
 have : (ByteArray.mk #[b]).size = 1 := rfl
 omega
theorem mconv1 (w : World) (g c : Nat) (hc : c ≤ 255) (h : w.cell? ⟨g, 0, none⟩ = some (.int .u8 (c : Int))) : Sem.run Tryz.prog (convert 179 9 (.slice (some ⟨g, 0, none⟩) 1 1)) w = .ok (.string ⟨#[UInt8.ofNat c]⟩) w := by
 have := run_convert_bytes_back (P := Tryz.prog) w 179 9 5 ⟨g, 0, none⟩ 1 [UInt8.ofNat c] Tryz.underlying179 Tryz.underlying5 Tryz.underlying9 (fun j hj => by
  match j, hj with
  | 0, _ =>
   simp only [List.getElem_cons_zero]
   rw [Addr.add_lit]
   simp only [Nat.add_zero]
   rw [h]
   congr 2
   simp [UInt8.toNat_ofNat']
   omega)
 exact this
theorem markText_any (k : Int) (w : World) (hk : 0 ≤ k) (hk1 : k ≤ 1000000000000) :
  Calls Tryz.prog 50 #[.int .i64 k] w fun e w' => (∃ s, e = .returned (.string s)) ∧ Ext w w' := by
 go_enter Tryz.func50, Tryz.ntmps50
 by_cases h0 : k = 0
 ·subst h0
  go_wp2
  go_ret
  exact ⟨⟨_, rfl⟩, Ext.refl w⟩
 ·have hd : decide (k ≤ 0) = false := by simp; omega
  go_wp2
  go_loopw [0, 3] (fun kk o wr => ∃ (j : Nat) (s : ByteArray), kk = .int .i64 j ∧ o = .string s ∧ (j : Int) ≤ k ∧ (s.size : Int) + j ≤ k ∧ Ext w wr) (fun kk _ _ => (intOf kk).toNat)
  case atStart =>
   refine ⟨k.toNat, ByteArray.mk #[], ?_, rfl, by omega, ?_, Ext.refl w⟩
   ·rw [Int.toNat_of_nonneg hk]
   ·have : (ByteArray.mk #[]).size = 0 := rfl
    rw [this]; omega
  case round =>
   obtain ⟨j, s, rfl, rfl, hj1, hjs, hE⟩ := hrel
   by_cases hp : 0 < j
   ·have hd2 : decide ((j : Int) > 0) = true := by simp; omega
    obtain ⟨u, hu, hu9⟩ : ∃ u : Nat, (j : Int) % 10 = (u : Int) ∧ u ≤ 9 := ⟨j % 10, by omega, by omega⟩
    obtain ⟨q, hq, hq9⟩ : ∃ q : Nat, (j : Int) / 10 = (q : Int) ∧ q < j := ⟨j / 10, by omega, by omega⟩
    have hcv := mconv1 (wr.alloc (.cells #[.int .u8 (48 + (u : Int))] 5)) wr.heap.size (48 + u) (by omega) (by simp [go_sem])
    have HE := hid hE; clear hE
    go_wp2
    go_roundw
    case rel => exact ⟨q, _, by go_num, rfl, by omega, by rw [size_pre]; omega, HE.out.alloc _⟩
    case measure => simp [intOf]; omega
   ·have e : j = 0 := by omega
    subst e
    go_wp2
    go_ret
    exact ⟨⟨_, rfl⟩, hE⟩
theorem markIntS_sh (B : Nat) (w0 : World) (v : Value) (xs : List Int) (k : Int) (w : World) (h : IntsOwn B w0 v xs) (hS : Sh B w0 w) (hk : 0 ≤ k) (hk1 : k + xs.length ≤ 1000000000000) :
  Calls Tryz.prog 12 #[v, .int .i64 k] w fun e w' => e = .returned (.int .i64 (k + (xs.length : Nat))) ∧ Mk B w0 w w' := by
 obtain ⟨p, c, rfl⟩ := row_form h
 have ho : w0.ownsRow B 3 1 (.slice p xs.length c) xs.length (xs.map (Value.int .i64)) := h
 have HO := hid ho; have HM := hid (Mk.refl hS); clear h ho hS
 generalize hn : xs.length = n at *
 have HN := hid hn; clear hn
 go_enter Tryz.func12, Tryz.ntmps12
 go_wp2
 go_loopw [1, 5] (fun kk i wr => ∃ j : Nat, j ≤ n ∧ i = .int .i64 j ∧ kk = .int .i64 (k + j) ∧ Mk B w0 w wr) (fun _ i _ => n - (intOf i).toNat)
 case atStart => exact ⟨0, by omega, rfl, by simp, HM.out⟩
 case round =>
  obtain ⟨j, hj, rfl, rfl, hmk⟩ := hrel
  have HMK := hid hmk; clear hmk
  by_cases hlt : j < n
  ·obtain ⟨g, rfl⟩ := slRow_at HO.out (by omega)
   obtain ⟨x, hx⟩ := get_some (xs := xs) (k := j) (by rw [HN.out]; exact hlt)
   have hc : Cl B w0 g j (.int .i64 x) := Cl.of HO.out (by simp [hx])
   obtain ⟨hfr, ⟨v0, hcc⟩, hgl⟩ := hc.open HMK.out.sh
   have HC := hid hc; clear hc hx
   go_wp2
   go_roundw
   case rel => exact ⟨j + 1, by omega, by go_num, by go_num, HMK.out.put HC.out (NoSl.int x) _⟩
   case measure => simp [intOf]; omega
  ·have e : j = n := by omega
   subst e
   go_wp2
   go_ret
   exact ⟨rfl, HMK.out⟩
theorem markAffineS_sh (B : Nat) (w0 : World) (v : Value) (xs : List Aff) (k : Int) (w : World) (h : AffsOwn B w0 v xs) (hS : Sh B w0 w) (hk : 0 ≤ k) (hk1 : k + tot cA xs ≤ 1000000000000) :
  Calls Tryz.prog 82 #[v, .int .i64 k] w fun e w' => e = .returned (.int .i64 (k + (tot cA xs : Nat))) ∧ Mk B w0 w w' := by
 obtain ⟨vs, ho, hel⟩ := h
 have hlen := row_len ho
 obtain ⟨p, c, rfl⟩ := row_form ho
 have HO := hid ho; have HM := hid (Mk.refl hS); have HEL := hid hel; clear ho hel hS
 generalize hn : xs.length = n at *
 have HN := hid hn; clear hn
 go_enter Tryz.func82, Tryz.ntmps82
 go_wp2
 go_loopw [1, 5] (fun kk i wr => ∃ j : Nat, j ≤ n ∧ i = .int .i64 j ∧ kk = .int .i64 (k + (tot cA (xs.take j) : Nat)) ∧ Mk B w0 w wr) (fun _ i _ => n - (intOf i).toNat)
 case atStart => exact ⟨0, by omega, rfl, by simp [tot], HM.out⟩
 case round =>
  obtain ⟨j, hj, rfl, rfl, hmk⟩ := hrel
  have HMK := hid hmk; clear hmk
  by_cases hlt : j < n
  ·obtain ⟨g, rfl⟩ := slRow_at HO.out (by omega)
   obtain ⟨x, hx⟩ := get_some (xs := xs) (k := j) (by rw [HN.out]; exact hlt)
   obtain ⟨u0, u1, hv0, hv1, hu0, rfl⟩ := HEL.out j x hx
   obtain ⟨q, d, rfl⟩ := row_form hu0
   have hc0 := Cl.of HO.out hv0
   have hc1 := Cl.of HO.out hv1
   have hl0 := hc0.slc HMK.out.sh
   have hgl := (hc1.open HMK.out.sh).2.2
   have hnx := tot_next cA hx
   have hat := tot_at cA hx
   have HC1 := hid hc1; have HU := hid hu0; have HNX := hid hnx
   obtain ⟨t, ht⟩ : ∃ t, tot cA (xs.take j) = t := ⟨_, rfl⟩
   have HXL : Hid (cA x = x.1.length + 1) := hid rfl
   obtain ⟨m, hm⟩ : ∃ m, x.1.length = m := ⟨_, rfl⟩
   have hcx : cA x = m + 1 := by rw [HXL.out, hm]
   rw [ht, hcx] at hat
   rw [ht, hcx] at HNX
   rw [ht]
   rw [hm] at hl0
   have HHM := hid hm
   clear hc0 hc1 hv0 hv1 hu0 hnx hx ht hm hcx
   go_wp2_with (fail)
   refine (markIntS_sh B w0 _ x.1 (k + (t : Nat)) _ (by rw [← HHM.out]; exact HU.out) HMK.out.sh (by omega) (by rw [HHM.out]; omega)).mono ?_
   rw [HHM.out]
   rintro e w1 ⟨rfl, hmk1⟩
   have HMK1 := hid (HMK.out.trans hmk1); clear hmk1 hl0 hgl
   obtain ⟨hfr, ⟨v0, hcc⟩, hgl⟩ := HC1.out.open HMK1.out.sh
   go_wp2
   go_roundw
   case rel => exact ⟨j + 1, by omega, by go_num, by rw [HNX.out]; go_num, HMK1.out.put HC1.out (NoSl.int _) _⟩
   case measure => simp [intOf]; omega
  ·have e : j = n := by omega
   subst e
   have ht : xs.take j = xs := List.take_of_length_le (by rw [HN.out]; omega)
   rw [ht]
   go_wp2
   go_ret
   exact ⟨rfl, HMK.out⟩
end Go.Proofs.YtggpjapmhakklaaGreat

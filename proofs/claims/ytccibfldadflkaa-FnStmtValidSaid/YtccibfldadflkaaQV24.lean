/- The texts S14, joined. No statement is proved here. -/
import Derived.Test.YtccibfldadflkaaQV23
import Derived.Test.YtccibfldadflkaaQV17
/- The program's nodes: nodeOf. (Written by s14.py.) No statement is proved here. -/
namespace Go.Proofs.Ytccibfldadflkaa
open Go.RowKit

/-- A node of the program reads as the expression. -/
inductive NdR (B : Nat) (w : World) : Value → Ex → Prop
  | num (n : Int) : NdR B w (.iface 162 (.int .i64 n)) (.mk 1 n ([], 0) ⟨#[]⟩ [] [])
  | idx (a b c d k : Int) (h : affValidB [a, b, c, d] k = true) : NdR B w (.iface 165 (.agg #[.int .i64 a, .int .i64 b, .int .i64 c, .int .i64 d, .int .i64 k])) (.mk 2 0 ([a, b, c, d], k) ⟨#[]⟩ [] [])
  | read (arr : ByteArray) (s : Value) (subs : List Aff) (h : LinsOwn B w s subs) : NdR B w (.iface 167 (.agg #[.string arr, s])) (.mk 3 0 ([], 0) arr subs [])
  | op (kind : Int) (x y : Value) (ex ey : Ex) (hk : kind = 4 ∨ kind = 5 ∨ kind = 6) (hx : NdR B w x ex) (hy : NdR B w y ey) : NdR B w (.iface 169 (.agg #[.int .i64 kind, x, y])) (.mk kind 0 ([], 0) ⟨#[]⟩ [] [ex, ey])
theorem NdR.ext {B : Nat} {w w' : World} {v : Value} {e : Ex} (h : NdR B w v e) (hE : Ext w w') : NdR B w' v e := by
  induction h with
  | num n => exact .num n
  | idx a b c d k h => exact .idx a b c d k h
  | read arr s subs h => exact .read arr s subs (h.ext hE)
  | op kind x y ex ey hk _ _ ihx ihy => exact .op kind x y ex ey hk ihx ihy
theorem NdR.weak {B B' : Nat} {w : World} {v : Value} {e : Ex} (h : NdR B w v e) (hB : B' ≤ B) : NdR B' w v e := by
  induction h with
  | num n => exact .num n
  | idx a b c d k h => exact .idx a b c d k h
  | read arr s subs h => exact .read arr s subs (h.weak hB)
  | op kind x y ex ey hk _ _ ihx ihy => exact .op kind x y ex ey hk ihx ihy
theorem noneB_iff {x : Aff} : noneB x = true ↔ x = ([], 0) := by
  obtain ⟨xs, k⟩ := x
  cases xs with
  | nil => simp [noneB]
  | cons a l => simp [noneB]
theorem tl_ne (bs : ByteArray) : ∀ (n i : Nat) (r : List UInt8), bs.size - i = n → r ≠ [] → ByteArray.toList.loop bs i r ≠ []
  | 0, i, r, h, hr => by rw [ByteArray.toList.loop.eq_def, if_neg (by omega)]; simpa using hr
  | n + 1, i, r, h, hr => by rw [ByteArray.toList.loop.eq_def, if_pos (by omega)]; exact tl_ne bs n (i + 1) _ (by omega) (by simp)
theorem toList_nil_iff {arr : ByteArray} : arr.toList = [] ↔ arr = ⟨#[]⟩ := by
  constructor
  · intro h
    by_cases h0 : 0 < arr.size
    · unfold ByteArray.toList at h
      rw [ByteArray.toList.loop.eq_def, if_pos h0] at h
      exact absurd h (tl_ne arr _ 1 _ rfl (by simp))
    · obtain ⟨d⟩ := arr
      have : d.size = 0 := by have h1 : (ByteArray.mk d).size = d.size := rfl; omega
      rw [Array.eq_empty_of_size_eq_zero this]
  · rintro rfl
    exact ByteArray.toList_empty
theorem emptyB_iff {arr : ByteArray} {subs : List Aff} : emptyB arr subs = true ↔ arr = ⟨#[]⟩ ∧ subs = [] := by
  simp [emptyB, toList_nil_iff, List.length_eq_zero_iff]
theorem shape_mk (L : Nat) (kind num : Int) (ix : Aff) (arr : ByteArray) (subs : List Aff) (kids : List Ex) (d : Int) :
    shapeB (L + 1) (.mk kind num ix arr subs kids) d = (decide (kidsN kind = (kids.length : Int)) && (ownF kind num ix arr subs d && kids.all (fun x => shapeB L x d))) := rfl
theorem kids0 (n : Nat) : decide ((0 : Int) = (n : Int)) = decide (n = 0) := by
  by_cases h : n = 0
  · subst h; rfl
  · rw [decide_eq_false h, decide_eq_false (by omega)]
theorem kids2 (n : Nat) : decide ((2 : Int) = (n : Int)) = decide (n = 2) := by
  by_cases h : n = 2
  · subst h; rfl
  · rw [decide_eq_false h, decide_eq_false (by omega)]
theorem all_kids0 {kids : List Ex} {p : Ex → Bool} (b : Bool) : (decide (kids.length = 0) && (b && kids.all p)) = (b && decide (kids.length = 0)) := by
  cases kids with
  | nil => simp
  | cons a l => simp
theorem shape1 (L : Nat) (num : Int) (ix : Aff) (arr : ByteArray) (subs : List Aff) (kids : List Ex) (d : Int) :
    shapeB (L + 1) (.mk 1 num ix arr subs kids) d = (decide (0 ≤ num) && (decide (num ≤ 99) && bareB 0 ix arr subs kids.length)) := by
  rw [shape_mk, show kidsN 1 = 0 from rfl, kids0, all_kids0, show ownF 1 num ix arr subs d = (decide (0 ≤ num) && (decide (num ≤ 99) && (noneB ix && emptyB arr subs))) from rfl]
  unfold bareB
  cases decide (0 ≤ num) <;> cases decide (num ≤ 99) <;> cases noneB ix <;> cases emptyB arr subs <;> simp
theorem shape2 (L : Nat) (num : Int) (ix : Aff) (arr : ByteArray) (subs : List Aff) (kids : List Ex) (d : Int) :
    shapeB (L + 1) (.mk 2 num ix arr subs kids) d = (boundB d ix && bareB num ([], 0) arr subs kids.length) := by
  rw [shape_mk, show kidsN 2 = 0 from rfl, kids0, all_kids0, show ownF 2 num ix arr subs d = (decide (num = 0) && (emptyB arr subs && (affValidB ix.1 ix.2 && decide (depR ix.1 ix.2 ≤ d)))) from rfl]
  unfold bareB boundB
  rw [show noneB ([], 0) = true from rfl]
  cases decide (num = 0) <;> cases emptyB arr subs <;> cases affValidB ix.1 ix.2 <;> cases decide (depR ix.1 ix.2 ≤ d) <;> simp
theorem shape3 (L : Nat) (num : Int) (ix : Aff) (arr : ByteArray) (subs : List Aff) (kids : List Ex) (d : Int) :
    shapeB (L + 1) (.mk 3 num ix arr subs kids) d = (accB arr subs d && bareB num ix ⟨#[]⟩ [] kids.length) := by
  rw [shape_mk, show kidsN 3 = 0 from rfl, kids0, all_kids0, show ownF 3 num ix arr subs d = (decide (num = 0) && (noneB ix && accB arr subs d)) from rfl]
  unfold bareB
  rw [show emptyB ⟨#[]⟩ [] = true from emptyB_iff.2 ⟨rfl, rfl⟩]
  cases decide (num = 0) <;> cases noneB ix <;> cases accB arr subs d <;> simp
theorem shapeOp (L : Nat) (kind num : Int) (ix : Aff) (arr : ByteArray) (subs : List Aff) (kids : List Ex) (d : Int) (hk : kind = 4 ∨ kind = 5 ∨ kind = 6) :
    shapeB (L + 1) (.mk kind num ix arr subs kids) d = (decide (kids.length = 2) && (bareB num ix arr subs 0 && kids.all (fun x => shapeB L x d))) := by
  have h1 : kidsN kind = 2 := by rcases hk with rfl | rfl | rfl <;> rfl
  have h2 : ownF kind num ix arr subs d = (decide (num = 0) && (noneB ix && emptyB arr subs)) := by rcases hk with rfl | rfl | rfl <;> rfl
  rw [shape_mk, h1, h2, kids2]
  unfold bareB
  cases decide (num = 0) <;> cases noneB ix <;> cases emptyB arr subs <;> simp
theorem shapeBad (L : Nat) (kind num : Int) (ix : Aff) (arr : ByteArray) (subs : List Aff) (kids : List Ex) (d : Int) (hk : ¬ (1 ≤ kind ∧ kind ≤ 6)) : shapeB (L + 1) (.mk kind num ix arr subs kids) d = false := by
  have h1 : kidsN kind = -1 := by unfold kidsN; rw [if_neg (by omega), if_neg (by omega)]
  rw [shape_mk, h1, decide_eq_false (by omega)]; rfl
theorem bareB_parts {num : Int} {ix : Aff} {arr : ByteArray} {subs : List Aff} {n : Nat} (h : bareB num ix arr subs n = true) : num = 0 ∧ ix = ([], 0) ∧ arr = ⟨#[]⟩ ∧ subs = [] ∧ n = 0 := by
  simp only [bareB, Bool.and_eq_true, decide_eq_true_eq, noneB_iff, emptyB_iff] at h
  exact ⟨h.1, h.2.1, h.2.2.1.1, h.2.2.1.2, h.2.2.2⟩

set_option maxRecDepth 100000 in
set_option maxHeartbeats 2000000 in
theorem nodeNum_any (L : Nat) (num k dd : Int) (u s v : Value) (xs : List Int) (arr : ByteArray) (subs : List Aff) (n : Nat) (w : World) (hu : IntsAt w u xs) (hs : AffsAt w s subs) (hv : ∃ p c, v = .slice p n c) (hn : n ≤ 9223372036854775807) :
    Calls Try.prog 89 #[.agg #[.int .i64 1, .int .i64 num, u, .int .i64 k, .string arr, s, v], .int .i64 dd, .int .i64 ((L : Int) + 1)] w
      fun r w' => r = .returned (.tuple #[.iface 162 (.int .i64 num), .bool (decide (0 ≤ num) && (decide (num ≤ 99) && bareB 0 (xs, k) arr subs n))]) ∧ Ext w w' := by
  obtain ⟨pu, cu, rfl, hmu, -⟩ := id hu
  obtain ⟨ps, cs, rfl, hms⟩ := hs.form
  obtain ⟨pv, cv, rfl⟩ := hv
  have HU := Lib.hid hu; have HS := Lib.hid hs; clear hu hs
  have hd : (((L : Int) + 1) == 0) = false := beq_eq_false_iff_ne.2 (by omega)
  obtain ⟨q, hq⟩ : ∃ q, (decide (0 ≤ num) && (decide (num ≤ 99) && bareB 0 (xs, k) arr subs n)) = q := ⟨_, rfl⟩
  rw [hq]
  have HQ := Lib.hid hq; clear hq
  by_cases h0 : 0 ≤ num
  · by_cases h9 : num ≤ 99
    · have HR : Hid (bareB 0 (xs, k) arr subs n = q) := Lib.hid (by rw [← HQ.out]; simp [h0, h9])
      go_enter Try.func89, Try.ntmps89
      go_wp2_with (fail)
      refine (bare_any 1 0 k _ _ _ xs arr subs n _ (HU.out.ext ((Ext.refl w).alloc _)) (HS.out.ext ((Ext.refl w).alloc _)) ⟨_, _, rfl⟩ hn).mono ?_
      rw [HR.out]
      rintro e W1 ⟨rfl, hE⟩
      have E1 := Lib.hid (((Ext.refl w).alloc _).trans hE); clear hE
      go_wp2
      refine bodyPost_ret (v := .tuple #[.iface 162 (.int .i64 num), .bool q]) (by simp [results, Try.results89, go_sem]) rfl ⟨rfl, E1.out⟩
    · obtain rfl : q = false := by rw [← HQ.out]; simp [h9]
      go_enter Try.func89, Try.ntmps89
      go_wp2
      exact bodyPost_ret (v := .tuple #[.iface 162 (.int .i64 num), .bool false]) (by simp [results, Try.results89, go_sem]) rfl ⟨rfl, (Ext.refl w).alloc _⟩
  · obtain rfl : q = false := by rw [← HQ.out]; simp [h0]
    go_enter Try.func89, Try.ntmps89
    go_wp2
    exact bodyPost_ret (v := .tuple #[.iface 162 (.int .i64 num), .bool false]) (by simp [results, Try.results89, go_sem]) rfl ⟨rfl, (Ext.refl w).alloc _⟩

set_option maxRecDepth 100000 in
set_option maxHeartbeats 2000000 in
theorem nodeIdx_any (L : Nat) (num k dd : Int) (u s v : Value) (xs : List Int) (arr : ByteArray) (subs : List Aff) (n : Nat) (w : World) (hu : IntsAt w u xs) (hs : AffsAt w s subs) (hv : ∃ p c, v = .slice p n c) (hn : n ≤ 9223372036854775807) :
    Calls Try.prog 89 #[.agg #[.int .i64 2, .int .i64 num, u, .int .i64 k, .string arr, s, v], .int .i64 dd, .int .i64 ((L : Int) + 1)] w
      fun r w' => (∃ a b c d m, r = .returned (.tuple #[.iface 165 (.agg #[.int .i64 a, .int .i64 b, .int .i64 c, .int .i64 d, .int .i64 m]), .bool (boundB dd (xs, k) && bareB num ([], 0) arr subs n)]) ∧ (affValidB xs k = true → xs = [a, b, c, d] ∧ m = k)) ∧ Ext w w' := by
  obtain ⟨pu, cu, rfl, hmu, -⟩ := id hu
  obtain ⟨ps, cs, rfl, hms⟩ := hs.form
  obtain ⟨pv, cv, rfl⟩ := hv
  have HU := Lib.hid hu; have HS := Lib.hid hs; clear hu hs
  have hd : (((L : Int) + 1) == 0) = false := beq_eq_false_iff_ne.2 (by omega)
  obtain ⟨bb, hbb⟩ : ∃ bb, boundB dd (xs, k) = bb := ⟨_, rfl⟩
  obtain ⟨q, hq⟩ : ∃ q, bareB num ([], 0) arr subs n = q := ⟨_, rfl⟩
  rw [hbb, hq]
  have HBB := Lib.hid hbb; have HQ := Lib.hid hq; clear hbb hq
  go_enter Try.func89, Try.ntmps89
  go_wp2_with (fail)
  refine (linearWithin_any _ xs k dd _ (HU.out.ext ((Ext.refl w).alloc _))).mono ?_
  rw [HBB.out]
  rintro e W1 ⟨⟨a, b, c, d, m, rfl, hval⟩, hE⟩
  have B1 := hE.blk (g := w.heap.size) (blk_at rfl)
  have E1 := Lib.hid (((Ext.refl w).alloc _).trans hE); have HVAL := Lib.hid hval; clear hE hval
  have hl1 := lt_of_block B1
  have HB1 := Lib.hid B1
  obtain ⟨x0, x1, x2, x3, x4, x5, x6⟩ := blk7 B1
  have f2 := blk7f B1 2; have f3 := blk7f B1 3
  clear B1
  go_wp2
  obtain ⟨W2, hW2⟩ : ∃ W2, (((W1.setCell ⟨w.heap.size, 2, none⟩ (.slice none 0 0)).setCell ⟨w.heap.size, 3, none⟩ (.int .i64 0)).alloc (.cells #[.int .i64 a, .int .i64 b, .int .i64 c, .int .i64 d, .int .i64 m] 79)) = W2 := ⟨_, rfl⟩
  have E2 : Hid (Ext w W2) := Lib.hid (by rw [← hW2]; exact ((E1.out.setCell (Nat.le_refl _) _).setCell (Nat.le_refl _) _).alloc _)
  have B2 : W2.heap[w.heap.size]? = some (.cells #[.int .i64 2, .int .i64 num, .slice none 0 0, .int .i64 0, .string arr, .slice ps subs.length cs, .slice pv n cv] 54 (0, 0)) := by rw [← hW2]; exact blk_old (blk7_23 HB1.out)
  have B3 : W2.heap[W1.heap.size]? = some (.cells #[.int .i64 a, .int .i64 b, .int .i64 c, .int .i64 d, .int .i64 m] 79 (0, 0)) := by rw [← hW2]; exact blk_at (by simp)
  rw [hW2]
  clear hW2 x0 x1 x2 x3 x4 x5 x6 f2 f3 hl1 HB1
  obtain ⟨y0, y1, y2, y3, y4, y5, y6⟩ := blk7 B2
  obtain ⟨z0, z1, z2, z3, z4, -⟩ := blk5 B3
  clear B2 B3
  cases bb with
  | false =>
    clear HQ
    refine wp_region_held_drew (S := (fun W => W.cell? ⟨w.heap.size, 0, none⟩ = some (.int .i64 2) ∧ W.cell? ⟨w.heap.size, 1, none⟩ = some (.int .i64 num) ∧ W.cell? ⟨w.heap.size, 2, none⟩ = some (.slice none 0 0) ∧ W.cell? ⟨w.heap.size, 3, none⟩ = some (.int .i64 0) ∧ W.cell? ⟨w.heap.size, 4, none⟩ = some (.string arr) ∧ W.cell? ⟨w.heap.size, 5, none⟩ = some (.slice ps subs.length cs) ∧ W.cell? ⟨w.heap.size, 6, none⟩ = some (.slice pv n cv) ∧ W.cell? ⟨W1.heap.size, 0, none⟩ = some (.int .i64 a) ∧ W.cell? ⟨W1.heap.size, 1, none⟩ = some (.int .i64 b) ∧ W.cell? ⟨W1.heap.size, 2, none⟩ = some (.int .i64 c) ∧ W.cell? ⟨W1.heap.size, 3, none⟩ = some (.int .i64 d) ∧ W.cell? ⟨W1.heap.size, 4, none⟩ = some (.int .i64 m))) (by kernel_rfl) ⟨y0, y1, y2, y3, y4, y5, y6, z0, z1, z2, z3, z4⟩ (fun hHeld => ?_)
    refine wpAnyH_takeD (some 50) (i := 0) (v := ?vka0) rfl (by kernel_rfl) (by kernel_rfl) (by kernel_rfl) (by kernel_rfl) (fun _ _ _ h => h) (Or.inl ⟨by rfl, ?hyka0⟩) (by assumption) ?rka0
    case hyka0 => intro w hSw; (try dsimp only at hSw); go_simp; first | done | with_reducible rfl
    case' rka0 => try simp only [Act.put, List.setIfInBounds_toArray, List.set_cons_zero, List.set_cons_succ]
    refine wpAnyH_takeD (some 51) (i := 1) (v := ?vka1) rfl (by kernel_rfl) (by kernel_rfl) (by kernel_rfl) (by kernel_rfl) (fun _ _ _ h => h) (Or.inl ⟨by rfl, ?hyka1⟩) (by assumption) ?rka1
    case hyka1 => intro w hSw; (try dsimp only at hSw); go_simp; first | done | with_reducible rfl
    case' rka1 => try simp only [Act.put, List.setIfInBounds_toArray, List.set_cons_zero, List.set_cons_succ]
    refine wpAnyH_takeD (some 52) (i := 2) (v := ?vka2) rfl (by kernel_rfl) (by kernel_rfl) (by kernel_rfl) (by kernel_rfl) (fun _ _ _ h => h) (Or.inl ⟨by rfl, ?hyka2⟩) (by assumption) ?rka2
    case hyka2 => intro w hSw; (try dsimp only at hSw); go_simp; first | done | with_reducible rfl
    case' rka2 => try simp only [Act.put, List.setIfInBounds_toArray, List.set_cons_zero, List.set_cons_succ]
    refine wpAnyH_takeD (some 53) (i := 3) (v := ?vka3) rfl (by kernel_rfl) (by kernel_rfl) (by kernel_rfl) (by kernel_rfl) (fun _ _ _ h => h) (Or.inl ⟨by rfl, ?hyka3⟩) (by assumption) ?rka3
    case hyka3 => intro w hSw; (try dsimp only at hSw); go_simp; first | done | with_reducible rfl
    case' rka3 => try simp only [Act.put, List.setIfInBounds_toArray, List.set_cons_zero, List.set_cons_succ]
    refine wpAnyH_takeD (some 54) (i := 4) (v := ?vka4) rfl (by kernel_rfl) (by kernel_rfl) (by kernel_rfl) (by kernel_rfl) (fun _ _ _ h => h) (Or.inl ⟨by rfl, ?hyka4⟩) (by assumption) ?rka4
    case hyka4 => intro w hSw; (try dsimp only at hSw); go_simp; first | done | with_reducible rfl
    case' rka4 => try simp only [Act.put, List.setIfInBounds_toArray, List.set_cons_zero, List.set_cons_succ]
    refine wpAnyH_takeD (some 55) (i := 5) (v := undef) rfl (by kernel_rfl) (by kernel_rfl) (by kernel_rfl) (by kernel_rfl) (fun _ _ _ h => h) (Or.inr ⟨by kernel_rfl, rfl⟩) (by assumption) ?_
    try simp only [Act.put, List.setIfInBounds_toArray, List.set_cons_zero, List.set_cons_succ]
    refine wpAnyH_takeD (some 56) (i := 6) (v := undef) rfl (by kernel_rfl) (by kernel_rfl) (by kernel_rfl) (by kernel_rfl) (fun _ _ _ h => h) (Or.inr ⟨by kernel_rfl, rfl⟩) (by assumption) ?_
    try simp only [Act.put, List.setIfInBounds_toArray, List.set_cons_zero, List.set_cons_succ]
    refine wpAnyH_takeD (some 57) (i := 7) (v := ?vka7) rfl (by kernel_rfl) (by kernel_rfl) (by kernel_rfl) (by kernel_rfl) (fun _ _ _ h => h) (Or.inl ⟨by rfl, ?hyka7⟩) (by assumption) ?rka7
    case hyka7 => intro w hSw; (try dsimp only at hSw); go_simp; first | done | with_reducible rfl
    case' rka7 => try simp only [Act.put, List.setIfInBounds_toArray, List.set_cons_zero, List.set_cons_succ]
    refine wpAnyH_takeD (some 6) (i := 8) (v := ?vka8) rfl (by kernel_rfl) (by kernel_rfl) (by kernel_rfl) (by kernel_rfl) (fun _ _ _ h => h) (Or.inl ⟨by rfl, ?hyka8⟩) (by assumption) ?rka8
    case hyka8 => intro w hSw; (try dsimp only at hSw); go_simp; first | done | with_reducible rfl
    case' rka8 => try simp only [Act.put, List.setIfInBounds_toArray, List.set_cons_zero, List.set_cons_succ]
    refine wpAnyH_takeD (some 7) (i := 9) (v := ?vka9) rfl (by kernel_rfl) (by kernel_rfl) (by kernel_rfl) (by kernel_rfl) (fun _ _ _ h => h) (Or.inl ⟨by rfl, ?hyka9⟩) (by assumption) ?rka9
    case hyka9 => intro w hSw; (try dsimp only at hSw); go_simp; first | done | with_reducible rfl
    case' rka9 => try simp only [Act.put, List.setIfInBounds_toArray, List.set_cons_zero, List.set_cons_succ]
    refine wpAnyH_done (by kernel_rfl) ?_ _
    go_wp2
    exact bodyPost_ret (v := .tuple #[.iface 165 (.agg #[.int .i64 a, .int .i64 b, .int .i64 c, .int .i64 d, .int .i64 m]), .bool false]) (by simp [results, Try.results89, go_sem]) rfl ⟨⟨a, b, c, d, m, rfl, HVAL.out⟩, E2.out.drew⟩
  | true =>
    refine wp_region_held_drew (S := (fun W => W.cell? ⟨w.heap.size, 0, none⟩ = some (.int .i64 2) ∧ W.cell? ⟨w.heap.size, 1, none⟩ = some (.int .i64 num) ∧ W.cell? ⟨w.heap.size, 2, none⟩ = some (.slice none 0 0) ∧ W.cell? ⟨w.heap.size, 3, none⟩ = some (.int .i64 0) ∧ W.cell? ⟨w.heap.size, 4, none⟩ = some (.string arr) ∧ W.cell? ⟨w.heap.size, 5, none⟩ = some (.slice ps subs.length cs) ∧ W.cell? ⟨w.heap.size, 6, none⟩ = some (.slice pv n cv) ∧ W.cell? ⟨W1.heap.size, 0, none⟩ = some (.int .i64 a) ∧ W.cell? ⟨W1.heap.size, 1, none⟩ = some (.int .i64 b) ∧ W.cell? ⟨W1.heap.size, 2, none⟩ = some (.int .i64 c) ∧ W.cell? ⟨W1.heap.size, 3, none⟩ = some (.int .i64 d) ∧ W.cell? ⟨W1.heap.size, 4, none⟩ = some (.int .i64 m))) (by kernel_rfl) ⟨y0, y1, y2, y3, y4, y5, y6, z0, z1, z2, z3, z4⟩ (fun hHeld => ?_)
    refine wpAnyH_takeD (some 50) (i := 0) (v := ?vkb0) rfl (by kernel_rfl) (by kernel_rfl) (by kernel_rfl) (by kernel_rfl) (fun _ _ _ h => h) (Or.inl ⟨by rfl, ?hykb0⟩) (by assumption) ?rkb0
    case hykb0 => intro w hSw; (try dsimp only at hSw); go_simp; first | done | with_reducible rfl
    case' rkb0 => try simp only [Act.put, List.setIfInBounds_toArray, List.set_cons_zero, List.set_cons_succ]
    refine wpAnyH_takeD (some 51) (i := 1) (v := ?vkb1) rfl (by kernel_rfl) (by kernel_rfl) (by kernel_rfl) (by kernel_rfl) (fun _ _ _ h => h) (Or.inl ⟨by rfl, ?hykb1⟩) (by assumption) ?rkb1
    case hykb1 => intro w hSw; (try dsimp only at hSw); go_simp; first | done | with_reducible rfl
    case' rkb1 => try simp only [Act.put, List.setIfInBounds_toArray, List.set_cons_zero, List.set_cons_succ]
    refine wpAnyH_takeD (some 52) (i := 2) (v := ?vkb2) rfl (by kernel_rfl) (by kernel_rfl) (by kernel_rfl) (by kernel_rfl) (fun _ _ _ h => h) (Or.inl ⟨by rfl, ?hykb2⟩) (by assumption) ?rkb2
    case hykb2 => intro w hSw; (try dsimp only at hSw); go_simp; first | done | with_reducible rfl
    case' rkb2 => try simp only [Act.put, List.setIfInBounds_toArray, List.set_cons_zero, List.set_cons_succ]
    refine wpAnyH_takeD (some 53) (i := 3) (v := ?vkb3) rfl (by kernel_rfl) (by kernel_rfl) (by kernel_rfl) (by kernel_rfl) (fun _ _ _ h => h) (Or.inl ⟨by rfl, ?hykb3⟩) (by assumption) ?rkb3
    case hykb3 => intro w hSw; (try dsimp only at hSw); go_simp; first | done | with_reducible rfl
    case' rkb3 => try simp only [Act.put, List.setIfInBounds_toArray, List.set_cons_zero, List.set_cons_succ]
    refine wpAnyH_takeD (some 54) (i := 4) (v := ?vkb4) rfl (by kernel_rfl) (by kernel_rfl) (by kernel_rfl) (by kernel_rfl) (fun _ _ _ h => h) (Or.inl ⟨by rfl, ?hykb4⟩) (by assumption) ?rkb4
    case hykb4 => intro w hSw; (try dsimp only at hSw); go_simp; first | done | with_reducible rfl
    case' rkb4 => try simp only [Act.put, List.setIfInBounds_toArray, List.set_cons_zero, List.set_cons_succ]
    refine wpAnyH_takeD (some 55) (i := 5) (v := ?vkb5) rfl (by kernel_rfl) (by kernel_rfl) (by kernel_rfl) (by kernel_rfl) (fun _ _ _ h => h) (Or.inl ⟨by rfl, ?hykb5⟩) (by assumption) ?rkb5
    case hykb5 => intro w hSw; (try dsimp only at hSw); go_simp; first | done | with_reducible rfl
    case' rkb5 => try simp only [Act.put, List.setIfInBounds_toArray, List.set_cons_zero, List.set_cons_succ]
    refine wpAnyH_ready (rs := [6]) (by kernel_rfl) (by simp) ?_
    refine AllReadyH.cons rfl (fun K9 hK => ?_) AllReadyH.nil
    go_simp
    refine (bare_any 2 num 0 _ _ _ [] arr subs n _ (IntsAt.zero _) (HS.out.ext E2.out.drew) ⟨_, _, rfl⟩ hn).mono ?_
    rw [HQ.out]
    rintro r w3 ⟨rfl, hE3⟩
    have g3 : Ext W2 w3 := (Ext.refl W2).drew.trans hE3
    have E3 : Hid (Ext w w3) := Lib.hid (E2.out.trans g3)
    clear hE3
    refine hK.out _ _ ⟨g3.keep y0, g3.keep y1, g3.keep y2, g3.keep y3, g3.keep y4, g3.keep y5, g3.keep y6, g3.keep z0, g3.keep z1, g3.keep z2, g3.keep z3, g3.keep z4⟩ (fun hHkb6 => ?_)
    clear hK K9
    try simp only [Act.put, List.setIfInBounds_toArray, List.set_cons_zero, List.set_cons_succ]
    refine wpAnyH_takeD (some 57) (i := 7) (v := ?vkb7) rfl (by kernel_rfl) (by kernel_rfl) (by kernel_rfl) (by kernel_rfl) (fun _ _ _ h => h) (Or.inl ⟨by rfl, ?hykb7⟩) (by assumption) ?rkb7
    case hykb7 => intro w hSw; (try dsimp only at hSw); go_simp; first | done | with_reducible rfl
    case' rkb7 => try simp only [Act.put, List.setIfInBounds_toArray, List.set_cons_zero, List.set_cons_succ]
    refine wpAnyH_takeD (some 6) (i := 8) (v := ?vkb8) rfl (by kernel_rfl) (by kernel_rfl) (by kernel_rfl) (by kernel_rfl) (fun _ _ _ h => h) (Or.inl ⟨by rfl, ?hykb8⟩) (by assumption) ?rkb8
    case hykb8 => intro w hSw; (try dsimp only at hSw); go_simp; first | done | with_reducible rfl
    case' rkb8 => try simp only [Act.put, List.setIfInBounds_toArray, List.set_cons_zero, List.set_cons_succ]
    refine wpAnyH_takeD (some 7) (i := 9) (v := ?vkb9) rfl (by kernel_rfl) (by kernel_rfl) (by kernel_rfl) (by kernel_rfl) (fun _ _ _ h => h) (Or.inl ⟨by rfl, ?hykb9⟩) (by assumption) ?rkb9
    case hykb9 => intro w hSw; (try dsimp only at hSw); go_simp; first | done | with_reducible rfl
    case' rkb9 => try simp only [Act.put, List.setIfInBounds_toArray, List.set_cons_zero, List.set_cons_succ]
    refine wpAnyH_done (by kernel_rfl) ?_ _
    go_wp2
    exact bodyPost_ret (v := .tuple #[.iface 165 (.agg #[.int .i64 a, .int .i64 b, .int .i64 c, .int .i64 d, .int .i64 m]), .bool q]) (by simp [results, Try.results89, go_sem]) rfl ⟨⟨a, b, c, d, m, rfl, HVAL.out⟩, E3.out⟩

set_option maxRecDepth 100000 in
set_option maxHeartbeats 2000000 in
theorem nodeRead_any (L : Nat) (num k dd : Int) (u s v : Value) (xs : List Int) (arr : ByteArray) (subs : List Aff) (n : Nat) (w : World) (hu : IntsAt w u xs) (ha : arr.size ≤ 9223372036854775807) (hs : AffsAt w s subs) (hv : ∃ p c, v = .slice p n c) (hn : n ≤ 9223372036854775807) :
    Calls Try.prog 89 #[.agg #[.int .i64 3, .int .i64 num, u, .int .i64 k, .string arr, s, v], .int .i64 dd, .int .i64 ((L : Int) + 1)] w
      fun r w' => (∃ a' p' n' c', r = .returned (.tuple #[.iface 167 (.agg #[.string a', .slice p' n' c']), .bool (accB arr subs dd && bareB num (xs, k) ⟨#[]⟩ [] n)]) ∧ (accB arr subs dd = true → a' = arr ∧ LinsOwn w.heap.size w' (.slice p' n' c') subs)) ∧ Ext w w' := by
  obtain ⟨pu, cu, rfl, hmu, -⟩ := id hu
  obtain ⟨ps, cs, rfl, hms⟩ := hs.form
  obtain ⟨pv, cv, rfl⟩ := hv
  have HU := Lib.hid hu; have HS := Lib.hid hs; clear hu hs
  have hd : (((L : Int) + 1) == 0) = false := beq_eq_false_iff_ne.2 (by omega)
  obtain ⟨bb, hbb⟩ : ∃ bb, accB arr subs dd = bb := ⟨_, rfl⟩
  obtain ⟨q, hq⟩ : ∃ q, bareB num (xs, k) ⟨#[]⟩ [] n = q := ⟨_, rfl⟩
  rw [hbb, hq]
  have HBB := Lib.hid hbb; have HQ := Lib.hid hq; clear hbb hq
  go_enter Try.func89, Try.ntmps89
  go_wp2_with (fail)
  refine (elementOf_any arr _ subs dd _ ha (HS.out.ext ((Ext.refl w).alloc _))).mono ?_
  rw [HBB.out]
  rintro e W1 ⟨⟨a', p', n', c', rfl, hval⟩, hE⟩
  have B1 := hE.blk (g := w.heap.size) (blk_at rfl)
  have E1 := Lib.hid (((Ext.refl w).alloc _).trans hE); have HVAL := Lib.hid hval; clear hE hval
  have hl1 := lt_of_block B1
  have HB1 := Lib.hid B1
  obtain ⟨x0, x1, x2, x3, x4, x5, x6⟩ := blk7 B1
  have f4 := blk7f B1 4; have f5 := blk7f B1 5
  clear B1
  go_wp2
  obtain ⟨W2, hW2⟩ : ∃ W2, (((W1.setCell ⟨w.heap.size, 4, none⟩ (.string ⟨#[]⟩)).setCell ⟨w.heap.size, 5, none⟩ (.slice none 0 0)).alloc (.cells #[.string a', .slice p' n' c'] 105)) = W2 := ⟨_, rfl⟩
  have E2 : Hid (Ext w W2) := Lib.hid (by rw [← hW2]; exact ((E1.out.setCell (Nat.le_refl _) _).setCell (Nat.le_refl _) _).alloc _)
  have B2 : W2.heap[w.heap.size]? = some (.cells #[.int .i64 3, .int .i64 num, .slice pu xs.length cu, .int .i64 k, .string ⟨#[]⟩, .slice none 0 0, .slice pv n cv] 54 (0, 0)) := by rw [← hW2]; exact blk_old (blk7_45 HB1.out)
  have B3 : W2.heap[W1.heap.size]? = some (.cells #[.string a', .slice p' n' c'] 105 (0, 0)) := by rw [← hW2]; exact blk_at (by simp)
  have HV2 : Hid (bb = true → a' = arr ∧ LinsOwn w.heap.size W2 (.slice p' n' c') subs) := Lib.hid (fun h => by
    obtain ⟨h1, h2⟩ := HVAL.out h
    refine ⟨h1, LinsOwn.weak (B := w.heap.size + 1) ?_ (by omega)⟩
    rw [← hW2]
    exact (((show LinsOwn (w.heap.size + 1) W1 (.slice p' n' c') subs by simpa using h2).setOld (p := ⟨w.heap.size, 4, none⟩) (by simp) _).setOld (p := ⟨w.heap.size, 5, none⟩) (by simp) _).ext ((Ext.refl _).alloc _))
  rw [hW2]
  clear hW2 x0 x1 x2 x3 x4 x5 x6 f4 f5 hl1 HB1 HVAL
  obtain ⟨y0, y1, y2, y3, y4, y5, y6⟩ := blk7 B2
  obtain ⟨z0, z1, -, -⟩ := blk2 B3
  clear B2 B3
  cases bb with
  | false =>
    clear HQ
    refine wp_region_held_drew (S := (fun W => W.cell? ⟨w.heap.size, 0, none⟩ = some (.int .i64 3) ∧ W.cell? ⟨w.heap.size, 1, none⟩ = some (.int .i64 num) ∧ W.cell? ⟨w.heap.size, 2, none⟩ = some (.slice pu xs.length cu) ∧ W.cell? ⟨w.heap.size, 3, none⟩ = some (.int .i64 k) ∧ W.cell? ⟨w.heap.size, 4, none⟩ = some (.string ⟨#[]⟩) ∧ W.cell? ⟨w.heap.size, 5, none⟩ = some (.slice none 0 0) ∧ W.cell? ⟨w.heap.size, 6, none⟩ = some (.slice pv n cv) ∧ W.cell? ⟨W1.heap.size, 0, none⟩ = some (.string a') ∧ W.cell? ⟨W1.heap.size, 1, none⟩ = some (.slice p' n' c'))) (by kernel_rfl) ⟨y0, y1, y2, y3, y4, y5, y6, z0, z1⟩ (fun hHeld => ?_)
    refine wpAnyH_takeD (some 69) (i := 0) (v := ?vkc0) rfl (by kernel_rfl) (by kernel_rfl) (by kernel_rfl) (by kernel_rfl) (fun _ _ _ h => h) (Or.inl ⟨by rfl, ?hykc0⟩) (by assumption) ?rkc0
    case hykc0 => intro w hSw; (try dsimp only at hSw); go_simp; first | done | with_reducible rfl
    case' rkc0 => try simp only [Act.put, List.setIfInBounds_toArray, List.set_cons_zero, List.set_cons_succ]
    refine wpAnyH_takeD (some 70) (i := 1) (v := ?vkc1) rfl (by kernel_rfl) (by kernel_rfl) (by kernel_rfl) (by kernel_rfl) (fun _ _ _ h => h) (Or.inl ⟨by rfl, ?hykc1⟩) (by assumption) ?rkc1
    case hykc1 => intro w hSw; (try dsimp only at hSw); go_simp; first | done | with_reducible rfl
    case' rkc1 => try simp only [Act.put, List.setIfInBounds_toArray, List.set_cons_zero, List.set_cons_succ]
    refine wpAnyH_takeD (some 71) (i := 2) (v := ?vkc2) rfl (by kernel_rfl) (by kernel_rfl) (by kernel_rfl) (by kernel_rfl) (fun _ _ _ h => h) (Or.inl ⟨by rfl, ?hykc2⟩) (by assumption) ?rkc2
    case hykc2 => intro w hSw; (try dsimp only at hSw); go_simp; first | done | with_reducible rfl
    case' rkc2 => try simp only [Act.put, List.setIfInBounds_toArray, List.set_cons_zero, List.set_cons_succ]
    refine wpAnyH_takeD (some 72) (i := 3) (v := ?vkc3) rfl (by kernel_rfl) (by kernel_rfl) (by kernel_rfl) (by kernel_rfl) (fun _ _ _ h => h) (Or.inl ⟨by rfl, ?hykc3⟩) (by assumption) ?rkc3
    case hykc3 => intro w hSw; (try dsimp only at hSw); go_simp; first | done | with_reducible rfl
    case' rkc3 => try simp only [Act.put, List.setIfInBounds_toArray, List.set_cons_zero, List.set_cons_succ]
    refine wpAnyH_takeD (some 73) (i := 4) (v := ?vkc4) rfl (by kernel_rfl) (by kernel_rfl) (by kernel_rfl) (by kernel_rfl) (fun _ _ _ h => h) (Or.inl ⟨by rfl, ?hykc4⟩) (by assumption) ?rkc4
    case hykc4 => intro w hSw; (try dsimp only at hSw); go_simp; first | done | with_reducible rfl
    case' rkc4 => try simp only [Act.put, List.setIfInBounds_toArray, List.set_cons_zero, List.set_cons_succ]
    refine wpAnyH_takeD (some 74) (i := 5) (v := undef) rfl (by kernel_rfl) (by kernel_rfl) (by kernel_rfl) (by kernel_rfl) (fun _ _ _ h => h) (Or.inr ⟨by kernel_rfl, rfl⟩) (by assumption) ?_
    try simp only [Act.put, List.setIfInBounds_toArray, List.set_cons_zero, List.set_cons_succ]
    refine wpAnyH_takeD (some 75) (i := 6) (v := undef) rfl (by kernel_rfl) (by kernel_rfl) (by kernel_rfl) (by kernel_rfl) (fun _ _ _ h => h) (Or.inr ⟨by kernel_rfl, rfl⟩) (by assumption) ?_
    try simp only [Act.put, List.setIfInBounds_toArray, List.set_cons_zero, List.set_cons_succ]
    refine wpAnyH_takeD (some 76) (i := 7) (v := ?vkc7) rfl (by kernel_rfl) (by kernel_rfl) (by kernel_rfl) (by kernel_rfl) (fun _ _ _ h => h) (Or.inl ⟨by rfl, ?hykc7⟩) (by assumption) ?rkc7
    case hykc7 => intro w hSw; (try dsimp only at hSw); go_simp; first | done | with_reducible rfl
    case' rkc7 => try simp only [Act.put, List.setIfInBounds_toArray, List.set_cons_zero, List.set_cons_succ]
    refine wpAnyH_takeD (some 6) (i := 8) (v := ?vkc8) rfl (by kernel_rfl) (by kernel_rfl) (by kernel_rfl) (by kernel_rfl) (fun _ _ _ h => h) (Or.inl ⟨by rfl, ?hykc8⟩) (by assumption) ?rkc8
    case hykc8 => intro w hSw; (try dsimp only at hSw); go_simp; first | done | with_reducible rfl
    case' rkc8 => try simp only [Act.put, List.setIfInBounds_toArray, List.set_cons_zero, List.set_cons_succ]
    refine wpAnyH_takeD (some 7) (i := 9) (v := ?vkc9) rfl (by kernel_rfl) (by kernel_rfl) (by kernel_rfl) (by kernel_rfl) (fun _ _ _ h => h) (Or.inl ⟨by rfl, ?hykc9⟩) (by assumption) ?rkc9
    case hykc9 => intro w hSw; (try dsimp only at hSw); go_simp; first | done | with_reducible rfl
    case' rkc9 => try simp only [Act.put, List.setIfInBounds_toArray, List.set_cons_zero, List.set_cons_succ]
    refine wpAnyH_done (by kernel_rfl) ?_ _
    go_wp2
    exact bodyPost_ret (v := .tuple #[.iface 167 (.agg #[.string a', .slice p' n' c']), .bool false]) (by simp [results, Try.results89, go_sem]) rfl ⟨⟨a', p', n', c', rfl, fun h => by cases h⟩, E2.out.drew⟩
  | true =>
    refine wp_region_held_drew (S := (fun W => W.cell? ⟨w.heap.size, 0, none⟩ = some (.int .i64 3) ∧ W.cell? ⟨w.heap.size, 1, none⟩ = some (.int .i64 num) ∧ W.cell? ⟨w.heap.size, 2, none⟩ = some (.slice pu xs.length cu) ∧ W.cell? ⟨w.heap.size, 3, none⟩ = some (.int .i64 k) ∧ W.cell? ⟨w.heap.size, 4, none⟩ = some (.string ⟨#[]⟩) ∧ W.cell? ⟨w.heap.size, 5, none⟩ = some (.slice none 0 0) ∧ W.cell? ⟨w.heap.size, 6, none⟩ = some (.slice pv n cv) ∧ W.cell? ⟨W1.heap.size, 0, none⟩ = some (.string a') ∧ W.cell? ⟨W1.heap.size, 1, none⟩ = some (.slice p' n' c'))) (by kernel_rfl) ⟨y0, y1, y2, y3, y4, y5, y6, z0, z1⟩ (fun hHeld => ?_)
    refine wpAnyH_takeD (some 69) (i := 0) (v := ?vkd0) rfl (by kernel_rfl) (by kernel_rfl) (by kernel_rfl) (by kernel_rfl) (fun _ _ _ h => h) (Or.inl ⟨by rfl, ?hykd0⟩) (by assumption) ?rkd0
    case hykd0 => intro w hSw; (try dsimp only at hSw); go_simp; first | done | with_reducible rfl
    case' rkd0 => try simp only [Act.put, List.setIfInBounds_toArray, List.set_cons_zero, List.set_cons_succ]
    refine wpAnyH_takeD (some 70) (i := 1) (v := ?vkd1) rfl (by kernel_rfl) (by kernel_rfl) (by kernel_rfl) (by kernel_rfl) (fun _ _ _ h => h) (Or.inl ⟨by rfl, ?hykd1⟩) (by assumption) ?rkd1
    case hykd1 => intro w hSw; (try dsimp only at hSw); go_simp; first | done | with_reducible rfl
    case' rkd1 => try simp only [Act.put, List.setIfInBounds_toArray, List.set_cons_zero, List.set_cons_succ]
    refine wpAnyH_takeD (some 71) (i := 2) (v := ?vkd2) rfl (by kernel_rfl) (by kernel_rfl) (by kernel_rfl) (by kernel_rfl) (fun _ _ _ h => h) (Or.inl ⟨by rfl, ?hykd2⟩) (by assumption) ?rkd2
    case hykd2 => intro w hSw; (try dsimp only at hSw); go_simp; first | done | with_reducible rfl
    case' rkd2 => try simp only [Act.put, List.setIfInBounds_toArray, List.set_cons_zero, List.set_cons_succ]
    refine wpAnyH_takeD (some 72) (i := 3) (v := ?vkd3) rfl (by kernel_rfl) (by kernel_rfl) (by kernel_rfl) (by kernel_rfl) (fun _ _ _ h => h) (Or.inl ⟨by rfl, ?hykd3⟩) (by assumption) ?rkd3
    case hykd3 => intro w hSw; (try dsimp only at hSw); go_simp; first | done | with_reducible rfl
    case' rkd3 => try simp only [Act.put, List.setIfInBounds_toArray, List.set_cons_zero, List.set_cons_succ]
    refine wpAnyH_takeD (some 73) (i := 4) (v := ?vkd4) rfl (by kernel_rfl) (by kernel_rfl) (by kernel_rfl) (by kernel_rfl) (fun _ _ _ h => h) (Or.inl ⟨by rfl, ?hykd4⟩) (by assumption) ?rkd4
    case hykd4 => intro w hSw; (try dsimp only at hSw); go_simp; first | done | with_reducible rfl
    case' rkd4 => try simp only [Act.put, List.setIfInBounds_toArray, List.set_cons_zero, List.set_cons_succ]
    refine wpAnyH_takeD (some 74) (i := 5) (v := ?vkd5) rfl (by kernel_rfl) (by kernel_rfl) (by kernel_rfl) (by kernel_rfl) (fun _ _ _ h => h) (Or.inl ⟨by rfl, ?hykd5⟩) (by assumption) ?rkd5
    case hykd5 => intro w hSw; (try dsimp only at hSw); go_simp; first | done | with_reducible rfl
    case' rkd5 => try simp only [Act.put, List.setIfInBounds_toArray, List.set_cons_zero, List.set_cons_succ]
    refine wpAnyH_ready (rs := [6]) (by kernel_rfl) (by simp) ?_
    refine AllReadyH.cons rfl (fun K9 hK => ?_) AllReadyH.nil
    go_simp
    refine (bare_any 3 num k _ _ _ xs ⟨#[]⟩ [] n _ (HU.out.ext E2.out.drew) (AffsAt.zero _) ⟨_, _, rfl⟩ hn).mono ?_
    rw [HQ.out]
    rintro r w3 ⟨rfl, hE3⟩
    have g3 : Ext W2 w3 := (Ext.refl W2).drew.trans hE3
    have E3 : Hid (Ext w w3) := Lib.hid (E2.out.trans g3)
    have HV3 : Hid (accB arr subs dd = true → a' = arr ∧ LinsOwn w.heap.size w3 (.slice p' n' c') subs) := Lib.hid (fun _ => ⟨(HV2.out rfl).1, (HV2.out rfl).2.ext g3⟩)
    clear hE3
    refine hK.out _ _ ⟨g3.keep y0, g3.keep y1, g3.keep y2, g3.keep y3, g3.keep y4, g3.keep y5, g3.keep y6, g3.keep z0, g3.keep z1⟩ (fun hHkd6 => ?_)
    clear hK K9
    try simp only [Act.put, List.setIfInBounds_toArray, List.set_cons_zero, List.set_cons_succ]
    refine wpAnyH_takeD (some 76) (i := 7) (v := ?vkd7) rfl (by kernel_rfl) (by kernel_rfl) (by kernel_rfl) (by kernel_rfl) (fun _ _ _ h => h) (Or.inl ⟨by rfl, ?hykd7⟩) (by assumption) ?rkd7
    case hykd7 => intro w hSw; (try dsimp only at hSw); go_simp; first | done | with_reducible rfl
    case' rkd7 => try simp only [Act.put, List.setIfInBounds_toArray, List.set_cons_zero, List.set_cons_succ]
    refine wpAnyH_takeD (some 6) (i := 8) (v := ?vkd8) rfl (by kernel_rfl) (by kernel_rfl) (by kernel_rfl) (by kernel_rfl) (fun _ _ _ h => h) (Or.inl ⟨by rfl, ?hykd8⟩) (by assumption) ?rkd8
    case hykd8 => intro w hSw; (try dsimp only at hSw); go_simp; first | done | with_reducible rfl
    case' rkd8 => try simp only [Act.put, List.setIfInBounds_toArray, List.set_cons_zero, List.set_cons_succ]
    refine wpAnyH_takeD (some 7) (i := 9) (v := ?vkd9) rfl (by kernel_rfl) (by kernel_rfl) (by kernel_rfl) (by kernel_rfl) (fun _ _ _ h => h) (Or.inl ⟨by rfl, ?hykd9⟩) (by assumption) ?rkd9
    case hykd9 => intro w hSw; (try dsimp only at hSw); go_simp; first | done | with_reducible rfl
    case' rkd9 => try simp only [Act.put, List.setIfInBounds_toArray, List.set_cons_zero, List.set_cons_succ]
    refine wpAnyH_done (by kernel_rfl) ?_ _
    go_wp2
    exact bodyPost_ret (v := .tuple #[.iface 167 (.agg #[.string a', .slice p' n' c']), .bool q]) (by simp [results, Try.results89, go_sem]) rfl ⟨⟨a', p', n', c', by simp, HV3.out HBB.out⟩, E3.out⟩
end Go.Proofs.Ytccibfldadflkaa

/- The texts N5b, joined. No statement is proved here. -/
import Derived.Test.YtccibfldadflkaaQV42
import Derived.Test.YtccibfldadflkaaQV06
import Derived.Test.YtccibfldadflkaaQV32
/- Contract: linearWithin. -/
namespace Go.Proofs.Ytccibfldadflkaa
open Go.RowKit

theorem wpAnyH_takeDw {P : Program} {md : Region.Mode} {ops : Array Oper} {Q : Exit → Act → World → Prop} {S : World → Prop} {i : Nat} {oi : Oper} {v : Value} {fuel : Nat} {listed : Array Bool} {a : Act} {w : World} (d : Option Nat) (hi : ops[i]? = some oi) (hd : oi.dst = d)
    (hs : Region.noSelect ops = true) (hf : Region.free md ops listed i = true) (hr : (Region.ready md ops listed).contains i = true)
    (hQ : ∀ c a w, Q (.panic c) (a.put d v) w → Q (.panic c) a w) (hy : YieldsIf P ops S oi v a) (hS : S w)
    (h : wpAnyH P md ops Q S fuel (listed.setIfInBounds i true) (a.put d v) w) : wpAnyH P md ops Q S (fuel + 1) listed a w := by
  subst hd
  exact wpAnyH_take hi hs hf hr hQ hy hS h

set_option maxHeartbeats 2000000 in
theorem linearWithin_no (s : Value) (xs : List Int) (k dd : Int) (w : World) (hs : IntsAt w s xs) (hv : affValidB xs k = false) :
    Calls Try.prog 39 #[.agg #[s, .int .i64 k], .int .i64 dd] w fun e w' =>
      e = .returned (.tuple #[.agg #[.int .i64 0, .int .i64 0, .int .i64 0, .int .i64 0, .int .i64 0], .bool false]) ∧ Ext w w' := by
  have HS := Lib.hid hs; have HV := Lib.hid hv; clear hs hv
  obtain ⟨p, cp, rfl, -, -⟩ := id HS.out
  go_enter Try.func39, Try.ntmps39
  go_wp2_with (fail)
  refine (linearOf_no _ xs k _ (HS.out.ext (((Ext.refl w).alloc _).alloc _)) HV.out).mono ?_
  rintro e w1 ⟨rfl, hE⟩
  have E1 : Hid (Ext w w1) := (((Ext.refl w).alloc _).alloc _).trans hE
  have Y1 := Lib.hid (hE.blk (blk_at (w := w.alloc (.cells #[.slice p xs.length cp, .int .i64 k] 36)) (o := .cells #[.int .i64 0, .int .i64 0, .int .i64 0, .int .i64 0, .int .i64 0] 79) (g := w.heap.size + 1) (by simp)))
  have hl1 := lt_of_block Y1.out
  clear hE
  go_wp2_with (fail)
  have E2 : Hid (Ext w (w1.alloc (.cells #[.int .i64 0, .int .i64 0, .int .i64 0, .int .i64 0, .int .i64 0] 79))) := E1.out.alloc _
  have Y2 := Lib.hid (blk_old (o := .cells #[.int .i64 0, .int .i64 0, .int .i64 0, .int .i64 0, .int .i64 0] 79) Y1.out)
  have Y6 : Hid ((w1.alloc (.cells #[.int .i64 0, .int .i64 0, .int .i64 0, .int .i64 0, .int .i64 0] 79)).heap[w1.heap.size]? = some (.cells #[.int .i64 0, .int .i64 0, .int .i64 0, .int .i64 0, .int .i64 0] 79 (0, 0))) := Lib.hid (blk_at rfl)
  generalize w1.alloc (.cells #[.int .i64 0, .int .i64 0, .int .i64 0, .int .i64 0, .int .i64 0] 79) = W at *
  have hne : w1.heap.size ≠ w.heap.size + 1 := by omega
  generalize w1.heap.size = g6 at *
  obtain ⟨x0, x1, x2, x3, x4, -⟩ := blk5 Y6.out
  obtain ⟨z0, z1, z2, z3, z4, f0, f1, f2, f3, f4⟩ := blk5 Y2.out
  have hs6 : (((((W.setCell ⟨w.heap.size + 1, 0, none⟩ (.int .i64 0)).setCell ⟨w.heap.size + 1, 1, none⟩ (.int .i64 0)).setCell ⟨w.heap.size + 1, 2, none⟩ (.int .i64 0)).setCell ⟨w.heap.size + 1, 3, none⟩ (.int .i64 0)).setCell ⟨w.heap.size + 1, 4, none⟩ (.int .i64 0)).drew.heap[g6]? = some (.cells #[.int .i64 0, .int .i64 0, .int .i64 0, .int .i64 0, .int .i64 0] 79 (0, 0)) := set5 hne Y6.out
  obtain ⟨s0, s1, s2, s3, s4, -⟩ := blk5 hs6
  refine wp_region_held_drew (S := (fun W' => W'.cell? ⟨g6, 0, none⟩ = some (.int .i64 0) ∧ W'.cell? ⟨g6, 1, none⟩ = some (.int .i64 0) ∧ W'.cell? ⟨g6, 2, none⟩ = some (.int .i64 0) ∧ W'.cell? ⟨g6, 3, none⟩ = some (.int .i64 0) ∧ W'.cell? ⟨g6, 4, none⟩ = some (.int .i64 0))) (by kernel_rfl) ⟨x0, x1, x2, x3, x4⟩ (fun hHeld => ?_)
  refine wpAnyH_takeDw (some 13) (i := 0) (v := ?v0) rfl (by kernel_rfl) (by kernel_rfl) (by kernel_rfl) (by kernel_rfl) (fun _ _ _ h => h) (Or.inl ⟨by rfl, ?hy0⟩) (by assumption) ?r0
  case hy0 => intro w hSw; (try dsimp only at hSw); go_simp; first | done | with_reducible rfl
  case' r0 => try simp only [Act.put, List.setIfInBounds_toArray, List.set_cons_zero, List.set_cons_succ]
  refine wpAnyH_takeDw (some 14) (i := 1) (v := ?v1) rfl (by kernel_rfl) (by kernel_rfl) (by kernel_rfl) (by kernel_rfl) (fun _ _ _ h => h) (Or.inl ⟨by rfl, ?hy1⟩) (by assumption) ?r1
  case hy1 => intro w hSw; (try dsimp only at hSw); go_simp; first | done | with_reducible rfl
  case' r1 => try simp only [Act.put, List.setIfInBounds_toArray, List.set_cons_zero, List.set_cons_succ]
  refine wpAnyH_takeDw (some 15) (i := 2) (v := ?v2) rfl (by kernel_rfl) (by kernel_rfl) (by kernel_rfl) (by kernel_rfl) (fun _ _ _ h => h) (Or.inl ⟨by rfl, ?hy2⟩) (by assumption) ?r2
  case hy2 => intro w hSw; (try dsimp only at hSw); go_simp; first | done | with_reducible rfl
  case' r2 => try simp only [Act.put, List.setIfInBounds_toArray, List.set_cons_zero, List.set_cons_succ]
  refine wpAnyH_takeDw (some 16) (i := 3) (v := undef) rfl (by kernel_rfl) (by kernel_rfl) (by kernel_rfl) (by kernel_rfl) (fun _ _ _ h => h) (Or.inr ⟨by kernel_rfl, rfl⟩) (by assumption) ?_
  try simp only [Act.put, List.setIfInBounds_toArray, List.set_cons_zero, List.set_cons_succ]
  refine wpAnyH_takeDw (some 17) (i := 4) (v := undef) rfl (by kernel_rfl) (by kernel_rfl) (by kernel_rfl) (by kernel_rfl) (fun _ _ _ h => h) (Or.inr ⟨by kernel_rfl, rfl⟩) (by assumption) ?_
  try simp only [Act.put, List.setIfInBounds_toArray, List.set_cons_zero, List.set_cons_succ]
  refine wpAnyH_takeDw (some 18) (i := 5) (v := undef) rfl (by kernel_rfl) (by kernel_rfl) (by kernel_rfl) (by kernel_rfl) (fun _ _ _ h => h) (Or.inr ⟨by kernel_rfl, rfl⟩) (by assumption) ?_
  try simp only [Act.put, List.setIfInBounds_toArray, List.set_cons_zero, List.set_cons_succ]
  refine wpAnyH_takeDw (some 19) (i := 6) (v := undef) rfl (by kernel_rfl) (by kernel_rfl) (by kernel_rfl) (by kernel_rfl) (fun _ _ _ h => h) (Or.inr ⟨by kernel_rfl, rfl⟩) (by assumption) ?_
  try simp only [Act.put, List.setIfInBounds_toArray, List.set_cons_zero, List.set_cons_succ]
  refine wpAnyH_takeDw (some 20) (i := 7) (v := ?v7) rfl (by kernel_rfl) (by kernel_rfl) (by kernel_rfl) (by kernel_rfl) (fun _ _ _ h => h) (Or.inl ⟨by rfl, ?hy7⟩) (by assumption) ?r7
  case hy7 => intro w hSw; (try dsimp only at hSw); go_simp; first | done | with_reducible rfl
  case' r7 => try simp only [Act.put, List.setIfInBounds_toArray, List.set_cons_zero, List.set_cons_succ]
  refine wpAnyH_ready (rs := [8]) (by kernel_rfl) (by simp) ?_
  refine AllReadyH.cons rfl (fun K hK => ?_) AllReadyH.nil
  go_simp
  refine hK.out _ _ ⟨s0, s1, s2, s3, s4⟩ (fun hHeld8 => ?_)
  clear hK K
  try simp only [Act.put, List.setIfInBounds_toArray, List.set_cons_zero, List.set_cons_succ]
  refine wpAnyH_takeDw (some 5) (i := 9) (v := ?v9) rfl (by kernel_rfl) (by kernel_rfl) (by kernel_rfl) (by kernel_rfl) (fun _ _ _ h => h) (Or.inl ⟨by rfl, ?hy9⟩) (by assumption) ?r9
  case hy9 => intro w hSw; (try dsimp only at hSw); go_simp; first | done | with_reducible rfl
  case' r9 => try simp only [Act.put, List.setIfInBounds_toArray, List.set_cons_zero, List.set_cons_succ]
  refine wpAnyH_done (by kernel_rfl) ?_ _
  go_wp2
  refine bodyPost_ret (v := .tuple #[.agg #[.int .i64 0, .int .i64 0, .int .i64 0, .int .i64 0, .int .i64 0], .bool false]) (by simp [results, Try.results39, go_sem, z0, z1, z2, z3, z4]) rfl ⟨rfl, ?_⟩
  refine Ext.drew ?_
  repeat (with_reducible refine Ext.setCell ?_ ?_ _; rotate_left; · simp <;> omega)
  exact E2.out

set_option maxHeartbeats 2000000 in
theorem linearWithin_yes (s : Value) (a b c d k dd : Int) (w : World) (hs : IntsAt w s [a, b, c, d]) (hv : affValidB [a, b, c, d] k = true) :
    Calls Try.prog 39 #[.agg #[s, .int .i64 k], .int .i64 dd] w fun e w' =>
      e = .returned (.tuple #[.agg #[.int .i64 a, .int .i64 b, .int .i64 c, .int .i64 d, .int .i64 k], .bool (decide (dep4 a b c d ≤ dd))]) ∧ Ext w w' := by
  have HS := Lib.hid hs; have HV := Lib.hid hv; clear hs hv
  obtain ⟨p, cp, rfl, -, -⟩ := id HS.out
  go_enter Try.func39, Try.ntmps39
  go_wp2_with (fail)
  refine (linearOf_yes _ a b c d k _ (HS.out.ext (((Ext.refl w).alloc _).alloc _)) HV.out).mono ?_
  rintro e w1 ⟨rfl, hE⟩
  have E1 : Hid (Ext w w1) := (((Ext.refl w).alloc _).alloc _).trans hE
  have Y1 := Lib.hid (hE.blk (blk_at (w := w.alloc (.cells #[.slice p 4 cp, .int .i64 k] 36)) (o := .cells #[.int .i64 0, .int .i64 0, .int .i64 0, .int .i64 0, .int .i64 0] 79) (g := w.heap.size + 1) (by simp)))
  have hl1 := lt_of_block Y1.out
  clear hE
  go_wp2_with (fail)
  have E2 : Hid (Ext w (w1.alloc (.cells #[.int .i64 a, .int .i64 b, .int .i64 c, .int .i64 d, .int .i64 k] 79))) := E1.out.alloc _
  have Y2 := Lib.hid (blk_old (o := .cells #[.int .i64 a, .int .i64 b, .int .i64 c, .int .i64 d, .int .i64 k] 79) Y1.out)
  have Y6 : Hid ((w1.alloc (.cells #[.int .i64 a, .int .i64 b, .int .i64 c, .int .i64 d, .int .i64 k] 79)).heap[w1.heap.size]? = some (.cells #[.int .i64 a, .int .i64 b, .int .i64 c, .int .i64 d, .int .i64 k] 79 (0, 0))) := Lib.hid (blk_at rfl)
  generalize w1.alloc (.cells #[.int .i64 a, .int .i64 b, .int .i64 c, .int .i64 d, .int .i64 k] 79) = W at *
  have hne : w1.heap.size ≠ w.heap.size + 1 := by omega
  generalize w1.heap.size = g6 at *
  obtain ⟨x0, x1, x2, x3, x4, -⟩ := blk5 Y6.out
  obtain ⟨z0, z1, z2, z3, z4, f0, f1, f2, f3, f4⟩ := blk5 Y2.out
  go_region_held3 (fun W' => W'.cell? ⟨g6, 0, none⟩ = some (.int .i64 a) ∧ W'.cell? ⟨g6, 1, none⟩ = some (.int .i64 b) ∧ W'.cell? ⟨g6, 2, none⟩ = some (.int .i64 c) ∧ W'.cell? ⟨g6, 3, none⟩ = some (.int .i64 d) ∧ W'.cell? ⟨g6, 4, none⟩ = some (.int .i64 k))
    (first
      | with_reducible exact ⟨p0, p1, p2, p3, p4⟩
      | with_reducible exact ⟨t0, t1, t2, t3, t4⟩
      | exact ⟨x0, x1, x2, x3, x4⟩
      | fail)
    (first
      | (go_at_call 71; (with_reducible refine (depth_any a b c d k _).mono ?_); rintro e v1 ⟨rfl, hx1⟩; have g1 : Ext W v1 := (Ext.refl W).drew.trans hx1; have t := blk5 (g1.blk Y6.out); have t0 := t.1; have t1 := t.2.1; have t2 := t.2.2.1; have t3 := t.2.2.2.1; have t4 := t.2.2.2.2.1; clear t; have u := blk5 (g1.blk Y2.out); have c0 := u.1; have c1 := u.2.1; have c2 := u.2.2.1; have c3 := u.2.2.2.1; have c4 := u.2.2.2.2.1; have k0 := u.2.2.2.2.2.1; have k1 := u.2.2.2.2.2.2.1; have k2 := u.2.2.2.2.2.2.2.1; have k3 := u.2.2.2.2.2.2.2.2.1; have k4 := u.2.2.2.2.2.2.2.2.2; clear u; have rr := blk5 (set5 (u0 := .int .i64 a) (u1 := .int .i64 b) (u2 := .int .i64 c) (u3 := .int .i64 d) (u4 := .int .i64 k) hne (g1.blk Y6.out)); have p0 := rr.1; have p1 := rr.2.1; have p2 := rr.2.2.1; have p3 := rr.2.2.2.1; have p4 := rr.2.2.2.2.1; clear rr; have EV := E2.out.trans g1)
      | fail)
  all_goals
    go_wp2
    refine bodyPost_ret (v := .tuple #[.agg #[.int .i64 a, .int .i64 b, .int .i64 c, .int .i64 d, .int .i64 k], .bool (decide (dep4 a b c d ≤ dd))]) (by simp [results, Try.results39, go_sem, c0, c1, c2, c3, c4]) rfl ⟨rfl, ?_⟩
    repeat (with_reducible refine Ext.setCell ?_ ?_ _; rotate_left; · simp <;> omega)
    exact EV

theorem boundB_four {a b c d k dd : Int} (h : affValidB [a, b, c, d] k = true) : boundB dd ([a, b, c, d], k) = decide (dep4 a b c d ≤ dd) := by
  unfold boundB depR; rw [h, if_pos rfl]; simp
theorem linearWithin_any (s : Value) (xs : List Int) (k dd : Int) (w : World) (hs : IntsAt w s xs) :
    Calls Try.prog 39 #[.agg #[s, .int .i64 k], .int .i64 dd] w fun e w' => (∃ a b c d m, e = .returned (.tuple #[.agg #[.int .i64 a, .int .i64 b, .int .i64 c, .int .i64 d, .int .i64 m], .bool (boundB dd (xs, k))]) ∧ (affValidB xs k = true → xs = [a, b, c, d] ∧ m = k)) ∧ Ext w w' := by
  cases hv : affValidB xs k with
  | true =>
    obtain ⟨a, b, c, d, rfl, _⟩ := valid_four hv
    refine (linearWithin_yes s a b c d k dd w hs hv).mono ?_
    rintro e w' ⟨rfl, hE⟩
    exact ⟨⟨a, b, c, d, k, by rw [boundB_four hv], fun _ => ⟨rfl, rfl⟩⟩, hE⟩
  | false =>
    refine (linearWithin_no s xs k dd w hs hv).mono ?_
    rintro e w' ⟨rfl, hE⟩
    exact ⟨⟨0, 0, 0, 0, 0, by simp [boundB, hv], fun h => by cases h⟩, hE⟩
end Go.Proofs.Ytccibfldadflkaa

/- The texts S8, joined. No statement is proved here. -/
import Derived.Test.YtccibfldadflkaaQV16
import Derived.Test.YtccibfldadflkaaQV44
/- The model's check of an expression. (Written by s8.py.) No statement is proved here. -/
namespace Go.Proofs.Ytccibfldadflkaa
open Go.RowKit

def shapeB : Nat → Ex → Int → Bool
  | 0, _, _ => false
  | L + 1, e, d => decide (kidsN e.kind = (e.kids.length : Int)) && (ownF e.kind e.num e.ix e.arr e.subs d && e.kids.all (fun x => shapeB L x d))

set_option maxRecDepth 100000 in
set_option maxHeartbeats 4000000 in
theorem l3Shape_any (dd : Int) : ∀ (L : Nat) (e : Ex) (u s v : Value) (w : World), L ≤ 5 → IntsAt w u e.ix.1 → e.arr.size ≤ 9223372036854775807 → AffsAt w s e.subs → ExsAt w v e.kids →
    Calls Try.prog 60 #[.agg #[.int .i64 e.kind, .int .i64 e.num, u, .int .i64 e.ix.2, .string e.arr, s, v], .int .i64 dd, .int .i64 (L : Int)] w fun r w' => r = .returned (.bool (shapeB L e dd)) ∧ Ext w w'
  | 0, e, u, s, v, w, hL, hu, ha, hs, hv => by
    obtain ⟨pu, cu, rfl, hmu, -⟩ := id hu
    obtain ⟨ps, cs, rfl, hms⟩ := hs.form
    obtain ⟨pv, cv, rfl, hmv⟩ := hv.form
    have HU := Lib.hid hu; have HS := Lib.hid hs; have HV := Lib.hid hv; clear hu hs hv
    go_enter Try.func60, Try.ntmps60
    go_wp2_with (fail)
    obtain ⟨W1, hW1⟩ : ∃ W1, w.alloc (.cells #[.int .i64 e.kind, .int .i64 e.num, .slice pu e.ix.1.length cu, .int .i64 e.ix.2, .string e.arr, .slice ps e.subs.length cs, .slice pv e.kids.length cv] 54) = W1 := ⟨_, rfl⟩
    have EA : Hid (Ext w W1) := Lib.hid (by rw [← hW1]; exact (Ext.refl w).alloc _)
    have BA : Hid (W1.heap[w.heap.size]? = some (.cells #[.int .i64 e.kind, .int .i64 e.num, .slice pu e.ix.1.length cu, .int .i64 e.ix.2, .string e.arr, .slice ps e.subs.length cs, .slice pv e.kids.length cv] 54 (0, 0))) := Lib.hid (by rw [← hW1]; exact blk_at rfl)
    rw [hW1]
    clear hW1
    obtain ⟨y0, y1, y2, y3, y4, y5, y6⟩ := blk7 BA.out
    clear hmu hms hmv
    refine wp_region_held_drew (S := (fun W => W.cell? ⟨w.heap.size, 0, none⟩ = some (.int .i64 e.kind) ∧ W.cell? ⟨w.heap.size, 1, none⟩ = some (.int .i64 e.num) ∧ W.cell? ⟨w.heap.size, 2, none⟩ = some (.slice pu e.ix.1.length cu) ∧ W.cell? ⟨w.heap.size, 3, none⟩ = some (.int .i64 e.ix.2) ∧ W.cell? ⟨w.heap.size, 4, none⟩ = some (.string e.arr) ∧ W.cell? ⟨w.heap.size, 5, none⟩ = some (.slice ps e.subs.length cs) ∧ W.cell? ⟨w.heap.size, 6, none⟩ = some (.slice pv e.kids.length cv))) (by kernel_rfl) ⟨y0, y1, y2, y3, y4, y5, y6⟩ (fun hHeld => ?_)
    refine wpAnyH_takeD (some 8) (i := 0) (v := ?vka0) rfl (by kernel_rfl) (by kernel_rfl) (by kernel_rfl) (by kernel_rfl) (fun _ _ _ h => h) (Or.inl ⟨by rfl, ?hyka0⟩) (by assumption) ?rka0
    case hyka0 => intro w hSw; (try dsimp only at hSw); go_simp; first | done | with_reducible rfl
    case' rka0 => try simp only [Act.put, List.setIfInBounds_toArray, List.set_cons_zero, List.set_cons_succ]
    refine wpAnyH_takeD (some 9) (i := 1) (v := ?vka1) rfl (by kernel_rfl) (by kernel_rfl) (by kernel_rfl) (by kernel_rfl) (fun _ _ _ h => h) (Or.inl ⟨by rfl, ?hyka1⟩) (by assumption) ?rka1
    case hyka1 => intro w hSw; (try dsimp only at hSw); go_simp; first | done | with_reducible rfl
    case' rka1 => try simp only [Act.put, List.setIfInBounds_toArray, List.set_cons_zero, List.set_cons_succ]
    refine wpAnyH_takeD (some 10) (i := 2) (v := ?vka2) rfl (by kernel_rfl) (by kernel_rfl) (by kernel_rfl) (by kernel_rfl) (fun _ _ _ h => h) (Or.inl ⟨by rfl, ?hyka2⟩) (by assumption) ?rka2
    case hyka2 => intro w hSw; (try dsimp only at hSw); go_simp; first | done | with_reducible rfl
    case' rka2 => try simp only [Act.put, List.setIfInBounds_toArray, List.set_cons_zero, List.set_cons_succ]
    refine wpAnyH_takeD (some 11) (i := 3) (v := undef) rfl (by kernel_rfl) (by kernel_rfl) (by kernel_rfl) (by kernel_rfl) (fun _ _ _ h => h) (Or.inr ⟨by kernel_rfl, rfl⟩) (by assumption) ?_
    try simp only [Act.put, List.setIfInBounds_toArray, List.set_cons_zero, List.set_cons_succ]
    refine wpAnyH_takeD (some 12) (i := 4) (v := undef) rfl (by kernel_rfl) (by kernel_rfl) (by kernel_rfl) (by kernel_rfl) (fun _ _ _ h => h) (Or.inr ⟨by kernel_rfl, rfl⟩) (by assumption) ?_
    try simp only [Act.put, List.setIfInBounds_toArray, List.set_cons_zero, List.set_cons_succ]
    refine wpAnyH_takeD (some 13) (i := 5) (v := undef) rfl (by kernel_rfl) (by kernel_rfl) (by kernel_rfl) (by kernel_rfl) (fun _ _ _ h => h) (Or.inr ⟨by kernel_rfl, rfl⟩) (by assumption) ?_
    try simp only [Act.put, List.setIfInBounds_toArray, List.set_cons_zero, List.set_cons_succ]
    refine wpAnyH_takeD (some 14) (i := 6) (v := undef) rfl (by kernel_rfl) (by kernel_rfl) (by kernel_rfl) (by kernel_rfl) (fun _ _ _ h => h) (Or.inr ⟨by kernel_rfl, rfl⟩) (by assumption) ?_
    try simp only [Act.put, List.setIfInBounds_toArray, List.set_cons_zero, List.set_cons_succ]
    refine wpAnyH_takeD (some 15) (i := 7) (v := undef) rfl (by kernel_rfl) (by kernel_rfl) (by kernel_rfl) (by kernel_rfl) (fun _ _ _ h => h) (Or.inr ⟨by kernel_rfl, rfl⟩) (by assumption) ?_
    try simp only [Act.put, List.setIfInBounds_toArray, List.set_cons_zero, List.set_cons_succ]
    refine wpAnyH_takeD (some 16) (i := 8) (v := undef) rfl (by kernel_rfl) (by kernel_rfl) (by kernel_rfl) (by kernel_rfl) (fun _ _ _ h => h) (Or.inr ⟨by kernel_rfl, rfl⟩) (by assumption) ?_
    try simp only [Act.put, List.setIfInBounds_toArray, List.set_cons_zero, List.set_cons_succ]
    refine wpAnyH_takeD (some 17) (i := 9) (v := undef) rfl (by kernel_rfl) (by kernel_rfl) (by kernel_rfl) (by kernel_rfl) (fun _ _ _ h => h) (Or.inr ⟨by kernel_rfl, rfl⟩) (by assumption) ?_
    try simp only [Act.put, List.setIfInBounds_toArray, List.set_cons_zero, List.set_cons_succ]
    refine wpAnyH_takeD (some 18) (i := 10) (v := ?vka10) rfl (by kernel_rfl) (by kernel_rfl) (by kernel_rfl) (by kernel_rfl) (fun _ _ _ h => h) (Or.inl ⟨by rfl, ?hyka10⟩) (by assumption) ?rka10
    case hyka10 => intro w hSw; (try dsimp only at hSw); go_simp; first | done | with_reducible rfl
    case' rka10 => try simp only [Act.put, List.setIfInBounds_toArray, List.set_cons_zero, List.set_cons_succ]
    refine wpAnyH_takeD (some 19) (i := 11) (v := ?vka11) rfl (by kernel_rfl) (by kernel_rfl) (by kernel_rfl) (by kernel_rfl) (fun _ _ _ h => h) (Or.inl ⟨by rfl, ?hyka11⟩) (by assumption) ?rka11
    case hyka11 => intro w hSw; (try dsimp only at hSw); go_simp; first | done | with_reducible rfl
    case' rka11 => try simp only [Act.put, List.setIfInBounds_toArray, List.set_cons_zero, List.set_cons_succ]
    refine wpAnyH_takeD (some 20) (i := 12) (v := undef) rfl (by kernel_rfl) (by kernel_rfl) (by kernel_rfl) (by kernel_rfl) (fun _ _ _ h => h) (Or.inr ⟨by kernel_rfl, rfl⟩) (by assumption) ?_
    try simp only [Act.put, List.setIfInBounds_toArray, List.set_cons_zero, List.set_cons_succ]
    refine wpAnyH_takeD (some 21) (i := 13) (v := undef) rfl (by kernel_rfl) (by kernel_rfl) (by kernel_rfl) (by kernel_rfl) (fun _ _ _ h => h) (Or.inr ⟨by kernel_rfl, rfl⟩) (by assumption) ?_
    try simp only [Act.put, List.setIfInBounds_toArray, List.set_cons_zero, List.set_cons_succ]
    refine wpAnyH_takeD (some 22) (i := 14) (v := undef) rfl (by kernel_rfl) (by kernel_rfl) (by kernel_rfl) (by kernel_rfl) (fun _ _ _ h => h) (Or.inr ⟨by kernel_rfl, rfl⟩) (by assumption) ?_
    try simp only [Act.put, List.setIfInBounds_toArray, List.set_cons_zero, List.set_cons_succ]
    refine wpAnyH_takeD (some 23) (i := 15) (v := undef) rfl (by kernel_rfl) (by kernel_rfl) (by kernel_rfl) (by kernel_rfl) (fun _ _ _ h => h) (Or.inr ⟨by kernel_rfl, rfl⟩) (by assumption) ?_
    try simp only [Act.put, List.setIfInBounds_toArray, List.set_cons_zero, List.set_cons_succ]
    refine wpAnyH_takeD (some 24) (i := 16) (v := ?vka16) rfl (by kernel_rfl) (by kernel_rfl) (by kernel_rfl) (by kernel_rfl) (fun _ _ _ h => h) (Or.inl ⟨by rfl, ?hyka16⟩) (by assumption) ?rka16
    case hyka16 => intro w hSw; (try dsimp only at hSw); go_simp; first | done | with_reducible rfl
    case' rka16 => try simp only [Act.put, List.setIfInBounds_toArray, List.set_cons_zero, List.set_cons_succ]
    refine wpAnyH_done (by kernel_rfl) ?_ _
    go_wp2
    go_ret
    exact ⟨by rw [shapeB]; rfl, EA.out.drew⟩
  | L + 1, e, u, s, v, w, hL, hu, ha, hs, hv => by
    obtain ⟨pu, cu, rfl, hmu, -⟩ := id hu
    obtain ⟨ps, cs, rfl, hms⟩ := hs.form
    obtain ⟨pv, cv, rfl, hmv⟩ := hv.form
    have HU := Lib.hid hu; have HS := Lib.hid hs; have HV := Lib.hid hv; clear hu hs hv
    go_enter Try.func60, Try.ntmps60
    go_wp2_with (fail)
    obtain ⟨W1, hW1⟩ : ∃ W1, w.alloc (.cells #[.int .i64 e.kind, .int .i64 e.num, .slice pu e.ix.1.length cu, .int .i64 e.ix.2, .string e.arr, .slice ps e.subs.length cs, .slice pv e.kids.length cv] 54) = W1 := ⟨_, rfl⟩
    have EA : Hid (Ext w W1) := Lib.hid (by rw [← hW1]; exact (Ext.refl w).alloc _)
    have BA : Hid (W1.heap[w.heap.size]? = some (.cells #[.int .i64 e.kind, .int .i64 e.num, .slice pu e.ix.1.length cu, .int .i64 e.ix.2, .string e.arr, .slice ps e.subs.length cs, .slice pv e.kids.length cv] 54 (0, 0))) := Lib.hid (by rw [← hW1]; exact blk_at rfl)
    rw [hW1]
    clear hW1
    obtain ⟨y0, y1, y2, y3, y4, y5, y6⟩ := blk7 BA.out
    have hl1 : (1 : Int) ≤ (L : Int) + 1 := by omega
    have hlv2 : decide ((L : Int) + 1 < 1) = false := by simp; omega
    have hlv : decide (((L + 1 : Nat) : Int) < 1) = false := by simp; omega
    by_cases hkid : kidsN e.kind = (e.kids.length : Int)
    · have hkb : (kidsN e.kind != (e.kids.length : Int)) = false := by simp [hkid]
      have HKD := Lib.hid hkid; clear hkid
      cases ho : ownF e.kind e.num e.ix e.arr e.subs dd with
      | false =>
        have HO := Lib.hid ho; clear ho
        refine wp_region_held_drew (S := (fun W => W.cell? ⟨w.heap.size, 0, none⟩ = some (.int .i64 e.kind) ∧ W.cell? ⟨w.heap.size, 1, none⟩ = some (.int .i64 e.num) ∧ W.cell? ⟨w.heap.size, 2, none⟩ = some (.slice pu e.ix.1.length cu) ∧ W.cell? ⟨w.heap.size, 3, none⟩ = some (.int .i64 e.ix.2) ∧ W.cell? ⟨w.heap.size, 4, none⟩ = some (.string e.arr) ∧ W.cell? ⟨w.heap.size, 5, none⟩ = some (.slice ps e.subs.length cs) ∧ W.cell? ⟨w.heap.size, 6, none⟩ = some (.slice pv e.kids.length cv))) (by kernel_rfl) ⟨y0, y1, y2, y3, y4, y5, y6⟩ (fun hHeld => ?_)
        refine wpAnyH_takeD (some 8) (i := 0) (v := ?vkb0) rfl (by kernel_rfl) (by kernel_rfl) (by kernel_rfl) (by kernel_rfl) (fun _ _ _ h => h) (Or.inl ⟨by rfl, ?hykb0⟩) (by assumption) ?rkb0
        case hykb0 => intro w hSw; (try dsimp only at hSw); go_simp; first | done | with_reducible rfl
        case' rkb0 => try simp only [Act.put, List.setIfInBounds_toArray, List.set_cons_zero, List.set_cons_succ]
        refine wpAnyH_takeD (some 9) (i := 1) (v := ?vkb1) rfl (by kernel_rfl) (by kernel_rfl) (by kernel_rfl) (by kernel_rfl) (fun _ _ _ h => h) (Or.inl ⟨by rfl, ?hykb1⟩) (by assumption) ?rkb1
        case hykb1 => intro w hSw; (try dsimp only at hSw); go_simp; first | done | with_reducible rfl
        case' rkb1 => try simp only [Act.put, List.setIfInBounds_toArray, List.set_cons_zero, List.set_cons_succ]
        refine wpAnyH_takeD (some 10) (i := 2) (v := ?vkb2) rfl (by kernel_rfl) (by kernel_rfl) (by kernel_rfl) (by kernel_rfl) (fun _ _ _ h => h) (Or.inl ⟨by rfl, ?hykb2⟩) (by assumption) ?rkb2
        case hykb2 => intro w hSw; (try dsimp only at hSw); go_simp; first | done | with_reducible rfl
        case' rkb2 => try simp only [Act.put, List.setIfInBounds_toArray, List.set_cons_zero, List.set_cons_succ]
        refine wpAnyH_takeD (some 11) (i := 3) (v := ?vkb3) rfl (by kernel_rfl) (by kernel_rfl) (by kernel_rfl) (by kernel_rfl) (fun _ _ _ h => h) (Or.inl ⟨by rfl, ?hykb3⟩) (by assumption) ?rkb3
        case hykb3 => intro w hSw; (try dsimp only at hSw); go_simp; first | done | with_reducible rfl
        case' rkb3 => try simp only [Act.put, List.setIfInBounds_toArray, List.set_cons_zero, List.set_cons_succ]
        refine wpAnyH_takeD (some 12) (i := 4) (v := ?vkb4) rfl (by kernel_rfl) (by kernel_rfl) (by kernel_rfl) (by kernel_rfl) (fun _ _ _ h => h) (Or.inl ⟨by rfl, ?hykb4⟩) (by assumption) ?rkb4
        case hykb4 => intro w hSw; (try dsimp only at hSw); go_simp; first | done | with_reducible rfl
        case' rkb4 => try simp only [Act.put, List.setIfInBounds_toArray, List.set_cons_zero, List.set_cons_succ]
        refine wpAnyH_takeD (some 14) (i := 6) (v := ?vkb6) rfl (by kernel_rfl) (by kernel_rfl) (by kernel_rfl) (by kernel_rfl) (fun _ _ _ h => h) (Or.inl ⟨by rfl, ?hykb6⟩) (by assumption) ?rkb6
        case hykb6 => intro w hSw; (try dsimp only at hSw); go_simp; first | done | with_reducible rfl
        case' rkb6 => try simp only [Act.put, List.setIfInBounds_toArray, List.set_cons_zero, List.set_cons_succ]
        refine wpAnyH_takeD (some 15) (i := 7) (v := ?vkb7) rfl (by kernel_rfl) (by kernel_rfl) (by kernel_rfl) (by kernel_rfl) (fun _ _ _ h => h) (Or.inl ⟨by rfl, ?hykb7⟩) (by assumption) ?rkb7
        case hykb7 => intro w hSw; (try dsimp only at hSw); go_simp; first | done | with_reducible rfl
        case' rkb7 => try simp only [Act.put, List.setIfInBounds_toArray, List.set_cons_zero, List.set_cons_succ]
        refine wpAnyH_takeD (some 16) (i := 8) (v := ?vkb8) rfl (by kernel_rfl) (by kernel_rfl) (by kernel_rfl) (by kernel_rfl) (fun _ _ _ h => h) (Or.inl ⟨by rfl, ?hykb8⟩) (by assumption) ?rkb8
        case hykb8 => intro w hSw; (try dsimp only at hSw); go_simp; first | done | with_reducible rfl
        case' rkb8 => try simp only [Act.put, List.setIfInBounds_toArray, List.set_cons_zero, List.set_cons_succ]
        refine wpAnyH_ready (rs := [5]) (by kernel_rfl) (by simp) ?_
        refine AllReadyH.cons rfl (fun K9 hK => ?_) AllReadyH.nil
        go_simp
        refine (l3Kids_any e.kind _).mono ?_
        rintro r w2 ⟨rfl, rfl⟩
        refine hK.out _ _ (by assumption) (fun hHkb5 => ?_)
        clear hK K9
        try simp only [Act.put, List.setIfInBounds_toArray, List.set_cons_zero, List.set_cons_succ]
        refine wpAnyH_takeD (some 17) (i := 9) (v := ?vkb9) rfl (by kernel_rfl) (by kernel_rfl) (by kernel_rfl) (by kernel_rfl) (fun _ _ _ h => h) (Or.inl ⟨by rfl, ?hykb9⟩) (by assumption) ?rkb9
        case hykb9 => intro w hSw; (try dsimp only at hSw); go_simp; first | done | with_reducible rfl
        case' rkb9 => try simp only [Act.put, List.setIfInBounds_toArray, List.set_cons_zero, List.set_cons_succ]
        refine wpAnyH_takeD (some 18) (i := 10) (v := ?vkb10) rfl (by kernel_rfl) (by kernel_rfl) (by kernel_rfl) (by kernel_rfl) (fun _ _ _ h => h) (Or.inl ⟨by rfl, ?hykb10⟩) (by assumption) ?rkb10
        case hykb10 => intro w hSw; (try dsimp only at hSw); go_simp; first | done | with_reducible rfl
        case' rkb10 => try simp only [Act.put, List.setIfInBounds_toArray, List.set_cons_zero, List.set_cons_succ]
        refine wpAnyH_takeD (some 19) (i := 11) (v := ?vkb11) rfl (by kernel_rfl) (by kernel_rfl) (by kernel_rfl) (by kernel_rfl) (fun _ _ _ h => h) (Or.inl ⟨by rfl, ?hykb11⟩) (by assumption) ?rkb11
        case hykb11 => intro w hSw; (try dsimp only at hSw); go_simp; first | done | with_reducible rfl
        case' rkb11 => try simp only [Act.put, List.setIfInBounds_toArray, List.set_cons_zero, List.set_cons_succ]
        refine wpAnyH_takeD (some 20) (i := 12) (v := ?vkb12) rfl (by kernel_rfl) (by kernel_rfl) (by kernel_rfl) (by kernel_rfl) (fun _ _ _ h => h) (Or.inl ⟨by rfl, ?hykb12⟩) (by assumption) ?rkb12
        case hykb12 => intro w hSw; (try dsimp only at hSw); go_simp; first | done | with_reducible rfl
        case' rkb12 => try simp only [Act.put, List.setIfInBounds_toArray, List.set_cons_zero, List.set_cons_succ]
        refine wpAnyH_takeD (some 21) (i := 13) (v := ?vkb13) rfl (by kernel_rfl) (by kernel_rfl) (by kernel_rfl) (by kernel_rfl) (fun _ _ _ h => h) (Or.inl ⟨by rfl, ?hykb13⟩) (by assumption) ?rkb13
        case hykb13 => intro w hSw; (try dsimp only at hSw); go_simp; first | done | with_reducible rfl
        case' rkb13 => try simp only [Act.put, List.setIfInBounds_toArray, List.set_cons_zero, List.set_cons_succ]
        refine wpAnyH_ready (rs := [14]) (by kernel_rfl) (by simp) ?_
        refine AllReadyH.cons rfl (fun K9 hK => ?_) AllReadyH.nil
        go_simp
        refine (l3Own_any e.kind e.num e.ix.2 _ _ _ e.ix.1 e.arr e.subs dd _ (HU.out.ext (EA.out.trans (Ext.refl W1).drew)) ha (HS.out.ext (EA.out.trans (Ext.refl W1).drew)) ⟨_, _, _, rfl⟩).mono ?_
        rw [HO.out]
        rintro r w3 ⟨rfl, hE3⟩
        have g3 : Ext W1 w3 := (Ext.refl W1).drew.trans hE3
        refine hK.out _ _ ⟨g3.keep y0, g3.keep y1, g3.keep y2, g3.keep y3, g3.keep y4, g3.keep y5, g3.keep y6⟩ (fun hHkb14 => ?_)
        clear hK K9
        try simp only [Act.put, List.setIfInBounds_toArray, List.set_cons_zero, List.set_cons_succ]
        refine wpAnyH_takeD (some 23) (i := 15) (v := ?vkb15) rfl (by kernel_rfl) (by kernel_rfl) (by kernel_rfl) (by kernel_rfl) (fun _ _ _ h => h) (Or.inl ⟨by rfl, ?hykb15⟩) (by assumption) ?rkb15
        case hykb15 => intro w hSw; (try dsimp only at hSw); go_simp; first | done | with_reducible rfl
        case' rkb15 => try simp only [Act.put, List.setIfInBounds_toArray, List.set_cons_zero, List.set_cons_succ]
        refine wpAnyH_takeD (some 24) (i := 16) (v := ?vkb16) rfl (by kernel_rfl) (by kernel_rfl) (by kernel_rfl) (by kernel_rfl) (fun _ _ _ h => h) (Or.inl ⟨by rfl, ?hykb16⟩) (by assumption) ?rkb16
        case hykb16 => intro w hSw; (try dsimp only at hSw); go_simp; first | done | with_reducible rfl
        case' rkb16 => try simp only [Act.put, List.setIfInBounds_toArray, List.set_cons_zero, List.set_cons_succ]
        refine wpAnyH_done (by kernel_rfl) ?_ _
        go_wp2
        go_ret
        exact ⟨ret_bool (by simp [shapeB, HO.out]), EA.out.trans g3⟩
      | true =>
        have HO := Lib.hid ho; clear ho
        refine wp_region_held_drew (S := (fun W => W.cell? ⟨w.heap.size, 0, none⟩ = some (.int .i64 e.kind) ∧ W.cell? ⟨w.heap.size, 1, none⟩ = some (.int .i64 e.num) ∧ W.cell? ⟨w.heap.size, 2, none⟩ = some (.slice pu e.ix.1.length cu) ∧ W.cell? ⟨w.heap.size, 3, none⟩ = some (.int .i64 e.ix.2) ∧ W.cell? ⟨w.heap.size, 4, none⟩ = some (.string e.arr) ∧ W.cell? ⟨w.heap.size, 5, none⟩ = some (.slice ps e.subs.length cs) ∧ W.cell? ⟨w.heap.size, 6, none⟩ = some (.slice pv e.kids.length cv))) (by kernel_rfl) ⟨y0, y1, y2, y3, y4, y5, y6⟩ (fun hHeld => ?_)
        refine wpAnyH_takeD (some 8) (i := 0) (v := ?vkc0) rfl (by kernel_rfl) (by kernel_rfl) (by kernel_rfl) (by kernel_rfl) (fun _ _ _ h => h) (Or.inl ⟨by rfl, ?hykc0⟩) (by assumption) ?rkc0
        case hykc0 => intro w hSw; (try dsimp only at hSw); go_simp; first | done | with_reducible rfl
        case' rkc0 => try simp only [Act.put, List.setIfInBounds_toArray, List.set_cons_zero, List.set_cons_succ]
        refine wpAnyH_takeD (some 9) (i := 1) (v := ?vkc1) rfl (by kernel_rfl) (by kernel_rfl) (by kernel_rfl) (by kernel_rfl) (fun _ _ _ h => h) (Or.inl ⟨by rfl, ?hykc1⟩) (by assumption) ?rkc1
        case hykc1 => intro w hSw; (try dsimp only at hSw); go_simp; first | done | with_reducible rfl
        case' rkc1 => try simp only [Act.put, List.setIfInBounds_toArray, List.set_cons_zero, List.set_cons_succ]
        refine wpAnyH_takeD (some 10) (i := 2) (v := ?vkc2) rfl (by kernel_rfl) (by kernel_rfl) (by kernel_rfl) (by kernel_rfl) (fun _ _ _ h => h) (Or.inl ⟨by rfl, ?hykc2⟩) (by assumption) ?rkc2
        case hykc2 => intro w hSw; (try dsimp only at hSw); go_simp; first | done | with_reducible rfl
        case' rkc2 => try simp only [Act.put, List.setIfInBounds_toArray, List.set_cons_zero, List.set_cons_succ]
        refine wpAnyH_takeD (some 11) (i := 3) (v := ?vkc3) rfl (by kernel_rfl) (by kernel_rfl) (by kernel_rfl) (by kernel_rfl) (fun _ _ _ h => h) (Or.inl ⟨by rfl, ?hykc3⟩) (by assumption) ?rkc3
        case hykc3 => intro w hSw; (try dsimp only at hSw); go_simp; first | done | with_reducible rfl
        case' rkc3 => try simp only [Act.put, List.setIfInBounds_toArray, List.set_cons_zero, List.set_cons_succ]
        refine wpAnyH_takeD (some 12) (i := 4) (v := ?vkc4) rfl (by kernel_rfl) (by kernel_rfl) (by kernel_rfl) (by kernel_rfl) (fun _ _ _ h => h) (Or.inl ⟨by rfl, ?hykc4⟩) (by assumption) ?rkc4
        case hykc4 => intro w hSw; (try dsimp only at hSw); go_simp; first | done | with_reducible rfl
        case' rkc4 => try simp only [Act.put, List.setIfInBounds_toArray, List.set_cons_zero, List.set_cons_succ]
        refine wpAnyH_takeD (some 14) (i := 6) (v := ?vkc6) rfl (by kernel_rfl) (by kernel_rfl) (by kernel_rfl) (by kernel_rfl) (fun _ _ _ h => h) (Or.inl ⟨by rfl, ?hykc6⟩) (by assumption) ?rkc6
        case hykc6 => intro w hSw; (try dsimp only at hSw); go_simp; first | done | with_reducible rfl
        case' rkc6 => try simp only [Act.put, List.setIfInBounds_toArray, List.set_cons_zero, List.set_cons_succ]
        refine wpAnyH_takeD (some 15) (i := 7) (v := ?vkc7) rfl (by kernel_rfl) (by kernel_rfl) (by kernel_rfl) (by kernel_rfl) (fun _ _ _ h => h) (Or.inl ⟨by rfl, ?hykc7⟩) (by assumption) ?rkc7
        case hykc7 => intro w hSw; (try dsimp only at hSw); go_simp; first | done | with_reducible rfl
        case' rkc7 => try simp only [Act.put, List.setIfInBounds_toArray, List.set_cons_zero, List.set_cons_succ]
        refine wpAnyH_takeD (some 16) (i := 8) (v := ?vkc8) rfl (by kernel_rfl) (by kernel_rfl) (by kernel_rfl) (by kernel_rfl) (fun _ _ _ h => h) (Or.inl ⟨by rfl, ?hykc8⟩) (by assumption) ?rkc8
        case hykc8 => intro w hSw; (try dsimp only at hSw); go_simp; first | done | with_reducible rfl
        case' rkc8 => try simp only [Act.put, List.setIfInBounds_toArray, List.set_cons_zero, List.set_cons_succ]
        refine wpAnyH_ready (rs := [5]) (by kernel_rfl) (by simp) ?_
        refine AllReadyH.cons rfl (fun K9 hK => ?_) AllReadyH.nil
        go_simp
        refine (l3Kids_any e.kind _).mono ?_
        rintro r w2 ⟨rfl, rfl⟩
        refine hK.out _ _ (by assumption) (fun hHkc5 => ?_)
        clear hK K9
        try simp only [Act.put, List.setIfInBounds_toArray, List.set_cons_zero, List.set_cons_succ]
        refine wpAnyH_takeD (some 17) (i := 9) (v := ?vkc9) rfl (by kernel_rfl) (by kernel_rfl) (by kernel_rfl) (by kernel_rfl) (fun _ _ _ h => h) (Or.inl ⟨by rfl, ?hykc9⟩) (by assumption) ?rkc9
        case hykc9 => intro w hSw; (try dsimp only at hSw); go_simp; first | done | with_reducible rfl
        case' rkc9 => try simp only [Act.put, List.setIfInBounds_toArray, List.set_cons_zero, List.set_cons_succ]
        refine wpAnyH_takeD (some 18) (i := 10) (v := ?vkc10) rfl (by kernel_rfl) (by kernel_rfl) (by kernel_rfl) (by kernel_rfl) (fun _ _ _ h => h) (Or.inl ⟨by rfl, ?hykc10⟩) (by assumption) ?rkc10
        case hykc10 => intro w hSw; (try dsimp only at hSw); go_simp; first | done | with_reducible rfl
        case' rkc10 => try simp only [Act.put, List.setIfInBounds_toArray, List.set_cons_zero, List.set_cons_succ]
        refine wpAnyH_takeD (some 19) (i := 11) (v := ?vkc11) rfl (by kernel_rfl) (by kernel_rfl) (by kernel_rfl) (by kernel_rfl) (fun _ _ _ h => h) (Or.inl ⟨by rfl, ?hykc11⟩) (by assumption) ?rkc11
        case hykc11 => intro w hSw; (try dsimp only at hSw); go_simp; first | done | with_reducible rfl
        case' rkc11 => try simp only [Act.put, List.setIfInBounds_toArray, List.set_cons_zero, List.set_cons_succ]
        refine wpAnyH_takeD (some 20) (i := 12) (v := ?vkc12) rfl (by kernel_rfl) (by kernel_rfl) (by kernel_rfl) (by kernel_rfl) (fun _ _ _ h => h) (Or.inl ⟨by rfl, ?hykc12⟩) (by assumption) ?rkc12
        case hykc12 => intro w hSw; (try dsimp only at hSw); go_simp; first | done | with_reducible rfl
        case' rkc12 => try simp only [Act.put, List.setIfInBounds_toArray, List.set_cons_zero, List.set_cons_succ]
        refine wpAnyH_takeD (some 21) (i := 13) (v := ?vkc13) rfl (by kernel_rfl) (by kernel_rfl) (by kernel_rfl) (by kernel_rfl) (fun _ _ _ h => h) (Or.inl ⟨by rfl, ?hykc13⟩) (by assumption) ?rkc13
        case hykc13 => intro w hSw; (try dsimp only at hSw); go_simp; first | done | with_reducible rfl
        case' rkc13 => try simp only [Act.put, List.setIfInBounds_toArray, List.set_cons_zero, List.set_cons_succ]
        refine wpAnyH_ready (rs := [14]) (by kernel_rfl) (by simp) ?_
        refine AllReadyH.cons rfl (fun K9 hK => ?_) AllReadyH.nil
        go_simp
        refine (l3Own_any e.kind e.num e.ix.2 _ _ _ e.ix.1 e.arr e.subs dd _ (HU.out.ext (EA.out.trans (Ext.refl W1).drew)) ha (HS.out.ext (EA.out.trans (Ext.refl W1).drew)) ⟨_, _, _, rfl⟩).mono ?_
        rw [HO.out]
        rintro r w3 ⟨rfl, hE3⟩
        have g3 : Ext W1 w3 := (Ext.refl W1).drew.trans hE3
        refine hK.out _ _ ⟨g3.keep y0, g3.keep y1, g3.keep y2, g3.keep y3, g3.keep y4, g3.keep y5, g3.keep y6⟩ (fun hHkc14 => ?_)
        clear hK K9
        try simp only [Act.put, List.setIfInBounds_toArray, List.set_cons_zero, List.set_cons_succ]
        refine wpAnyH_takeD (some 23) (i := 15) (v := ?vkc15) rfl (by kernel_rfl) (by kernel_rfl) (by kernel_rfl) (by kernel_rfl) (fun _ _ _ h => h) (Or.inl ⟨by rfl, ?hykc15⟩) (by assumption) ?rkc15
        case hykc15 => intro w hSw; (try dsimp only at hSw); go_simp; first | done | with_reducible rfl
        case' rkc15 => try simp only [Act.put, List.setIfInBounds_toArray, List.set_cons_zero, List.set_cons_succ]
        refine wpAnyH_takeD (some 24) (i := 16) (v := ?vkc16) rfl (by kernel_rfl) (by kernel_rfl) (by kernel_rfl) (by kernel_rfl) (fun _ _ _ h => h) (Or.inl ⟨by rfl, ?hykc16⟩) (by assumption) ?rkc16
        case hykc16 => intro w hSw; (try dsimp only at hSw); go_simp; first | done | with_reducible rfl
        case' rkc16 => try simp only [Act.put, List.setIfInBounds_toArray, List.set_cons_zero, List.set_cons_succ]
        refine wpAnyH_done (by kernel_rfl) ?_ _
        have G3 := Lib.hid g3
        clear y0 y1 y2 y3 y4 y5 y6 g3
        have HBX : Hid (w3.heap[w.heap.size]? = some (.cells #[.int .i64 e.kind, .int .i64 e.num, .slice pu e.ix.1.length cu, .int .i64 e.ix.2, .string e.arr, .slice ps e.subs.length cs, .slice pv e.kids.length cv] 54 (0, 0))) := Lib.hid (G3.out.blk BA.out)
        have E3 := Lib.hid (EA.out.trans G3.out)
        have hwl : IntKind.i64.wrap (L : Int) = (L : Int) := by rw [IntKind.wrap_i64]; omega
        clear hE3 BA EA G3
        generalize hn : e.kids.length = n at *
        have HN := Lib.hid hn; clear hn
        go_wp2
        go_loopw [7] (fun i wr => ∃ k : Nat, k ≤ n ∧ i = .int .i64 k ∧ (e.kids.take k).all (fun x => shapeB L x dd) = true ∧ Ext w3 wr) (fun i _ => n - (intOf i).toNat)
        case atStart => exact ⟨0, by omega, rfl, by simp, Ext.refl _⟩
        case round =>
          obtain ⟨k, hk, rfl, hall, hE⟩ := hrel
          have HA := Lib.hid hall; clear hall
          obtain ⟨-, -, -, -, -, -, y6⟩ := blk7 (hE.blk HBX.out)
          by_cases hlt : k < n
          · obtain ⟨x, hx⟩ := get_some (xs := e.kids) (k := k) (by rw [HN.out]; exact hlt)
            obtain ⟨b, off, u', s', v', rfl, hb, c0, c1, c2, c3, c4, c5, c6, hu', ha', hs', hv'⟩ := (HV.out.ext (E3.out.trans hE)).elem hx
            have HX := Lib.hid hx; have HU' := Lib.hid hu'; have HS' := Lib.hid hs'; have HV' := Lib.hid hv'; have HE := Lib.hid hE
            clear hx hu' hs' hv' hE
            go_wp2_with (fail)
            refine (l3Shape_any dd L x u' s' v' wr (by omega) HU'.out ha' HS'.out HV'.out).mono ?_
            cases hq : shapeB L x dd with
            | false =>
              have HQ := Lib.hid hq; clear hq
              rintro r w5 ⟨rfl, hE5⟩
              have E5 := Lib.hid (E3.out.trans (HE.out.trans hE5)); clear hE5
              go_wp2
              go_ret
              exact ⟨ret_bool (by simp only [shapeB]; rw [all_false_of (p := fun x => shapeB L x dd) HX.out HQ.out]; simp), E5.out⟩
            | true =>
              have HQ := Lib.hid hq; clear hq
              rintro r w5 ⟨rfl, hE5⟩
              have E5 := Lib.hid (HE.out.trans hE5); clear hE5
              go_wp2
              go_roundw
              case rel => exact ⟨k + 1, by omega, by go_num, by rw [take_next HX.out, List.all_append, HA.out]; simp [HQ.out], E5.out⟩
              case measure => simp [intOf]; omega
          · obtain rfl : k = n := by omega
            have hal : e.kids.all (fun x => shapeB L x dd) = true := by have h := HA.out; rwa [List.take_of_length_le (by rw [HN.out]; omega)] at h
            have HAL := Lib.hid hal; clear hal
            have E5 := Lib.hid (E3.out.trans hE); clear hE
            go_wp2
            go_ret
            exact ⟨ret_bool (by simp only [shapeB, HAL.out, HO.out, HKD.out, HN.out]; simp), E5.out⟩
    · have hkb : (kidsN e.kind != (e.kids.length : Int)) = true := by simp [hkid]
      have HKD := Lib.hid hkid; clear hkid
      refine wp_region_held_drew (S := (fun W => W.cell? ⟨w.heap.size, 0, none⟩ = some (.int .i64 e.kind) ∧ W.cell? ⟨w.heap.size, 1, none⟩ = some (.int .i64 e.num) ∧ W.cell? ⟨w.heap.size, 2, none⟩ = some (.slice pu e.ix.1.length cu) ∧ W.cell? ⟨w.heap.size, 3, none⟩ = some (.int .i64 e.ix.2) ∧ W.cell? ⟨w.heap.size, 4, none⟩ = some (.string e.arr) ∧ W.cell? ⟨w.heap.size, 5, none⟩ = some (.slice ps e.subs.length cs) ∧ W.cell? ⟨w.heap.size, 6, none⟩ = some (.slice pv e.kids.length cv))) (by kernel_rfl) ⟨y0, y1, y2, y3, y4, y5, y6⟩ (fun hHeld => ?_)
      refine wpAnyH_takeD (some 8) (i := 0) (v := ?vkd0) rfl (by kernel_rfl) (by kernel_rfl) (by kernel_rfl) (by kernel_rfl) (fun _ _ _ h => h) (Or.inl ⟨by rfl, ?hykd0⟩) (by assumption) ?rkd0
      case hykd0 => intro w hSw; (try dsimp only at hSw); go_simp; first | done | with_reducible rfl
      case' rkd0 => try simp only [Act.put, List.setIfInBounds_toArray, List.set_cons_zero, List.set_cons_succ]
      refine wpAnyH_takeD (some 9) (i := 1) (v := ?vkd1) rfl (by kernel_rfl) (by kernel_rfl) (by kernel_rfl) (by kernel_rfl) (fun _ _ _ h => h) (Or.inl ⟨by rfl, ?hykd1⟩) (by assumption) ?rkd1
      case hykd1 => intro w hSw; (try dsimp only at hSw); go_simp; first | done | with_reducible rfl
      case' rkd1 => try simp only [Act.put, List.setIfInBounds_toArray, List.set_cons_zero, List.set_cons_succ]
      refine wpAnyH_takeD (some 10) (i := 2) (v := ?vkd2) rfl (by kernel_rfl) (by kernel_rfl) (by kernel_rfl) (by kernel_rfl) (fun _ _ _ h => h) (Or.inl ⟨by rfl, ?hykd2⟩) (by assumption) ?rkd2
      case hykd2 => intro w hSw; (try dsimp only at hSw); go_simp; first | done | with_reducible rfl
      case' rkd2 => try simp only [Act.put, List.setIfInBounds_toArray, List.set_cons_zero, List.set_cons_succ]
      refine wpAnyH_takeD (some 11) (i := 3) (v := ?vkd3) rfl (by kernel_rfl) (by kernel_rfl) (by kernel_rfl) (by kernel_rfl) (fun _ _ _ h => h) (Or.inl ⟨by rfl, ?hykd3⟩) (by assumption) ?rkd3
      case hykd3 => intro w hSw; (try dsimp only at hSw); go_simp; first | done | with_reducible rfl
      case' rkd3 => try simp only [Act.put, List.setIfInBounds_toArray, List.set_cons_zero, List.set_cons_succ]
      refine wpAnyH_takeD (some 12) (i := 4) (v := ?vkd4) rfl (by kernel_rfl) (by kernel_rfl) (by kernel_rfl) (by kernel_rfl) (fun _ _ _ h => h) (Or.inl ⟨by rfl, ?hykd4⟩) (by assumption) ?rkd4
      case hykd4 => intro w hSw; (try dsimp only at hSw); go_simp; first | done | with_reducible rfl
      case' rkd4 => try simp only [Act.put, List.setIfInBounds_toArray, List.set_cons_zero, List.set_cons_succ]
      refine wpAnyH_takeD (some 14) (i := 6) (v := ?vkd6) rfl (by kernel_rfl) (by kernel_rfl) (by kernel_rfl) (by kernel_rfl) (fun _ _ _ h => h) (Or.inl ⟨by rfl, ?hykd6⟩) (by assumption) ?rkd6
      case hykd6 => intro w hSw; (try dsimp only at hSw); go_simp; first | done | with_reducible rfl
      case' rkd6 => try simp only [Act.put, List.setIfInBounds_toArray, List.set_cons_zero, List.set_cons_succ]
      refine wpAnyH_takeD (some 15) (i := 7) (v := ?vkd7) rfl (by kernel_rfl) (by kernel_rfl) (by kernel_rfl) (by kernel_rfl) (fun _ _ _ h => h) (Or.inl ⟨by rfl, ?hykd7⟩) (by assumption) ?rkd7
      case hykd7 => intro w hSw; (try dsimp only at hSw); go_simp; first | done | with_reducible rfl
      case' rkd7 => try simp only [Act.put, List.setIfInBounds_toArray, List.set_cons_zero, List.set_cons_succ]
      refine wpAnyH_takeD (some 16) (i := 8) (v := ?vkd8) rfl (by kernel_rfl) (by kernel_rfl) (by kernel_rfl) (by kernel_rfl) (fun _ _ _ h => h) (Or.inl ⟨by rfl, ?hykd8⟩) (by assumption) ?rkd8
      case hykd8 => intro w hSw; (try dsimp only at hSw); go_simp; first | done | with_reducible rfl
      case' rkd8 => try simp only [Act.put, List.setIfInBounds_toArray, List.set_cons_zero, List.set_cons_succ]
      refine wpAnyH_ready (rs := [5]) (by kernel_rfl) (by simp) ?_
      refine AllReadyH.cons rfl (fun K9 hK => ?_) AllReadyH.nil
      go_simp
      refine (l3Kids_any e.kind _).mono ?_
      rintro r w2 ⟨rfl, rfl⟩
      refine hK.out _ _ (by assumption) (fun hHkd5 => ?_)
      clear hK K9
      try simp only [Act.put, List.setIfInBounds_toArray, List.set_cons_zero, List.set_cons_succ]
      refine wpAnyH_takeD (some 17) (i := 9) (v := ?vkd9) rfl (by kernel_rfl) (by kernel_rfl) (by kernel_rfl) (by kernel_rfl) (fun _ _ _ h => h) (Or.inl ⟨by rfl, ?hykd9⟩) (by assumption) ?rkd9
      case hykd9 => intro w hSw; (try dsimp only at hSw); go_simp; first | done | with_reducible rfl
      case' rkd9 => try simp only [Act.put, List.setIfInBounds_toArray, List.set_cons_zero, List.set_cons_succ]
      refine wpAnyH_takeD (some 18) (i := 10) (v := ?vkd10) rfl (by kernel_rfl) (by kernel_rfl) (by kernel_rfl) (by kernel_rfl) (fun _ _ _ h => h) (Or.inl ⟨by rfl, ?hykd10⟩) (by assumption) ?rkd10
      case hykd10 => intro w hSw; (try dsimp only at hSw); go_simp; first | done | with_reducible rfl
      case' rkd10 => try simp only [Act.put, List.setIfInBounds_toArray, List.set_cons_zero, List.set_cons_succ]
      refine wpAnyH_takeD (some 19) (i := 11) (v := ?vkd11) rfl (by kernel_rfl) (by kernel_rfl) (by kernel_rfl) (by kernel_rfl) (fun _ _ _ h => h) (Or.inl ⟨by rfl, ?hykd11⟩) (by assumption) ?rkd11
      case hykd11 => intro w hSw; (try dsimp only at hSw); go_simp; first | done | with_reducible rfl
      case' rkd11 => try simp only [Act.put, List.setIfInBounds_toArray, List.set_cons_zero, List.set_cons_succ]
      refine wpAnyH_takeD (some 20) (i := 12) (v := undef) rfl (by kernel_rfl) (by kernel_rfl) (by kernel_rfl) (by kernel_rfl) (fun _ _ _ h => h) (Or.inr ⟨by kernel_rfl, rfl⟩) (by assumption) ?_
      try simp only [Act.put, List.setIfInBounds_toArray, List.set_cons_zero, List.set_cons_succ]
      refine wpAnyH_takeD (some 21) (i := 13) (v := undef) rfl (by kernel_rfl) (by kernel_rfl) (by kernel_rfl) (by kernel_rfl) (fun _ _ _ h => h) (Or.inr ⟨by kernel_rfl, rfl⟩) (by assumption) ?_
      try simp only [Act.put, List.setIfInBounds_toArray, List.set_cons_zero, List.set_cons_succ]
      refine wpAnyH_takeD (some 22) (i := 14) (v := undef) rfl (by kernel_rfl) (by kernel_rfl) (by kernel_rfl) (by kernel_rfl) (fun _ _ _ h => h) (Or.inr ⟨by kernel_rfl, rfl⟩) (by assumption) ?_
      try simp only [Act.put, List.setIfInBounds_toArray, List.set_cons_zero, List.set_cons_succ]
      refine wpAnyH_takeD (some 23) (i := 15) (v := undef) rfl (by kernel_rfl) (by kernel_rfl) (by kernel_rfl) (by kernel_rfl) (fun _ _ _ h => h) (Or.inr ⟨by kernel_rfl, rfl⟩) (by assumption) ?_
      try simp only [Act.put, List.setIfInBounds_toArray, List.set_cons_zero, List.set_cons_succ]
      refine wpAnyH_takeD (some 24) (i := 16) (v := ?vkd16) rfl (by kernel_rfl) (by kernel_rfl) (by kernel_rfl) (by kernel_rfl) (fun _ _ _ h => h) (Or.inl ⟨by rfl, ?hykd16⟩) (by assumption) ?rkd16
      case hykd16 => intro w hSw; (try dsimp only at hSw); go_simp; first | done | with_reducible rfl
      case' rkd16 => try simp only [Act.put, List.setIfInBounds_toArray, List.set_cons_zero, List.set_cons_succ]
      refine wpAnyH_done (by kernel_rfl) ?_ _
      go_wp2
      go_ret
      exact ⟨ret_bool (by simp [shapeB, HKD.out]), EA.out.drew⟩
end Go.Proofs.Ytccibfldadflkaa

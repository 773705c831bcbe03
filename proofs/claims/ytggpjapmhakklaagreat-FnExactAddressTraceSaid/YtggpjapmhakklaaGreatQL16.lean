/- The texts V4, joined. No statement is proved here. -/
import Derived.Test.YtggpjapmhakklaaGreatQL22
import Derived.Test.YtggpjapmhakklaaGreatQL13
import Derived.Test.YtggpjapmhakklaaGreatQL15
import Derived.LoopIn
set_option maxRecDepth 100000
set_option maxHeartbeats 8000000
set_option linter.unusedVariables false
set_option linter.unusedSimpArgs false
namespace Go.Proofs.YtggpjapmhakklaaGreat
open Go.Lib (hid)
open Go.RowKit
attribute [local go_sem] Oper.semAt_some
def visL (vs : List Value) (nb : Nat) : List (Value × Nat) := vs.flatMap (fun v => (List.range nb).map (fun k => (v, k)))
theorem range_pre {k nb : Nat} (h : k < nb) : ∃ t, List.range nb = (List.range k ++ [k]) ++ t := by
 refine ⟨(List.range (nb - (k + 1))).map (fun x => k + 1 + x), ?_⟩
 rw [← List.range_succ, ← List.range_add]
 congr 1
 omega
theorem visL_next {vs : List Value} {nb i : Nat} {v : Value} (h : vs[i]? = some v) : visL (vs.take (i + 1)) nb = visL (vs.take i) nb ++ (List.range nb).map (fun k => (v, k)) := by
 rw [take_next h]; simp [visL]
theorem visL_pre {vs : List Value} {nb i k : Nat} {v : Value} (h : vs[i]? = some v) (hk : k < nb) : (visL (vs.take i) nb ++ (List.range k).map (fun k => (v, k)) ++ [(v, k)]) <+: visL vs nb := by
 obtain ⟨t, ht⟩ := range_pre hk
 have e : vs = vs.take i ++ v :: vs.drop (i + 1) := by rw [← drop_cons h, List.take_append_drop]
 refine ⟨t.map (fun k => (v, k)) ++ visL (vs.drop (i + 1)) nb, ?_⟩
 conv => rhs; rw [e]
 simp only [visL, List.flatMap_append, List.flatMap_cons]
 rw [ht]
 simp
theorem visits_call (p q : Option Addr) (n c n' c' : Nat) (w : World) : Calls Tryz.prog 76 #[.agg #[.slice p n c, .slice q n' c']] w fun e w' =>
  e = .returned (.func (.func 108) #[] #[.pointer (some ⟨w.heap.size, 0, none⟩)]) ∧ w' = w.alloc (.cells #[.slice p n c, .slice q n' c'] 166) := by
 go_enter Tryz.func76, Tryz.ntmps76
 go_wp2
 go_ret
 exact ⟨rfl, rfl⟩
theorem own_nextZ {Z : Nat → Prop} {own own' : List Nat} {W W' : World} (h : ∀ b ∈ own, b < W.heap.size ∧ ¬ Z b) (hg : Grew own own' W W') (hZ : ∀ b, Z b → b < W.heap.size) : ∀ b ∈ own', b < W'.heap.size ∧ ¬ Z b := fun b hb => by
 obtain ⟨h1, h2⟩ := hg.2 b hb
 rcases h1 with h1 | h1
 ·exact ⟨h2, (h b h1).2⟩
 ·exact ⟨h2, fun hz => by have := hZ b hz; omega⟩
theorem visits_seqB (base m m' PB B : Nat) (pv bv : Option Addr) (n c nb cb : Nat) (vs : List Value) (Z : Nat → Prop) (w : World) (ho : w.ownsRow B 27 1 (.slice pv n c) n vs) (hvs : ∀ u ∈ vs, ∃ p k d, u = .slice p k d) (hnb : nb ≤ 1000)
  (hB : w.heap[PB]? = some (.cells #[.slice pv n c, .slice bv nb cb] 166 (0, 0))) (hZ : ∀ b, Z b → b < w.heap.size) (hZP : Z PB) (hZR : ∀ b, (Value.slice pv n c).ownBlock = some b → Z b) :
  SeqB base Fence.wide m m' Tryz.prog 108 #[.pointer (some ⟨PB, 0, none⟩)] (fun x : Value × Nat => #[x.1, .int .i64 (x.2 : Int)]) (fun _ _ => True) (fun _ => True) (fun _ => False) Z (visL vs nb) w := by
 intro l J Jx own W hvW hJ hJx hown hY h0
 have hBW := hvW.heap hB (fun h => h)
 have hoW := row_lv ho hvW (fun _ _ h => h)
 have hZW : ∀ b, Z b → b < W.heap.size := fun b h => Nat.lt_of_lt_of_le (hZ b h) hvW.size
 have hvl : vs.length = n := by have := ho.1; omega
 have hn63 : n ≤ 9223372036854775807 := by
  rcases ho.2 with ⟨e, h0⟩ | ⟨g, cap, cur, e, _, _, h1, h2, _⟩
  ·omega
  ·unfold maxLen at h2; omega
 have HB := hid hBW; have HOW := hid hoW; have HVL := hid hvl; have HY := hid hY; have HOWN := hid hown; have HZW := hid hZW; have H0 := hid h0; have HJ := hid hJ; have HVS := hid hvs; have HZP := hid hZP; have HZR := hid hZR
 obtain ⟨b0, b1, -, -⟩ := blk2 hBW
 clear hvW hB ho hoW hBW hZ hZW hvl hY hown h0 hJ hJx hvs hZP hZR
 have hdd : ∀ k : Nat, (Fence.wide.depth.isSome = true → 1 ≤ k) := fun k h => by cases h
 show CallsIn Fence.wide m Tryz.prog 108 #[.func (.yield l) #[] #[], .pointer (some ⟨PB, 0, none⟩)] W _
 refine callsIn_of_wp Tryz.func108 rfl trivial ?_ rfl
 simp only [Tryz.ntmps108, List.size_toArray, List.length_cons, List.length_nil, Nat.reduceAdd, Nat.reduceSub, Array.replicate_succ, Array.replicate_zero, List.push_toArray, List.append_toArray, List.nil_append, List.cons_append]
 gi_wp2_with (fail)
 gi_loopw [9] (fun iv wr => ∃ (i : Nat) (own1 : List Nat), i ≤ n ∧ iv = .int .i64 i ∧ J (visL (vs.take i) nb) own1 wr ∧ Grew own own1 W wr) (fun iv _ => n - (intOf iv).toNat)
 case atStart => exact ⟨0, own, by omega, rfl, by simpa [visL] using H0.out, Grew.refl own W (fun b hb => (HOWN.out b hb).1)⟩
 case round =>
  obtain ⟨i, own1, hi, rfl, hj, hg⟩ := hrel
  have HJ1 := hid hj; have HG1 := hid hg
  have HB1 := hid (hg.1.heap HB.out (fun h => (HOWN.out _ h).2 HZP.out))
  have hor := row_lv HOW.out hg.1 (fun b hb h => (HOWN.out b h).2 (HZR.out b hb))
  have HOR := hid hor
  obtain ⟨y0, y1, -, -⟩ := blk2 HB1.out
  clear hj hg
  by_cases hlt : i < n
  ·obtain ⟨u, hu⟩ := get_some (xs := vs) (k := i) (by rw [HVL.out]; exact hlt)
   obtain ⟨p, k0, d, rfl⟩ := HVS.out u (List.mem_of_getElem? hu)
   obtain ⟨g, rfl, cu⟩ : ∃ g, pv = some ⟨g, 0, none⟩ ∧ wr.cell? ⟨g, i, none⟩ = some (.slice p k0 d) := by
    rcases hor.2 with ⟨e, hz⟩ | ⟨g, cap, cur, e, _⟩
    ·omega
    ·cases e
     have hc := World.ownsRow.cells hor (g := g) rfl i _ hu
     have hadd : (⟨g, 0, none⟩ : Addr).add i = ⟨g, i, none⟩ := by unfold Addr.add; split <;> simp_all
     rw [hadd] at hc
     exact ⟨g, rfl, hc⟩
   have HU := hid hu
   clear hor hu
   gi_wp2_with (fail)
   gi_loopw [16] (fun kv wr2 => ∃ (k : Nat) (own2 : List Nat), k ≤ nb ∧ kv = .int .i64 k ∧ J (visL (vs.take i) nb ++ (List.range k).map (fun k => (.slice p k0 d, k))) own2 wr2 ∧ Grew own own2 W wr2) (fun kv _ => nb - (intOf kv).toNat)
   case atStart => exact ⟨0, own1, by omega, rfl, by simpa using HJ1.out, HG1.out⟩
   case round =>
    obtain ⟨k, own2, hk, rfl, hj, hg⟩ := hrel
    by_cases hlt2 : k < nb
    ·obtain ⟨fn, tmps, assign, body, hy, hR⟩ := HY.out _ (.slice p k0 d, k) own2 _ hj (visL_pre HU.out hlt2) trivial (own_nextZ HOWN.out hg HZW.out)
     have HG2 := hid hg
     clear hj hg
     gi_wp2_with (fail)
     refine ⟨hdd _, ?_⟩
     refine (round_wide hR).mono ?_
     clear hR
     rintro e V2 ⟨own3, hg3, (⟨rfl, hj3⟩ | ⟨rfl, hj3⟩)⟩
     ·have HJ3 := hid hj3; have HG3 := hid (HG2.out.trans hg3)
      clear hg3 hj3 hy
      gi_wp2
      go_roundw
      case rel => exact ⟨k + 1, own3, by omega, by go_num, by rw [List.range_succ, List.map_append, ← List.append_assoc]; exact HJ3.out, HG3.out⟩
      case measure => simp [intOf]; omega
     ·have HJ3 := hid hj3; have HG3 := hid (HG2.out.trans hg3)
      clear hg3 hj3 hy
      gi_wp2
      first
       | refine bodyPost_ret (results_none rfl _ _ _) rfl ?_
       | refine ⟨_, results_none rfl _ _ _, ?_⟩
      exact ⟨⟨_, rfl⟩, own3, HG3.out.2, HG3.out.1.mono (fun _ _ h => .inl h), trivial, .inr ⟨_, visL_pre HU.out hlt2, HJ3.out⟩⟩
    ·obtain rfl : k = nb := by omega
     have HJ2 := hid hj; have HG2 := hid hg
     clear hj hg
     gi_wp2
     go_roundw
     case rel => exact ⟨i + 1, own2, by omega, by go_num, by rw [visL_next HU.out]; exact HJ2.out, HG2.out⟩
     case measure => simp [intOf]; omega
  ·obtain rfl : i = n := by omega
   clear hor
   have HJF : Hid (J (visL vs nb) own1 wr) := hid (by have h := HJ1.out; rw [List.take_of_length_le (by rw [HVL.out]; omega)] at h; exact h)
   gi_wp2_with (fail)
   exact bodyPost_end (results_none rfl _ _ _) rfl ⟨⟨_, rfl⟩, own1, HG1.out.2, HG1.out.1.mono (fun _ _ h => .inl h), trivial, .inl HJF.out⟩
end Go.Proofs.YtggpjapmhakklaaGreat

import Derived.Test.YtbcjllanigmioaaGreatK53
import Derived.Test.YtbcjllanigmioaaGreatK52
import Derived.Laws.CopyOwn
import Derived.Deep.RegionLaw
import Derived.Test.YtbcjllanigmioaaGreatK35
namespace Go.Proofs.YtbcjllanigmioaaGreat
open Go.RowKit Go.Maps
def rpI (M n : Nat) (z : Int) : List Int := List.replicate n z ++ List.replicate (M - n) 0
theorem rpI_len {M n : Nat} (z : Int) (h : n ≤ M) : (rpI M n z).length = M := by simp [rpI]; omega
theorem rpI_zero (M : Nat) (z : Int) : rpI M 0 z = List.replicate M 0 := by simp [rpI]
theorem rpI_all (M : Nat) (z : Int) : rpI M M z = List.replicate M z := by simp [rpI]
theorem rpI_get {M n j : Nat} (z : Int) (h : j < n) : (rpI M n z)[j]? = some z := by
  unfold rpI
  rw [List.getElem?_append_left (by simpa using h), List.getElem?_replicate, if_pos h]
theorem rpI_splice {M n k : Nat} (z : Int) : splice (rpI M n z) n (List.replicate k z) = rpI M (n + k) z := by
  unfold splice rpI
  rw [List.take_left' (by simp), List.length_replicate, ← List.append_assoc, List.replicate_append_replicate]
  congr 1
  rw [← List.drop_drop, List.drop_left' (by simp), List.drop_replicate]
  congr 1
  omega
theorem splice_map {α β : Type} (f : α → β) (L : List α) (n : Nat) (cs : List α) : splice (L.map f) n (cs.map f) = (splice L n cs).map f := by simp [splice]
theorem own_of_blk {B L n : Nat} {w : World} {xs : List Int} (hg : w.heap[L]? = some (.cells (xs.map (Value.int .i64)).toArray 3 (0, 0))) (hx : xs.length = n) (hn : n ≤ 1048576) (hB : B ≤ L) : IntsOwn B w (.slice (some ⟨L, 0, none⟩) n n) xs :=
  IntsOwn.mk ⟨by simp [hx], .inr ⟨L, n, _, rfl, hB, hg, Nat.le_refl _, by unfold maxLen; omega, by simp [hx], by rw [Nat.mul_one, List.take_of_length_le (by simp [hx])]⟩⟩ hx
theorem szInt : (Tryz.prog.info? 3).map (·.size) = some 1 := by kernel_rfl
set_option linter.unusedVariables false in
set_option linter.unusedSimpArgs false in
set_option maxRecDepth 100000 in
set_option maxHeartbeats 2000000 in
theorem Repeat_any (p : Option Addr) (c M : Nat) (z : Int) (w : World) (hM : M ≤ 120) (hs : IntsAt w (.slice p 1 c) [z]) :
    Calls Tryz.prog 121 #[.slice p 1 c, .int .i64 (M : Int)] w fun e w' => (∃ L, e = .returned (.slice (some ⟨L, 0, none⟩) M M) ∧ IntsOwn w.heap.size w' (.slice (some ⟨L, 0, none⟩) M M) (List.replicate M z)) ∧ Ext w w' := by
  have hmk := make_intsZ M (by omega)
  obtain ⟨-, hcc⟩ := hs.cl
  obtain ⟨b, off, rfl, hcell⟩ := hcc 0 z rfl
  have HC0 := Lib.hid hcell
  have hMN : decide ((M : Int) < 0) = false := by simp
  have hu1 : IntKind.u64.wrap (M : Int) = (M : Int) := by rw [IntKind.wrap_u64]; omega
  have hu2 : IntKind.i64.wrap (M : Int) = (M : Int) := by rw [IntKind.wrap_i64]; omega
  have hu3 : decide ((9223372036854775807 : Int) < (M : Int)) = false := by simp; omega
  clear hs hcc hcell
  go_enter Tryz.func121, Tryz.ntmps121
  go_wp2_with (fail)
  refine (Tryz.bits_Mul 1 M (by omega) (by omega) _).mono ?_
  rw [show 1 * M / 18446744073709551616 = 0 by omega, show 1 * M % 18446744073709551616 = M by omega]
  rintro e w1 ⟨rfl, rfl⟩
  have E1 : Hid (Ext w1 (w1.alloc (.cells (Array.replicate M (Value.int .i64 0)) 3))) := Lib.hid ((Ext.refl w1).alloc _)
  obtain ⟨C0, hC0⟩ : ∃ C0, (rpI M 0 z).map (Value.int .i64) = C0 := ⟨_, rfl⟩
  have HG1 : Hid ((w1.alloc (.cells (Array.replicate M (Value.int .i64 0)) 3)).heap[w1.heap.size]? = some (.cells C0.toArray 3 (0, 0))) := Lib.hid (by rw [← hC0, rpI_zero, rep_ints]; exact blk_at rfl)
  have HCX := Lib.hid (E1.out.keep HC0.out)
  obtain ⟨n0, hn0⟩ : ∃ n0, Nat.min 1 M = n0 := ⟨_, rfl⟩
  have hn0M : n0 ≤ M ∧ n0 ≤ 1 ∧ (0 < M → 0 < n0) := by rw [← hn0]; simp only [Nat.min_def]; split <;> omega
  obtain ⟨S0, hS0⟩ : ∃ S0, (List.replicate n0 z).map (Value.int .i64) = S0 := ⟨_, rfl⟩
  have HS0 := Lib.hid hS0
  have hl0 : S0.length = n0 := by rw [← hS0]; simp
  have hlc : C0.length = M := by rw [← hC0, List.length_map, rpI_len z (by omega)]
  have HSP : Hid (splice C0 0 S0 = (rpI M n0 z).map (Value.int .i64)) := Lib.hid (by rw [← hC0, ← hS0, splice_map, rpI_splice, Nat.zero_add])
  have HSC0 : Hid (∀ j v, S0[j]? = some v → (w1.alloc (.cells (Array.replicate M (Value.int .i64 0)) 3)).cell? ((⟨b, off, none⟩ : Addr).add j) = some v) := Lib.hid (fun j v hj => by
    rw [← hS0, List.getElem?_map, List.getElem?_replicate] at hj
    split at hj
    · rename_i h
      obtain rfl : j = 0 := by omega
      cases hj
      simpa only [Addr.add_lit] using HCX.out
    · cases hj)
  have HS1 : Hid (∀ v ∈ S0, v.oneCell' = true) := Lib.hid (fun v hv => by rw [← hS0] at hv; obtain ⟨x, -, rfl⟩ := List.mem_map.1 hv; rfl)
  clear hC0 hS0
  go_wp2_with (refine wpList_copy_splice rfl (.tmp 31) (.tmp 32) 27 27 rfl 3 Tryz.underlying27 szInt (some ⟨w1.heap.size, 0, none⟩) (some ⟨b, off, none⟩) M M 1 c rfl rfl w1.heap.size 0 C0 3 HG1.out S0 (by rw [hl0, hn0]) (fun _ => ⟨rfl, _, rfl, HSC0.out⟩) (by rw [hl0, hlc]; omega) HS1.out w1.heap.size w1 E1.out (Nat.le_refl _) ?_)
  intro w2 hg2 hb2
  have HG2 : Hid (w2.heap[w1.heap.size]? = some (.cells ((rpI M n0 z).map (Value.int .i64)).toArray 3 (0, 0))) := Lib.hid (by rw [← HSP.out]; exact hg2.out)
  have HB2 := Lib.hid hb2
  try rw [hl0]
  clear hg2 hb2 E1 HG1 HCX HS0 HSC0 HS1 HSP hl0 hlc hn0 hmk hu1 hu2 hu3 hMN
  go_wp2
  go_loopw [8] (fun nv wr => ∃ n : Nat, n ≤ M ∧ (0 < M → 0 < n) ∧ nv = .int .i64 n ∧ wr.heap[w1.heap.size]? = some (.cells ((rpI M n z).map (Value.int .i64)).toArray 3 (0, 0)) ∧ Below w1.heap.size w1 wr) (fun nv _ => M - (intOf nv).toNat)
  case atStart => exact ⟨n0, by omega, by omega, by go_num, HG2.out, HB2.out⟩
  case round =>
    obtain ⟨n, hnM, hn0', rfl, hg, hB⟩ := hrel
    have HG := Lib.hid hg; have HB := Lib.hid hB
    clear hg hB HG2 HB2
    by_cases hlt : n < M
    · have hnI : (n : Int) < (M : Int) := by omega
      obtain ⟨k, hk⟩ : ∃ k, Nat.min n (M - n) = k := ⟨_, rfl⟩
      have hkb : 0 < k ∧ n + k ≤ M ∧ k ≤ n := by rw [← hk]; simp only [Nat.min_def]; split <;> omega
      obtain ⟨C, hC⟩ : ∃ C, (rpI M n z).map (Value.int .i64) = C := ⟨_, rfl⟩
      obtain ⟨S, hS⟩ : ∃ S, (List.replicate k z).map (Value.int .i64) = S := ⟨_, rfl⟩
      have HSP : Hid (splice C n S = (rpI M (n + k) z).map (Value.int .i64)) := Lib.hid (by rw [← hC, ← hS, splice_map, rpI_splice])
      have hl1 : S.length = k := by rw [← hS]; simp
      have hlc : C.length = M := by rw [← hC, List.length_map, rpI_len z hnM]
      have HGD : Hid (wr.drew.heap[w1.heap.size]? = some (.cells C.toArray 3 (0, 0))) := Lib.hid (by rw [← hC]; exact (Ext.refl wr).drew.blk HG.out)
      have HBD : Hid (Below w1.heap.size w1 wr.drew) := Lib.hid HB.out.drew
      have HSC : Hid (∀ j v, S[j]? = some v → wr.drew.cell? ((⟨w1.heap.size, 0, none⟩ : Addr).add j) = some v) := Lib.hid (fun j v hj => by
        have hI : IntsOwn w1.heap.size wr.drew (.slice (some ⟨w1.heap.size, 0, none⟩) M M) (rpI M n z) := own_of_blk (by rw [hC]; exact HGD.out) (rpI_len z hnM) (by omega) (Nat.le_refl _)
        rw [← hS, List.getElem?_map, List.getElem?_replicate] at hj
        split at hj
        · rename_i h
          cases hj
          rw [Addr.add_lit, Nat.zero_add]
          exact hI.cellI (rpI_get z (by omega))
        · cases hj)
      have HS1 : Hid (∀ v ∈ S, v.oneCell' = true) := Lib.hid (fun v hv => by rw [← hS] at hv; obtain ⟨x, -, rfl⟩ := List.mem_map.1 hv; rfl)
      have HK := Lib.hid hk; have HL1 := Lib.hid hl1; have HLC := Lib.hid hlc
      have hnM2 : n ≤ M := hnM
      clear hC hS hk hl1 hlc
      go_wp2_with (fail)
      refine wp_region_held_drew (S := (fun _ => True)) (by kernel_rfl) trivial (fun hHeld => ?_)
      refine wpAnyH_takeD (some 38) (i := 0) (v := ?vq0) rfl (by kernel_rfl) (by kernel_rfl) (by kernel_rfl) (by kernel_rfl) (fun _ _ _ h => h) (Or.inl ⟨by rfl, ?hyq0⟩) (by assumption) ?rq0
      case hyq0 => intro w hSw; (try dsimp only at hSw); go_simp; first | done | with_reducible rfl
      case' rq0 => try simp only [Act.put, List.setIfInBounds_toArray, List.set_cons_zero, List.set_cons_succ]
      refine wpAnyH_takeD (some 39) (i := 1) (v := ?vq1) rfl (by kernel_rfl) (by kernel_rfl) (by kernel_rfl) (by kernel_rfl) (fun _ _ _ h => h) (Or.inl ⟨by rfl, ?hyq1⟩) (by assumption) ?rq1
      case hyq1 => intro w hSw; (try dsimp only at hSw); go_simp; first | done | with_reducible rfl
      case' rq1 => try simp only [Act.put, List.setIfInBounds_toArray, List.set_cons_zero, List.set_cons_succ]
      refine wpAnyH_takeD (some 40) (i := 2) (v := ?vq2) rfl (by kernel_rfl) (by kernel_rfl) (by kernel_rfl) (by kernel_rfl) (fun _ _ _ h => h) (Or.inl ⟨by rfl, ?hyq2⟩) (by assumption) ?rq2
      case hyq2 => intro w hSw; (try dsimp only at hSw); go_simp; first | done | with_reducible rfl
      case' rq2 => try simp only [Act.put, List.setIfInBounds_toArray, List.set_cons_zero, List.set_cons_succ]
      refine wpAnyH_takeD (some 41) (i := 3) (v := ?vq3) rfl (by kernel_rfl) (by kernel_rfl) (by kernel_rfl) (by kernel_rfl) (fun _ _ _ h => h) (Or.inl ⟨by rfl, ?hyq3⟩) (by assumption) ?rq3
      case hyq3 => intro w hSw; (try dsimp only at hSw); go_simp; first | done | with_reducible rfl
      case' rq3 => try simp only [Act.put, List.setIfInBounds_toArray, List.set_cons_zero, List.set_cons_succ]
      refine wpAnyH_takeD (some 42) (i := 4) (v := ?vq4) rfl (by kernel_rfl) (by kernel_rfl) (by kernel_rfl) (by kernel_rfl) (fun _ _ _ h => h) (Or.inl ⟨by rfl, ?hyq4⟩) (by assumption) ?rq4
      case hyq4 => intro w hSw; (try dsimp only at hSw); go_simp; first | done | with_reducible rfl
      case' rq4 => try simp only [Act.put, List.setIfInBounds_toArray, List.set_cons_zero, List.set_cons_succ]
      refine wpAnyH_takeD (some 43) (i := 5) (v := ?vq5) rfl (by kernel_rfl) (by kernel_rfl) (by kernel_rfl) (by kernel_rfl) (fun _ _ _ h => h) (Or.inl ⟨by rfl, ?hyq5⟩) (by assumption) ?rq5
      case hyq5 => intro w hSw; (try dsimp only at hSw); go_simp; first | done | with_reducible rfl
      case' rq5 => try simp only [Act.put, List.setIfInBounds_toArray, List.set_cons_zero, List.set_cons_succ]
      refine wpAnyH_takeD (some 44) (i := 6) (v := ?vq6) rfl (by kernel_rfl) (by kernel_rfl) (by kernel_rfl) (by kernel_rfl) (fun _ _ _ h => h) (Or.inl ⟨by rfl, ?hyq6⟩) (by assumption) ?rq6
      case hyq6 => intro w hSw; (try dsimp only at hSw); go_simp; first | done | with_reducible rfl
      case' rq6 => try simp only [Act.put, List.setIfInBounds_toArray, List.set_cons_zero, List.set_cons_succ]
      refine wpAnyH_ready (rs := [7]) (by kernel_rfl) (by simp) ?_
      refine AllReadyH.cons rfl (fun K9 hK => ?_) AllReadyH.nil
      rw [if_neg (show ¬ M = n by omega)]
      refine step_copy_splice rfl (.tmp 41) (.tmp 44) 27 27 rfl 3 Tryz.underlying27 szInt (some ⟨w1.heap.size, n, none⟩) (some ⟨w1.heap.size, 0, none⟩) (M - n) (M - n) n M rfl rfl w1.heap.size n C 3 HGD.out S (by rw [HL1.out, HK.out]) (fun _ => ⟨rfl, _, rfl, HSC.out⟩) (by rw [HL1.out, HLC.out]; omega) HS1.out w1.heap.size w1 HBD.out (Nat.le_refl _) ?_
      intro w4 hg4 hb4
      refine hK.out _ _ trivial (fun hHr7 => ?_)
      clear hK K9
      change wpAnyH _ _ _ _ _ _ _ (Act.put _ (some 45) _) w4
      rw [HL1.out]
      try simp only [Act.put, List.setIfInBounds_toArray, List.set_cons_zero, List.set_cons_succ]
      refine wpAnyH_takeD (some 46) (i := 8) (v := ?vq8) rfl (by kernel_rfl) (by kernel_rfl) (by kernel_rfl) (by kernel_rfl) (fun _ _ _ h => h) (Or.inl ⟨by rfl, ?hyq8⟩) (by assumption) ?rq8
      case hyq8 => intro w hSw; (try dsimp only at hSw); go_simp; first | done | with_reducible rfl
      case' rq8 => try simp only [Act.put, List.setIfInBounds_toArray, List.set_cons_zero, List.set_cons_succ]
      refine wpAnyH_takeD (some 8) (i := 9) (v := ?vq9) rfl (by kernel_rfl) (by kernel_rfl) (by kernel_rfl) (by kernel_rfl) (fun _ _ _ h => h) (Or.inl ⟨by rfl, ?hyq9⟩) (by assumption) ?rq9
      case hyq9 => intro w hSw; (try dsimp only at hSw); go_simp; first | done | with_reducible rfl
      case' rq9 => try simp only [Act.put, List.setIfInBounds_toArray, List.set_cons_zero, List.set_cons_succ]
      refine wpAnyH_done (by kernel_rfl) ?_ _
      have HG4 : Hid (w4.heap[w1.heap.size]? = some (.cells ((rpI M (n + k) z).map (Value.int .i64)).toArray 3 (0, 0))) := Lib.hid (by rw [← HSP.out]; exact hg4.out)
      have HB4 := Lib.hid hb4
      clear hg4 hb4
      have HWR : Hid (IntKind.i64.wrap ((n : Int) + (k : Int)) = ((n + k : Nat) : Int)) := Lib.hid (by rw [IntKind.wrap_i64]; omega)
      rw [HWR.out]
      go_wp2
      go_roundw
      case rel => exact ⟨n + k, by omega, by omega, rfl, HG4.out, HB4.out⟩
      case measure => simp [intOf]; omega
    · obtain rfl : n = M := by omega
      have HR : Hid (IntsOwn w1.heap.size wr (.slice (some ⟨w1.heap.size, 0, none⟩) n n) (List.replicate n z)) := Lib.hid (by rw [← rpI_all]; exact own_of_blk HG.out (rpI_len z (Nat.le_refl _)) (by omega) (Nat.le_refl _))
      go_wp2
      go_ret
      exact ⟨⟨_, rfl, HR.out⟩, HB.out⟩
end Go.Proofs.YtbcjllanigmioaaGreat
namespace Go.Proofs.YtbcjllanigmioaaGreat
open Go.RowKit Go.Maps
attribute [local go_sem] Oper.semAt_some
theorem row_one {R : Nat} {w : World} {z : Int} (h : w.heap[R]? = some (.cells #[.int .i64 z] 3 (0, 0))) : IntsAt w (.slice (some ⟨R, 0, none⟩) 1 1) [z] :=
  IntsOwn.at (own_of_blk (B := 0) (xs := [z]) (by simpa using h) rfl (by omega) (Nat.zero_le _))
theorem row_ne1 {B L La n c : Nat} {w : World} {xs : List Int} {u : Value} (h : IntsOwn B w (.slice (some ⟨L, 0, none⟩) n c) xs) (ha : w.heap[La]? = some (.cells #[u] 27 (0, 0))) : L ≠ La := by
  rintro rfl
  rcases h.2 with ⟨e, _⟩ | ⟨g, cap, cur, e, _, hg, _⟩
  · cases e
  · cases e
    rw [ha] at hg
    simp at hg
theorem row_ne3 {B L g n c : Nat} {w : World} {xs : List Int} {u v x : Value} (h : IntsOwn B w (.slice (some ⟨L, 0, none⟩) n c) xs) (ha : w.heap[g]? = some (.cells #[u, v, x] 51 (0, 0))) : g = L → False := by
  rintro rfl
  rcases h.2 with ⟨e, _⟩ | ⟨g', cap, cur, e, _, hg, _⟩
  · cases e
  · cases e
    rw [ha] at hg
    simp at hg
theorem bkL_mem {ds : List D3} {x : Nat × D3} (h : x ∈ bkL ds) : x.2 ∈ ds := by
  have h1 : x.2 ∈ (bkL ds).map (·.2) := List.mem_map.2 ⟨x, h, rfl⟩
  rw [bkL_snd, List.mem_reverse] at h1
  exact h1
theorem bkL_snd' (ds : List D3) : (bkL ds).map (fun y => y.2) = ds.reverse := bkL_snd ds
theorem bkL_pre {ds : List D3} {pre : List (Nat × D3)} {x : Nat × D3} (h : (pre ++ [x]) <+: bkL ds) : pre.map (fun y => y.2) = backN ds pre.length := by
  obtain ⟨t, ht⟩ := h
  rw [← bkL_take, ← ht, List.append_assoc, List.take_left' rfl]
theorem body_fin {B L M i j : Nat} {n : Int} {w : World} {l : List Int} {a b : Int} {F : List Int} (h : IntsOwn B w (.slice (some ⟨L, 0, none⟩) M M) l) (hl : l.length = M) (ha : l[i]? = some a) (hb : l[j]? = some b) (hF : F = ltStep l (i, j, n)) : IntsOwn B (w.setCell ⟨L, i, none⟩ (.int .i64 (min a (b - 1)))) (.slice (some ⟨L, 0, none⟩) M M) F := by
  rw [hF, ltStep_set (d := (i, j, n)) ha hb]
  exact h.store hl i _
set_option linter.unusedVariables false in
set_option linter.unusedSimpArgs false in
set_option maxRecDepth 100000 in
set_option maxHeartbeats 4000000 in
theorem latestLevels_any (B M N c : Nat) (q : Option Addr) (ds : List D3) (w : World) (hd : DepsOwn B w (.slice q N c) ds) (hN : ds.length = N) (hN2 : N ≤ 14400) (hM : M ≤ 120) (hmem : ∀ d ∈ ds, d.1 < d.2.1 ∧ d.2.1 < M) (hlb : ∀ x ∈ lvF M ds, 0 ≤ x ∧ x ≤ 119) :
    Calls Tryz.prog 84 #[.agg #[.int .i64 (M : Int), .slice q N c]] w fun e w' => (∃ v', e = .returned v' ∧ IntsOwn w.heap.size w' v' (ltF (List.replicate M (lenF (lvF M ds) - 1)) ds.reverse)) ∧ Ext w w' := by
  obtain ⟨cn, hcn⟩ : ∃ z, lenF (lvF M ds) = z := ⟨_, rfl⟩
  have hcb : 0 ≤ cn ∧ cn ≤ 120 := by rw [← hcn]; exact lenF_bd (by omega) (fun x hx => (hlb x hx).2)
  rw [hcn]
  have HCL := Lib.hid hcn; have HN := Lib.hid hN; have HMEM := Lib.hid hmem; have HLB := Lib.hid hlb; have HD0 := Lib.hid hd
  have HDL : Hid (∀ b, (Value.slice q N c).ownBlock = some b → b < w.heap.size) := Lib.hid (fun b hb => (World.ownsRow.lt hd b hb).2)
  clear hd hN hmem hlb hcn
  refine (callsIn_wide (n := 6)).1 ?_
  refine callsIn_of_wp_marks Tryz.func84 rfl trivial ?_ rfl
  simp only [Tryz.ntmps84, List.size_toArray, List.length_cons, List.length_nil, Nat.reduceAdd, Nat.reduceSub, Array.replicate_succ, Array.replicate_zero, List.push_toArray, List.append_toArray, List.nil_append, List.cons_append]
  have hdd : ∀ j : Nat, (Fence.wide.depth.isSome = true → 1 ≤ j) := fun j h => by cases h
  obtain ⟨g0, hg0⟩ : ∃ g0, w.heap.size = g0 := ⟨_, rfl⟩
  gi_wp2_with (fail)
  obtain ⟨W0, hW0⟩ : ∃ W0, w.alloc (.cells #[.int .i64 (M : Int), .slice q N c] 120) = W0 := ⟨_, rfl⟩
  have E0 : Hid (Ext w W0) := Lib.hid (by rw [← hW0]; exact (Ext.refl w).alloc _)
  have HG0 : Hid (W0.heap.size = g0 + 1) := Lib.hid (by rw [← hW0, ← hg0]; simp)
  have K0 : Hid (W0.heap[g0]? = some (.cells #[.int .i64 (M : Int), .slice q N c] 120 (0, 0))) := Lib.hid (by rw [← hW0, ← hg0]; exact blk_at rfl)
  replace HDL : Hid (∀ b, (Value.slice q N c).ownBlock = some b → b < W0.heap.size) := Lib.hid (fun b hb => by have := HDL.out b hb; have := E0.out.size_le; omega)
  try rw [hW0]
  try rw [hg0]
  have HHG := Lib.hid hg0
  clear hW0 hg0
  have hS_of : ∀ W : World, W.heap[g0]? = some (.cells #[.int .i64 (M : Int), .slice q N c] 120 (0, 0)) → W.cell? ⟨g0, 0, none⟩ = some (.int .i64 (M : Int)) ∧ W.cell? ⟨g0, 1, none⟩ = some (.slice q N c) := fun W h => ⟨(blk2 h).1, (blk2 h).2.1⟩
  refine Code.wpIn_mono (Q := fun ex a wz => ∃ (La L : Nat) (u6 u7 u8 u9 u10 u11 u12 : Value), ex = .normal ∧ a = { tmps := #[.agg #[.int .i64 (M : Int), .slice q N c], .pointer (some ⟨g0, 0, none⟩), .slice none 0 0, .pointer (some ⟨La, 0, none⟩), undef, undef, u6, u7, u8, u9, u10, u11, u12, .slice (some ⟨L, 0, none⟩) M M, undef, undef, undef, undef, undef, undef, undef, undef, undef, undef, undef, undef, undef, undef, undef, undef, undef, undef, undef, undef, undef, undef], defers := [] } ∧
      wz.heap[La]? = some (.cells #[.slice (some ⟨L, 0, none⟩) M M] 27 (0, 0)) ∧ IntsOwn W0.heap.size wz (.slice (some ⟨L, 0, none⟩) M M) (List.replicate M (cn - 1)) ∧ W0.heap.size ≤ La ∧ L ≠ La ∧ wz.heap[g0]? = some (.cells #[.int .i64 (M : Int), .slice q N c] 120 (0, 0)) ∧ DepsOwn B wz (.slice q N c) ds ∧ Ext W0 wz) ?rest ?reg
  case reg =>
    have hs1 := hS_of W0.drew ((Ext.refl W0).drew.blk K0.out)
    refine wpIn_region_IS (n := _) (fun W => W.cell? ⟨g0, 0, none⟩ = some (.int .i64 (M : Int)) ∧ W.cell? ⟨g0, 1, none⟩ = some (.slice q N c)) (by kernel_rfl) hs1 (fun hHeld => ?_)
    have HE : Hid (Ext W0 W0.drew) := Lib.hid (Ext.refl W0).drew
    have HG := Lib.hid (HE.out.blk K0.out); have HD := Lib.hid ((HD0.out.ext E0.out).ext HE.out)
    obtain ⟨x0, hx0⟩ : ∃ x, W0.drew = x := ⟨_, rfl⟩
    rw [hx0] at HE HG HD hHeld ⊢
    clear hx0 hs1
    have hwr : IntKind.i64.wrap (cn - 1) = cn - 1 := by rw [IntKind.wrap_i64]; omega
    refine wpAnyIS_takeD (some 6) (i := 0) (v := ?vt1) rfl rfl rfl (by kernel_rfl) (by kernel_rfl) (by kernel_rfl) (fun _ _ _ h => by obtain ⟨_, _, _, _, _, _, _, _, _, h, _⟩ := h; cases h) (Or.inl ⟨by rfl, ?hyt1⟩) (fun _ => rfl) (by assumption) ?rt1
    case hyt1 => intro w hSw; (try dsimp only at hSw); go_simp; first | done | with_reducible rfl
    case' rt1 => try simp only [Act.put, List.setIfInBounds_toArray, List.set_cons_zero, List.set_cons_succ]
    refine wpAnyIS_takeD (some 11) (i := 5) (v := ?vt2) rfl rfl rfl (by kernel_rfl) (by kernel_rfl) (by kernel_rfl) (fun _ _ _ h => by obtain ⟨_, _, _, _, _, _, _, _, _, h, _⟩ := h; cases h) (Or.inl ⟨by rfl, ?hyt2⟩) (fun _ => rfl) (by assumption) ?rt2
    case hyt2 => intro w hSw; (try dsimp only at hSw); go_simp; first | done | with_reducible rfl
    case' rt2 => try simp only [Act.put, List.setIfInBounds_toArray, List.set_cons_zero, List.set_cons_succ]
    refine wpAnyIS_takeD (some 12) (i := 6) (v := ?vt3) rfl rfl rfl (by kernel_rfl) (by kernel_rfl) (by kernel_rfl) (fun _ _ _ h => by obtain ⟨_, _, _, _, _, _, _, _, _, h, _⟩ := h; cases h) (Or.inl ⟨by rfl, ?hyt3⟩) (fun _ => rfl) (by assumption) ?rt3
    case hyt3 => intro w hSw; (try dsimp only at hSw); go_simp; first | done | with_reducible rfl
    case' rt3 => try simp only [Act.put, List.setIfInBounds_toArray, List.set_cons_zero, List.set_cons_succ]
    refine wpAnyIS_two (i := 1) (j := 8) (by kernel_rfl) rfl rfl (fun K9 hK => ?_) (fun K9 hK => ?_)
    · skip
      go_simp
      refine ⟨trivial, ?_⟩
      refine (callsIn_wide.2 (levels_any B M N c q ds _ HD.out HN.out hN2 hM HMEM.out)).mono ?_
      rintro e x1 ⟨⟨v1, rfl, hl⟩, hE⟩
      obtain ⟨pl, cl, rfl⟩ := ints_form hl
      rw [lvF_len] at hl
      simp only [lvF_len]
      have HLV := Lib.hid hl.at
      refine hK _ _ (hS_of _ (hE.blk HG.out)) ?_
      replace HE := Lib.hid (HE.out.trans hE); replace HG := Lib.hid (hE.blk HG.out); replace HD := Lib.hid (HD.out.ext hE)
      clear hK K9
      try simp only [Act.put, List.setIfInBounds_toArray, List.set_cons_zero, List.set_cons_succ]
      replace hHeld := hS_of _ HG.out
      refine wpAnyIS_two (i := 2) (j := 8) (by kernel_rfl) rfl rfl (fun K9 hK => ?_) (fun K9 hK => ?_)
      · skip
        go_simp
        refine ⟨trivial, ?_⟩
        refine (callsIn_wide.2 (countLevels_any pl M cl (lvF M ds) _ (lvF_len _ _) HLB.out HLV.out)).mono ?_
        rw [HCL.out]
        rintro e x2 ⟨rfl, hE⟩
        refine hK _ _ (hS_of _ (hE.blk HG.out)) ?_
        replace HE := Lib.hid (HE.out.trans hE); replace HG := Lib.hid (hE.blk HG.out); replace HD := Lib.hid (HD.out.ext hE)
        clear hK K9
        try simp only [Act.put, List.setIfInBounds_toArray, List.set_cons_zero, List.set_cons_succ]
        replace hHeld := hS_of _ HG.out
        refine wpAnyIS_takeD (some 9) (i := 3) (v := ?vt4) rfl rfl rfl (by kernel_rfl) (by kernel_rfl) (by kernel_rfl) (fun _ _ _ h => by obtain ⟨_, _, _, _, _, _, _, _, _, h, _⟩ := h; cases h) (Or.inl ⟨by rfl, ?hyt4⟩) (fun _ => rfl) (by assumption) ?rt4
        case hyt4 => intro w hSw; (try dsimp only at hSw); go_simp; first | done | with_reducible rfl
        case' rt4 => try simp only [Act.put, List.setIfInBounds_toArray, List.set_cons_zero, List.set_cons_succ]
        refine wpAnyIS_two (i := 4) (j := 8) (by kernel_rfl) rfl rfl (fun K9 hK => ?_) (fun K9 hK => ?_)
        · skip
          go_simp
          have HX : Hid (Ext x2 (x2.alloc (.cells #[.int .i64 (cn - 1)] 3))) := Lib.hid ((Ext.refl _).alloc _)
          refine hK _ _ (hS_of _ (HX.out.blk HG.out)) ?_
          obtain ⟨R, hR⟩ : ∃ R, x2.heap.size = R := ⟨_, rfl⟩
          have HRW : Hid ((x2.alloc (.cells #[.int .i64 (cn - 1)] 3)).heap[R]? = some (.cells #[.int .i64 (cn - 1)] 3 (0, 0))) := Lib.hid (blk_at hR.symm)
          rw [hR]
          obtain ⟨x3, hw⟩ : ∃ x, x2.alloc (.cells #[.int .i64 (cn - 1)] 3) = x := ⟨_, rfl⟩
          rw [hw] at HX HRW ⊢
          have hE := HX.out
          replace HE := Lib.hid (HE.out.trans hE); replace HG := Lib.hid (hE.blk HG.out); replace HD := Lib.hid (HD.out.ext hE)
          clear hK K9
          try simp only [Act.put, List.setIfInBounds_toArray, List.set_cons_zero, List.set_cons_succ]
          replace hHeld := hS_of _ HG.out
          refine wpAnyIS_two (i := 7) (j := 8) (by kernel_rfl) rfl rfl (fun K9 hK => ?_) (fun K9 hK => ?_)
          · skip
            go_simp
            refine ⟨trivial, ?_⟩
            refine (callsIn_wide.2 (Repeat_any (some ⟨R, 0, none⟩) 1 M (cn - 1) _ hM (row_one HRW.out))).mono ?_
            rintro e x4 ⟨⟨L, rfl, hl⟩, hE⟩
            have HRP : Hid (IntsOwn W0.heap.size x4 (.slice (some ⟨L, 0, none⟩) M M) (List.replicate M (cn - 1))) := Lib.hid (hl.weak HE.out.size_le)
            refine hK _ _ (hS_of _ (hE.blk HG.out)) ?_
            replace HE := Lib.hid (HE.out.trans hE); replace HG := Lib.hid (hE.blk HG.out); replace HD := Lib.hid (HD.out.ext hE)
            clear hK K9
            try simp only [Act.put, List.setIfInBounds_toArray, List.set_cons_zero, List.set_cons_succ]
            replace hHeld := hS_of _ HG.out
            refine wpAnyIS_one (i := 8) (by kernel_rfl) rfl (fun K9 hK => ?_)
            go_simp
            have HX : Hid (Ext x4 (x4.alloc (.cells #[.slice none 0 0] 27))) := Lib.hid ((Ext.refl _).alloc _)
            refine hK _ _ (hS_of _ (HX.out.blk HG.out)) ?_
            obtain ⟨La, hLa⟩ : ∃ La, x4.heap.size = La := ⟨_, rfl⟩
            have HLa : Hid (W0.heap.size ≤ La) := Lib.hid (by rw [← hLa]; exact HE.out.size_le)
            have HA : Hid ((x4.alloc (.cells #[.slice none 0 0] 27)).heap[La]? = some (.cells #[.slice none 0 0] 27 (0, 0))) := Lib.hid (blk_at hLa.symm)
            rw [hLa]
            obtain ⟨x4A, hw⟩ : ∃ x, x4.alloc (.cells #[.slice none 0 0] 27) = x := ⟨_, rfl⟩
            rw [hw] at HX HA ⊢
            have hE := HX.out
            replace HE := Lib.hid (HE.out.trans hE); replace HG := Lib.hid (hE.blk HG.out); replace HD := Lib.hid (HD.out.ext hE)
            replace HRP := Lib.hid (HRP.out.ext hE)
            clear hK K9
            try simp only [Act.put, List.setIfInBounds_toArray, List.set_cons_zero, List.set_cons_succ]
            replace hHeld := hS_of _ HG.out
            refine wpAnyIS_one (i := 9) (by kernel_rfl) rfl (fun K9 hK => ?_)
            obtain ⟨a0, af⟩ := blk1 HA.out
            go_simp
            have HLG : Hid (La ≠ g0 ∧ W0.heap.size ≤ La) := Lib.hid ⟨by have := HLa.out; have := HG0.out; omega, HLa.out⟩
            have hlv := lv_set x4A La 0 (.slice (some ⟨L, 0, none⟩) M M)
            refine hK _ _ (hS_of _ (hlv.heap HG.out (fun h => HLG.out.1 h.symm))) ?_
            clear hK K9
            try simp only [Act.put, List.setIfInBounds_toArray, List.set_cons_zero, List.set_cons_succ]
            refine wpAnyIS_done (by kernel_rfl) ?_ _
            have hne : L ≠ La := row_ne1 HRP.out HA.out
            exact ⟨La, L, _, _, _, _, _, _, _, rfl, rfl, blk1_set HA.out, row_lv HRP.out hlv (fun b hb hd => by simp only [Value.ownBlock, Option.some.injEq] at hb; omega), HLa.out, hne, hlv.heap HG.out (fun h => HLG.out.1 h.symm), HD.out.lv hlv (fun b hb hd => by have := HDL.out b hb; have := HLa.out; omega), Ext.setCell HE.out (p := ⟨La, 0, none⟩) HLa.out _⟩
          · skip
            go_simp
            have HX : Hid (Ext x3 (x3.alloc (.cells #[.slice none 0 0] 27))) := Lib.hid ((Ext.refl _).alloc _)
            refine hK _ _ (hS_of _ (HX.out.blk HG.out)) ?_
            obtain ⟨La, hLa⟩ : ∃ La, x3.heap.size = La := ⟨_, rfl⟩
            have HLa : Hid (W0.heap.size ≤ La) := Lib.hid (by rw [← hLa]; exact HE.out.size_le)
            have HA : Hid ((x3.alloc (.cells #[.slice none 0 0] 27)).heap[La]? = some (.cells #[.slice none 0 0] 27 (0, 0))) := Lib.hid (blk_at hLa.symm)
            rw [hLa]
            obtain ⟨x3A, hw⟩ : ∃ x, x3.alloc (.cells #[.slice none 0 0] 27) = x := ⟨_, rfl⟩
            rw [hw] at HX HA ⊢
            have hE := HX.out
            replace HE := Lib.hid (HE.out.trans hE); replace HG := Lib.hid (hE.blk HG.out); replace HD := Lib.hid (HD.out.ext hE)
            replace HRW := Lib.hid (hE.blk HRW.out)
            clear hK K9
            try simp only [Act.put, List.setIfInBounds_toArray, List.set_cons_zero, List.set_cons_succ]
            replace hHeld := hS_of _ HG.out
            refine wpAnyIS_one (i := 7) (by kernel_rfl) rfl (fun K9 hK => ?_)
            go_simp
            refine ⟨trivial, ?_⟩
            refine (callsIn_wide.2 (Repeat_any (some ⟨R, 0, none⟩) 1 M (cn - 1) _ hM (row_one HRW.out))).mono ?_
            rintro e x4A ⟨⟨L, rfl, hl⟩, hE⟩
            have HRP : Hid (IntsOwn W0.heap.size x4A (.slice (some ⟨L, 0, none⟩) M M) (List.replicate M (cn - 1))) := Lib.hid (hl.weak HE.out.size_le)
            refine hK _ _ (hS_of _ (hE.blk HG.out)) ?_
            replace HE := Lib.hid (HE.out.trans hE); replace HG := Lib.hid (hE.blk HG.out); replace HD := Lib.hid (HD.out.ext hE)
            replace HA := Lib.hid (hE.blk HA.out)
            clear hK K9
            try simp only [Act.put, List.setIfInBounds_toArray, List.set_cons_zero, List.set_cons_succ]
            replace hHeld := hS_of _ HG.out
            refine wpAnyIS_one (i := 9) (by kernel_rfl) rfl (fun K9 hK => ?_)
            obtain ⟨a0, af⟩ := blk1 HA.out
            go_simp
            have HLG : Hid (La ≠ g0 ∧ W0.heap.size ≤ La) := Lib.hid ⟨by have := HLa.out; have := HG0.out; omega, HLa.out⟩
            have hlv := lv_set x4A La 0 (.slice (some ⟨L, 0, none⟩) M M)
            refine hK _ _ (hS_of _ (hlv.heap HG.out (fun h => HLG.out.1 h.symm))) ?_
            clear hK K9
            try simp only [Act.put, List.setIfInBounds_toArray, List.set_cons_zero, List.set_cons_succ]
            refine wpAnyIS_done (by kernel_rfl) ?_ _
            have hne : L ≠ La := row_ne1 HRP.out HA.out
            exact ⟨La, L, _, _, _, _, _, _, _, rfl, rfl, blk1_set HA.out, row_lv HRP.out hlv (fun b hb hd => by simp only [Value.ownBlock, Option.some.injEq] at hb; omega), HLa.out, hne, hlv.heap HG.out (fun h => HLG.out.1 h.symm), HD.out.lv hlv (fun b hb hd => by have := HDL.out b hb; have := HLa.out; omega), Ext.setCell HE.out (p := ⟨La, 0, none⟩) HLa.out _⟩
        · skip
          go_simp
          have HX : Hid (Ext x2 (x2.alloc (.cells #[.slice none 0 0] 27))) := Lib.hid ((Ext.refl _).alloc _)
          refine hK _ _ (hS_of _ (HX.out.blk HG.out)) ?_
          obtain ⟨La, hLa⟩ : ∃ La, x2.heap.size = La := ⟨_, rfl⟩
          have HLa : Hid (W0.heap.size ≤ La) := Lib.hid (by rw [← hLa]; exact HE.out.size_le)
          have HA : Hid ((x2.alloc (.cells #[.slice none 0 0] 27)).heap[La]? = some (.cells #[.slice none 0 0] 27 (0, 0))) := Lib.hid (blk_at hLa.symm)
          rw [hLa]
          obtain ⟨x2A, hw⟩ : ∃ x, x2.alloc (.cells #[.slice none 0 0] 27) = x := ⟨_, rfl⟩
          rw [hw] at HX HA ⊢
          have hE := HX.out
          replace HE := Lib.hid (HE.out.trans hE); replace HG := Lib.hid (hE.blk HG.out); replace HD := Lib.hid (HD.out.ext hE)
          clear hK K9
          try simp only [Act.put, List.setIfInBounds_toArray, List.set_cons_zero, List.set_cons_succ]
          replace hHeld := hS_of _ HG.out
          refine wpAnyIS_one (i := 4) (by kernel_rfl) rfl (fun K9 hK => ?_)
          go_simp
          have HX : Hid (Ext x2A (x2A.alloc (.cells #[.int .i64 (cn - 1)] 3))) := Lib.hid ((Ext.refl _).alloc _)
          refine hK _ _ (hS_of _ (HX.out.blk HG.out)) ?_
          obtain ⟨R, hR⟩ : ∃ R, x2A.heap.size = R := ⟨_, rfl⟩
          have HRW : Hid ((x2A.alloc (.cells #[.int .i64 (cn - 1)] 3)).heap[R]? = some (.cells #[.int .i64 (cn - 1)] 3 (0, 0))) := Lib.hid (blk_at hR.symm)
          rw [hR]
          obtain ⟨x3A, hw⟩ : ∃ x, x2A.alloc (.cells #[.int .i64 (cn - 1)] 3) = x := ⟨_, rfl⟩
          rw [hw] at HX HRW ⊢
          have hE := HX.out
          replace HE := Lib.hid (HE.out.trans hE); replace HG := Lib.hid (hE.blk HG.out); replace HD := Lib.hid (HD.out.ext hE)
          replace HA := Lib.hid (hE.blk HA.out)
          clear hK K9
          try simp only [Act.put, List.setIfInBounds_toArray, List.set_cons_zero, List.set_cons_succ]
          replace hHeld := hS_of _ HG.out
          refine wpAnyIS_one (i := 7) (by kernel_rfl) rfl (fun K9 hK => ?_)
          go_simp
          refine ⟨trivial, ?_⟩
          refine (callsIn_wide.2 (Repeat_any (some ⟨R, 0, none⟩) 1 M (cn - 1) _ hM (row_one HRW.out))).mono ?_
          rintro e x4A ⟨⟨L, rfl, hl⟩, hE⟩
          have HRP : Hid (IntsOwn W0.heap.size x4A (.slice (some ⟨L, 0, none⟩) M M) (List.replicate M (cn - 1))) := Lib.hid (hl.weak HE.out.size_le)
          refine hK _ _ (hS_of _ (hE.blk HG.out)) ?_
          replace HE := Lib.hid (HE.out.trans hE); replace HG := Lib.hid (hE.blk HG.out); replace HD := Lib.hid (HD.out.ext hE)
          replace HA := Lib.hid (hE.blk HA.out)
          clear hK K9
          try simp only [Act.put, List.setIfInBounds_toArray, List.set_cons_zero, List.set_cons_succ]
          replace hHeld := hS_of _ HG.out
          refine wpAnyIS_one (i := 9) (by kernel_rfl) rfl (fun K9 hK => ?_)
          obtain ⟨a0, af⟩ := blk1 HA.out
          go_simp
          have HLG : Hid (La ≠ g0 ∧ W0.heap.size ≤ La) := Lib.hid ⟨by have := HLa.out; have := HG0.out; omega, HLa.out⟩
          have hlv := lv_set x4A La 0 (.slice (some ⟨L, 0, none⟩) M M)
          refine hK _ _ (hS_of _ (hlv.heap HG.out (fun h => HLG.out.1 h.symm))) ?_
          clear hK K9
          try simp only [Act.put, List.setIfInBounds_toArray, List.set_cons_zero, List.set_cons_succ]
          refine wpAnyIS_done (by kernel_rfl) ?_ _
          have hne : L ≠ La := row_ne1 HRP.out HA.out
          exact ⟨La, L, _, _, _, _, _, _, _, rfl, rfl, blk1_set HA.out, row_lv HRP.out hlv (fun b hb hd => by simp only [Value.ownBlock, Option.some.injEq] at hb; omega), HLa.out, hne, hlv.heap HG.out (fun h => HLG.out.1 h.symm), HD.out.lv hlv (fun b hb hd => by have := HDL.out b hb; have := HLa.out; omega), Ext.setCell HE.out (p := ⟨La, 0, none⟩) HLa.out _⟩
      · skip
        go_simp
        have HX : Hid (Ext x1 (x1.alloc (.cells #[.slice none 0 0] 27))) := Lib.hid ((Ext.refl _).alloc _)
        refine hK _ _ (hS_of _ (HX.out.blk HG.out)) ?_
        obtain ⟨La, hLa⟩ : ∃ La, x1.heap.size = La := ⟨_, rfl⟩
        have HLa : Hid (W0.heap.size ≤ La) := Lib.hid (by rw [← hLa]; exact HE.out.size_le)
        have HA : Hid ((x1.alloc (.cells #[.slice none 0 0] 27)).heap[La]? = some (.cells #[.slice none 0 0] 27 (0, 0))) := Lib.hid (blk_at hLa.symm)
        rw [hLa]
        obtain ⟨x1A, hw⟩ : ∃ x, x1.alloc (.cells #[.slice none 0 0] 27) = x := ⟨_, rfl⟩
        rw [hw] at HX HA ⊢
        have hE := HX.out
        replace HE := Lib.hid (HE.out.trans hE); replace HG := Lib.hid (hE.blk HG.out); replace HD := Lib.hid (HD.out.ext hE)
        replace HLV := Lib.hid (HLV.out.ext hE)
        clear hK K9
        try simp only [Act.put, List.setIfInBounds_toArray, List.set_cons_zero, List.set_cons_succ]
        replace hHeld := hS_of _ HG.out
        refine wpAnyIS_one (i := 2) (by kernel_rfl) rfl (fun K9 hK => ?_)
        go_simp
        refine ⟨trivial, ?_⟩
        refine (callsIn_wide.2 (countLevels_any pl M cl (lvF M ds) _ (lvF_len _ _) HLB.out HLV.out)).mono ?_
        rw [HCL.out]
        rintro e x2A ⟨rfl, hE⟩
        refine hK _ _ (hS_of _ (hE.blk HG.out)) ?_
        replace HE := Lib.hid (HE.out.trans hE); replace HG := Lib.hid (hE.blk HG.out); replace HD := Lib.hid (HD.out.ext hE)
        replace HA := Lib.hid (hE.blk HA.out)
        clear hK K9
        try simp only [Act.put, List.setIfInBounds_toArray, List.set_cons_zero, List.set_cons_succ]
        replace hHeld := hS_of _ HG.out
        refine wpAnyIS_takeD (some 9) (i := 3) (v := ?vt5) rfl rfl rfl (by kernel_rfl) (by kernel_rfl) (by kernel_rfl) (fun _ _ _ h => by obtain ⟨_, _, _, _, _, _, _, _, _, h, _⟩ := h; cases h) (Or.inl ⟨by rfl, ?hyt5⟩) (fun _ => rfl) (by assumption) ?rt5
        case hyt5 => intro w hSw; (try dsimp only at hSw); go_simp; first | done | with_reducible rfl
        case' rt5 => try simp only [Act.put, List.setIfInBounds_toArray, List.set_cons_zero, List.set_cons_succ]
        refine wpAnyIS_one (i := 4) (by kernel_rfl) rfl (fun K9 hK => ?_)
        go_simp
        have HX : Hid (Ext x2A (x2A.alloc (.cells #[.int .i64 (cn - 1)] 3))) := Lib.hid ((Ext.refl _).alloc _)
        refine hK _ _ (hS_of _ (HX.out.blk HG.out)) ?_
        obtain ⟨R, hR⟩ : ∃ R, x2A.heap.size = R := ⟨_, rfl⟩
        have HRW : Hid ((x2A.alloc (.cells #[.int .i64 (cn - 1)] 3)).heap[R]? = some (.cells #[.int .i64 (cn - 1)] 3 (0, 0))) := Lib.hid (blk_at hR.symm)
        rw [hR]
        obtain ⟨x3A, hw⟩ : ∃ x, x2A.alloc (.cells #[.int .i64 (cn - 1)] 3) = x := ⟨_, rfl⟩
        rw [hw] at HX HRW ⊢
        have hE := HX.out
        replace HE := Lib.hid (HE.out.trans hE); replace HG := Lib.hid (hE.blk HG.out); replace HD := Lib.hid (HD.out.ext hE)
        replace HA := Lib.hid (hE.blk HA.out)
        clear hK K9
        try simp only [Act.put, List.setIfInBounds_toArray, List.set_cons_zero, List.set_cons_succ]
        replace hHeld := hS_of _ HG.out
        refine wpAnyIS_one (i := 7) (by kernel_rfl) rfl (fun K9 hK => ?_)
        go_simp
        refine ⟨trivial, ?_⟩
        refine (callsIn_wide.2 (Repeat_any (some ⟨R, 0, none⟩) 1 M (cn - 1) _ hM (row_one HRW.out))).mono ?_
        rintro e x4A ⟨⟨L, rfl, hl⟩, hE⟩
        have HRP : Hid (IntsOwn W0.heap.size x4A (.slice (some ⟨L, 0, none⟩) M M) (List.replicate M (cn - 1))) := Lib.hid (hl.weak HE.out.size_le)
        refine hK _ _ (hS_of _ (hE.blk HG.out)) ?_
        replace HE := Lib.hid (HE.out.trans hE); replace HG := Lib.hid (hE.blk HG.out); replace HD := Lib.hid (HD.out.ext hE)
        replace HA := Lib.hid (hE.blk HA.out)
        clear hK K9
        try simp only [Act.put, List.setIfInBounds_toArray, List.set_cons_zero, List.set_cons_succ]
        replace hHeld := hS_of _ HG.out
        refine wpAnyIS_one (i := 9) (by kernel_rfl) rfl (fun K9 hK => ?_)
        obtain ⟨a0, af⟩ := blk1 HA.out
        go_simp
        have HLG : Hid (La ≠ g0 ∧ W0.heap.size ≤ La) := Lib.hid ⟨by have := HLa.out; have := HG0.out; omega, HLa.out⟩
        have hlv := lv_set x4A La 0 (.slice (some ⟨L, 0, none⟩) M M)
        refine hK _ _ (hS_of _ (hlv.heap HG.out (fun h => HLG.out.1 h.symm))) ?_
        clear hK K9
        try simp only [Act.put, List.setIfInBounds_toArray, List.set_cons_zero, List.set_cons_succ]
        refine wpAnyIS_done (by kernel_rfl) ?_ _
        have hne : L ≠ La := row_ne1 HRP.out HA.out
        exact ⟨La, L, _, _, _, _, _, _, _, rfl, rfl, blk1_set HA.out, row_lv HRP.out hlv (fun b hb hd => by simp only [Value.ownBlock, Option.some.injEq] at hb; omega), HLa.out, hne, hlv.heap HG.out (fun h => HLG.out.1 h.symm), HD.out.lv hlv (fun b hb hd => by have := HDL.out b hb; have := HLa.out; omega), Ext.setCell HE.out (p := ⟨La, 0, none⟩) HLa.out _⟩
    · skip
      go_simp
      have HX : Hid (Ext x0 (x0.alloc (.cells #[.slice none 0 0] 27))) := Lib.hid ((Ext.refl _).alloc _)
      refine hK _ _ (hS_of _ (HX.out.blk HG.out)) ?_
      obtain ⟨La, hLa⟩ : ∃ La, x0.heap.size = La := ⟨_, rfl⟩
      have HLa : Hid (W0.heap.size ≤ La) := Lib.hid (by rw [← hLa]; exact HE.out.size_le)
      have HA : Hid ((x0.alloc (.cells #[.slice none 0 0] 27)).heap[La]? = some (.cells #[.slice none 0 0] 27 (0, 0))) := Lib.hid (blk_at hLa.symm)
      rw [hLa]
      obtain ⟨x0A, hw⟩ : ∃ x, x0.alloc (.cells #[.slice none 0 0] 27) = x := ⟨_, rfl⟩
      rw [hw] at HX HA ⊢
      have hE := HX.out
      replace HE := Lib.hid (HE.out.trans hE); replace HG := Lib.hid (hE.blk HG.out); replace HD := Lib.hid (HD.out.ext hE)
      clear hK K9
      try simp only [Act.put, List.setIfInBounds_toArray, List.set_cons_zero, List.set_cons_succ]
      replace hHeld := hS_of _ HG.out
      refine wpAnyIS_one (i := 1) (by kernel_rfl) rfl (fun K9 hK => ?_)
      go_simp
      refine ⟨trivial, ?_⟩
      refine (callsIn_wide.2 (levels_any B M N c q ds _ HD.out HN.out hN2 hM HMEM.out)).mono ?_
      rintro e x1A ⟨⟨v1, rfl, hl⟩, hE⟩
      obtain ⟨pl, cl, rfl⟩ := ints_form hl
      rw [lvF_len] at hl
      simp only [lvF_len]
      have HLV := Lib.hid hl.at
      refine hK _ _ (hS_of _ (hE.blk HG.out)) ?_
      replace HE := Lib.hid (HE.out.trans hE); replace HG := Lib.hid (hE.blk HG.out); replace HD := Lib.hid (HD.out.ext hE)
      replace HA := Lib.hid (hE.blk HA.out)
      clear hK K9
      try simp only [Act.put, List.setIfInBounds_toArray, List.set_cons_zero, List.set_cons_succ]
      replace hHeld := hS_of _ HG.out
      refine wpAnyIS_one (i := 2) (by kernel_rfl) rfl (fun K9 hK => ?_)
      go_simp
      refine ⟨trivial, ?_⟩
      refine (callsIn_wide.2 (countLevels_any pl M cl (lvF M ds) _ (lvF_len _ _) HLB.out HLV.out)).mono ?_
      rw [HCL.out]
      rintro e x2A ⟨rfl, hE⟩
      refine hK _ _ (hS_of _ (hE.blk HG.out)) ?_
      replace HE := Lib.hid (HE.out.trans hE); replace HG := Lib.hid (hE.blk HG.out); replace HD := Lib.hid (HD.out.ext hE)
      replace HA := Lib.hid (hE.blk HA.out)
      clear hK K9
      try simp only [Act.put, List.setIfInBounds_toArray, List.set_cons_zero, List.set_cons_succ]
      replace hHeld := hS_of _ HG.out
      refine wpAnyIS_takeD (some 9) (i := 3) (v := ?vt6) rfl rfl rfl (by kernel_rfl) (by kernel_rfl) (by kernel_rfl) (fun _ _ _ h => by obtain ⟨_, _, _, _, _, _, _, _, _, h, _⟩ := h; cases h) (Or.inl ⟨by rfl, ?hyt6⟩) (fun _ => rfl) (by assumption) ?rt6
      case hyt6 => intro w hSw; (try dsimp only at hSw); go_simp; first | done | with_reducible rfl
      case' rt6 => try simp only [Act.put, List.setIfInBounds_toArray, List.set_cons_zero, List.set_cons_succ]
      refine wpAnyIS_one (i := 4) (by kernel_rfl) rfl (fun K9 hK => ?_)
      go_simp
      have HX : Hid (Ext x2A (x2A.alloc (.cells #[.int .i64 (cn - 1)] 3))) := Lib.hid ((Ext.refl _).alloc _)
      refine hK _ _ (hS_of _ (HX.out.blk HG.out)) ?_
      obtain ⟨R, hR⟩ : ∃ R, x2A.heap.size = R := ⟨_, rfl⟩
      have HRW : Hid ((x2A.alloc (.cells #[.int .i64 (cn - 1)] 3)).heap[R]? = some (.cells #[.int .i64 (cn - 1)] 3 (0, 0))) := Lib.hid (blk_at hR.symm)
      rw [hR]
      obtain ⟨x3A, hw⟩ : ∃ x, x2A.alloc (.cells #[.int .i64 (cn - 1)] 3) = x := ⟨_, rfl⟩
      rw [hw] at HX HRW ⊢
      have hE := HX.out
      replace HE := Lib.hid (HE.out.trans hE); replace HG := Lib.hid (hE.blk HG.out); replace HD := Lib.hid (HD.out.ext hE)
      replace HA := Lib.hid (hE.blk HA.out)
      clear hK K9
      try simp only [Act.put, List.setIfInBounds_toArray, List.set_cons_zero, List.set_cons_succ]
      replace hHeld := hS_of _ HG.out
      refine wpAnyIS_one (i := 7) (by kernel_rfl) rfl (fun K9 hK => ?_)
      go_simp
      refine ⟨trivial, ?_⟩
      refine (callsIn_wide.2 (Repeat_any (some ⟨R, 0, none⟩) 1 M (cn - 1) _ hM (row_one HRW.out))).mono ?_
      rintro e x4A ⟨⟨L, rfl, hl⟩, hE⟩
      have HRP : Hid (IntsOwn W0.heap.size x4A (.slice (some ⟨L, 0, none⟩) M M) (List.replicate M (cn - 1))) := Lib.hid (hl.weak HE.out.size_le)
      refine hK _ _ (hS_of _ (hE.blk HG.out)) ?_
      replace HE := Lib.hid (HE.out.trans hE); replace HG := Lib.hid (hE.blk HG.out); replace HD := Lib.hid (HD.out.ext hE)
      replace HA := Lib.hid (hE.blk HA.out)
      clear hK K9
      try simp only [Act.put, List.setIfInBounds_toArray, List.set_cons_zero, List.set_cons_succ]
      replace hHeld := hS_of _ HG.out
      refine wpAnyIS_one (i := 9) (by kernel_rfl) rfl (fun K9 hK => ?_)
      obtain ⟨a0, af⟩ := blk1 HA.out
      go_simp
      have HLG : Hid (La ≠ g0 ∧ W0.heap.size ≤ La) := Lib.hid ⟨by have := HLa.out; have := HG0.out; omega, HLa.out⟩
      have hlv := lv_set x4A La 0 (.slice (some ⟨L, 0, none⟩) M M)
      refine hK _ _ (hS_of _ (hlv.heap HG.out (fun h => HLG.out.1 h.symm))) ?_
      clear hK K9
      try simp only [Act.put, List.setIfInBounds_toArray, List.set_cons_zero, List.set_cons_succ]
      refine wpAnyIS_done (by kernel_rfl) ?_ _
      have hne : L ≠ La := row_ne1 HRP.out HA.out
      exact ⟨La, L, _, _, _, _, _, _, _, rfl, rfl, blk1_set HA.out, row_lv HRP.out hlv (fun b hb hd => by simp only [Value.ownBlock, Option.some.injEq] at hb; omega), HLa.out, hne, hlv.heap HG.out (fun h => HLG.out.1 h.symm), HD.out.lv hlv (fun b hb hd => by have := HDL.out b hb; have := HLa.out; omega), Ext.setCell HE.out (p := ⟨La, 0, none⟩) HLa.out _⟩
  case rest =>
    rintro ex a wz ⟨La, L, u6, u7, u8, u9, u10, u11, u12, rfl, rfl, hA, hR, hLa, hne, hG, hD, hE⟩
    have HA := Lib.hid hA; have HR := Lib.hid hR; have HLa := Lib.hid hLa; have HNE := Lib.hid hne; have HG := Lib.hid hG; have HD := Lib.hid hD; have HE := Lib.hid hE
    obtain ⟨kc0, kc1, -, -⟩ := blk2 hG
    have hLl := hR.blockB
    have hLal := lt_of_block hA
    have hgl := lt_of_block hG
    clear hA hR hLa hne hG hD hE
    gi_wp2_with (fail)
    refine ⟨trivial, ?_⟩
    refine (callsIn_wide.2 (back_call q N c wz)).mono ?_
    rintro e wb ⟨rfl, hwb⟩
    obtain ⟨PX, hPX⟩ : ∃ PX, wz.heap.size = PX := ⟨_, rfl⟩
    have EB : Ext wz wb := by rw [hwb]; exact (Ext.refl wz).alloc _
    have BP : wb.heap[PX]? = some (.cells #[.slice q N c] 42 (0, 0)) := by rw [hwb]; exact blk_at hPX.symm
    have hbs : wb.heap.size = PX + 1 := by rw [hwb, ← hPX]; simp
    rw [hPX] at hLl hLal hgl ⊢
    have HAb := Lib.hid (EB.blk HA.out); have HRb := Lib.hid (HR.out.ext EB); have HGb := Lib.hid (EB.blk HG.out); have HDb := Lib.hid (HD.out.ext EB); have HEb := Lib.hid (HE.out.trans EB); have HBP := Lib.hid BP; have HBS := Lib.hid hbs
    clear hwb hPX EB BP HA HR HG HD HE kc0 kc1
    gi_wp2_with (fail)
    refine wpIn_rangeFunc_baseA (w := wb) rfl (hdd _) (gf := 156) (lb := #[.pointer (some ⟨PX, 0, none⟩)]) rfl trivial (enters_of Tryz.func156 (by kernel_rfl) rfl)
      wb.heap.size (Nat.le_refl _) (back_seqB wb.heap.size _ _ PX B N c q ds (fun b => b < wb.heap.size ∧ b ≠ L) wb HN.out hN2 HDb.out HBP.out (fun b h => h.1) ⟨by omega, by omega⟩ (fun b hb => ⟨by have := HDL.out b hb; omega, by have := HDL.out b hb; omega⟩))
      (fun b h => h.1) (fun b h => h.elim) (fun x Wa Wb _ _ => trivial) (fun Wa Wb _ _ => trivial) (fun _ => rfl)
      (fun s own X => own = [L] ∧ Lv (fun k => k = L) wb X ∧ IntsOwn W0.heap.size X (.slice (some ⟨L, 0, none⟩) M M) (ltF (List.replicate M (cn - 1)) (s.map (fun y => y.2))))
      (fun cd s own X => False)
      (by
        rintro s o X X' ⟨rfl, a2, a3⟩ hv
        exact ⟨rfl, a2.trans hv (fun _ _ h => h) (fun b hb h => by omega), row_lv a3 hv (fun b hb hd => by simp only [Value.ownBlock, Option.some.injEq] at hb; subst hb; exact hd.1 (by simp))⟩)
      (by
        rintro cd s o X X' h hv
        exact h.elim)
      [L] (fun b hb => by simp at hb; subst hb; exact ⟨by omega, fun h => h.2 rfl⟩) ⟨rfl, Lv.refl _ _, by simpa [ltF] using HRb.out⟩
      (fun (x : Nat × D3) (a' : Act) (X : World) => ∃ g, X.heap[g]? = some (.cells #[.int .i64 (x.2.1 : Int), .int .i64 (x.2.2.1 : Int), .int .i64 x.2.2.2] 51 (0, 0)) ∧ a' = { tmps := #[.agg #[.int .i64 (M : Int), .slice q N c], .pointer (some ⟨g0, 0, none⟩), .slice none 0 0, .pointer (some ⟨La, 0, none⟩), undef, .pointer (some ⟨g, 0, none⟩), u6, u7, u8, u9, u10, u11, u12, .slice (some ⟨L, 0, none⟩) M M, .pointer (some ⟨g0, 1, none⟩), .slice q N c, .func (.func 156) #[] #[.pointer (some ⟨PX, 0, none⟩)], .int .i64 (x.1 : Int), .agg #[.int .i64 (x.2.1 : Int), .int .i64 (x.2.2.1 : Int), .int .i64 x.2.2.2], undef, undef, undef, undef, undef, undef, undef, undef, undef, undef, undef, undef, undef, undef, undef, undef, undef], defers := [] })
      ?ast ?assign ?body ?done ?stop
    case ast =>
      rintro x a' W W' l o ⟨g, h4, h5⟩ ho hv
      exact ⟨g, hv.heap h4 (fun e => by subst e; rw [h4] at ho; cases ho), h5⟩
    case assign =>
      intro l2 y X K hy hK
      obtain ⟨yt, di, dk, dn⟩ := y
      dsimp only [encB]
      gi_wp2
      exact hK _ _ (Lv.alloc _ X _) ⟨X.heap.size, blk_at rfl, rfl⟩
    case body =>
      rintro l2 pre0 x ow a' X ⟨rfl, hLV, hRX⟩ hpx hrx hob ⟨g, hg, rfl⟩
      have hmx : x.2 ∈ ds := bkL_mem (List.IsPrefix.mem (by simp) hpx)
      obtain ⟨hij, hjM⟩ := HMEM.out _ hmx
      have hpl := hpx.length_le
      rw [List.length_append, bkL_len] at hpl
      have hbd := ltF_bdR (M := M) hcb ds pre0.length (by simp at hpl; omega)
      rw [← bkL_pre hpx] at hbd
      obtain ⟨l, hll⟩ : ∃ l, ltF (List.replicate M (cn - 1)) (pre0.map (fun y => y.2)) = l := ⟨_, rfl⟩
      have HLL := Lib.hid hll
      have hlk : l.length = M := by rw [← hll, ltF_len, List.length_replicate]
      rw [hll] at hRX hbd
      have HST : Hid (ltF (List.replicate M (cn - 1)) ((pre0 ++ [x]).map (fun y => y.2)) = ltStep l x.2) := Lib.hid (by rw [List.map_append, ← hll]; exact ltF_next _ _ _)
      obtain ⟨t, i, j, n⟩ := x
      dsimp only at hg hij hjM HST
      obtain ⟨av, ha⟩ := get_some (xs := l) (k := i) (by omega)
      obtain ⟨bv, hb⟩ := get_some (xs := l) (k := j) (by omega)
      obtain ⟨a0, a1⟩ := hbd av (List.mem_of_getElem? ha)
      obtain ⟨b0, b1⟩ := hbd bv (List.mem_of_getElem? hb)
      have hlen := HN.out
      have hpb : pre0.length ≤ 14400 := by simp at hpl; omega
      have hwr : IntKind.i64.wrap (bv - 1) = bv - 1 := by rw [IntKind.wrap_i64]; omega
      have HWR := Lib.hid hwr
      have hLaX := hLV.heap HAb.out (fun h => HNE.out h.symm)
      have hgL : g ≠ L := fun e => by subst e; exact row_ne3 hRX hg rfl
      obtain ⟨z0, z1, z2⟩ := blk3 hg
      have la0 := (blk1 hLaX).1
      have ca := hRX.cellI ha; have cb := hRX.cellI hb
      obtain ⟨XD, hXD⟩ : ∃ XD, X.drew = XD := ⟨_, rfl⟩
      have EX : Ext X XD := by rw [← hXD]; exact (Ext.refl X).drew
      have hvX : Lv (fun _ => False) X XD := by rw [← hXD]; exact Lv.drew0 _ X
      have HXD := Lib.hid hXD
      have HRD := Lib.hid (hRX.ext EX); have HLAD := Lib.hid (EX.blk hLaX); have HGD := Lib.hid (EX.blk hg)
      have HLVD : Hid (Lv (fun k => k = L) wb XD) := Lib.hid (hLV.trans hvX (fun _ _ h => h) (fun _ _ h => h.elim))
      have HGR : Hid (Lv (fun k => k ∈ [L]) X (XD.setCell ⟨L, i, none⟩ (.int .i64 (min av (bv - 1))))) := Lib.hid (hvX.trans (lv_set XD L i _) (fun _ _ h => h.elim) (fun _ _ h => by simp [h]))
      have HAV := Lib.hid ha; have HBV := Lib.hid hb; have HLK := Lib.hid hlk; have HOB := Lib.hid hob; have HGL := Lib.hid hgL
      have HFZ := Lib.hid (HRD.out.frz i)
      have hiI : (i : Int) < (M : Int) := by omega
      have hjI : (j : Int) < (M : Int) := by omega
      have HIJ : Hid (j ≠ i) := Lib.hid (by omega)
      have HC : Hid (∀ v : Value, (XD.setCell ⟨L, i, none⟩ v).cell? ⟨La, 0, none⟩ = some (.slice (some ⟨L, 0, none⟩) M M) ∧ (XD.setCell ⟨L, i, none⟩ v).cell? ⟨g, 0, none⟩ = some (.int .i64 (i : Int)) ∧ (XD.setCell ⟨L, i, none⟩ v).cell? ⟨g, 1, none⟩ = some (.int .i64 (j : Int))) := Lib.hid (fun v => by
        have hlv := lv_set XD L i v
        have h1 := hlv.heap HLAD.out (fun h => HNE.out h.symm)
        obtain ⟨t0, t1, -⟩ := blk3 (hlv.heap HGD.out (fun h => HGL.out h))
        exact ⟨(blk1 h1).1, t0, t1⟩)
      have caD := EX.keep ca
      have hHeld0 : X.drew.cell? ⟨La, 0, none⟩ = some (.slice (some ⟨L, 0, none⟩) M M) ∧ X.drew.cell? ⟨g, 0, none⟩ = some (.int .i64 (i : Int)) ∧ X.drew.cell? ⟨g, 1, none⟩ = some (.int .i64 (j : Int)) := by rw [hXD]; exact ⟨EX.keep la0, EX.keep z0, EX.keep z1⟩
      have cbD := EX.keep cb
      clear hpx hrx hob hbd hll hlk hRX hLV hg hmx hpl hlen ha hb hLaX hgL EX hvX z0 z1 z2 la0 ca cb hXD
      gi_wp2_with (fail)
      refine wpIn_round_IS (n := 1) (fun W => W.cell? ⟨La, 0, none⟩ = some (.slice (some ⟨L, 0, none⟩) M M) ∧ W.cell? ⟨g, 0, none⟩ = some (.int .i64 (i : Int)) ∧ W.cell? ⟨g, 1, none⟩ = some (.int .i64 (j : Int))) (by kernel_rfl) (by kernel_rfl) hHeld0 (fun hHeld => ?_)
      rw [HXD.out] at hHeld ⊢
      refine wpAnyIS_takeD (some 19) (i := 0) (v := ?vt7) rfl rfl rfl (by kernel_rfl) (by kernel_rfl) (by kernel_rfl) (fun _ _ _ h => h) (Or.inl ⟨by rfl, ?hyt7⟩) (fun _ => rfl) (by assumption) ?rt7
      case hyt7 => intro w hSw; (try dsimp only at hSw); go_simp; first | done | with_reducible rfl
      case' rt7 => try simp only [Act.put, List.setIfInBounds_toArray, List.set_cons_zero, List.set_cons_succ]
      refine wpAnyIS_takeD (some 20) (i := 1) (v := ?vt8) rfl rfl rfl (by kernel_rfl) (by kernel_rfl) (by kernel_rfl) (fun _ _ _ h => h) (Or.inl ⟨by rfl, ?hyt8⟩) (fun _ => rfl) (by assumption) ?rt8
      case hyt8 => intro w hSw; (try dsimp only at hSw); go_simp; first | done | with_reducible rfl
      case' rt8 => try simp only [Act.put, List.setIfInBounds_toArray, List.set_cons_zero, List.set_cons_succ]
      refine wpAnyIS_takeD (some 21) (i := 2) (v := ?vt9) rfl rfl rfl (by kernel_rfl) (by kernel_rfl) (by kernel_rfl) (fun _ _ _ h => h) (Or.inl ⟨by rfl, ?hyt9⟩) (fun _ => rfl) (by assumption) ?rt9
      case hyt9 => intro w hSw; (try dsimp only at hSw); go_simp; first | done | with_reducible rfl
      case' rt9 => try simp only [Act.put, List.setIfInBounds_toArray, List.set_cons_zero, List.set_cons_succ]
      refine wpAnyIS_takeD (some 22) (i := 3) (v := ?vt10) rfl rfl rfl (by kernel_rfl) (by kernel_rfl) (by kernel_rfl) (fun _ _ _ h => h) (Or.inl ⟨by rfl, ?hyt10⟩) (fun _ => rfl) (by assumption) ?rt10
      case hyt10 => intro w hSw; (try dsimp only at hSw); go_simp; first | done | with_reducible rfl
      case' rt10 => try simp only [Act.put, List.setIfInBounds_toArray, List.set_cons_zero, List.set_cons_succ]
      refine wpAnyIS_takeD (some 23) (i := 4) (v := ?vt11) rfl rfl rfl (by kernel_rfl) (by kernel_rfl) (by kernel_rfl) (fun _ _ _ h => h) (Or.inl ⟨by rfl, ?hyt11⟩) (fun _ => rfl) (by assumption) ?rt11
      case hyt11 => intro w hSw; (try dsimp only at hSw); go_simp; first | done | with_reducible rfl
      case' rt11 => try simp only [Act.put, List.setIfInBounds_toArray, List.set_cons_zero, List.set_cons_succ]
      refine wpAnyIS_takeD (some 24) (i := 5) (v := ?vt12) rfl rfl rfl (by kernel_rfl) (by kernel_rfl) (by kernel_rfl) (fun _ _ _ h => h) (Or.inl ⟨by rfl, ?hyt12⟩) (fun _ => rfl) (by assumption) ?rt12
      case hyt12 => intro w hSw; (try dsimp only at hSw); go_simp; first | done | with_reducible rfl
      case' rt12 => try simp only [Act.put, List.setIfInBounds_toArray, List.set_cons_zero, List.set_cons_succ]
      refine wpAnyIS_takeD (some 25) (i := 6) (v := ?vt13) rfl rfl rfl (by kernel_rfl) (by kernel_rfl) (by kernel_rfl) (fun _ _ _ h => h) (Or.inl ⟨by rfl, ?hyt13⟩) (fun _ => rfl) (by assumption) ?rt13
      case hyt13 => intro w hSw; (try dsimp only at hSw); go_simp; first | done | with_reducible rfl
      case' rt13 => try simp only [Act.put, List.setIfInBounds_toArray, List.set_cons_zero, List.set_cons_succ]
      refine wpAnyIS_takeD (some 27) (i := 8) (v := ?vt14) rfl rfl rfl (by kernel_rfl) (by kernel_rfl) (by kernel_rfl) (fun _ _ _ h => h) (Or.inl ⟨by rfl, ?hyt14⟩) (fun _ => rfl) (by assumption) ?rt14
      case hyt14 => intro w hSw; (try dsimp only at hSw); go_simp; first | done | with_reducible rfl
      case' rt14 => try simp only [Act.put, List.setIfInBounds_toArray, List.set_cons_zero, List.set_cons_succ]
      refine wpAnyIS_takeD (some 28) (i := 9) (v := ?vt15) rfl rfl rfl (by kernel_rfl) (by kernel_rfl) (by kernel_rfl) (fun _ _ _ h => h) (Or.inl ⟨by rfl, ?hyt15⟩) (fun _ => rfl) (by assumption) ?rt15
      case hyt15 => intro w hSw; (try dsimp only at hSw); go_simp; first | done | with_reducible rfl
      case' rt15 => try simp only [Act.put, List.setIfInBounds_toArray, List.set_cons_zero, List.set_cons_succ]
      refine wpAnyIS_takeD (some 29) (i := 10) (v := ?vt16) rfl rfl rfl (by kernel_rfl) (by kernel_rfl) (by kernel_rfl) (fun _ _ _ h => h) (Or.inl ⟨by rfl, ?hyt16⟩) (fun _ => rfl) (by assumption) ?rt16
      case hyt16 => intro w hSw; (try dsimp only at hSw); go_simp; first | done | with_reducible rfl
      case' rt16 => try simp only [Act.put, List.setIfInBounds_toArray, List.set_cons_zero, List.set_cons_succ]
      refine wpAnyIS_takeD (some 30) (i := 11) (v := ?vt17) rfl rfl rfl (by kernel_rfl) (by kernel_rfl) (by kernel_rfl) (fun _ _ _ h => h) (Or.inl ⟨by rfl, ?hyt17⟩) (fun _ => rfl) (by assumption) ?rt17
      case hyt17 => intro w hSw; (try dsimp only at hSw); go_simp; first | done | with_reducible rfl
      case' rt17 => try simp only [Act.put, List.setIfInBounds_toArray, List.set_cons_zero, List.set_cons_succ]
      refine wpAnyIS_two (i := 7) (j := 12) (by kernel_rfl) rfl rfl (fun K9 hK => ?_) (fun K9 hK => ?_)
      · skip
        go_simp
        refine hK _ _ hHeld ?_
        clear hK K9
        try simp only [Act.put, List.setIfInBounds_toArray, List.set_cons_zero, List.set_cons_succ]
        refine wpAnyIS_one (i := 12) (by kernel_rfl) rfl (fun K9 hK => ?_)
        go_simp
        refine hK _ _ hHeld ?_
        clear hK K9
        try simp only [Act.put, List.setIfInBounds_toArray, List.set_cons_zero, List.set_cons_succ]
        refine wpAnyIS_takeD (some 32) (i := 13) (v := ?vt18) rfl rfl rfl (by kernel_rfl) (by kernel_rfl) (by kernel_rfl) (fun _ _ _ h => h) (Or.inl ⟨by rfl, ?hyt18⟩) (fun _ => rfl) (by assumption) ?rt18
        case hyt18 => intro w hSw; (try dsimp only at hSw); go_simp; first | done | with_reducible rfl
        case' rt18 => try simp only [Act.put, List.setIfInBounds_toArray, List.set_cons_zero, List.set_cons_succ]
        refine wpAnyIS_takeD (some 33) (i := 14) (v := ?vt19) rfl rfl rfl (by kernel_rfl) (by kernel_rfl) (by kernel_rfl) (fun _ _ _ h => h) (Or.inl ⟨by rfl, ?hyt19⟩) (fun _ => rfl) (by assumption) ?rt19
        case hyt19 => intro w hSw; (try dsimp only at hSw); go_simp; first | done | with_reducible rfl
        case' rt19 => try simp only [Act.put, List.setIfInBounds_toArray, List.set_cons_zero, List.set_cons_succ]
        refine wpAnyIS_takeD (some 34) (i := 15) (v := ?vt20) rfl rfl rfl (by kernel_rfl) (by kernel_rfl) (by kernel_rfl) (fun _ _ _ h => h) (Or.inl ⟨by rfl, ?hyt20⟩) (fun _ => rfl) (by assumption) ?rt20
        case hyt20 => intro w hSw; (try dsimp only at hSw); go_simp; first | done | with_reducible rfl
        case' rt20 => try simp only [Act.put, List.setIfInBounds_toArray, List.set_cons_zero, List.set_cons_succ]
        try rw [HWR.out]
        refine wpAnyIS_one (i := 16) (by kernel_rfl) rfl (fun K9 hK => ?_)
        have hfz := HFZ.out
        go_simp
        try rw [HWR.out]
        refine hK _ _ (HC.out _) ?_
        clear hK K9
        try simp only [Act.put, List.setIfInBounds_toArray, List.set_cons_zero, List.set_cons_succ]
        refine wpAnyIS_done (by kernel_rfl) ?_ _
        have hfin := body_fin HRD.out HLK.out HAV.out HBV.out HST.out
        first | exact ⟨[L], ⟨HGR.out, fun b hb => ⟨.inl hb, by have := (HOB.out b hb).1; have := HGR.out.size; omega⟩⟩, rfl, HLVD.out.trans (lv_set XD L i _) (fun _ _ h => h) (fun _ _ h => h), hfin⟩ | (gi_wp2; exact ⟨[L], ⟨HGR.out, fun b hb => ⟨.inl hb, by have := (HOB.out b hb).1; have := HGR.out.size; omega⟩⟩, rfl, HLVD.out.trans (lv_set XD L i _) (fun _ _ h => h) (fun _ _ h => h), hfin⟩)
      · skip
        go_simp
        refine hK _ _ hHeld ?_
        clear hK K9
        try simp only [Act.put, List.setIfInBounds_toArray, List.set_cons_zero, List.set_cons_succ]
        refine wpAnyIS_takeD (some 32) (i := 13) (v := ?vt21) rfl rfl rfl (by kernel_rfl) (by kernel_rfl) (by kernel_rfl) (fun _ _ _ h => h) (Or.inl ⟨by rfl, ?hyt21⟩) (fun _ => rfl) (by assumption) ?rt21
        case hyt21 => intro w hSw; (try dsimp only at hSw); go_simp; first | done | with_reducible rfl
        case' rt21 => try simp only [Act.put, List.setIfInBounds_toArray, List.set_cons_zero, List.set_cons_succ]
        refine wpAnyIS_one (i := 7) (by kernel_rfl) rfl (fun K9 hK => ?_)
        go_simp
        refine hK _ _ hHeld ?_
        clear hK K9
        try simp only [Act.put, List.setIfInBounds_toArray, List.set_cons_zero, List.set_cons_succ]
        refine wpAnyIS_takeD (some 33) (i := 14) (v := ?vt22) rfl rfl rfl (by kernel_rfl) (by kernel_rfl) (by kernel_rfl) (fun _ _ _ h => h) (Or.inl ⟨by rfl, ?hyt22⟩) (fun _ => rfl) (by assumption) ?rt22
        case hyt22 => intro w hSw; (try dsimp only at hSw); go_simp; first | done | with_reducible rfl
        case' rt22 => try simp only [Act.put, List.setIfInBounds_toArray, List.set_cons_zero, List.set_cons_succ]
        refine wpAnyIS_takeD (some 34) (i := 15) (v := ?vt23) rfl rfl rfl (by kernel_rfl) (by kernel_rfl) (by kernel_rfl) (fun _ _ _ h => h) (Or.inl ⟨by rfl, ?hyt23⟩) (fun _ => rfl) (by assumption) ?rt23
        case hyt23 => intro w hSw; (try dsimp only at hSw); go_simp; first | done | with_reducible rfl
        case' rt23 => try simp only [Act.put, List.setIfInBounds_toArray, List.set_cons_zero, List.set_cons_succ]
        try rw [HWR.out]
        refine wpAnyIS_one (i := 16) (by kernel_rfl) rfl (fun K9 hK => ?_)
        have hfz := HFZ.out
        go_simp
        try rw [HWR.out]
        refine hK _ _ (HC.out _) ?_
        clear hK K9
        try simp only [Act.put, List.setIfInBounds_toArray, List.set_cons_zero, List.set_cons_succ]
        refine wpAnyIS_done (by kernel_rfl) ?_ _
        have hfin := body_fin HRD.out HLK.out HAV.out HBV.out HST.out
        first | exact ⟨[L], ⟨HGR.out, fun b hb => ⟨.inl hb, by have := (HOB.out b hb).1; have := HGR.out.size; omega⟩⟩, rfl, HLVD.out.trans (lv_set XD L i _) (fun _ _ h => h) (fun _ _ h => h), hfin⟩ | (gi_wp2; exact ⟨[L], ⟨HGR.out, fun b hb => ⟨.inl hb, by have := (HOB.out b hb).1; have := HGR.out.size; omega⟩⟩, rfl, HLVD.out.trans (lv_set XD L i _) (fun _ _ h => h) (fun _ _ h => h), hfin⟩)
    case done =>
      rintro E ow X hE6 hEn ⟨rfl, hLV, hRX⟩ hob hv6 hz hdf
      rw [bkL_snd'] at hRX
      have hLaX := hLV.heap HAb.out (fun h => HNE.out h.symm)
      have EX := Lib.hid (hLV.ext0 (E0.out.trans HEb.out) (fun b hb h => by have := HG0.out; have := HHG.out; omega))
      have HRX := Lib.hid hRX; have XE := Lib.hid hdf
      have HEE : Hid (E ≠ L ∧ w.heap.size ≤ E) := Lib.hid ⟨fun e => hEn (by simp [e]), by have := HG0.out; have := HHG.out; omega⟩
      obtain ⟨la0, -⟩ := blk1 hLaX
      clear hLV hRX hob hv6 hz hdf hE6 hEn hLaX
      gi_wp2_with (fail)
      refine leaves_marks2 [E] _ (fun E' h => by simp at h; subst h; exact XE.out) (by simp) (fun W' hW' => ?_)
      refine ⟨.slice (some ⟨L, 0, none⟩) M M, by simp [results, Tryz.results84, go_sem], ⟨_, rfl, ?_⟩, hW'.ext0 EX.out (fun b hb h => by have := HEE.out; simp at h; omega)⟩
      exact IntsOwn.weak (row_lv HRX.out hW' (fun b hb h => by simp only [Value.ownBlock, Option.some.injEq] at hb; simp at h; have := HEE.out.1; omega)) E0.out.size_le
    case stop =>
      rintro E cd qq ow X hE6 hEn hq h hob hv6 hz hdf
      exact h.elim
set_option linter.unusedVariables false in
set_option maxRecDepth 100000 in
set_option maxHeartbeats 2000000 in
theorem LatestLevels_any (v : Value) (ars : List Arr) (ps : List Pt) (w : World) (hp : PrR w v ars ps) :
    Calls Tryz.prog 43 #[v] w fun e w' => (∃ v', e = .returned v' ∧ IntsOwn w.heap.size w' v' (ltB ars ps)) ∧ Ext w w' := by
  obtain ⟨qa, ca, qp, cp, rfl, -, -, -, -⟩ := hp.parts
  have HP := Lib.hid hp
  clear hp
  go_enter Tryz.func43, Tryz.ntmps43
  go_wp2_with (fail)
  obtain ⟨W1, hW1⟩ : ∃ W1, w.alloc (.cells #[.slice qa ars.length ca, .slice qp ps.length cp] 32) = W1 := ⟨_, rfl⟩
  have E1 : Hid (Ext w W1) := Lib.hid (by rw [← hW1]; exact (Ext.refl w).alloc _)
  try rw [hW1]
  clear hW1
  refine (graphOf_any _ ars ps _ (HP.out.ext E1.out)).mono ?_
  rintro e w2 ⟨⟨v2, rfl, hd⟩, hE2⟩
  obtain ⟨p2, c2, rfl⟩ := hd.form
  have HD2 := Lib.hid hd; have E2 := Lib.hid (E1.out.trans hE2)
  clear hd hE2
  go_wp2_with (fail)
  refine (latestLevels_any _ (cntB ars ps) _ c2 p2 (depsB ars ps) _ HD2.out rfl (depsB_len ars ps) (cntB_120 ars ps) (fun d hd => depsB_mem hd) (lvB_bd ars ps)).mono ?_
  rintro e w3 ⟨⟨v3, rfl, hl⟩, hE3⟩
  have HL3 : Hid (IntsOwn w.heap.size w3 v3 (ltB ars ps)) := Lib.hid (hl.weak E2.out.size_le)
  have E3 := Lib.hid (E2.out.trans hE3)
  clear hl hE3
  go_wp2
  go_ret
  exact ⟨⟨_, rfl, HL3.out⟩, E3.out⟩
end Go.Proofs.YtbcjllanigmioaaGreat

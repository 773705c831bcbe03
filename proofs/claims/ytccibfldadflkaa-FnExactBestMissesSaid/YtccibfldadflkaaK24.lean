/- The texts Rp, joined. No statement is proved here. -/
import Derived.Test.YtccibfldadflkaaK34
import Derived.Test.YtccibfldadflkaaK28
import Derived.Test.YtccibfldadflkaaK29
import Derived.Laws.CopyOwn
import Derived.Deep.RegionLaw
/- slices.Repeat of one int (was G57). No statement is proved here. -/
namespace Go.Proofs.Ytccibfldadflkaa
open Go.RowKit Go.Maps

def rpI (M n : Nat) (z : Int) : List Int := List.replicate n z ++ List.replicate (M - n) 0
theorem rpI_len {M n : Nat} (z : Int) (h : n ≤ M) : (rpI M n z).length = M := by simp [rpI]; omega
theorem rpI_zero (M : Nat) (z : Int) : rpI M 0 z = List.replicate M 0 := by simp [rpI]
theorem rpI_all (M : Nat) (z : Int) : rpI M M z = List.replicate M z := by simp [rpI]
theorem rpI_get {M n j : Nat} (z : Int) (h : j < n) : (rpI M n z)[j]? = some z := by
  unfold rpI
  rw [List.getElem?_append_left (by simpa using h), List.getElem?_replicate, if_pos h]
theorem rpI_splice {M n k : Nat} (z : Int) : splice (rpI M n z) n (List.replicate k z) = rpI M (n + k) z := by
  unfold splice rpI
  rw [List.take_left' (by simp), List.length_replicate, ← List.append_assoc, List.replicate_append_replicate]
  congr 1
  rw [← List.drop_drop, List.drop_left' (by simp), List.drop_replicate]
  congr 1
  omega
theorem splice_map {α β : Type} (f : α → β) (L : List α) (n : Nat) (cs : List α) : splice (L.map f) n (cs.map f) = (splice L n cs).map f := by simp [splice]
theorem own_of_blk {B L n : Nat} {w : World} {xs : List Int} (hg : w.heap[L]? = some (.cells (xs.map (Value.int .i64)).toArray 3 (0, 0))) (hx : xs.length = n) (hn : n ≤ 1048576) (hB : B ≤ L) : IntsOwn B w (.slice (some ⟨L, 0, none⟩) n n) xs :=
  IntsOwn.mk ⟨by simp [hx], .inr ⟨L, n, _, rfl, hB, hg, Nat.le_refl _, by unfold maxLen; omega, by simp [hx], by rw [Nat.mul_one, List.take_of_length_le (by simp [hx])]⟩⟩ hx
theorem szInt : (Try.prog.info? 3).map (·.size) = some 1 := by kernel_rfl

set_option linter.unusedVariables false in
set_option linter.unusedSimpArgs false in
set_option maxRecDepth 100000 in
set_option maxHeartbeats 2000000 in
theorem Repeat_any (p : Option Addr) (c M : Nat) (z : Int) (w : World) (hM : M ≤ 1000) (hs : IntsAt w (.slice p 1 c) [z]) :
    Calls Try.prog 112 #[.slice p 1 c, .int .i64 (M : Int)] w fun e w' => (∃ L, e = .returned (.slice (some ⟨L, 0, none⟩) M M) ∧ IntsOwn w.heap.size w' (.slice (some ⟨L, 0, none⟩) M M) (List.replicate M z)) ∧ Ext w w' := by
  have hmk := make_intsZ M (by omega)
  obtain ⟨-, hcc⟩ := hs.cl
  obtain ⟨b, off, rfl, hcell⟩ := hcc 0 z rfl
  have HC0 := Lib.hid hcell
  have hMN : decide ((M : Int) < 0) = false := by simp
  have hu1 : IntKind.u64.wrap (M : Int) = (M : Int) := by rw [IntKind.wrap_u64]; omega
  have hu2 : IntKind.i64.wrap (M : Int) = (M : Int) := by rw [IntKind.wrap_i64]; omega
  have hu3 : decide ((9223372036854775807 : Int) < (M : Int)) = false := by simp; omega
  clear hs hcc hcell
  go_enter Try.func112, Try.ntmps112
  go_wp2_with (fail)
  refine (Try.bits_Mul 1 M (by omega) (by omega) _).mono ?_
  rw [show 1 * M / 18446744073709551616 = 0 by omega, show 1 * M % 18446744073709551616 = M by omega]
  rintro e w1 ⟨rfl, rfl⟩
  have E1 : Hid (Ext w1 (w1.alloc (.cells (Array.replicate M (Value.int .i64 0)) 3))) := Lib.hid ((Ext.refl w1).alloc _)
  obtain ⟨C0, hC0⟩ : ∃ C0, (rpI M 0 z).map (Value.int .i64) = C0 := ⟨_, rfl⟩
  have HG1 : Hid ((w1.alloc (.cells (Array.replicate M (Value.int .i64 0)) 3)).heap[w1.heap.size]? = some (.cells C0.toArray 3 (0, 0))) := Lib.hid (by rw [← hC0, rpI_zero, rep_ints]; exact blk_at rfl)
  have HCX := Lib.hid (E1.out.keep HC0.out)
  obtain ⟨n0, hn0⟩ : ∃ n0, Nat.min 1 M = n0 := ⟨_, rfl⟩
  have hn0M : n0 ≤ M ∧ n0 ≤ 1 ∧ (0 < M → 0 < n0) := by rw [← hn0]; simp only [Nat.min_def]; split <;> omega
  obtain ⟨S0, hS0⟩ : ∃ S0, (List.replicate n0 z).map (Value.int .i64) = S0 := ⟨_, rfl⟩
  have HS0 := Lib.hid hS0
  have hl0 : S0.length = n0 := by rw [← hS0]; simp
  have hlc : C0.length = M := by rw [← hC0, List.length_map, rpI_len z (by omega)]
  have HSP : Hid (splice C0 0 S0 = (rpI M n0 z).map (Value.int .i64)) := Lib.hid (by rw [← hC0, ← hS0, splice_map, rpI_splice, Nat.zero_add])
  have HSC0 : Hid (∀ j v, S0[j]? = some v → (w1.alloc (.cells (Array.replicate M (Value.int .i64 0)) 3)).cell? ((⟨b, off, none⟩ : Addr).add j) = some v) := Lib.hid (fun j v hj => by
    rw [← hS0, List.getElem?_map, List.getElem?_replicate] at hj
    split at hj
    · rename_i h
      obtain rfl : j = 0 := by omega
      cases hj
      simpa only [Addr.add_lit] using HCX.out
    · cases hj)
  have HS1 : Hid (∀ v ∈ S0, v.oneCell' = true) := Lib.hid (fun v hv => by rw [← hS0] at hv; obtain ⟨x, -, rfl⟩ := List.mem_map.1 hv; rfl)
  clear hC0 hS0
  go_wp2_with (refine wpList_copy_splice rfl (.tmp 31) (.tmp 32) 22 22 rfl 3 Try.underlying22 szInt (some ⟨w1.heap.size, 0, none⟩) (some ⟨b, off, none⟩) M M 1 c rfl rfl w1.heap.size 0 C0 3 HG1.out S0 (by rw [hl0, hn0]) (fun _ => ⟨rfl, _, rfl, HSC0.out⟩) (by rw [hl0, hlc]; omega) HS1.out w1.heap.size w1 E1.out (Nat.le_refl _) ?_)
  intro w2 hg2 hb2
  have HG2 : Hid (w2.heap[w1.heap.size]? = some (.cells ((rpI M n0 z).map (Value.int .i64)).toArray 3 (0, 0))) := Lib.hid (by rw [← HSP.out]; exact hg2.out)
  have HB2 := Lib.hid hb2
  try rw [hl0]
  clear hg2 hb2 E1 HG1 HCX HS0 HSC0 HS1 HSP hl0 hlc hn0 hmk hu1 hu2 hu3 hMN
  go_wp2
  go_loopw [8] (fun nv wr => ∃ n : Nat, n ≤ M ∧ (0 < M → 0 < n) ∧ nv = .int .i64 n ∧ wr.heap[w1.heap.size]? = some (.cells ((rpI M n z).map (Value.int .i64)).toArray 3 (0, 0)) ∧ Below w1.heap.size w1 wr) (fun nv _ => M - (intOf nv).toNat)
  case atStart => exact ⟨n0, by omega, by omega, by go_num, HG2.out, HB2.out⟩
  case round =>
    obtain ⟨n, hnM, hn0', rfl, hg, hB⟩ := hrel
    have HG := Lib.hid hg; have HB := Lib.hid hB
    clear hg hB HG2 HB2
    by_cases hlt : n < M
    · have hnI : (n : Int) < (M : Int) := by omega
      obtain ⟨k, hk⟩ : ∃ k, Nat.min n (M - n) = k := ⟨_, rfl⟩
      have hkb : 0 < k ∧ n + k ≤ M ∧ k ≤ n := by rw [← hk]; simp only [Nat.min_def]; split <;> omega
      obtain ⟨C, hC⟩ : ∃ C, (rpI M n z).map (Value.int .i64) = C := ⟨_, rfl⟩
      obtain ⟨S, hS⟩ : ∃ S, (List.replicate k z).map (Value.int .i64) = S := ⟨_, rfl⟩
      have HSP : Hid (splice C n S = (rpI M (n + k) z).map (Value.int .i64)) := Lib.hid (by rw [← hC, ← hS, splice_map, rpI_splice])
      have hl1 : S.length = k := by rw [← hS]; simp
      have hlc : C.length = M := by rw [← hC, List.length_map, rpI_len z hnM]
      have HGD : Hid (wr.drew.heap[w1.heap.size]? = some (.cells C.toArray 3 (0, 0))) := Lib.hid (by rw [← hC]; exact (Ext.refl wr).drew.blk HG.out)
      have HBD : Hid (Below w1.heap.size w1 wr.drew) := Lib.hid HB.out.drew
      have HSC : Hid (∀ j v, S[j]? = some v → wr.drew.cell? ((⟨w1.heap.size, 0, none⟩ : Addr).add j) = some v) := Lib.hid (fun j v hj => by
        have hI : IntsOwn w1.heap.size wr.drew (.slice (some ⟨w1.heap.size, 0, none⟩) M M) (rpI M n z) := own_of_blk (by rw [hC]; exact HGD.out) (rpI_len z hnM) (by omega) (Nat.le_refl _)
        rw [← hS, List.getElem?_map, List.getElem?_replicate] at hj
        split at hj
        · rename_i h
          cases hj
          rw [Addr.add_lit, Nat.zero_add]
          exact hI.cellI (rpI_get z (by omega))
        · cases hj)
      have HS1 : Hid (∀ v ∈ S, v.oneCell' = true) := Lib.hid (fun v hv => by rw [← hS] at hv; obtain ⟨x, -, rfl⟩ := List.mem_map.1 hv; rfl)
      have HK := Lib.hid hk; have HL1 := Lib.hid hl1; have HLC := Lib.hid hlc
      have hnM2 : n ≤ M := hnM
      clear hC hS hk hl1 hlc
      go_wp2_with (fail)
      refine wp_region_held_drew (S := (fun _ => True)) (by kernel_rfl) trivial (fun hHeld => ?_)
      refine wpAnyH_takeD (some 38) (i := 0) (v := ?vq0) rfl (by kernel_rfl) (by kernel_rfl) (by kernel_rfl) (by kernel_rfl) (fun _ _ _ h => h) (Or.inl ⟨by rfl, ?hyq0⟩) (by assumption) ?rq0
      case hyq0 => intro w hSw; (try dsimp only at hSw); go_simp; first | done | with_reducible rfl
      case' rq0 => try simp only [Act.put, List.setIfInBounds_toArray, List.set_cons_zero, List.set_cons_succ]
      refine wpAnyH_takeD (some 39) (i := 1) (v := ?vq1) rfl (by kernel_rfl) (by kernel_rfl) (by kernel_rfl) (by kernel_rfl) (fun _ _ _ h => h) (Or.inl ⟨by rfl, ?hyq1⟩) (by assumption) ?rq1
      case hyq1 => intro w hSw; (try dsimp only at hSw); go_simp; first | done | with_reducible rfl
      case' rq1 => try simp only [Act.put, List.setIfInBounds_toArray, List.set_cons_zero, List.set_cons_succ]
      refine wpAnyH_takeD (some 40) (i := 2) (v := ?vq2) rfl (by kernel_rfl) (by kernel_rfl) (by kernel_rfl) (by kernel_rfl) (fun _ _ _ h => h) (Or.inl ⟨by rfl, ?hyq2⟩) (by assumption) ?rq2
      case hyq2 => intro w hSw; (try dsimp only at hSw); go_simp; first | done | with_reducible rfl
      case' rq2 => try simp only [Act.put, List.setIfInBounds_toArray, List.set_cons_zero, List.set_cons_succ]
      refine wpAnyH_takeD (some 41) (i := 3) (v := ?vq3) rfl (by kernel_rfl) (by kernel_rfl) (by kernel_rfl) (by kernel_rfl) (fun _ _ _ h => h) (Or.inl ⟨by rfl, ?hyq3⟩) (by assumption) ?rq3
      case hyq3 => intro w hSw; (try dsimp only at hSw); go_simp; first | done | with_reducible rfl
      case' rq3 => try simp only [Act.put, List.setIfInBounds_toArray, List.set_cons_zero, List.set_cons_succ]
      refine wpAnyH_takeD (some 42) (i := 4) (v := ?vq4) rfl (by kernel_rfl) (by kernel_rfl) (by kernel_rfl) (by kernel_rfl) (fun _ _ _ h => h) (Or.inl ⟨by rfl, ?hyq4⟩) (by assumption) ?rq4
      case hyq4 => intro w hSw; (try dsimp only at hSw); go_simp; first | done | with_reducible rfl
      case' rq4 => try simp only [Act.put, List.setIfInBounds_toArray, List.set_cons_zero, List.set_cons_succ]
      refine wpAnyH_takeD (some 43) (i := 5) (v := ?vq5) rfl (by kernel_rfl) (by kernel_rfl) (by kernel_rfl) (by kernel_rfl) (fun _ _ _ h => h) (Or.inl ⟨by rfl, ?hyq5⟩) (by assumption) ?rq5
      case hyq5 => intro w hSw; (try dsimp only at hSw); go_simp; first | done | with_reducible rfl
      case' rq5 => try simp only [Act.put, List.setIfInBounds_toArray, List.set_cons_zero, List.set_cons_succ]
      refine wpAnyH_takeD (some 44) (i := 6) (v := ?vq6) rfl (by kernel_rfl) (by kernel_rfl) (by kernel_rfl) (by kernel_rfl) (fun _ _ _ h => h) (Or.inl ⟨by rfl, ?hyq6⟩) (by assumption) ?rq6
      case hyq6 => intro w hSw; (try dsimp only at hSw); go_simp; first | done | with_reducible rfl
      case' rq6 => try simp only [Act.put, List.setIfInBounds_toArray, List.set_cons_zero, List.set_cons_succ]
      refine wpAnyH_ready (rs := [7]) (by kernel_rfl) (by simp) ?_
      refine AllReadyH.cons rfl (fun K9 hK => ?_) AllReadyH.nil
      rw [if_neg (show ¬ M = n by omega)]
      refine step_copy_splice rfl (.tmp 41) (.tmp 44) 22 22 rfl 3 Try.underlying22 szInt (some ⟨w1.heap.size, n, none⟩) (some ⟨w1.heap.size, 0, none⟩) (M - n) (M - n) n M rfl rfl w1.heap.size n C 3 HGD.out S (by rw [HL1.out, HK.out]) (fun _ => ⟨rfl, _, rfl, HSC.out⟩) (by rw [HL1.out, HLC.out]; omega) HS1.out w1.heap.size w1 HBD.out (Nat.le_refl _) ?_
      intro w4 hg4 hb4
      refine hK.out _ _ trivial (fun hHr7 => ?_)
      clear hK K9
      change wpAnyH _ _ _ _ _ _ _ (Act.put _ (some 45) _) w4
      rw [HL1.out]
      try simp only [Act.put, List.setIfInBounds_toArray, List.set_cons_zero, List.set_cons_succ]
      refine wpAnyH_takeD (some 46) (i := 8) (v := ?vq8) rfl (by kernel_rfl) (by kernel_rfl) (by kernel_rfl) (by kernel_rfl) (fun _ _ _ h => h) (Or.inl ⟨by rfl, ?hyq8⟩) (by assumption) ?rq8
      case hyq8 => intro w hSw; (try dsimp only at hSw); go_simp; first | done | with_reducible rfl
      case' rq8 => try simp only [Act.put, List.setIfInBounds_toArray, List.set_cons_zero, List.set_cons_succ]
      refine wpAnyH_takeD (some 8) (i := 9) (v := ?vq9) rfl (by kernel_rfl) (by kernel_rfl) (by kernel_rfl) (by kernel_rfl) (fun _ _ _ h => h) (Or.inl ⟨by rfl, ?hyq9⟩) (by assumption) ?rq9
      case hyq9 => intro w hSw; (try dsimp only at hSw); go_simp; first | done | with_reducible rfl
      case' rq9 => try simp only [Act.put, List.setIfInBounds_toArray, List.set_cons_zero, List.set_cons_succ]
      refine wpAnyH_done (by kernel_rfl) ?_ _
      have HG4 : Hid (w4.heap[w1.heap.size]? = some (.cells ((rpI M (n + k) z).map (Value.int .i64)).toArray 3 (0, 0))) := Lib.hid (by rw [← HSP.out]; exact hg4.out)
      have HB4 := Lib.hid hb4
      clear hg4 hb4
      have HWR : Hid (IntKind.i64.wrap ((n : Int) + (k : Int)) = ((n + k : Nat) : Int)) := Lib.hid (by rw [IntKind.wrap_i64]; omega)
      rw [HWR.out]
      go_wp2
      go_roundw
      case rel => exact ⟨n + k, by omega, by omega, rfl, HG4.out, HB4.out⟩
      case measure => simp [intOf]; omega
    · obtain rfl : n = M := by omega
      have HR : Hid (IntsOwn w1.heap.size wr (.slice (some ⟨w1.heap.size, 0, none⟩) n n) (List.replicate n z)) := Lib.hid (by rw [← rpI_all]; exact own_of_blk HG.out (rpI_len z (Nat.le_refl _)) (by omega) (Nat.le_refl _))
      go_wp2
      go_ret
      exact ⟨⟨_, rfl, HR.out⟩, HB.out⟩
end Go.Proofs.Ytccibfldadflkaa

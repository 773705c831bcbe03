/- FnExactBestMisses: at every list of numbers and every size, BestMisses of the program returns the number that its model returns, and changes nothing of its argument. No condition. -/
import Derived.Test.YtccibfldadflkaaK26
import Derived.Test.YtccibfldadflkaaK27
namespace Go.Proofs.Ytccibfldadflkaa
open Go.RowKit Go.ChangeShapes Go.WideShapes Go.ChangeAt Go.Joins

set_option maxHeartbeats 1000000 in
theorem walk0FnExactBestMisses (s : Value) (zz : Int) (xs : List Int) (w : World) (hs : IntsAt w s xs) (hx : ∀ x ∈ xs, i64 x) :
    Calls Try.prog 3 #[s, .int .i64 zz] w fun e w' => e = .returned (.bool true) ∧ Ext w w' := by
  obtain ⟨p, c, rfl, hm, -⟩ := id hs
  have HS := Lib.hid hs; have HX := Lib.hid hx
  clear hx
  obtain ⟨n, hn⟩ : ∃ n, xs.length = n := ⟨_, rfl⟩
  rw [hn] at HS hm ⊢
  have HN := Lib.hid hn
  clear hs hn
  by_cases hbig : (1048576 : Int) < n
  · go_enter Try.func3, Try.ntmps3
    go_wp2
    go_ret
    exact ⟨rfl, Ext.refl w⟩
  · have hy : n ≤ 1048576 := by omega
    go_enter Try.func3, Try.ntmps3
    go_wp2_with (fail)
    refine (toIntS_any _ xs _ HS.out (by rw [HN.out]; exact hy)).mono ?_
    rintro e w2 ⟨p2, c2, rfl, hv2, E2⟩
    rw [HN.out] at hv2 ⊢
    have HV2 := Lib.hid hv2.at; have HE2 := Lib.hid E2
    clear hv2 E2
    go_wp2_with (fail)
    refine (specBestMisses_any p2 n c2 xs zz _ HN.out HV2.out).mono ?_
    rintro e w3 ⟨rfl, E3⟩
    have HE3 := Lib.hid (HE2.out.trans E3)
    clear E3
    obtain ⟨ans, hans⟩ : ∃ a, bmB xs zz = a := ⟨_, rfl⟩
    rw [hans]
    have HANS := Lib.hid hans; clear hans
    go_wp2_with (fail)
    refine (toIntS_any _ xs _ (HS.out.ext HE3.out) (by rw [HN.out]; exact hy)).mono ?_
    rintro e w4 ⟨p4, c4, rfl, hv4, E4⟩
    rw [HN.out] at hv4 ⊢
    have HV4 := Lib.hid hv4.at; have HE4 := Lib.hid (HE3.out.trans E4)
    clear hv4 E4
    go_wp2_with (fail)
    refine (BestMisses_any p4 n c4 xs zz _ HN.out HX.out HV4.out).mono ?_
    rw [HANS.out]
    rintro e w5 ⟨rfl, E5⟩
    have HV5 := Lib.hid (HV4.out.ext E5); have HE5 := Lib.hid (HE4.out.trans E5)
    clear E5
    have hne : (ans != ans) = false := by first | simp | exact bne_self_eq_false _ | rfl
    go_wp2_with (fail)
    refine (toIntS_any _ xs _ (HS.out.ext HE5.out) (by rw [HN.out]; exact hy)).mono ?_
    rintro e w6 ⟨p6, c6, rfl, hv6, E6⟩
    rw [HN.out] at hv6 ⊢
    have HV6 := Lib.hid hv6.at; have HE6 := Lib.hid (HE5.out.trans E6); have HV56 := Lib.hid (HV5.out.ext E6)
    clear hv6 E6
    go_wp2_with (fail)
    refine (eqIntS_any _ _ xs xs _ HV56.out HV6.out).mono ?_
    rintro e w7 ⟨rfl, E7⟩
    have HE7 := Lib.hid (HE6.out.trans E7)
    have heq : eqB xs xs = true := eqB_all (Nat.le_refl _) (Nat.le_refl _) rfl
    clear E7
    go_wp2
    go_ret
    exact ⟨rfl, HE7.out⟩

theorem walkFnExactBestMisses (v u : Value) (w : World) (h : RInts w v) (h1 : RInt w u) :
    Calls Try.prog 3 #[v, u] w fun e w' => e = .returned (.bool true) ∧ Below w.heap.size w w' := by
  obtain ⟨xs, hs, hx⟩ := h
  obtain ⟨zz, rfl, -⟩ := h1
  exact walk0FnExactBestMisses v zz xs w hs hx
end Go.Proofs.Ytccibfldadflkaa

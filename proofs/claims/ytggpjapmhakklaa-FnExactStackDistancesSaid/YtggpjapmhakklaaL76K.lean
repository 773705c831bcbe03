/- FnExactStackDistances: StackDistances answers as its model at every argument, in memory of its own. -/
import Derived.Test.YtggpjapmhakklaaK12
import Derived.Test.YtggpjapmhakklaaK20
import Derived.Test.YtggpjapmhakklaaK21
import Derived.Test.YtggpjapmhakklaaK01
namespace Go.Proofs.Ytggpjapmhakklaa
open Go.RowKit Go.ChangeShapes Go.WideShapes Go.ChangeAt Go.Joins

theorem row_f {B n size : Nat} {e : TypeId} {w0 : World} {v : Value} {vs : List Value} (ho : w0.ownsRow B e size v n vs) : ∃ p c, v = .slice p n c := by
  rcases ho.2 with ⟨rfl, hn⟩ | ⟨g, cap, cur, rfl, _⟩
  · exact ⟨none, 0, by rw [hn]⟩
  · exact ⟨_, _, rfl⟩
set_option maxRecDepth 100000 in
set_option maxHeartbeats 2000000 in
theorem walk0FnExactStackDistances (hal : ∀ xs : List Int, (sdB xs).length ≤ 1000000) (s : Value) (xs : List Int) (w : World) (hs : IntsAt w s xs) (hx : ∀ x ∈ xs, i64 x) :
    Calls Try.prog 4 #[s] w fun e w' => e = .returned (.bool true) ∧ Ext w w' := by
  obtain ⟨p, c, rfl, hm, -⟩ := id hs
  have HS := Lib.hid hs; have HX := Lib.hid hx
  obtain ⟨n, hn⟩ : ∃ n, xs.length = n := ⟨_, rfl⟩
  rw [hn] at HS hm ⊢
  have HN := Lib.hid hn
  clear hs hn hx
  by_cases hbig : (1048576 : Int) < n
  · go_enter Try.func4, Try.ntmps4
    go_wp2
    go_ret
    exact ⟨rfl, Ext.refl w⟩
  · have hy : n ≤ 1048576 := by omega
    obtain ⟨rs, hrs⟩ : ∃ rs, sdB xs = rs := ⟨_, rfl⟩
    have HRS := Lib.hid hrs
    have HRL : Hid (rs.length ≤ 1000000) := Lib.hid (by rw [← hrs]; exact hal xs)
    clear hrs hal
    go_enter Try.func4, Try.ntmps4
    go_wp2_with (fail)
    refine (toIntS_any _ xs _ HS.out (by rw [HN.out]; exact hy)).mono ?_
    rintro e w2 ⟨p2, c2, rfl, hv2, E2⟩
    rw [HN.out] at hv2 ⊢
    have HV2 := Lib.hid hv2.at; have HE2 := Lib.hid E2
    clear hv2 E2
    go_wp2_with (fail)
    refine (specStackDistances_any p2 n c2 xs _ HN.out HV2.out).mono ?_
    rw [HRS.out]
    rintro e w3 ⟨⟨v3, rfl, hv3⟩, E3⟩
    have HE3 := Lib.hid (HE2.out.trans E3); have HR3 := Lib.hid hv3
    clear E3 hv3
    go_wp2_with (fail)
    refine (toIntS_any _ xs _ (HS.out.ext HE3.out) (by rw [HN.out]; exact hy)).mono ?_
    rintro e w4 ⟨p4, c4, rfl, hv4, E4⟩
    rw [HN.out] at hv4 ⊢
    have HV4 := Lib.hid hv4; have HE4 := Lib.hid (HE3.out.trans E4); have HR4 := Lib.hid (HR3.out.ext E4)
    have HRlt : Hid (∀ b, v3.ownBlock = some b → b < w3.heap.size) := Lib.hid (fun b hb => (World.ownsRow.lt HR3.out b hb).2)
    have HXb : Hid (∀ b, (Value.slice p4 n c4).ownBlock = some b → w3.heap.size ≤ b ∧ b < w4.heap.size) := Lib.hid (fun b hb => World.ownsRow.lt hv4 b hb)
    have HWle : Hid (w.heap.size ≤ w3.heap.size) := Lib.hid HE3.out.size_le
    have HW34 : Hid (w3.heap.size ≤ w4.heap.size) := Lib.hid E4.size_le
    clear hv4 E4
    go_wp2_with (fail)
    refine (StackDistances_any p4 n c4 xs _ HN.out HX.out HV4.out.at).mono ?_
    rw [HRS.out]
    rintro e w5 ⟨⟨v5, rfl, hv5⟩, E5⟩
    have HG5 := Lib.hid hv5; have HV5 := Lib.hid (HV4.out.ext E5); have HE5 := Lib.hid (HE4.out.trans E5); have HR5 := Lib.hid (HR4.out.ext E5)
    have HGlo : Hid (∀ b, v5.ownBlock = some b → w4.heap.size ≤ b) := Lib.hid (fun b hb => (World.ownsRow.lt hv5 b hb).1)
    obtain ⟨p3, c3, rfl⟩ := row_f HR5.out
    obtain ⟨p5, c5, rfl⟩ := row_f HG5.out
    clear E5 hv5
    have heqr : eqB rs rs = true := eqB_all (Nat.le_refl _) (Nat.le_refl _) rfl
    go_wp2_with (fail)
    refine (eqIntS_any _ _ rs rs _ HG5.out.at HR5.out.at).mono ?_
    rintro e w6 ⟨rfl, E6⟩
    have HG6 := Lib.hid (HG5.out.ext E6); have HV6 := Lib.hid (HV5.out.ext E6); have HE6 := Lib.hid (HE5.out.trans E6); have HR6 := Lib.hid (HR5.out.ext E6)
    clear E6
    go_wp2_with (fail)
    refine (toIntS_any _ xs _ (HS.out.ext HE6.out) (by rw [HN.out]; exact hy)).mono ?_
    rintro e w7 ⟨p7, c7, rfl, hv7, E7⟩
    rw [HN.out] at hv7 ⊢
    have HV77 := Lib.hid hv7.at
    have HG7 := Lib.hid (HG6.out.ext E7); have HV7 := Lib.hid (HV6.out.ext E7); have HE7 := Lib.hid (HE6.out.trans E7); have HR7 := Lib.hid (HR6.out.ext E7)
    clear hv7 E7
    have heqx : eqB xs xs = true := eqB_all (Nat.le_refl _) (Nat.le_refl _) rfl
    go_wp2_with (fail)
    refine (eqIntS_any _ _ xs xs _ HV7.out.at HV77.out).mono ?_
    rintro e w8 ⟨rfl, E8⟩
    have HG8 := Lib.hid (HG7.out.ext E8); have HV8 := Lib.hid (HV7.out.ext E8); have HE8 := Lib.hid (HE7.out.trans E8); have HR8 := Lib.hid (HR7.out.ext E8)
    clear E8
    go_wp2_with (fail)
    refine (markIntS_any w3.heap.size p4 n c4 xs 1 _ HN.out (IntsOwn.row HV8.out HN.out) (by omega) (by omega)).mono ?_
    rintro e w9 ⟨rfl, h1, h2⟩
    have hl9 : Lv (fun b => (Value.slice p4 n c4).ownBlock = some b) w8 w9 := Lv.grown h2 (fun r e _ => e)
    have HG9 : Hid (IntsOwn w4.heap.size w9 (.slice p5 rs.length c5) rs) := Lib.hid (row_lv HG8.out hl9 (fun b hb hd => by have := HGlo.out b hb; have := HXb.out b hd; omega))
    have HR9 : Hid (IntsOwn w2.heap.size w9 (.slice p3 rs.length c3) rs) := Lib.hid (row_lv HR8.out hl9 (fun b hb hd => by have := HRlt.out b hb; have := HXb.out b hd; omega))
    have HE9 := Lib.hid (hl9.ext0 HE8.out (fun b hb hd => by have := HXb.out b hd; have := HWle.out; omega))
    have hk0 : decide ((1 : Int) + (n : Nat) < 0) = false := by simp; omega
    clear h1 h2 hl9
    go_wp2_with (fail)
    refine (eqIntS_any _ _ rs rs _ HG9.out.at HR9.out.at).mono ?_
    rintro e w10 ⟨rfl, E10⟩
    have HG10 := Lib.hid (HG9.out.ext E10); have HE10 := Lib.hid (HE9.out.trans E10); have HR10 := Lib.hid (HR9.out.ext E10)
    clear E10
    have hxl : rs.length ≤ 1000000 := HRL.out
    go_wp2_with (fail)
    refine (markIntS_any w4.heap.size p5 rs.length c5 rs 1 _ rfl HG10.out (by omega) (by omega)).mono ?_
    rintro e w11 ⟨rfl, h1, h2⟩
    have hl11 : Lv (fun b => (Value.slice p5 rs.length c5).ownBlock = some b) w10 w11 := Lv.grown h2 (fun r e _ => e)
    have HM11 : Hid (IntsOwn w4.heap.size w11 (.slice p5 rs.length c5) (marks 1 rs.length)) := Lib.hid (IntsOwn.mk h1 (marks_len 1 _))
    have HR11 : Hid (IntsOwn w2.heap.size w11 (.slice p3 rs.length c3) rs) := Lib.hid (row_lv HR10.out hl11 (fun b hb hd => by have := HRlt.out b hb; have := HGlo.out b hd; have h34 : w3.heap.size ≤ w4.heap.size := HW34.out; omega))
    have HE11 := Lib.hid (hl11.ext0 HE10.out (fun b hb hd => by have := HGlo.out b hd; have := HWle.out; have h34 : w3.heap.size ≤ w4.heap.size := HW34.out; omega))
    have hq0 : decide ((1 : Int) + (rs.length : Nat) < 0) = false := by simp; omega
    clear h1 h2 hl11
    go_wp2_with (fail)
    refine (heldIntS_any _ rs.length 1 _ HM11.out.at (by omega) (by omega)).mono ?_
    rintro e w12 ⟨rfl, rfl⟩
    go_wp2_with (fail)
    refine (toIntS_any _ xs _ (HS.out.ext HE11.out) (by rw [HN.out]; exact hy)).mono ?_
    rintro e w13 ⟨p13, c13, rfl, hv13, E13⟩
    rw [HN.out] at hv13 ⊢
    have HV13 := Lib.hid hv13.at; have HM13 := Lib.hid (HM11.out.ext E13); have HR13 := Lib.hid (HR11.out.ext E13); have HE13 := Lib.hid (HE11.out.trans E13)
    clear hv13 E13
    go_wp2_with (fail)
    refine (StackDistances_any p13 n c13 xs _ HN.out HX.out HV13.out).mono ?_
    rw [HRS.out]
    rintro e w14 ⟨⟨v14, rfl, hv14⟩, E14⟩
    have HH14 := Lib.hid hv14; have HM14 := Lib.hid (HM13.out.ext E14); have HR14 := Lib.hid (HR13.out.ext E14); have HE14 := Lib.hid (HE13.out.trans E14)
    obtain ⟨p14, c14, rfl⟩ := row_f HH14.out
    clear hv14 E14
    go_wp2_with (fail)
    refine (eqIntS_any _ _ rs rs _ HH14.out.at HR14.out.at).mono ?_
    rintro e w15 ⟨rfl, E15⟩
    have HM15 := Lib.hid (HM14.out.ext E15); have HE15 := Lib.hid (HE14.out.trans E15)
    clear E15
    go_wp2_with (fail)
    refine (heldIntS_any _ rs.length 1 _ HM15.out.at (by omega) (by omega)).mono ?_
    rintro e w16 ⟨rfl, rfl⟩
    go_wp2
    go_ret
    exact ⟨rfl, HE15.out⟩

theorem walkFnExactStackDistances (v : Value) (w : World) (h : RInts w v) :
    Calls Try.prog 4 #[v] w fun e w' => e = .returned (.bool true) ∧ Below w.heap.size w w' := by
  obtain ⟨xs, hs, hx⟩ := h
  exact walk0FnExactStackDistances (fun xs => Nat.le_trans (sdB_len xs) (by decide)) v xs w hs hx
end Go.Proofs.Ytggpjapmhakklaa

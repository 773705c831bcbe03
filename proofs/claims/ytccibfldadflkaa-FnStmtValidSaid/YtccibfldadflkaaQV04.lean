/- The texts D2, joined. No statement is proved here. -/
import Derived.Test.YtccibfldadflkaaQV03
/- A number from the source. -/
namespace Go.Proofs.Ytccibfldadflkaa
open Go.RowKit

set_option maxHeartbeats 4000000 in
set_option maxRecDepth 100000 in
theorem pick_any (W : World) (g K : Nat) (m : Int) (w : World) (hr : Rd W g K w) (hK : K ≤ 100000) (hm : m ≤ 1000000) :
    Calls Try.prog 48 #[.pointer (some ⟨g, 0, none⟩), .int .i64 m] w fun e w' => (∃ r : Nat, e = .returned (.int .i64 r) ∧ (0 < m → (r : Int) < m)) ∧ Rd W g (K + 1) w' ∧ w.grownBy w' (some g) := by
  obtain ⟨p, n, c, hb, k, hk, hB, hW, hE, hp⟩ := hr
  obtain ⟨c0, c1, f0, f1⟩ := blk2 hB
  have hbn := hb.2.1
  have hcast : ((k + 1 : Nat) : Int) = (k : Int) + 1 := by omega
  have hB2 := blk2_set1'' hB (.int .i64 ((k : Int) + 1))
  have hgr : w.grownBy (w.setCell ⟨g, 1, none⟩ (.int .i64 ((k : Int) + 1))) (some g) := grown_set w g 1 _
  have HRd : Hid (Rd W g (K + 1) (w.setCell ⟨g, 1, none⟩ (.int .i64 ((k : Int) + 1)))) := Lib.hid ⟨p, n, c, hb.grown hgr hp, k + 1, by omega, by rw [hcast]; exact hB2, hW, hE.grownRd hgr hW, hp⟩
  have HGr := Lib.hid hgr
  have HBy := Lib.hid (hb.grown hgr hp)
  have hkk : (k : Int) ≤ 100000 := by omega
  have HB2 := Lib.hid hB2
  have hlg : g < w.heap.size := lt_of_block hB
  clear hb hB hE hgr hB2 hK hcast
  by_cases hm0 : m < 1
  · have hd : decide (m < 1) = true := by simpa using hm0
    go_enter Try.func48, Try.ntmps48
    go_wp2
    go_ret
    exact ⟨⟨0, rfl, fun h => absurd h (by omega)⟩, HRd.out, HGr.out⟩
  · have hd : decide (m < 1) = false := by simpa using hm0
    have hm1 : (1 : Int) ≤ m := by omega
    by_cases hn0 : n = 0
    · subst hn0
      go_enter Try.func48, Try.ntmps48
      go_wp2
      go_ret
      exact ⟨⟨0, rfl, fun h => by omega⟩, HRd.out, HGr.out⟩
    · have hde : ((n : Int) == 0) = false := by simp [hn0]
      have hn1 : (1 : Int) ≤ (n : Int) := by omega
      by_cases hkn : k < n
      · obtain ⟨b, off, x, rfl, hx, hx256⟩ := HBy.out.2.2 k hkn
        obtain ⟨d0, d1, -, -⟩ := blk2 HB2.out
        have hk1 : (k : Int) < (n : Int) := by omega
        have hdk : decide ((k : Int) < n) = true := by simpa using hkn
        have hxi : (x : Int) < 256 := by omega
        have hrem : (x : Int) % m = ((x % m.toNat : Nat) : Int) := by
          obtain ⟨m', rfl⟩ := Int.eq_ofNat_of_zero_le (show 0 ≤ m by omega)
          simp
        have hlt : ((x % m.toNat : Nat) : Int) < m := by
          have := Nat.mod_lt x (show 0 < m.toNat by omega)
          omega
        have HREM := Lib.hid hrem; have HLT := Lib.hid hlt; clear hrem hlt
        go_enter Try.func48, Try.ntmps48
        go_wp2
        go_ret
        exact ⟨⟨x % m.toNat, ret_int HREM.out, fun _ => HLT.out⟩, HRd.out, HGr.out⟩
      · have hnk : n ≤ k := by omega
        have hn63 : 0 < n := by omega
        obtain ⟨b, off, x, rfl, hx, hx256⟩ := HBy.out.2.2 (k % n) (Nat.mod_lt _ hn63)
        obtain ⟨b', off', y, e, hy, hy256⟩ := HBy.out.2.2 ((k * 7 + 3) % n) (Nat.mod_lt _ hn63)
        cases e
        obtain ⟨d0, d1, -, -⟩ := blk2 HB2.out
        have hdk : decide ((k : Int) < n) = false := by simpa using hkn
        have hxi : (x : Int) < 256 := by omega
        have hyi : (y : Int) < 256 := by omega
        have e1 : (k : Int) % (n : Int) = ((k % n : Nat) : Int) := by simp
        have e2 : ((k : Int) * 7 + 3) % (n : Int) = (((k * 7 + 3) % n : Nat) : Int) := by simp
        have e3 : (k : Int) / (n : Int) = ((k / n : Nat) : Int) := by simp
        have b1 : ((k % n : Nat) : Int) < (n : Int) := by have := Nat.mod_lt k hn63; omega
        have b2 : (((k * 7 + 3) % n : Nat) : Int) < (n : Int) := by have := Nat.mod_lt (k * 7 + 3) hn63; omega
        have b3 : ((k / n : Nat) : Int) ≤ 100000 := by have := Nat.div_le_self k n; omega
        generalize k % n = j1 at *
        generalize (k * 7 + 3) % n = j2 at *
        generalize k / n = j3 at *
        go_enter Try.func48, Try.ntmps48
        go_wp2_with (fail)
        go_quiet (fail)
        obtain ⟨z, hz, hxor⟩ := xor_nn (x * 131 + y * 1117 + k * 29 + j3 * 53) ((x * 131 + y * 1117 + k * 29 + j3 * 53) / 64) (by omega) (by omega)
        have hc1 : ((x * 131 + y * 1117 + k * 29 + j3 * 53 : Nat) : Int) = (x : Int) * 131 + (y : Int) * 1117 + (k : Int) * 29 + (j3 : Int) * 53 := by omega
        have hc2 : (((x * 131 + y * 1117 + k * 29 + j3 * 53) / 64 : Nat) : Int) = ((x : Int) * 131 + (y : Int) * 1117 + (k : Int) * 29 + (j3 : Int) * 53) / 64 := by omega
        rw [hc1, hc2] at hxor
        have hzm : (z : Int).tmod m = ((z % m.toNat : Nat) : Int) := by
          obtain ⟨m', rfl⟩ := Int.eq_ofNat_of_zero_le (show 0 ≤ m by omega)
          rw [← Int.ofNat_tmod]; simp
        have hlt : ((z % m.toNat : Nat) : Int) < m := by
          have := Nat.mod_lt z (show 0 < m.toNat by omega)
          omega
        have HXO := Lib.hid hxor; have HZM := Lib.hid hzm; have HLT := Lib.hid hlt; clear hxor hzm hlt hc1 hc2
        go_wp2
        go_ret
        exact ⟨⟨z % m.toNat, ret_int (by rw [HXO.out]; exact HZM.out), fun _ => HLT.out⟩, HRd.out.ext ((Ext.refl _).drewN _), grownBy_trans HGr.out (Ext.grownBy ((Ext.refl _).drewN _) _)⟩
end Go.Proofs.Ytccibfldadflkaa

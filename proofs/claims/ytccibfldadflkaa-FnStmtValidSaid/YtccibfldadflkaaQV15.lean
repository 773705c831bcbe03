/- The texts S5, joined. No statement is proved here. -/
import Derived.Test.YtccibfldadflkaaQV32
import Derived.Test.YtccibfldadflkaaQV10
/- The model's checks of statements: accesses, nodes. No statement is proved here. -/
namespace Go.Proofs.Ytccibfldadflkaa
open Go.RowKit

/-- The name of an array: one of the bytes 65 to 68. -/
def arrB (a : ByteArray) : Bool := match a.data.toList with
  | [b] => !Op.bytesLess [b] [65] && (Op.bytesLess [b] [68] || b == 68)
  | _ => false
theorem arrB_no {a : ByteArray} (h : a.size ≠ 1) : arrB a = false := by
  obtain ⟨d⟩ := a
  obtain ⟨l⟩ := d
  unfold arrB
  match l, h with
  | [], _ => rfl
  | [b], h => exact absurd rfl h
  | _ :: _ :: _, _ => rfl
def accB (arr : ByteArray) (subs : List Aff) (d : Int) : Bool := subs.all (boundB d) && (arrB arr && decide (1 ≤ subs.length ∧ subs.length ≤ 2))
theorem one_byte {a : ByteArray} (h : a.size = 1) : ∃ b : UInt8, a = ⟨#[b]⟩ := by
  obtain ⟨d⟩ := a
  obtain ⟨l⟩ := d
  match l, h with
  | [b], _ => exact ⟨b, rfl⟩

set_option maxHeartbeats 1600000 in
theorem l3Access_any (arr : ByteArray) (s : Value) (subs : List Aff) (dd : Int) (w : World) (ha : arr.size ≤ 9223372036854775807) (hs : AffsAt w s subs) :
    Calls Try.prog 59 #[.agg #[.string arr, s], .int .i64 dd] w fun e w' => e = .returned (.bool (accB arr subs dd)) ∧ Ext w w' := by
  obtain ⟨p, c, rfl, hm⟩ := hs.form
  have HS := Lib.hid hs; clear hs
  generalize hn : subs.length = n at *
  have HN := Lib.hid hn; clear hn
  go_enter Try.func59, Try.ntmps59
  go_wp2
  obtain ⟨W1, hW1⟩ : ∃ W1, w.alloc (.cells #[.string arr, .slice p n c] 51) = W1 := ⟨_, rfl⟩
  have HB : Hid (W1.heap[w.heap.size]? = some (.cells #[.string arr, .slice p n c] 51 (0, 0))) := Lib.hid (by rw [← hW1]; exact blk_at rfl)
  have HE1 : Hid (Ext w W1) := Lib.hid (by rw [← hW1]; exact (Ext.refl w).alloc _)
  rw [hW1]
  clear hW1
  go_loopw [5] (fun i wr => ∃ k : Nat, k ≤ n ∧ i = .int .i64 k ∧ (subs.take k).all (boundB dd) = true ∧ Ext W1 wr) (fun i _ => n - (intOf i).toNat)
  case atStart => exact ⟨0, by omega, rfl, by simp, Ext.refl W1⟩
  case round =>
    obtain ⟨k, hk, rfl, hall, hE⟩ := hrel
    have HA := Lib.hid hall; clear hall
    obtain ⟨y0, y1, -, -⟩ := blk2 (hE.blk HB.out)
    by_cases hlt : k < n
    · obtain ⟨x, hx⟩ := get_some (xs := subs) (k := k) (by rw [HN.out]; exact hlt)
      obtain ⟨b, off, q, m, rfl, c0, c1, hb, hr⟩ := (HS.out.ext (HE1.out.trans hE)).elem hx
      have HX := Lib.hid hx; have HR := Lib.hid hr; clear hx hr
      cases hv : affValidB x.1 x.2 with
      | false =>
        have HV := Lib.hid hv; clear hv
        go_wp2_with (fail)
        refine (specAffineValid_any _ x.1 x.2 _ HR.out).mono ?_
        rw [HV.out]
        rintro e w1 ⟨rfl, hE1⟩
        go_wp2
        go_ret
        exact ⟨ret_bool (by simp [accB, all_false_of (p := boundB dd) HX.out (by simp [boundB, HV.out])]), HE1.out.trans (hE.trans hE1)⟩
      | true =>
        obtain ⟨x1, x2⟩ := x
        dsimp only at *
        obtain ⟨a, b', c', d, rfl, -⟩ := valid_four hv
        have HV := Lib.hid hv; clear hv
        go_wp2_with (fail)
        refine (specAffineValid_any _ [a, b', c', d] x2 _ HR.out).mono ?_
        rw [HV.out]
        rintro e w1 ⟨rfl, hE1⟩
        replace c0 := hE1.keep c0
        replace c1 := hE1.keep c1
        replace y0 := hE1.keep y0
        replace y1 := hE1.keep y1
        go_wp2_with (fail)
        refine (l1Depth_four _ a b' c' d x2 _ (HR.out.ext hE1)).mono ?_
        rintro e w2 ⟨rfl, hE2⟩
        have hdep : Hid (depR [a, b', c', d] x2 = dep4 a b' c' d) := depR_four HV.out
        clear c0 c1 y0 y1
        generalize dep4 a b' c' d = D at *
        by_cases hd : D ≤ dd
        · have hdd : decide (dd < D) = false := by simp; omega
          go_wp2
          go_roundw
          case rel => exact ⟨k + 1, by omega, by go_num, by rw [take_next HX.out, List.all_append, HA.out]; simp [boundB, HV.out, hdep.out, hd], (hE.trans hE1).trans hE2⟩
          case measure => simp [intOf]; omega
        · have hdd : decide (dd < D) = true := by simp; omega
          go_wp2
          go_ret
          exact ⟨ret_bool (by simp [accB, all_false_of (p := boundB dd) HX.out (by simp [boundB, HV.out, hdep.out, hd])]), HE1.out.trans ((hE.trans hE1).trans hE2)⟩
    · have e : k = n := by omega
      subst e
      have hall : subs.all (boundB dd) = true := by have h := HA.out; rwa [List.take_of_length_le (by rw [HN.out]; omega)] at h
      have HAL := Lib.hid hall; clear hall
      have hEE := Lib.hid (HE1.out.trans hE)
      by_cases hsz : arr.size = 1
      · obtain ⟨b, rfl⟩ := one_byte hsz
        clear hsz ha
        cases hA : Op.bytesLess [b] [65] with
        | true =>
          go_wp2
          go_ret
          exact ⟨ret_bool (by simp [accB, arrB, hA]), hEE.out⟩
        | false =>
          cases hB : (Op.bytesLess [b] [68] || b == 68) with
          | false =>
            have hB' : ¬ (Op.bytesLess [b] [68] = true ∨ b = 68) := by simpa using hB
            go_wp2
            go_ret
            exact ⟨ret_bool (by simp only [accB, arrB, hA, hB]; simp), hEE.out⟩
          | true =>
            have hB' : Op.bytesLess [b] [68] = true ∨ b = 68 := by simpa using hB
            have HAR : Hid (accB ⟨#[b]⟩ subs dd = decide (1 ≤ k ∧ k ≤ 2)) := Lib.hid (by simp only [accB, HAL.out, arrB, hA, hB, HN.out]; simp)
            by_cases h1 : 1 ≤ k
            · have hb1 : decide ((1 : Int) ≤ k) = true := by simp; omega
              by_cases h2 : k ≤ 2
              · have hb2 : decide ((k : Int) ≤ 2) = true := by simp; omega
                go_wp2
                go_ret
                exact ⟨ret_bool (by rw [HAR.out]; simp [h1, h2]), hEE.out⟩
              · have hb2 : decide ((k : Int) ≤ 2) = false := by simp; omega
                go_wp2
                go_ret
                exact ⟨ret_bool (by rw [HAR.out]; simp [h1, h2]), hEE.out⟩
            · have hb1 : decide ((1 : Int) ≤ k) = false := by simp; omega
              go_wp2
              go_ret
              exact ⟨ret_bool (by rw [HAR.out]; simp [h1]), hEE.out⟩
      · have hb : ((arr.size : Int) == 1) = false := by simp; omega
        go_wp2
        go_ret
        exact ⟨ret_bool (by simp [accB, arrB_no hsz]), hEE.out⟩
end Go.Proofs.Ytccibfldadflkaa

/- The texts Q4 R5, joined. No statement is proved here. -/
import Derived.Test.YtccibfldadflkaaQT19
import Derived.Test.YtccibfldadflkaaQT17
import Derived.Test.YtccibfldadflkaaQT32
import Derived.Test.YtccibfldadflkaaQT22
/- Draws: a nest. -/
namespace Go.Proofs.Ytccibfldadflkaa
open Go.RowKit

theorem LoopO.ext {B : Nat} {w w' : World} {u0 u1 : Value} {x : Lp} (h : LoopO B w u0 u1 x) (hE : Ext w w') : LoopO B w' u0 u1 x := ⟨AffsOwn.ext h.1 hE, AffsOwn.ext h.2 hE⟩
theorem LoopO.weak {B B' : Nat} {w : World} {u0 u1 : Value} {x : Lp} (h : LoopO B w u0 u1 x) (hB : B' ≤ B) : LoopO B' w u0 u1 x := ⟨AffsOwn.weak h.1 hB, AffsOwn.weak h.2 hB⟩
theorem LoopsOwn.slice {B : Nat} {w : World} {v : Value} {xs : List Lp} (h : LoopsOwn B w v xs) : ∃ p c, v = .slice p xs.length c := PairsOwn.slice h

set_option linter.unusedVariables false in
set_option maxRecDepth 100000 in
set_option maxHeartbeats 4000000 in
theorem l2Nest_any (W : World) (g K : Nat) (w : World) (hr : Rd W g K w) (hK : K ≤ 80000) :
    Calls Try.prog 45 #[.pointer (some ⟨g, 0, none⟩)] w fun e w' => (∃ q n c, ∃ ls : List Lp, e = .returned (.slice (some ⟨q, 0, none⟩) n c) ∧ ls.length = n ∧ FourL 3 ls ∧ LoopsOwn w.heap.size w' (.slice (some ⟨q, 0, none⟩) n c) ls) ∧ Rd W g (K + 30) w' ∧ Dr w g w' := by
  obtain ⟨i2, hb, hx0, hx1, hx2⟩ := info_parts infoLoop
  have hlg := hr.lt
  have HR := Lib.hid hr; clear hr
  have HO0 : Hid (((w.alloc (.cells #[] 75)).alloc (.cells #[.int .i64 2, .int .i64 1, .int .i64 2, .int .i64 3] 3)).ownsRow w.heap.size 75 2 (.slice (some ⟨w.heap.size, 0, none⟩) 0 0) 0 []) := Lib.hid ((World.ownsRow_made w #[] 0 (Nat.le_refl _) (Nat.zero_le _) rfl).alloc _)
  go_enter Try.func45, Try.ntmps45
  go_wp2_with (fail)
  refine (num_any W g K (w.heap.size + 1) 4 [2, 1, 2, 3] _ (HR.out.ext (((Ext.refl w).alloc _).alloc _)) (by omega) rfl (by omega) (by omega) (blk_at (by simp)) (by omega)).mono ?_
  rintro e w1 ⟨⟨x1, rfl, hx1m⟩, h2, h3⟩
  have hx13 : 0 ≤ x1 ∧ x1 ≤ 3 := by simp at hx1m; omega
  have HV1 := Lib.hid (LoopsOwn.made (row_dr HO0.out h3 hlg)); have H1 := Lib.hid h2; have D1 := Lib.hid ((((Dr.refl w g).alloc _).alloc _).trans h3)
  obtain ⟨m0, rfl⟩ := Int.eq_ofNat_of_zero_le hx13.1
  have hm03 : m0 ≤ 3 := by omega
  clear h2 h3 hx1m hx13 HO0 HR
  go_wp2
  go_loopw [3, 4] (fun v i wr => ∃ (m gv cv : Nat) (ls : List Lp), m ≤ m0 ∧ i = .int .i64 ((m0 - m : Nat) : Int) ∧ v = .slice (some ⟨gv, 0, none⟩) m cv ∧ ls.length = m ∧ FourL 3 ls ∧ LoopsOwn w.heap.size wr (.slice (some ⟨gv, 0, none⟩) m cv) ls ∧ Rd W g (K + 1 + 7 * m) wr ∧ Dr w g wr) (fun _ i _ => (intOf i).toNat)
  case atStart => exact ⟨0, _, _, [], by omega, by simp, rfl, rfl, ⟨by simp, fun _ h => by simp at h⟩, HV1.out, H1.out, D1.out⟩
  case round =>
    clear HV1 H1 D1
    obtain ⟨m, gv, cv, ls, hm, rfl, rfl, hll, hf, hv, hR, hD⟩ := hrel
    have HLL := Lib.hid hll; have HF := Lib.hid hf; have HV := Lib.hid hv; have HR := Lib.hid hR; have HD := Lib.hid hD; clear hll hf hv hR hD
    have hs1 := HD.out.size
    by_cases hlt : m < m0
    · obtain ⟨j, hj⟩ : ∃ j, m0 - m = j + 1 := ⟨m0 - m - 1, by omega⟩
      rw [hj]
      have hjp : decide ((0 : Int) < ((j + 1 : Nat) : Int)) = true := decide_eq_true (by omega)
      have hjp2 : decide ((0 : Int) < (j : Int) + 1) = true := decide_eq_true (by omega)
      have hj3 : j ≤ 3 := by omega
      have hj3i : (j : Int) ≤ 3 := by omega
      have hj0i : (0 : Int) ≤ (j : Int) := by omega
      have HJ := Lib.hid hj; clear hj
      go_wp2_with (fail)
      refine (l2Loop_any W g (K + 1 + 7 * m) m wr HR.out (by omega) (by omega)).mono ?_
      rintro e w2 ⟨⟨u0, u1, x, rfl, hx, hfa, hfb⟩, h2, h3⟩
      obtain ⟨pu0, cu0, rfl⟩ := PairsOwn.slice hx.1
      obtain ⟨pu1, cu1, rfl⟩ := PairsOwn.slice hx.2
      have hl2 := HF.out
      have HFN : Hid (FourL 3 (ls ++ [x])) := Lib.hid ⟨by rw [List.length_append, HLL.out]; simp; omega, fun l hl => by rcases List.mem_append.1 hl with hl | hl; exact HF.out.2 l hl; simp at hl; rw [hl]; exact ⟨hfa.mono (by omega), hfb.mono (by omega)⟩⟩
      have E3 : Ext w2 (w2.alloc (.cells #[.slice pu0 x.1.length cu0, .slice pu1 x.2.length cu1] 75)) := (Ext.refl w2).alloc _
      have hLv := LoopsOwn.ext (LoopsOwn.dr HV.out h3 hlg) E3
      obtain ⟨vs, ho, he⟩ := hLv
      rw [HLL.out] at ho
      have hvl := ho.1
      have HHE := Lib.hid he
      have HXO := Lib.hid (LoopO.ext (LoopO.weak hx hs1) E3)
      have H2 := Lib.hid (h2.ext E3); have D2 := Lib.hid ((HD.out.trans h3).ext E3)
      have hbase : w.heap.size ≤ w2.heap.size + 1 := by have := D2.out.size; simp at this; omega
      have hm3 : m ≤ 3 := by omega
      clear h2 h3 he hx hfa hfb hl2 E3
      go_wp2_with (at_builtin; refine wpList_append_own_at _ rfl (.tmp 13) (.tmp 18) 34 rfl w.heap.size 75 i2 (.agg #[.slice none 0 0, .slice none 0 0]) 2 48 underSliceLp hb hx0 hx1 hx2 rfl (by decide) (.slice (some ⟨gv, 0, none⟩) m cv) m vs rfl ho ⟨w2.heap.size, 0, none⟩ 1 1 [.slice pu0 x.1.length cu0, .slice pu1 x.2.length cu1] rfl rfl ?c1 ?c2 ?c3 ?c4 ?c5 ?_)
      case c1 => exact pair_cells rfl
      case c2 => intro u hu; simp at hu; rcases hu with rfl | rfl <;> rfl
      case c3 => unfold maxLen; omega
      case c4 => omega
      case c5 => simp; omega
      intro v' w4 hown' hgrow hnil hat
      have hne : v' ≠ .slice none 0 0 := by intro e; have := hnil; simp [e] at this
      obtain ⟨gn, cn, rfl, hcn⟩ := own_form' hown' hne
      have HRS := Lib.hid (show LoopsOwn w.heap.size w4 (.slice (some ⟨gn, 0, none⟩) (m + 1) cn) (ls ++ [x]) from PairsOwn.push (R := LoopO) (fun h a b => LoopO.grow h a b) HLL.out HHE.out hvl hown' hgrow (own_tag ho) HXO.out)
      have D4 := Lib.hid (D2.out.fresh hgrow (fun b hb => (ho.lt b hb).1)); have H4 := Lib.hid (H2.out.beside hgrow (fun j e => by have := (ho.lt j e).1; omega))
      have HMJ : Hid (m0 - (m + 1) = j) := Lib.hid (by have := HJ.out; omega)
      clear hown' hgrow hnil hat hne ho
      go_wp2
      go_roundw
      case rel => exact ⟨m + 1, gn, cn, ls ++ [x], by omega, by rw [HMJ.out], rfl, by rw [List.length_append, HLL.out]; rfl, HFN.out, HRS.out, H4.out.mono (by omega), D4.out⟩
      case measure => simp [intOf]
    · obtain rfl : m = m0 := by omega
      have e0 : m - m = 0 := by omega
      rw [e0]
      go_wp2
      go_ret
      exact ⟨⟨_, _, _, ls, rfl, HLL.out, HF.out, HV.out⟩, HR.out.mono (by omega), HD.out⟩
end Go.Proofs.Ytccibfldadflkaa

/- A point of about a nest; the arguments of PointIn. | Draws: the arguments of NestPoints with how many loops there are, and of BoxNest. No statement is proved here. -/
namespace Go.Proofs.Ytccibfldadflkaa
open Go.RowKit

def Near (xs : List Int) : Prop := ∀ x ∈ xs, withinB x 9999 = true
theorem Near.pt {xs : List Int} (h : Near xs) (hl : xs.length ≤ 3) : ptB xs = true := by
  simp only [ptB, Bool.and_eq_true, decide_eq_true_eq, List.all_eq_true]
  exact ⟨by omega, h⟩
theorem Near.push {xs : List Int} {y : Int} (h : Near xs) (hy : withinB y 9999 = true) : Near (xs ++ [y]) := fun x hx => by
  rcases List.mem_append.1 hx with h1 | h1
  · exact h x h1
  · simp at h1; rw [h1]; exact hy
end Go.Proofs.Ytccibfldadflkaa

namespace Go.Proofs.Ytccibfldadflkaa
open Go.RowKit

end Go.Proofs.Ytccibfldadflkaa

/- Draws: a list of small numbers (DrawCarryLevel, DrawDirection). No statement is proved here. -/
import Derived.Test.YtclgbnilfipobabD3
namespace Go.Proofs.Ytclgbnilfipobab
open Go.RowKit

theorem row_nextC {B n : Nat} {w : World} {v : Value} {xs : List Int} {y : Int} (h : w.ownsRow B 3 1 v (n + 1) (xs.map (Value.int .i64) ++ [Value.int .i64 y])) : w.ownsRow B 3 1 v (n + 1) ((xs ++ [y]).map (Value.int .i64)) := by
  rw [List.map_append]; exact h

set_option maxHeartbeats 4000000 in
theorem DrawCarryLevel_any (p : Option Addr) (n c : Nat) (w0 : World) (hs : BytesAt w0 p n c) (hlt : ∀ b off, 0 < n → p = some ⟨b, off, none⟩ → b < w0.heap.size) :
    Calls Try.prog 18 #[.slice p n c] w0 fun e w' => (∃ v xs, e = .returned v ∧ xs.length ≤ 6 ∧ IntsAt w' v xs) ∧ Ext w0 w' := by
  obtain ⟨i0, hi, hz0, hz1, hz2⟩ := info_parts infoInt
  have HS := Lib.hid hs; have HL := Lib.hid hlt; clear hs hlt
  go_enter Try.func18, Try.ntmps18
  go_wp2_with (fail)
  refine (l16Open_any p n c _ HS.out HL.out).mono ?_
  rintro e w ⟨g, rfl, hr, hE0⟩
  have hlg := hr.lt
  have HR := Lib.hid hr
  clear hr
  have HOut : Hid ((w.alloc (.cells #[] 3)).ownsRow w.heap.size 3 1 (.slice (some ⟨w.heap.size, 0, none⟩) 0 0) 0 (([] : List Int).map (Value.int .i64))) := Lib.hid (World.ownsRow_made w #[] 0 (Nat.le_refl _) (Nat.zero_le _) rfl)
  clear hE0
  go_wp2_with (fail)
  refine (num_any w0 g 0 (w.heap.size + 1) 6 [2, 3, 1, 0, 4, 6] _ (HR.out.ext (((Ext.refl w).alloc _).alloc _)) (by omega) rfl (by omega) (by omega) (blk_at (by simp)) (by omega)).mono ?_
  rintro e w1 ⟨⟨x, rfl, hx⟩, h2, h3⟩
  have hO1 := row_dr (HOut.out.alloc _) h3 hlg
  have hD1 : Dr w g w1 := (((Dr.refl w g).alloc _).alloc _).trans h3
  obtain ⟨j0, hj0, rfl⟩ : ∃ j : Nat, j ≤ 6 ∧ x = (j : Int) := by
    simp only [List.mem_cons, List.not_mem_nil, or_false] at hx
    rcases hx with rfl | rfl | rfl | rfl | rfl | rfl
    · exact ⟨2, by omega, rfl⟩
    · exact ⟨3, by omega, rfl⟩
    · exact ⟨1, by omega, rfl⟩
    · exact ⟨0, by omega, rfl⟩
    · exact ⟨4, by omega, rfl⟩
    · exact ⟨6, by omega, rfl⟩
  have HO1 := Lib.hid hO1; have HD1 := Lib.hid hD1; have H2 := Lib.hid h2
  clear hO1 hD1 h2 h3 hx HR HOut
  go_wp2
  go_loopw [4, 5] (fun v i wr => ∃ j n : Nat, ∃ xs : List Int, i = .int .i64 j ∧ j ≤ 6 ∧ n + j ≤ 6 ∧ xs.length = n ∧ wr.ownsRow w.heap.size 3 1 v n (xs.map (Value.int .i64)) ∧ Rd w0 g (7 - j) wr ∧ Dr w g wr ∧ v ≠ .slice none 0 0) (fun _ i _ => (intOf i).toNat)
  case atStart => exact ⟨j0, 0, [], rfl, hj0, by omega, rfl, HO1.out, H2.out.mono (by omega), HD1.out, by simp⟩
  case round =>
    clear HO1 HD1 H2
    obtain ⟨j, n, xs, rfl, hj, hnj, hxn, hown, hR, hD, hne⟩ := hrel
    have HNE := Lib.hid hne; clear hne
    have hlg' := hR.lt
    have hsz : w.heap.size ≤ wr.heap.size := hD.size
    have HO := Lib.hid hown; have HR := Lib.hid hR; have HD := Lib.hid hD; have HXN := Lib.hid hxn
    clear hown hR hD hxn
    by_cases hj0 : 0 < j
    · have hji : (0 : Int) < (j : Int) := by omega
      go_wp2_with (fail)
      refine (num_any w0 g (7 - j) wr.heap.size 6 [0, 0, 1, -1, 0, 2] _ (HR.out.ext ((Ext.refl wr).alloc _)) (by omega) rfl (by omega) (by omega) (blk_at rfl) (by omega)).mono ?_
      rintro e w3 ⟨⟨y, rfl, -⟩, h2, h3⟩
      have hown3 := row_dr (HO.out.alloc _) h3 hlg
      have hD3 : Dr w g w3 := (HD.out.alloc _).trans h3
      have hbs : w.heap.size ≤ w3.heap.size := hD3.size
      have H2 := Lib.hid h2; have HD3 := Lib.hid hD3
      clear h2 h3 hD3
      go_wp2_with (at_builtin; refine wpList_append_own _ rfl (.tmp 16) (.tmp 20) 22 rfl w.heap.size 3 i0 (.int .i64 0) 1 8 Try.underlying22 hi hz0 hz1 hz2 rfl (by decide) _ n _ rfl (hown3.alloc _) ⟨w3.heap.size, 0, none⟩ 1 1 [.int .i64 y] rfl rfl ?c1 ?c2 ?c3 ?c4 ?c5 ?_)
      case c1 =>
        intro q u hq
        match q, hq with
        | 0, hq => simp at hq; subst hq; simp [Addr.add]
      case c2 => intro u hu; simp at hu; subst hu; rfl
      case c3 => unfold maxLen; omega
      case c4 => omega
      case c5 => simp; omega
      intro v' w5 hown' hgrow hnil
      have HN5 : Hid (v' ≠ .slice none 0 0) := Lib.hid hnil
      clear hnil
      have hD5 : Dr w g w5 := (HD3.out.alloc _).fresh hgrow (fun b hb => (hown3.lt b hb).1)
      have hR5 : Rd w0 g (7 - (j - 1)) w5 := ((H2.out.ext ((Ext.refl w3).alloc _)).beside hgrow (fun b hb => by have := (hown3.lt b hb).1; omega)).mono (by omega)
      have HO5 : Hid (w5.ownsRow w.heap.size 3 1 v' (n + 1) ((xs ++ [y]).map (Value.int .i64))) := Lib.hid (row_nextC hown')
      have HD5 := Lib.hid hD5; have HR5 := Lib.hid hR5
      clear hown' hgrow hown3 hD5 hR5
      go_wp2
      go_roundw
      case rel => exact ⟨j - 1, n + 1, xs ++ [y], by go_num, by omega, by omega, by rw [List.length_append, HXN.out]; rfl, HO5.out, HR5.out, HD5.out, HN5.out⟩
      case measure => simp [intOf]; omega
    · have e : j = 0 := by omega
      subst e
      have hE : Ext w0 wr := by obtain ⟨_, _, _, _, _, _, _, _, h, _⟩ := HR.out; exact h
      obtain ⟨b, cc, rfl, -⟩ := own_form' HO.out HNE.out
      have HAT := Lib.hid (IntsOwn.at (IntsOwn.mk HO.out HXN.out))
      go_wp2
      go_ret
      exact ⟨⟨_, xs, rfl, by rw [HXN.out]; omega, HAT.out⟩, hE⟩
theorem DrawDirection_any (p : Option Addr) (n c : Nat) (w0 : World) (hs : BytesAt w0 p n c) (hlt : ∀ b off, 0 < n → p = some ⟨b, off, none⟩ → b < w0.heap.size) :
    Calls Try.prog 12 #[.slice p n c] w0 fun e w' => (∃ v xs, e = .returned v ∧ xs.length ≤ 6 ∧ IntsAt w' v xs) ∧ Ext w0 w' := by
  go_enter Try.func12, Try.ntmps12
  go_wp2_with (fail)
  refine (DrawCarryLevel_any p n c _ hs hlt).mono ?_
  rintro e w1 ⟨⟨v, xs, rfl, hl, hx⟩, hE⟩
  go_wp2
  go_ret
  exact ⟨⟨v, xs, rfl, hl, hx⟩, hE⟩
end Go.Proofs.Ytclgbnilfipobab

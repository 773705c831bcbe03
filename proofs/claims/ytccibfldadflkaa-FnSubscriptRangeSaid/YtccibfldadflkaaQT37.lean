/- The texts G4 N8, joined. No statement is proved here. -/
import Derived.Test.YtccibfldadflkaaQT41
import Derived.Test.YtccibfldadflkaaQT30
import Derived.Test.YtccibfldadflkaaQT17
import Derived.Test.YtccibfldadflkaaQT46
import Derived.Test.YtccibfldadflkaaQT28
/- What a valid program is, and its instances and cells, on plain lists. No statement is proved here. -/
namespace Go.Proofs.Ytccibfldadflkaa
open Go.RowKit

end Go.Proofs.Ytccibfldadflkaa

/- Contracts: nests with constant bounds. -/
namespace Go.Proofs.Ytccibfldadflkaa
open Go.RowKit

/-- The number of coefficients up to the last one, of the first n, that isn't 0. -/
def depK (xs : List Int) : Nat → Int
  | 0 => 0
  | k + 1 => if xs.getD k 0 ≠ 0 then ((k + 1 : Nat) : Int) else depK xs k
theorem depK_yes {xs : List Int} {k : Nat} {x : Int} (hx : xs[k]? = some x) (h : x ≠ 0) : depK xs (k + 1) = ((k + 1 : Nat) : Int) := by
  unfold depK; rw [List.getD_eq_getElem?_getD, hx]; simp [h]
theorem depK_no {xs : List Int} {k : Nat} (hx : xs[k]? = some 0) : depK xs (k + 1) = depK xs k := by
  conv => lhs; unfold depK
  rw [List.getD_eq_getElem?_getD, hx]; simp
theorem depK_four (a b c d : Int) : depK [a, b, c, d] 4 = dep4 a b c d := by
  simp only [depK, dep4, List.getD_cons_zero, List.getD_cons_succ]; rfl

set_option maxHeartbeats 1000000 in
theorem l1Depth_any (p : Option Addr) (n c : Nat) (xs : List Int) (k : Int) (w : World) (hn : xs.length = n) (hs : IntsAt w (.slice p n c) xs) :
    Calls Try.prog 36 #[.agg #[.slice p n c, .int .i64 k]] w fun e w' => e = .returned (.int .i64 (depK xs n)) ∧ Ext w w' := by
  have hm : n ≤ 9223372036854775807 := by obtain ⟨_, _, hv, hm, _⟩ := hs; rw [← hn]; exact hm
  have HS := Lib.hid hs; have HN := Lib.hid hn; clear hs hn
  go_enter Try.func36, Try.ntmps36
  go_wp2
  go_loopw [3, 4] (fun d i wr => ∃ k' : Nat, k' ≤ n ∧ i = .int .i64 k' ∧ d = .int .i64 (depK xs k') ∧ wr.heap[w.heap.size]? = some (.cells #[.slice p n c, .int .i64 k] 36 (0, 0)) ∧ Ext w wr) (fun _ i _ => n - (intOf i).toNat)
  case atStart => exact ⟨0, by omega, rfl, rfl, blk_at rfl, (Ext.refl w).alloc _⟩
  case round =>
    obtain ⟨j, hj, rfl, rfl, hB, hE⟩ := hrel
    obtain ⟨d0, d1, -, -⟩ := blk2 hB
    have HB := Lib.hid hB; clear hB
    by_cases hlt : j < n
    · obtain ⟨x, hx⟩ := get_some (xs := xs) (k := j) (by rw [HN.out]; exact hlt)
      obtain ⟨p', cc, hv, _, hc⟩ := (HS.out.ext hE).get
      cases hv
      obtain ⟨b, off, rfl, c0, hb⟩ := hc j x hx
      have HX := Lib.hid hx; clear hx hc
      by_cases h0 : x = 0
      · subst h0
        go_wp2
        go_roundw
        case rel => exact ⟨j + 1, by omega, by go_num, by rw [depK_no HX.out], HB.out, hE⟩
        case measure => simp [intOf]; omega
      · have hne : (x != 0) = true := by simp [h0]
        have H0 := Lib.hid h0; clear h0
        go_wp2
        go_roundw
        case rel => exact ⟨j + 1, by omega, by go_num, by rw [depK_yes HX.out H0.out]; go_num, HB.out, hE⟩
        case measure => simp [intOf]; omega
    · have e : j = n := by omega
      subst e
      go_wp2
      go_ret
      exact ⟨rfl, hE⟩

end Go.Proofs.Ytccibfldadflkaa

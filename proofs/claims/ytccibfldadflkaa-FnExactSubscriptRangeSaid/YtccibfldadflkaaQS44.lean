/- The texts S3 N8, joined. No statement is proved here. -/
import Derived.Test.YtccibfldadflkaaQS26
import Derived.Test.YtccibfldadflkaaQS30
/- Statements: sizes, copies. No statement is proved here. -/
namespace Go.Proofs.Ytccibfldadflkaa
open Go.RowKit

/-- The value reads as a statement: array and subscripts of the element, expression. -/
def StR (w : World) (v : Value) (arr : ByteArray) (subs : List Aff) (e : Ex) : Prop := ∃ s cs, v = .agg (.string arr :: s :: cs).toArray ∧ arr.size ≤ 9223372036854775807 ∧ AffsAt w s subs ∧ ExR w cs e
theorem StR.ext {w w' : World} {v : Value} {arr : ByteArray} {subs : List Aff} {e : Ex} (h : StR w v arr subs e) (hE : Ext w w') : StR w' v arr subs e := by
  obtain ⟨s, cs, h1, h2, h3, h4⟩ := h
  exact ⟨s, cs, h1, h2, h3.ext hE, h4.ext hE⟩
theorem StR.parts {w : World} {v : Value} {arr : ByteArray} {subs : List Aff} {e : Ex} (h : StR w v arr subs e) :
    ∃ q1 d1 q2 d2 q3 d3 q4 d4, v = .agg #[.string arr, .slice q1 subs.length d1, .int .i64 e.kind, .int .i64 e.num, .slice q2 e.ix.1.length d2, .int .i64 e.ix.2, .string e.arr, .slice q3 e.subs.length d3, .slice q4 e.kids.length d4] ∧
      arr.size ≤ 9223372036854775807 ∧ AffsAt w (.slice q1 subs.length d1) subs ∧ ExR w [.int .i64 e.kind, .int .i64 e.num, .slice q2 e.ix.1.length d2, .int .i64 e.ix.2, .string e.arr, .slice q3 e.subs.length d3, .slice q4 e.kids.length d4] e := by
  obtain ⟨s, cs, rfl, h2, h3, h4⟩ := h
  obtain ⟨q1, d1, rfl, -⟩ := h3.form
  obtain ⟨u, s, v, rfl, hu, -, hs, hv⟩ := h4.parts
  obtain ⟨q2, d2, rfl, -, -⟩ := hu
  obtain ⟨q3, d3, rfl, -⟩ := hs.form
  obtain ⟨q4, d4, rfl, -⟩ := hv.form
  exact ⟨q1, d1, q2, d2, q3, d3, q4, d4, rfl, h2, h3, h4⟩
/-- A statement of the call's own. -/
def StO (B : Nat) (w : World) (v : Value) (arr : ByteArray) (subs : List Aff) (e : Ex) : Prop := ∃ s cs, v = .agg (.string arr :: s :: cs).toArray ∧ arr.size ≤ 9223372036854775807 ∧ AffsOwn B w s subs ∧ ExO B w cs e
theorem StO.at {B : Nat} {w : World} {v : Value} {arr : ByteArray} {subs : List Aff} {e : Ex} (h : StO B w v arr subs e) : StR w v arr subs e := by
  obtain ⟨s, cs, h1, h2, h3, h4⟩ := h
  exact ⟨s, cs, h1, h2, h3.at, h4.at⟩

end Go.Proofs.Ytccibfldadflkaa

/- Contracts: nests with constant bounds. -/
namespace Go.Proofs.Ytccibfldadflkaa
open Go.RowKit

/-- The number of coefficients up to the last one, of the first n, that isn't 0. -/
def depK (xs : List Int) : Nat → Int
  | 0 => 0
  | k + 1 => if xs.getD k 0 ≠ 0 then ((k + 1 : Nat) : Int) else depK xs k
theorem depK_yes {xs : List Int} {k : Nat} {x : Int} (hx : xs[k]? = some x) (h : x ≠ 0) : depK xs (k + 1) = ((k + 1 : Nat) : Int) := by
  unfold depK; rw [List.getD_eq_getElem?_getD, hx]; simp [h]
theorem depK_no {xs : List Int} {k : Nat} (hx : xs[k]? = some 0) : depK xs (k + 1) = depK xs k := by
  conv => lhs; unfold depK
  rw [List.getD_eq_getElem?_getD, hx]; simp
theorem depK_four (a b c d : Int) : depK [a, b, c, d] 4 = dep4 a b c d := by
  simp only [depK, dep4, List.getD_cons_zero, List.getD_cons_succ]; rfl

set_option maxHeartbeats 1000000 in
theorem l1Depth_any (p : Option Addr) (n c : Nat) (xs : List Int) (k : Int) (w : World) (hn : xs.length = n) (hs : IntsAt w (.slice p n c) xs) :
    Calls Try.prog 36 #[.agg #[.slice p n c, .int .i64 k]] w fun e w' => e = .returned (.int .i64 (depK xs n)) ∧ Ext w w' := by
  have hm : n ≤ 9223372036854775807 := by obtain ⟨_, _, hv, hm, _⟩ := hs; rw [← hn]; exact hm
  have HS := Lib.hid hs; have HN := Lib.hid hn; clear hs hn
  go_enter Try.func36, Try.ntmps36
  go_wp2
  go_loopw [3, 4] (fun d i wr => ∃ k' : Nat, k' ≤ n ∧ i = .int .i64 k' ∧ d = .int .i64 (depK xs k') ∧ wr.heap[w.heap.size]? = some (.cells #[.slice p n c, .int .i64 k] 36 (0, 0)) ∧ Ext w wr) (fun _ i _ => n - (intOf i).toNat)
  case atStart => exact ⟨0, by omega, rfl, rfl, blk_at rfl, (Ext.refl w).alloc _⟩
  case round =>
    obtain ⟨j, hj, rfl, rfl, hB, hE⟩ := hrel
    obtain ⟨d0, d1, -, -⟩ := blk2 hB
    have HB := Lib.hid hB; clear hB
    by_cases hlt : j < n
    · obtain ⟨x, hx⟩ := get_some (xs := xs) (k := j) (by rw [HN.out]; exact hlt)
      obtain ⟨p', cc, hv, _, hc⟩ := (HS.out.ext hE).get
      cases hv
      obtain ⟨b, off, rfl, c0, hb⟩ := hc j x hx
      have HX := Lib.hid hx; clear hx hc
      by_cases h0 : x = 0
      · subst h0
        go_wp2
        go_roundw
        case rel => exact ⟨j + 1, by omega, by go_num, by rw [depK_no HX.out], HB.out, hE⟩
        case measure => simp [intOf]; omega
      · have hne : (x != 0) = true := by simp [h0]
        have H0 := Lib.hid h0; clear h0
        go_wp2
        go_roundw
        case rel => exact ⟨j + 1, by omega, by go_num, by rw [depK_yes HX.out H0.out]; go_num, HB.out, hE⟩
        case measure => simp [intOf]; omega
    · have e : j = n := by omega
      subst e
      go_wp2
      go_ret
      exact ⟨rfl, hE⟩

end Go.Proofs.Ytccibfldadflkaa

/- Contracts: greatest and least values of lists of ints; values of the bounds of a side. -/
import Derived.Test.YtabkhiakekammaaN6
namespace Go.Proofs.Ytabkhiakekammaa
open Go.RowKit

def maxL : List Int → Int
  | [] => 0
  | x :: r => r.foldl (fun a b => if a < b then b else a) x
def minL : List Int → Int
  | [] => 0
  | x :: r => r.foldl (fun a b => if b < a then b else a) x
theorem maxL_next {l : List Int} (h : l ≠ []) (v : Int) : maxL (l ++ [v]) = if maxL l < v then v else maxL l := by
  cases l with
  | nil => exact absurd rfl h
  | cons x r => simp only [maxL, List.cons_append, List.foldl_append, List.foldl_cons, List.foldl_nil]; rfl
theorem minL_next {l : List Int} (h : l ≠ []) (v : Int) : minL (l ++ [v]) = if v < minL l then v else minL l := by
  cases l with
  | nil => exact absurd rfl h
  | cons x r => simp only [minL, List.cons_append, List.foldl_append, List.foldl_cons, List.foldl_nil]; rfl
theorem maxL_take {l : List Int} {k : Nat} {v : Int} (hk : 0 < k) (hv : l[k]? = some v) : maxL (l.take (k + 1)) = if maxL (l.take k) < v then v else maxL (l.take k) := by
  rw [take_next hv, maxL_next]
  intro h
  have h1 := congrArg List.length h
  rw [List.length_take, List.length_nil] at h1
  have h2 := (List.getElem?_eq_some_iff.1 hv).1
  omega
theorem minL_take {l : List Int} {k : Nat} {v : Int} (hk : 0 < k) (hv : l[k]? = some v) : minL (l.take (k + 1)) = if v < minL (l.take k) then v else minL (l.take k) := by
  rw [take_next hv, minL_next]
  intro h
  have h1 := congrArg List.length h
  rw [List.length_take, List.length_nil] at h1
  have h2 := (List.getElem?_eq_some_iff.1 hv).1
  omega
theorem maxL_one {l : List Int} {v : Int} (hv : l[0]? = some v) : maxL (l.take 1) = v := by
  cases l with
  | nil => simp at hv
  | cons x r => simp at hv; simp [maxL, hv]
theorem minL_one {l : List Int} {v : Int} (hv : l[0]? = some v) : minL (l.take 1) = v := by
  cases l with
  | nil => simp at hv
  | cons x r => simp at hv; simp [minL, hv]

set_option maxHeartbeats 1000000 in
theorem slicesMax_any (s : Value) (xs : List Int) (w : World) (hs : IntsAt w s xs) (hne : 0 < xs.length) :
    Calls Try.prog 119 #[s] w fun e w' => e = .returned (.int .i64 (maxL xs)) ∧ w = w' := by
  obtain ⟨p, c, rfl, hm, hc⟩ := hs.get
  generalize hn : xs.length = n at *
  have HN := Lib.hid hn; clear hn
  obtain ⟨x0, hx0⟩ := get_some (xs := xs) (k := 0) (by rw [HN.out]; exact hne)
  obtain ⟨b0, off0, rfl, c0, hb0⟩ := hc 0 x0 hx0
  have HC := Lib.hid hc; have HX0 := Lib.hid hx0; clear hc hx0 hs
  rw [Nat.add_zero] at c0
  go_enter Try.func119, Try.ntmps119
  go_wp2
  go_loop [3, 4] (fun m i => ∃ k : Nat, 1 ≤ k ∧ k ≤ n ∧ i = .int .i64 k ∧ m = .int .i64 (maxL (xs.take k))) (fun _ i => n - (intOf i).toNat)
  case atStart => exact ⟨1, by omega, by omega, rfl, by rw [maxL_one HX0.out]⟩
  case round =>
    obtain ⟨k, hk1, hk, rfl, rfl⟩ := hrel
    by_cases hlt : k < n
    · obtain ⟨x, hx⟩ := get_some (xs := xs) (k := k) (by rw [HN.out]; exact hlt)
      obtain ⟨b, off, e, cx, hb⟩ := HC.out k x hx
      cases e
      have hM := maxL_take (by omega) hx
      have HX := Lib.hid hx; have HM := Lib.hid hM; clear hx hM
      generalize maxL (xs.take k) = m at *
      by_cases hlm : m < x
      · go_wp2
        go_round
        case rel => exact ⟨k + 1, by omega, by omega, by go_num, by rw [HM.out]; simp [hlm]⟩
        case measure => simp [intOf]; omega
      · go_wp2
        go_round
        case rel => exact ⟨k + 1, by omega, by omega, by go_num, by rw [HM.out]; simp [hlm]⟩
        case measure => simp [intOf]; omega
    · have e : k = n := by omega
      subst e
      go_wp2
      go_ret
      exact ⟨ret_int (by rw [List.take_of_length_le (by rw [HN.out]; omega)]), rfl⟩

set_option maxHeartbeats 1000000 in
theorem slicesMin_any (s : Value) (xs : List Int) (w : World) (hs : IntsAt w s xs) (hne : 0 < xs.length) :
    Calls Try.prog 121 #[s] w fun e w' => e = .returned (.int .i64 (minL xs)) ∧ w = w' := by
  obtain ⟨p, c, rfl, hm, hc⟩ := hs.get
  generalize hn : xs.length = n at *
  have HN := Lib.hid hn; clear hn
  obtain ⟨x0, hx0⟩ := get_some (xs := xs) (k := 0) (by rw [HN.out]; exact hne)
  obtain ⟨b0, off0, rfl, c0, hb0⟩ := hc 0 x0 hx0
  have HC := Lib.hid hc; have HX0 := Lib.hid hx0; clear hc hx0 hs
  rw [Nat.add_zero] at c0
  go_enter Try.func121, Try.ntmps121
  go_wp2
  go_loop [3, 4] (fun m i => ∃ k : Nat, 1 ≤ k ∧ k ≤ n ∧ i = .int .i64 k ∧ m = .int .i64 (minL (xs.take k))) (fun _ i => n - (intOf i).toNat)
  case atStart => exact ⟨1, by omega, by omega, rfl, by rw [minL_one HX0.out]⟩
  case round =>
    obtain ⟨k, hk1, hk, rfl, rfl⟩ := hrel
    by_cases hlt : k < n
    · obtain ⟨x, hx⟩ := get_some (xs := xs) (k := k) (by rw [HN.out]; exact hlt)
      obtain ⟨b, off, e, cx, hb⟩ := HC.out k x hx
      cases e
      have hM := minL_take (by omega) hx
      have HX := Lib.hid hx; have HM := Lib.hid hM; clear hx hM
      generalize minL (xs.take k) = m at *
      by_cases hlm : x < m
      · go_wp2
        go_round
        case rel => exact ⟨k + 1, by omega, by omega, by go_num, by rw [HM.out]; simp [hlm]⟩
        case measure => simp [intOf]; omega
      · go_wp2
        go_round
        case rel => exact ⟨k + 1, by omega, by omega, by go_num, by rw [HM.out]; simp [hlm]⟩
        case measure => simp [intOf]; omega
    · have e : k = n := by omega
      subst e
      go_wp2
      go_ret
      exact ⟨ret_int (by rw [List.take_of_length_le (by rw [HN.out]; omega)]), rfl⟩

/-- The value of a bound at a point. -/
def evalA (ps : List Int) (a : Aff) : Int := evalK a.1 ps a.2 ps.length

set_option maxHeartbeats 2000000 in
theorem valuesAt_any (p : Option Addr) (n c : Nat) (zs : List Aff) (s : Value) (ps : List Int) (w : World) (hn : zs.length = n) (hs : AffsAt w (.slice p n c) zs) (ht : IntsAt w s ps) (hv : ∀ a ∈ zs, affValidB a.1 a.2 = true) (hp : ptB ps = true) (h2 : n ≤ 2) :
    Calls Try.prog 120 #[.slice p n c, s] w fun e w' => ∃ q d, e = .returned (.slice q n d) ∧ IntsOwn w.heap.size w' (.slice q n d) (zs.map (evalA ps)) ∧ Ext w w' := by
  obtain ⟨i0, hi, hz0, hz1, hz2⟩ := info_parts infoInt
  have HS := Lib.hid hs; have HT := Lib.hid ht; have HN := Lib.hid hn; have HV := Lib.hid hv; have HP := Lib.hid hp; clear hs ht hn hv hp
  obtain ⟨pq, cq, rfl, hmq, -⟩ := HT.out
  have HVL : Hid ((zs.map (evalA ps)).length = n) := by show _ = n; rw [List.length_map]; exact HN.out
  go_enter Try.func120, Try.ntmps120
  go_wp2
  go_loopw [5, 12] (fun v i wr => ∃ k : Nat, k ≤ n ∧ i = .int .i64 k ∧ wr.ownsRow w.heap.size 3 1 v k (((zs.map (evalA ps)).take k).map (Value.int .i64)) ∧ Ext w wr) (fun _ i _ => n - (intOf i).toNat)
  case atStart => exact ⟨0, by omega, rfl, by simpa using World.ownsRow_nil _ _ _ _, Ext.refl w⟩
  case round =>
    obtain ⟨k, hk, rfl, hown, hE⟩ := hrel
    by_cases hlt : k < n
    · obtain ⟨x, hx⟩ := get_some (xs := zs) (k := k) (by rw [HN.out]; exact hlt)
      obtain ⟨b, off, q, m, rfl, c0, c1, hb, hr⟩ := (HS.out.ext hE).elem hx
      have hva := HV.out x (List.mem_of_getElem? hx)
      have hy : (zs.map (evalA ps))[k]? = some (evalA ps x) := by rw [List.getElem?_map, hx]; rfl
      obtain ⟨x1, x2⟩ := x
      dsimp only at *
      obtain ⟨xa, xb, xc, xd, rfl, -⟩ := valid_four hva
      have HX := Lib.hid hx; have HR := Lib.hid hr; have HVA := Lib.hid hva; have HY := Lib.hid hy; have HO := Lib.hid hown; clear hx hr hva hy hown
      go_wp2_with (fail)
      refine (linearOf_yes _ xa xb xc xd x2 _ (HR.out.ext ((Ext.refl wr).alloc _)) HVA.out).mono ?_
      rintro e W1 ⟨rfl, hE1⟩
      have g1 := ((Ext.refl wr).alloc _).trans hE1
      clear hE1 c0 c1
      go_wp2_with (fail)
      refine (at_any xa xb xc xd x2 _ ps _ (HT.out.ext ((hE.trans g1).alloc _)) HVA.out HP.out).mono ?_
      rintro e W3 ⟨rfl, hE3⟩
      have g3 := (g1.alloc _).trans hE3
      have HYE : Hid (evalA ps ([xa, xb, xc, xd], x2) = evalK [xa, xb, xc, xd] ps x2 ps.length) := Lib.hid rfl
      clear hE3
      generalize evalK [xa, xb, xc, xd] ps x2 ps.length = y at *
      have hown3 := ownsRow_ext HO.out g3
      have hbs : w.heap.size ≤ W3.heap.size := (hE.trans g3).size_le
      go_wp2_with (at_builtin; refine wpList_append_own _ rfl (.tmp 21) (.tmp 25) 23 rfl w.heap.size 3 i0 (.int .i64 0) 1 8 Try.underlying23 hi hz0 hz1 hz2 rfl (by decide) _ k _ rfl (hown3.alloc _) ⟨W3.heap.size, 0, none⟩ 1 1 [.int .i64 y] rfl rfl ?c1 ?c2 ?c3 ?c4 ?c5 ?_)
      case c1 =>
        intro j u hj
        match j, hj with
        | 0, hj => simp at hj; subst hj; simp [Addr.add]
      case c2 => intro u hu; simp at hu; subst hu; rfl
      case c3 => unfold maxLen; omega
      case c4 => omega
      case c5 => simp; omega
      intro v' w5 hown' hgrow _
      have E5 := ((hE.trans g3).alloc (.cells #[.int .i64 y] 3)).grown hgrow (fun b hb => (hown3.lt b hb).1)
      have HO5 : Hid (w5.ownsRow w.heap.size 3 1 v' (k + 1) (((zs.map (evalA ps)).take (k + 1)).map (Value.int .i64))) := by
        show w5.ownsRow _ _ _ _ _ _
        rw [take_next HY.out, List.map_append, List.map_cons, List.map_nil, HYE.out]
        simpa [List.map_take] using hown'
      clear hown' hgrow hown3
      go_wp2
      go_roundw
      case rel => exact ⟨k + 1, by omega, by go_num, HO5.out, E5⟩
      case measure => simp [intOf]; omega
    · have e : k = n := by omega
      subst e
      rw [List.take_of_length_le (by rw [HVL.out]; omega)] at hown
      go_wp2
      go_ret
      rcases hown.2 with ⟨rfl, hn⟩ | ⟨g, cap, cur, rfl, _⟩
      · subst hn
        exact ⟨none, 0, rfl, IntsOwn.mk hown HVL.out, hE⟩
      · exact ⟨_, _, rfl, IntsOwn.mk hown HVL.out, hE⟩
end Go.Proofs.Ytabkhiakekammaa

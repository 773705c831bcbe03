/- Contracts: the order of points. -/
import Derived.Test.YtkcbnkgegopkhaaA3
namespace Go.Proofs.Ytkcbnkgegopkhaa
open Go.RowKit

/-- The first list is before the second one. -/
def lexB : List Int → List Int → Bool
  | [], [] => false
  | [], _ :: _ => true
  | _ :: _, [] => false
  | a :: p, b :: q => if a = b then lexB p q else decide (a < b)
theorem lexB_nil (q : List Int) : lexB [] q = decide (0 < q.length) := by cases q <;> simp [lexB]
theorem lexB_nil' (p : List Int) : lexB p [] = false := by cases p <;> rfl
theorem lexB_drop {p q : List Int} {k : Nat} (h : p.take k = q.take k) : lexB p q = lexB (p.drop k) (q.drop k) := by
  induction k generalizing p q with
  | zero => simp
  | succ k ih =>
    match p, q, h with
    | [], [], _ => simp
    | [], b :: q, h => simp at h
    | a :: p, [], h => simp at h
    | a :: p, b :: q, h =>
      simp only [List.take_succ_cons, List.cons.injEq] at h
      rw [List.drop_succ_cons, List.drop_succ_cons, ← ih h.2, h.1]
      simp [lexB]
theorem drop_at {p : List Int} {k : Nat} {x : Int} (h : p[k]? = some x) : p.drop k = x :: p.drop (k + 1) := by
  obtain ⟨hl, rfl⟩ := List.getElem?_eq_some_iff.1 h
  exact List.drop_eq_getElem_cons hl
theorem lexB_at {p q : List Int} {k : Nat} {x y : Int} (h : p.take k = q.take k) (hx : p[k]? = some x) (hy : q[k]? = some y) (hne : x ≠ y) : lexB p q = decide (x < y) := by
  rw [lexB_drop h, drop_at hx, drop_at hy]; simp [lexB, hne]
theorem lexB_end1 {p q : List Int} {k : Nat} (h : p.take k = q.take k) (hk : p.length = k) : lexB p q = decide (p.length < q.length) := by
  rw [lexB_drop h, List.drop_of_length_le (by omega), lexB_nil, List.length_drop, hk]; congr 1; apply propext; omega
theorem lexB_end2 {p q : List Int} {k : Nat} (h : p.take k = q.take k) (hk : q.length = k) : lexB p q = false := by
  rw [lexB_drop h, List.drop_of_length_le (l := q) (by omega), lexB_nil']

def cmp3 (x y : Int) : Int := if x < y then -1 else if y < x then 1 else 0

set_option maxHeartbeats 1000000 in
theorem isNaN_any (x : Int) (w : World) : Calls Try.prog 126 #[.int .i64 x] w fun e w' => e = .returned (.bool false) ∧ w = w' := by
  go_enter Try.func126, Try.ntmps126
  go_wp2
  go_ret
  exact ⟨ret_bool (by simp), rfl⟩

set_option maxHeartbeats 1000000 in
theorem cmp_any (x y : Int) (w : World) : Calls Try.prog 96 #[.int .i64 x, .int .i64 y] w fun e w' => e = .returned (.int .i64 (cmp3 x y)) ∧ w = w' := by
  have hc : x < y ∨ y < x ∨ x = y := by omega
  rcases hc with h | h | h
  · go_enter Try.func96, Try.ntmps96
    go_wp2_with (fail)
    refine (isNaN_any x _).mono ?_
    rintro e w1 ⟨rfl, rfl⟩
    go_wp2_with (fail)
    refine (isNaN_any y _).mono ?_
    rintro e w1 ⟨rfl, rfl⟩
    go_wp2
    go_ret
    exact ⟨ret_int (by simp [cmp3, h]), rfl⟩
  · go_enter Try.func96, Try.ntmps96
    go_wp2_with (fail)
    refine (isNaN_any x _).mono ?_
    rintro e w1 ⟨rfl, rfl⟩
    go_wp2_with (fail)
    refine (isNaN_any y _).mono ?_
    rintro e w1 ⟨rfl, rfl⟩
    go_wp2
    go_ret
    exact ⟨ret_int (by unfold cmp3; rw [if_neg (by omega), if_pos h]), rfl⟩
  · subst h
    go_enter Try.func96, Try.ntmps96
    go_wp2_with (fail)
    refine (isNaN_any x _).mono ?_
    rintro e w1 ⟨rfl, rfl⟩
    go_wp2_with (fail)
    refine (isNaN_any x _).mono ?_
    rintro e w1 ⟨rfl, rfl⟩
    go_wp2
    go_ret
    exact ⟨ret_int (by simp [cmp3]), rfl⟩

set_option maxHeartbeats 1000000 in
theorem slicesCompare_any (s t : Value) (xs ys : List Int) (w : World) (hs : IntsAt w s xs) (ht : IntsAt w t ys) :
    Calls Try.prog 59 #[s, t] w fun e w' => (∃ z : Int, e = .returned (.int .i64 z) ∧ decide (z < 0) = lexB xs ys) ∧ w = w' := by
  obtain ⟨p, c, rfl, hm, hc⟩ := hs.get
  obtain ⟨q, d, rfl, hm2, hd⟩ := ht.get
  clear hs ht
  generalize hlen : xs.length = n at *
  generalize hlen' : ys.length = n' at *
  have HL := Lib.hid hlen; have HN := Lib.hid hlen'; clear hlen hlen'
  have HC := Lib.hid hc; have HD := Lib.hid hd; clear hc hd
  go_enter Try.func59, Try.ntmps59
  go_wp2
  go_loop [11] (fun i => ∃ k : Nat, k ≤ n ∧ k ≤ n' ∧ i = .int .i64 k ∧ xs.take k = ys.take k) (fun i => n - (intOf i).toNat)
  case atStart => exact ⟨0, by omega, by omega, rfl, by simp⟩
  case round =>
    obtain ⟨k, hk, hk', rfl, htk⟩ := hrel
    have HT := Lib.hid htk; clear htk
    by_cases hlt : k < n
    · obtain ⟨x, hx⟩ := get_some (xs := xs) (k := k) (by rw [HL.out]; exact hlt)
      obtain ⟨b, off, rfl, hck, hbl⟩ := HC.out k x hx
      by_cases hlt' : k < n'
      · obtain ⟨y, hy⟩ := get_some (xs := ys) (k := k) (by rw [HN.out]; exact hlt')
        obtain ⟨b2, off2, rfl, hdk, hbl2⟩ := HD.out k y hy
        have HX := Lib.hid hx; clear hx
        have HY := Lib.hid hy; clear hy
        go_wp2_with (fail)
        refine (cmp_any x y _).mono ?_
        rintro e w1 ⟨rfl, rfl⟩
        by_cases hxy : x = y
        · have h0 : cmp3 x y = 0 := by simp [cmp3, hxy]
          rw [h0]
          go_wp2
          go_round
          case rel => exact ⟨k + 1, by omega, by omega, by go_num, take_eq_next HX.out HY.out HT.out hxy⟩
          case measure => simp [intOf]; omega
        · have hb : (cmp3 x y != 0) = true := by simp only [cmp3]; split <;> (try split) <;> simp <;> omega
          have hz : decide (cmp3 x y < 0) = decide (x < y) := by simp only [cmp3]; split <;> (try split) <;> simp <;> omega
          have HXY := Lib.hid hxy; have HZ := Lib.hid hz; clear hxy hz
          generalize cmp3 x y = z at *
          go_wp2
          go_ret
          exact ⟨⟨z, rfl, by rw [HZ.out, lexB_at HT.out HX.out HY.out HXY.out]⟩, rfl⟩
      · have e : k = n' := by omega
        subst e
        clear hx
        go_wp2
        go_ret
        exact ⟨⟨1, rfl, by rw [lexB_end2 HT.out HN.out]; rfl⟩, rfl⟩
    · have e : k = n := by omega
      subst e
      by_cases hlt' : k < n'
      · have hd1 : decide ((k : Int) < n') = true := by simp; omega
        go_wp2
        go_ret
        exact ⟨⟨-1, rfl, by rw [lexB_end1 HT.out HL.out, HL.out, HN.out]; simp; omega⟩, rfl⟩
      · have hd1 : decide ((k : Int) < n') = false := by simp; omega
        go_wp2
        go_ret
        exact ⟨⟨0, rfl, by rw [lexB_end1 HT.out HL.out, HL.out, HN.out]; simp; omega⟩, rfl⟩

set_option maxHeartbeats 1000000 in
theorem LexLess_any (s t : Value) (xs ys : List Int) (w : World) (hs : IntsAt w s xs) (ht : IntsAt w t ys) :
    Calls Try.prog 24 #[s, t] w fun e w' => e = .returned (.bool (lexB xs ys)) ∧ w = w' := by
  have HS := Lib.hid hs; have HT := Lib.hid ht; clear hs ht
  obtain ⟨p, c, rfl, -, -⟩ := HS.out
  obtain ⟨q, d, rfl, -, -⟩ := HT.out
  go_enter Try.func24, Try.ntmps24
  go_wp2_with (fail)
  refine (slicesCompare_any _ _ xs ys _ HS.out HT.out).mono ?_
  rintro e w1 ⟨⟨z, rfl, hz⟩, rfl⟩
  have HZ := Lib.hid hz; clear hz
  go_wp2
  go_ret
  exact ⟨ret_bool HZ.out, rfl⟩
end Go.Proofs.Ytkcbnkgegopkhaa

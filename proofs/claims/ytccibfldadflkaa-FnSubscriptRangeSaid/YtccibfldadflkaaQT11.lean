/- The texts Li, joined. No statement is proved here. -/
import Derived.Test.YtccibfldadflkaaQT10
import Derived.Maps.AppendAt
/- Rows of linear expressions of the call's own; contract: linears (valid expressions as linear ones). No statement is proved here. -/
namespace Go.Proofs.Ytccibfldadflkaa
open Go.RowKit

def lin5 (x : Aff) : List Value := x.1.map (Value.int .i64) ++ [.int .i64 x.2]
def lins (xs : List Aff) : List Value := xs.flatMap lin5
/-- A row of linear expressions, of the call's own. -/
def LinsOwn (B : Nat) (w : World) (v : Value) (xs : List Aff) : Prop := w.ownsRow B 79 5 v xs.length (lins xs) ∧ ∀ x ∈ xs, affValidB x.1 x.2 = true
theorem LinsOwn.nil (B : Nat) (w : World) : LinsOwn B w (.slice none 0 0) [] := ⟨World.ownsRow_nil _ _ _ _, by simp⟩
theorem LinsOwn.ext {B : Nat} {w w' : World} {v : Value} {xs : List Aff} (h : LinsOwn B w v xs) (hE : Ext w w') : LinsOwn B w' v xs := ⟨ownsRow_ext h.1 hE, h.2⟩
theorem LinsOwn.weak {B B' : Nat} {w : World} {v : Value} {xs : List Aff} (h : LinsOwn B w v xs) (hB : B' ≤ B) : LinsOwn B' w v xs := ⟨ownsRow_weak h.1 hB, h.2⟩
theorem LinsOwn.setOld {B : Nat} {w : World} {v : Value} {xs : List Aff} (h : LinsOwn B w v xs) {p : Addr} (hp : p.block < B) (u : Value) : LinsOwn B (w.setCell p u) v xs := ⟨ownsRow_setCell_below h.1 hp u, h.2⟩
theorem LinsOwn.form {B : Nat} {w : World} {v : Value} {xs : List Aff} (h : LinsOwn B w v xs) : ∃ p c, v = .slice p xs.length c := by
  rcases h.1.2 with ⟨rfl, hn0⟩ | ⟨g, cap, cur, e, _⟩
  · exact ⟨none, 0, by rw [hn0]⟩
  · exact ⟨_, cap, e⟩
theorem infoLin : (Try.prog.info? 79).map (fun i => (i.zero, i.size, i.bytes)) = some (some (.agg #[.int .i64 0, .int .i64 0, .int .i64 0, .int .i64 0, .int .i64 0]), 5, 40) := by kernel_rfl
theorem lin5_len {x : Aff} (h : affValidB x.1 x.2 = true) : (lin5 x).length = 5 := by
  obtain ⟨xs, k⟩ := x
  obtain ⟨a, b, c, d, rfl, _⟩ := valid_four h
  rfl
set_option linter.unusedVariables false in
theorem lins_get : ∀ {xs : List Aff} (hv : ∀ x ∈ xs, affValidB x.1 x.2 = true) {i : Nat} {x : Aff}, xs[i]? = some x → ∀ (j : Nat) (u : Value), (lin5 x)[j]? = some u → (lins xs)[i * 5 + j]? = some u
  | [], _, _, _, h, _, _, _ => by simp at h
  | y :: r, hv, 0, x, h, j, u, hu => by
    simp only [List.getElem?_cons_zero, Option.some.injEq] at h
    subst h
    have hl := lin5_len (hv y (by simp))
    have hj : j < 5 := by
      obtain ⟨hlt, -⟩ := List.getElem?_eq_some_iff.1 hu
      omega
    show (lin5 y ++ lins r)[0 * 5 + j]? = some u
    rw [Nat.zero_mul, Nat.zero_add, List.getElem?_append_left (by omega)]
    exact hu
  | y :: r, hv, i + 1, x, h, j, u, hu => by
    rw [List.getElem?_cons_succ] at h
    have hl := lin5_len (hv y (by simp))
    show (lin5 y ++ lins r)[(i + 1) * 5 + j]? = some u
    rw [List.getElem?_append_right (by omega), hl, show (i + 1) * 5 + j - 5 = i * 5 + j by omega]
    exact lins_get (fun z hz => hv z (by simp [hz])) h j u hu
theorem LinsOwn.get {B : Nat} {w : World} {p : Option Addr} {n c : Nat} {xs : List Aff} (h : LinsOwn B w (.slice p n c) xs) {i : Nat} {x : Aff} (hi : xs[i]? = some x) :
    ∃ g a b c d k, x = ([a, b, c, d], k) ∧ affValidB [a, b, c, d] k = true ∧ p = some ⟨g, 0, none⟩ ∧ g < w.heap.size ∧ w.cell? ⟨g, i * 5, none⟩ = some (.int .i64 a) ∧ w.cell? ⟨g, i * 5 + 1, none⟩ = some (.int .i64 b) ∧ w.cell? ⟨g, i * 5 + 2, none⟩ = some (.int .i64 c) ∧ w.cell? ⟨g, i * 5 + 3, none⟩ = some (.int .i64 d) ∧ w.cell? ⟨g, i * 5 + 4, none⟩ = some (.int .i64 k) := by
  obtain ⟨ho, hv⟩ := h
  have hx := hv x (List.mem_of_getElem? hi)
  obtain ⟨xs', k⟩ := x
  obtain ⟨a, b, c', d, rfl, _⟩ := valid_four hx
  have ho2 := ho.2
  rcases ho2 with ⟨e, hn⟩ | ⟨g, cap, cur, e, _, hg, _⟩
  · rw [List.eq_nil_of_length_eq_zero hn] at hi; simp at hi
  · cases e
    have hc := World.ownsRow.cells ho (g := g) rfl
    have cell : ∀ j u, (lin5 ([a, b, c', d], k))[j]? = some u → w.cell? ⟨g, i * 5 + j, none⟩ = some u := fun j u hu => by
      have h := hc _ _ (lins_get hv hi j u hu)
      have hadd : (⟨g, 0, none⟩ : Addr).add (i * 5 + j) = ⟨g, i * 5 + j, none⟩ := by unfold Addr.add; split <;> simp_all
      rw [hadd] at h
      exact h
    exact ⟨g, a, b, c', d, k, rfl, hx, rfl, lt_of_block hg, cell 0 _ rfl, cell 1 _ rfl, cell 2 _ rfl, cell 3 _ rfl, cell 4 _ rfl⟩

theorem lins_next {xs : List Aff} {k : Nat} {a b c d e : Int} (hx : xs[k]? = some ([a, b, c, d], e)) : lins (xs.take (k + 1)) = lins (xs.take k) ++ [.int .i64 a, .int .i64 b, .int .i64 c, .int .i64 d, .int .i64 e] := by
  rw [take_next hx]
  unfold lins
  rw [List.flatMap_append]
  simp [lin5]

set_option maxRecDepth 100000 in
set_option maxHeartbeats 2000000 in
theorem linears_any (p : Option Addr) (n c : Nat) (zs : List Aff) (w : World) (hn : zs.length = n) (hs : AffsAt w (.slice p n c) zs) (hv : ∀ a ∈ zs, affValidB a.1 a.2 = true) (h2 : n ≤ 1000) :
    Calls Try.prog 114 #[.slice p n c] w fun e w' => ∃ q d, e = .returned (.slice q n d) ∧ LinsOwn w.heap.size w' (.slice q n d) zs ∧ Ext w w' := by
  obtain ⟨i0, hi, hz0, hz1, hz2⟩ := info_parts infoLin
  have HS := Lib.hid hs; have HN := Lib.hid hn; have HV := Lib.hid hv; clear hs hn hv
  go_enter Try.func114, Try.ntmps114
  go_wp2
  go_loopw [3, 10] (fun v i wr => ∃ k : Nat, k ≤ n ∧ i = .int .i64 k ∧ wr.ownsRow w.heap.size 79 5 v k (lins (zs.take k)) ∧ Ext w wr) (fun _ i _ => n - (intOf i).toNat)
  case atStart => exact ⟨0, by omega, rfl, World.ownsRow_nil _ _ _ _, Ext.refl w⟩
  case round =>
    obtain ⟨k, hk, rfl, hown, hE⟩ := hrel
    by_cases hlt : k < n
    · obtain ⟨x, hx⟩ := get_some (xs := zs) (k := k) (by rw [HN.out]; exact hlt)
      obtain ⟨b, off, q, m, rfl, c0, c1, hb, hr⟩ := (HS.out.ext hE).elem hx
      have hva := HV.out x (List.mem_of_getElem? hx)
      obtain ⟨x1, x2⟩ := x
      dsimp only at *
      obtain ⟨xa, xb, xc, xd, rfl, -⟩ := valid_four hva
      have HX := Lib.hid hx; have HR := Lib.hid hr; have HVA := Lib.hid hva; have HO := Lib.hid hown; clear hx hr hva hown
      go_wp2_with (fail)
      refine (linearOf_yes _ xa xb xc xd x2 _ (HR.out.ext ((Ext.refl wr).alloc _)) HVA.out).mono ?_
      rintro e W1 ⟨rfl, hE1⟩
      have g1 := ((Ext.refl wr).alloc _).trans hE1
      clear hE1 c0 c1
      have hown1 := ownsRow_ext HO.out g1
      have hbs : w.heap.size ≤ W1.heap.size := (hE.trans g1).size_le
      go_wp2_with (at_builtin; refine wpList_append_own _ rfl (.tmp 19) (.tmp 21) 103 rfl w.heap.size 79 i0 (.agg #[.int .i64 0, .int .i64 0, .int .i64 0, .int .i64 0, .int .i64 0]) 5 40 Try.underlying103 hi hz0 hz1 hz2 rfl (by decide) _ k _ rfl ((hown1.alloc _).alloc _) ⟨W1.heap.size + 1, 0, none⟩ 1 1 [.int .i64 xa, .int .i64 xb, .int .i64 xc, .int .i64 xd, .int .i64 x2] rfl rfl ?c1 ?c2 ?c3 ?c4 ?c5 ?_)
      case c1 =>
        intro j u hj
        match j, hj with
        | 0, hj => simp at hj; subst hj; simp [Addr.add, go_sem]
        | 1, hj => simp at hj; subst hj; simp [Addr.add, go_sem]
        | 2, hj => simp at hj; subst hj; simp [Addr.add, go_sem]
        | 3, hj => simp at hj; subst hj; simp [Addr.add, go_sem]
        | 4, hj => simp at hj; subst hj; simp [Addr.add, go_sem]
      case c2 => intro u hu; simp at hu; rcases hu with rfl | rfl | rfl | rfl | rfl <;> rfl
      case c3 => unfold maxLen; omega
      case c4 => omega
      case c5 => simp; omega
      intro v' w5 hown' hgrow _
      have E5 := (((hE.trans g1).alloc (.cells #[.int .i64 xa, .int .i64 xb, .int .i64 xc, .int .i64 xd, .int .i64 x2] 79)).alloc (.cells #[.int .i64 xa, .int .i64 xb, .int .i64 xc, .int .i64 xd, .int .i64 x2] 79)).grown hgrow (fun b hb => (hown1.lt b hb).1)
      have HO5 : Hid (w5.ownsRow w.heap.size 79 5 v' (k + 1) (lins (zs.take (k + 1)))) := by
        show w5.ownsRow _ _ _ _ _ _
        rw [lins_next HX.out]
        exact hown'
      clear hown' hgrow hown1
      go_wp2
      go_roundw
      case rel => exact ⟨k + 1, by omega, by go_num, HO5.out, E5⟩
      case measure => simp [intOf]; omega
    · have e : k = n := by omega
      subst e
      rw [List.take_of_length_le (by rw [HN.out]; omega)] at hown
      go_wp2
      go_ret
      rcases hown.2 with ⟨rfl, hn⟩ | ⟨g, cap, cur, rfl, _⟩
      · subst hn
        exact ⟨none, 0, rfl, ⟨by rw [HN.out]; exact hown, HV.out⟩, hE⟩
      · exact ⟨_, _, rfl, ⟨by rw [HN.out]; exact hown, HV.out⟩, hE⟩
end Go.Proofs.Ytccibfldadflkaa

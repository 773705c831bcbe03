/- The texts Q1 X1, joined. No statement is proved here. -/
import Derived.Test.YtccibfldadflkaaQV33
import Derived.Test.YtccibfldadflkaaQV05
import Derived.Test.YtccibfldadflkaaQV43
import Derived.Test.YtccibfldadflkaaQV02
import Derived.Test.YtccibfldadflkaaQV01
/- Rows told apart by the types of their blocks; a row of pairs, one pair more. -/
namespace Go.Proofs.Ytccibfldadflkaa
open Go.RowKit

/-- The block that may turn holds cells of the type T. -/
def Tag (w : World) (row : Option Nat) (T : TypeId) : Prop := ∀ g, row = some g → ∃ cs fz, w.heap[g]? = some (.cells cs T fz)
theorem Tag.none (w : World) (T : TypeId) : Tag w none T := fun _ h => by cases h
theorem Tag.blk {w : World} {g : Nat} {cs : Array Value} {T : TypeId} {fz : Nat × Nat} (h : w.heap[g]? = some (.cells cs T fz)) : Tag w (some g) T := fun _ e => by cases e; exact ⟨_, _, h⟩
theorem own_tag {B size n : Nat} {e : TypeId} {w : World} {v : Value} {xs : List Value} (h : w.ownsRow B e size v n xs) : Tag w v.ownBlock e := by
  intro g hg
  rcases h.2 with ⟨rfl, _⟩ | ⟨g', cap, cur, rfl, _, hgh, _⟩
  · simp [Value.ownBlock] at hg
  · have : g' = g := Option.some.inj hg
    subst this
    exact ⟨_, _, hgh⟩
theorem row_tag {B size n : Nat} {e T : TypeId} {w w' : World} {v : Value} {xs : List Value} {row : Option Nat} (h : w.ownsRow B e size v n xs) (hg : w.grownBy w' row) (ht : Tag w row T) (hT : T ≠ e) : w'.ownsRow B e size v n xs := by
  refine ⟨h.1, ?_⟩
  rcases h.2 with hn | ⟨g, cap, cur, hv, hbg, hgh, r⟩
  · exact .inl hn
  · refine .inr ⟨g, cap, cur, hv, hbg, ?_, r⟩
    refine grownBy_blk hg hgh (fun e' => ?_)
    obtain ⟨cs, fz, h2⟩ := ht g e'.symm
    rw [hgh] at h2
    cases h2
    exact hT rfl
theorem blk_tag {T T' : TypeId} {w w' : World} {row : Option Nat} {g : Nat} {cs : Array Value} {fz : Nat × Nat} (h : w.heap[g]? = some (.cells cs T' fz)) (hg : w.grownBy w' row) (ht : Tag w row T) (hT : T ≠ T') : w'.heap[g]? = some (.cells cs T' fz) :=
  grownBy_blk hg h (fun e' => by
    obtain ⟨cs', fz', h2⟩ := ht g e'.symm
    rw [h] at h2
    cases h2
    exact hT rfl)
theorem IntsOwn.tag {B : Nat} {T : TypeId} {w w' : World} {v : Value} {xs : List Int} {row : Option Nat} (h : IntsOwn B w v xs) (hg : w.grownBy w' row) (ht : Tag w row T) (hT : T ≠ 3) : IntsOwn B w' v xs := row_tag h hg ht hT
theorem AffsOwn.tag {B : Nat} {T : TypeId} {w w' : World} {v : Value} {xs : List Aff} {row : Option Nat} (h : AffsOwn B w v xs) (hg : w.grownBy w' row) (ht : Tag w row T) (hT : T ≠ 3) (hT2 : T ≠ 36) : AffsOwn B w' v xs :=
  PairsOwn.map' h (fun _ h => row_tag h hg ht hT2) (fun h => ⟨h.1.tag hg ht hT, h.2⟩)
theorem LoopsOwn.tag {B : Nat} {T : TypeId} {w w' : World} {v : Value} {xs : List Lp} {row : Option Nat} (h : LoopsOwn B w v xs) (hg : w.grownBy w' row) (ht : Tag w row T) (hT : T ≠ 3) (hT2 : T ≠ 36) (hT3 : T ≠ 75) : LoopsOwn B w' v xs :=
  PairsOwn.map' h (fun _ h => row_tag h hg ht hT3) (fun h => ⟨AffsOwn.tag h.1 hg ht hT hT2, AffsOwn.tag h.2 hg ht hT hT2⟩)

/-- One pair more, put behind the row where it lies or in a new block. -/
theorem PairsOwn.push {α : Type} {T : TypeId} {R : Nat → World → Value → Value → α → Prop} (hR : ∀ {B w w' u0 u1 x row}, R B w u0 u1 x → w.grownBy w' row → Tag w row T → R B w' u0 u1 x)
    {B n : Nat} {w w' : World} {v v' u0 u1 : Value} {xs : List α} {x : α} {vs : List Value} (hn : xs.length = n)
    (he : ∀ i y, xs[i]? = some y → ∃ t0 t1, vs[i * 2]? = some t0 ∧ vs[i * 2 + 1]? = some t1 ∧ R B w t0 t1 y) (hvl : vs.length = n * 2)
    (ho' : w'.ownsRow B T 2 v' (n + 1) (vs ++ [u0, u1])) (hg : w.grownBy w' v.ownBlock) (ht : Tag w v.ownBlock T) (hx : R B w u0 u1 x) : PairsOwn T R B w' v' (xs ++ [x]) := by
  refine ⟨vs ++ [u0, u1], by rw [List.length_append, hn]; exact ho', fun i y hi => ?_⟩
  rcases Nat.lt_or_ge i xs.length with hlt | hge
  · rw [List.getElem?_append_left hlt] at hi
    obtain ⟨t0, t1, h0, h1, h2⟩ := he i y hi
    exact ⟨t0, t1, by rw [List.getElem?_append_left (by omega)]; exact h0, by rw [List.getElem?_append_left (by omega)]; exact h1, hR h2 hg ht⟩
  · rw [List.getElem?_append_right hge] at hi
    have hi0 : i - xs.length = 0 := by
      rcases Nat.eq_zero_or_pos (i - xs.length) with h | h
      · exact h
      · rw [List.getElem?_eq_none (by simp; omega)] at hi; cases hi
    rw [hi0] at hi
    simp at hi
    subst hi
    have hin : i = n := by omega
    subst hin
    exact ⟨u0, u1, by rw [List.getElem?_append_right (by omega)]; simp [hvl], by rw [List.getElem?_append_right (by omega), hvl]; simp [show i * 2 + 1 - i * 2 = 1 by omega], hR hx hg ht⟩
theorem AffO.grow {B : Nat} {w w' : World} {u0 u1 : Value} {x : Aff} {row : Option Nat} (h : AffO B w u0 u1 x) (hg : w.grownBy w' row) (ht : Tag w row 36) : AffO B w' u0 u1 x := ⟨h.1.tag hg ht (by decide), h.2⟩
theorem LoopO.grow {B : Nat} {w w' : World} {u0 u1 : Value} {x : Lp} {row : Option Nat} (h : LoopO B w u0 u1 x) (hg : w.grownBy w' row) (ht : Tag w row 75) : LoopO B w' u0 u1 x := ⟨AffsOwn.tag h.1 hg ht (by decide) (by decide), AffsOwn.tag h.2 hg ht (by decide) (by decide)⟩

theorem underSliceAff : Try.prog.underlying 49 = some (.slice 36) := Try.underlying49
theorem pair_cells {L : Nat} {w : World} {u0 u1 : Value} {t : TypeId} (hL : L = w.heap.size) : ∀ j u, [u0, u1][j]? = some u → (w.alloc (.cells #[u0, u1] t)).cell? ((⟨L, 0, none⟩ : Addr).add j) = some u := by
  subst hL
  intro q u hq
  match q, hq with
  | 0, hq => simp at hq; subst hq; simp [Addr.add]
  | 1, hq => simp at hq; subst hq; simp [Addr.add, go_sem]

theorem PairsOwn.slice {α : Type} {T : TypeId} {R : Nat → World → Value → Value → α → Prop} {B : Nat} {w : World} {v : Value} {xs : List α} (h : PairsOwn T R B w v xs) : ∃ p c, v = .slice p xs.length c := by
  obtain ⟨vs, ho, -⟩ := h
  rcases ho.2 with ⟨rfl, hn⟩ | ⟨g, cap, cur, rfl, _⟩
  · exact ⟨none, 0, by rw [hn]⟩
  · exact ⟨_, _, rfl⟩
theorem AffsOwn.nil (B : Nat) (w : World) : AffsOwn B w (.slice none 0 0) [] := ⟨[], World.ownsRow_nil _ _ _ _, fun i x hi => by simp at hi⟩
/-- Lists of at most N expressions with four coefficients; nests of at most N loops with such sides. -/
def FourA (N : Nat) (zs : List Aff) : Prop := zs.length ≤ N ∧ ∀ a ∈ zs, a.1.length = 4
def FourL (N : Nat) (ls : List Lp) : Prop := ls.length ≤ N ∧ ∀ l ∈ ls, FourA N l.1 ∧ FourA N l.2
theorem FourA.mono {N M : Nat} {zs : List Aff} (h : FourA N zs) (hN : N ≤ M) : FourA M zs := ⟨by have := h.1; omega, h.2⟩
theorem FourL.mono {N M : Nat} {ls : List Lp} (h : FourL N ls) (hN : N ≤ M) : FourL M ls := ⟨by have := h.1; omega, fun l hl => ⟨(h.2 l hl).1.mono hN, (h.2 l hl).2.mono hN⟩⟩
theorem FourA.push {N : Nat} {zs : List Aff} {a : Aff} (h : FourA N zs) (ha : a.1.length = 4) : FourA (N + 1) (zs ++ [a]) :=
  ⟨by have := h.1; simp; omega, fun b hb => by rcases List.mem_append.1 hb with hb | hb; exact h.2 b hb; simp at hb; rw [hb]; exact ha⟩
theorem FourL.push {N : Nat} {ls : List Lp} {l : Lp} (h : FourL N ls) (h1 : FourA (N + 1) l.1) (h2 : FourA (N + 1) l.2) : FourL (N + 1) (ls ++ [l]) :=
  ⟨by have := h.1; simp; omega, fun b hb => by rcases List.mem_append.1 hb with hb | hb; exact (h.mono (by omega)).2 b hb; simp at hb; rw [hb]; exact ⟨h1, h2⟩⟩
end Go.Proofs.Ytccibfldadflkaa

/- Draws of statements: a text of a list, an access. No statement is proved here. -/
namespace Go.Proofs.Ytccibfldadflkaa
open Go.RowKit

set_option maxHeartbeats 1000000 in
theorem pickText_any (W : World) (g K b m : Nat) (xs : List ByteArray) (w : World) (hr : Rd W g K w) (hK : K ≤ 100000) (hm : xs.length = m) (h0 : 0 < m) (h1 : m ≤ 1000) (hb : w.heap[b]? = some (.cells (xs.map Value.string).toArray 9 (0, 0))) (hbg : b ≠ g) :
    Calls Try.prog 84 #[.pointer (some ⟨g, 0, none⟩), .slice (some ⟨b, 0, none⟩) m m] w fun e w' => (∃ x, e = .returned (.string x) ∧ x ∈ xs) ∧ Rd W g (K + 1) w' ∧ Dr w g w' := by
  have HR := Lib.hid hr; have HB := Lib.hid hb; have HM := Lib.hid hm; clear hr hb hm
  have hmi : (m : Int) ≤ 1000 := by omega
  go_enter Try.func84, Try.ntmps84
  go_wp2_with (fail)
  refine (pick_any W g K m _ HR.out hK (by omega)).mono ?_
  rintro e w1 ⟨⟨r, rfl, hlt⟩, h2, h3⟩
  have hrm : (r : Int) < (m : Int) := hlt (by omega)
  have hrn : r < m := by omega
  obtain ⟨x, hx⟩ := get_some (xs := xs) (k := r) (by rw [HM.out]; exact hrn)
  have hB1 := blk_dr HB.out h3 hbg
  have hc : w1.cell? ⟨b, r, none⟩ = some (.string x) := by
    rw [cell_of_row w1 b r _ 9 (0, 0) hB1]; simp [hx]
  have hr0 : (0 : Int) ≤ (r : Int) := by omega
  have H2 := Lib.hid h2; have H3 := Lib.hid h3; have HX := Lib.hid (List.mem_of_getElem? hx)
  clear h2 h3 hB1 hx hlt
  go_wp2
  go_ret
  exact ⟨⟨x, rfl, HX.out⟩, H2.out, H3.out⟩

theorem affs_dr {B g : Nat} {w w' : World} {v : Value} {xs : List Aff} (h : AffsOwn B w v xs) (hD : Dr w g w') (hB : g < B) : AffsOwn B w' v xs := PairsOwn.map' h (fun _ h => row_dr h hD hB) (fun h => ⟨row_dr h.1 hD hB, h.2⟩)
theorem unit_b {v : Int} {i : Nat} {a : Int} (h : (unitL v)[i]? = some a) : 0 ≤ a ∧ a ≤ 1 := by
  have hm := List.mem_of_getElem? h
  unfold unitL at hm
  rcases List.mem_or_eq_of_mem_set hm with h | h
  · simp at h; omega
  · omega
theorem zero_b {i : Nat} {a : Int} (h : ([0, 0, 0, 0] : List Int)[i]? = some a) : a = 0 := by
  have hm := List.mem_of_getElem? h
  simpa using hm
theorem comb_4 {xs ys : List Int} {x y : Int} (hx : xs.length = 4) (hy : ys.length = 4) : (comb xs x ys y).length = 4 := by simp [comb, hx, hy]

/-- An access under way. -/
structure ElSt (W w : World) (g K AB : Nat) (wc : World) (arr : ByteArray) (q : Option Addr) (i c : Nat) (subs : List Aff) : Prop where
  R : wc.heap[w.heap.size]? = some (.cells #[.string ⟨#[]⟩, .slice none 0 0] 51 (0, 0))
  A : wc.heap[AB]? = some (.cells #[.string arr, .slice q i c] 51 (0, 0))
  O : AffsOwn w.heap.size wc (.slice q i c) subs
  L : subs.length = i
  F : ∀ a ∈ subs, a.1.length = 4
  rd : Rd W g K wc
  dr : Dr w g wc
theorem ElSt.call {W w : World} {g K K' AB : Nat} {wc wd : World} {arr : ByteArray} {q : Option Addr} {i c : Nat} {subs : List Aff} (h : ElSt W w g K AB wc arr q i c subs) (hr : Rd W g K' wd) (hd : Dr wc g wd) (hg : g < w.heap.size) (hA : w.heap.size < AB) : ElSt W w g K' AB wd arr q i c subs :=
  ⟨blk_dr h.R hd (by omega), blk_dr h.A hd (by omega), affs_dr h.O hd hg, h.L, h.F, hr, h.dr.trans hd⟩
theorem ElSt.ext {W w : World} {g K AB : Nat} {wc wd : World} {arr : ByteArray} {q : Option Addr} {i c : Nat} {subs : List Aff} (h : ElSt W w g K AB wc arr q i c subs) (he : Ext wc wd) : ElSt W w g K AB wd arr q i c subs :=
  ⟨he.blk h.R, he.blk h.A, AffsOwn.ext h.O he, h.L, h.F, h.rd.ext he, h.dr.ext he⟩
theorem ElSt.mono {W w : World} {g K K' AB : Nat} {wc : World} {arr : ByteArray} {q : Option Addr} {i c : Nat} {subs : List Aff} (h : ElSt W w g K AB wc arr q i c subs) (hk : K ≤ K') : ElSt W w g K' AB wc arr q i c subs := { h with rd := h.rd.mono hk }
/-- Another block of the call's own is written: one that holds an expression's two cells. -/
theorem ElSt.setX {W w : World} {g K AB XB o : Nat} {wc : World} {arr : ByteArray} {q : Option Addr} {i c : Nat} {subs : List Aff} {u0 u1 : Value} (h : ElSt W w g K AB wc arr q i c subs) (hX : wc.heap[XB]? = some (.cells #[u0, u1] 36 (0, 0))) (hq : ∀ b, (Value.slice q i c).ownBlock = some b → b ≠ XB) (hg : g < w.heap.size) (hXB : w.heap.size ≤ XB) (u : Value) :
    ElSt W w g K AB (wc.setCell ⟨XB, o, none⟩ u) arr q i c subs := by
  have ht : Tag wc (some XB) 36 := Tag.blk hX
  have hgr := grown_set wc XB o u
  refine ⟨blk_tag h.R hgr ht (by decide), blk_tag h.A hgr ht (by decide), ?_, h.L, h.F, h.rd.set (by omega) u, h.dr.set hXB u⟩
  refine PairsOwn.map' h.O (fun vs hv => World.ownsRow.kept hv hgr ?_) (fun h => ⟨h.1.tag hgr ht (by decide), h.2⟩)
  cases hb : (Value.slice q i c).ownBlock with
  | none => exact .inl rfl
  | some b => exact .inr (fun e => hq b hb (Option.some.inj e))
theorem infoAff2 : (Try.prog.info? 36).map (fun i => (i.zero, i.size, i.bytes)) = some (some (.agg #[.slice none 0 0, .int .i64 0]), 2, 32) := by kernel_rfl

set_option linter.unusedVariables false in
set_option linter.unusedSimpArgs false in
set_option maxRecDepth 100000 in
set_option maxHeartbeats 8000000 in
theorem l3Elem_any (W : World) (g K d : Nat) (w : World) (hr : Rd W g K w) (hK : K ≤ 90000) (hd : d ≤ 4) :
    Calls Try.prog 86 #[.pointer (some ⟨g, 0, none⟩), .int .i64 d] w fun e w' => (∃ arr q n c subs, e = .returned (.agg #[.string arr, .slice q n c]) ∧ arr.size ≤ 1 ∧ subs.length = n ∧ FourA 2 subs ∧ AffsOwn w.heap.size w' (.slice q n c) subs) ∧ Rd W g (K + 12) w' ∧ Dr w g w' := by
  obtain ⟨i0, hi, hz0, hz1, hz2⟩ := info_parts infoAff2
  have hlg := hr.lt
  have HR := Lib.hid hr; clear hr
  go_enter Try.func86, Try.ntmps86
  go_wp2_with (fail)
  refine (pickText_any W g K (w.heap.size + 1) 4 [⟨#[65]⟩, ⟨#[66]⟩, ⟨#[65]⟩, ⟨#[67]⟩] _ (HR.out.ext (((Ext.refl w).alloc _).alloc _)) (by omega) rfl (by omega) (by omega) (blk_at (by simp)) (by omega)).mono ?_
  rintro e w1 ⟨⟨arr, rfl, harr⟩, h2, h3⟩
  have hsz : arr.size ≤ 1 := by simp only [List.mem_cons, List.not_mem_nil, or_false] at harr; rcases harr with h | h | h | h <;> rw [h] <;> decide
  have BR1 := blk_dr (blk_old (o := .cells #[.string ⟨#[65]⟩, .string ⟨#[66]⟩, .string ⟨#[65]⟩, .string ⟨#[67]⟩] 9) (blk_at (w := w) (g := w.heap.size) (o := .cells #[.string ⟨#[]⟩, .slice none 0 0] 51) rfl)) h3 (by omega)
  have hD1 : Dr w g w1 := (((Dr.refl w g).alloc _).alloc _).trans h3
  have hs1 : w.heap.size + 2 ≤ w1.heap.size := by have := h3.size; simpa using this
  obtain ⟨AB, hAB⟩ : ∃ a, w1.heap.size = a := ⟨_, rfl⟩
  obtain ⟨w2, hw2⟩ : ∃ W, w1.alloc (.cells #[.string arr, .slice none 0 0] 51) = W := ⟨_, rfl⟩
  have E12 : Ext w1 w2 := by rw [← hw2]; exact (Ext.refl w1).alloc _
  have ST2 : Hid (ElSt W w g (K + 1) AB w2 arr none 0 0 []) := Lib.hid ⟨E12.blk BR1, by rw [← hw2]; exact blk_at hAB.symm, AffsOwn.nil _ _, rfl, by simp, h2.ext E12, hD1.ext E12⟩
  have hA : w.heap.size < AB := by omega
  have HW2 := Lib.hid hw2; have HAB := Lib.hid hAB
  clear h2 h3 BR1 hD1 E12 harr hw2 hAB hs1 HR
  obtain ⟨bq, hbq⟩ : ∃ b, (arr.toList == [66]) = b := ⟨_, rfl⟩
  go_upto_if 16 with fail
  try rw [HAB.out]
  try rw [HW2.out]
  obtain ⟨a0, a1, -, -⟩ := blk2 ST2.out.A
  go_cut [6] (fun s6 wc => ∃ nn : Nat, 1 ≤ nn ∧ nn ≤ 2 ∧ s6 = .int .i64 nn ∧ wc = w2)
  case first =>
    cases bq with
    | true =>
      go_wp2_with (fail)
      go_meet
      exact ⟨2, by omega, by omega, rfl, rfl⟩
    | false =>
      go_wp2_with (fail)
      go_meet
      exact ⟨1, by omega, by omega, rfl, rfl⟩
  case rest =>
    obtain ⟨nn, hn1, hn2, rfl, rfl⟩ := hcut
    clear hbq a0 a1
    go_wp2
    go_loopw [7] (fun iv wr => ∃ (k : Nat) (q : Option Addr) (c : Nat) (subs : List Aff), k ≤ nn ∧ iv = .int .i64 k ∧ ElSt W w g (K + 1 + 5 * k) AB wr arr q k c subs) (fun iv _ => nn - (intOf iv).toNat)
    case atStart => exact ⟨0, _, _, _, by omega, rfl, ST2.out⟩
    case round =>
      obtain ⟨k, q, c, subs, hk, rfl, hST⟩ := hrel
      have ST := Lib.hid hST
      clear hST ST2
      by_cases hlt : k < nn
      · have hkI : (k : Int) < (nn : Int) := by omega
        go_wp2_with (fail)
        refine (num_any W g (K + 1 + 5 * k) wr.heap.size 4 [0, 1, 0, 2] _ (ST.out.rd.ext ((Ext.refl wr).alloc _)) (by omega) rfl (by omega) (by omega) (blk_at rfl) (by have := ST.out.dr.size; omega)).mono ?_
        rintro e w5 ⟨⟨x, rfl, -⟩, h2, h3⟩
        have ST5 := Lib.hid (ElSt.call (ST.out.ext ((Ext.refl wr).alloc _)) h2 h3 hlg hA)
        clear h2 h3 ST
        go_wp2_with (fail)
        refine (l1Const_any x w5).mono ?_
        rintro e w6 ⟨p6, c6, rfl, hv, hE⟩
        obtain ⟨XB, hXB⟩ : ∃ a, w6.heap.size = a := ⟨_, rfl⟩
        obtain ⟨w7, hw7⟩ : ∃ W, w6.alloc (.cells #[.slice p6 4 c6, .int .i64 x] 36) = W := ⟨_, rfl⟩
        have E67 : Ext w6 w7 := by rw [← hw7]; exact (Ext.refl w6).alloc _
        have X7 : Hid (w7.heap[XB]? = some (.cells #[.slice p6 4 c6, .int .i64 x] 36 (0, 0))) := Lib.hid (by rw [← hw7]; exact blk_at hXB.symm)
        have hs5 : w.heap.size ≤ w5.heap.size := ST5.out.dr.size
        have hXw : w.heap.size ≤ XB := by have := hE.size_le; omega
        have O7 := Lib.hid ((hv.weak hs5).ext E67)
        have ST7 := Lib.hid (ST5.out.ext (hE.trans E67))
        have HQ7 : Hid (∀ b, (Value.slice q k c).ownBlock = some b → b ≠ XB) := Lib.hid (fun b hb e => by
          have h0 := ST5.out.O
          obtain ⟨vs, ho, -⟩ := h0
          have := (ho.lt b hb).2
          have := hE.size_le
          omega)
        have HW7 := Lib.hid hw7; have HXB := Lib.hid hXB
        clear hv hE E67 ST5 hw7 hXB
        by_cases hd0 : d = 0
        · have hd1 : ¬ (0 : Int) < (d : Int) := by omega
          have hd2 : decide (0 < d) = false := by simp; omega
          clear hd0
          go_upto_region 12 with (fail)
          try rw [HXB.out]
          try rw [HW7.out]
          have Y9 : Hid (([0, 0, 0, 0] : List Int).length = 4) := Lib.hid rfl
          have ST9 := ST7; have X9 := X7; have O9 := O7
          clear ST7 X7 O7
          have hs9 := ST9.out.dr.size
          have HVS := ST9.out.O
          obtain ⟨vs, ho, he⟩ := HVS
          have hO9 := ownsRow_ext ho ((Ext.refl w7).alloc (.cells #[.slice p6 4 c6, .int .i64 x] 36))
          rw [ST9.out.L] at hO9
          have HHE := Lib.hid he; have HO9 := Lib.hid hO9
          obtain ⟨t0, t1, -, -⟩ := blk2 X9.out
          obtain ⟨aa0, aa1, -, af1⟩ := blk2 ST9.out.A
          clear ho he hO9
          go_wp2_with (at_builtin; refine wpList_append_own_at _ rfl (.tmp 47) (.tmp 49) 49 rfl w.heap.size 36 i0 (.agg #[.slice none 0 0, .int .i64 0]) 2 32 underSliceAff hi hz0 hz1 hz2 rfl (by decide) (.slice q k c) k vs rfl HO9.out ⟨w7.heap.size, 0, none⟩ 1 1 [.slice p6 4 c6, .int .i64 x] rfl rfl ?c1 ?c2 ?c3 ?c4 ?c5 ?_)
          case c1 => exact pair_cells rfl
          case c2 => intro u hu; simp at hu; rcases hu with rfl | rfl <;> rfl
          case c3 => unfold maxLen; omega
          case c4 => omega
          case c5 => simp; omega
          intro v' w4 hown' hgrow _ hat
          obtain ⟨q4, d4, rfl⟩ : ∃ q4 d4, v' = .slice q4 (k + 1) d4 := by
            rcases hown'.2 with ⟨rfl, hn0⟩ | ⟨g', cap, cur, e, _⟩
            · exact absurd hn0 (by omega)
            · exact ⟨_, cap, e⟩
          have htag := own_tag HO9.out
          have E10 : Ext w7 (w7.alloc (.cells #[.slice p6 4 c6, .int .i64 x] 36)) := (Ext.refl w7).alloc _
          have HPUSH : Hid (AffsOwn w.heap.size w4 (.slice q4 (k + 1) d4) (subs ++ [([0, 0, 0, 0], x)])) := Lib.hid (PairsOwn.push (R := AffO) (fun h a b => AffO.grow h a b) ST9.out.L (fun i y hy => by obtain ⟨u0, u1, e0, e1, e2⟩ := HHE.out i y hy; exact ⟨u0, u1, e0, e1, ⟨e2.1.ext E10, e2.2⟩⟩) HO9.out.1 hown' hgrow htag ⟨O9.out.ext E10, rfl⟩)
          have A4 := blk_tag (E10.blk ST9.out.A) hgrow htag (by decide)
          have R4 := blk_tag (E10.blk ST9.out.R) hgrow htag (by decide)
          have hob : ∀ b, (Value.slice q k c).ownBlock = some b → w.heap.size ≤ b := fun b hb => (HO9.out.lt b hb).1
          have D4 : Dr w g w4 := (ST9.out.dr.ext E10).fresh hgrow (fun j hj => hob j hj)
          have H4 : Rd W g (K + 1 + 5 * k + 1) w4 := (ST9.out.rd.ext E10).beside hgrow (fun j hj => by have := hob j hj; omega)
          obtain ⟨z0, z1, -, zf⟩ := blk2 A4
          have hset := grown_set w4 AB 1 (.slice q4 (k + 1) d4)
          have htA : Tag w4 (some AB) 51 := Tag.blk A4
          have HST : Hid (ElSt W w g (K + 1 + 5 * k + 1) AB (w4.setCell ⟨AB, 1, none⟩ (.slice q4 (k + 1) d4)) arr q4 (k + 1) d4 (subs ++ [([0, 0, 0, 0], x)])) := Lib.hid
            ⟨(Below.heap_setCell _ _ _ _ (show w.heap.size ≠ AB by omega)).trans R4, blk2_set1'' A4 _, AffsOwn.tag HPUSH.out hset htA (by decide) (by decide), by rw [List.length_append, ST9.out.L]; rfl, fun a ha => by rcases List.mem_append.1 ha with h | h; exact ST9.out.F a h; simp at h; subst h; exact Y9.out, H4.set (by omega) _, D4.set (by omega) _⟩
          clear hown' hgrow htag hob HHE HO9 HPUSH R4 D4 H4 hset htA aa0 aa1 af1 t0 t1 A4 E10
          go_wp2
          go_roundw
          case rel => exact ⟨k + 1, _, _, _, by omega, by go_num, HST.out.mono (by omega)⟩
          case measure => simp [intOf]; omega
        · have hdI : (0 : Int) < (d : Int) := by omega
          go_wp2_with (fail)
          try rw [HXB.out]
          try rw [HW7.out]
          refine (pick_any W g (K + 1 + 5 * k + 1) 5 w7 ST7.out.rd (by omega) (by omega)).mono ?_
          rintro e w8 ⟨⟨r, rfl, -⟩, h2, h3⟩
          have ST8 := Lib.hid (ElSt.call ST7.out h2 h3 hlg hA); have X8 := Lib.hid (blk_dr X7.out h3 (by omega)); have O8 := Lib.hid (show IntsOwn w.heap.size w8 (.slice p6 4 c6) [0, 0, 0, 0] from row_dr O7.out h3 hlg)
          clear h2 h3 ST7 X7 O7
          go_upto_if 32 with fail
          go_cut [9] (fun s9 wc => ∃ (p9 : Option Addr) (c9 : Nat) (x9 : Int) (y9 : List Int), ElSt W w g (K + 1 + 5 * k + 5) AB wc arr q k c subs ∧ wc.heap[XB]? = some (.cells #[.slice p9 4 c9, .int .i64 x9] 36 (0, 0)) ∧ IntsOwn w.heap.size wc (.slice p9 4 c9) y9 ∧ y9.length = 4)
          case first =>
            by_cases hr0 : r = 0
            · subst hr0
              go_wp2_with (fail)
              go_meet
              exact ⟨_, _, _, _, ST8.out.mono (by omega), X8.out, O8.out, rfl⟩
            · have hrI : (0 : Int) < (r : Int) := by omega
              go_wp2_with (fail)
              refine (pick_any W g (K + 1 + 5 * k + 1 + 1) d w8 ST8.out.rd (by omega) (by omega)).mono ?_
              rintro e w10 ⟨⟨v, rfl, hv⟩, h2, h3⟩
              have hvd : (v : Int) < d := hv (by omega)
              have ST10 := Lib.hid (ElSt.call ST8.out h2 h3 hlg hA); have X10 := Lib.hid (blk_dr X8.out h3 (by omega))
              clear h2 h3 ST8 X8 O8 hv
              go_wp2_with (fail)
              refine (l1Var_any v w10 (by omega) (by omega)).mono ?_
              rintro e w11 ⟨p11, c11, rfl, hv11, hE11⟩
              have ST11 := Lib.hid (ST10.out.ext hE11); have X11 := Lib.hid (hE11.blk X10.out)
              have hg11 : g < w10.heap.size := by have := ST10.out.dr.size; omega
              have V11 := Lib.hid (hv11.ext ((Ext.refl w11).alloc (.cells #[.int .i64 1, .int .i64 1, .int .i64 1, .int .i64 2, .int .i64 (-1)] 3)))
              clear hE11 ST10 X10 hv11
              go_wp2_with (fail)
              refine (num_any W g (K + 1 + 5 * k + 1 + 1 + 1) w11.heap.size 5 [1, 1, 1, 2, -1] _ (ST11.out.rd.ext ((Ext.refl w11).alloc _)) (by omega) rfl (by omega) (by omega) (blk_at rfl) (by have := ST11.out.dr.size; omega)).mono ?_
              rintro e w12 ⟨⟨y, rfl, hym⟩, h2, h3⟩
              have hy2 : -1 ≤ y ∧ y ≤ 2 := by simp at hym; omega
              have ST12 := Lib.hid (ElSt.call (ST11.out.ext ((Ext.refl w11).alloc _)) h2 h3 hlg hA); have X12 := Lib.hid (blk_dr (blk_old X11.out) h3 (by omega)); have V12 := Lib.hid (show IntsOwn w10.heap.size w12 (.slice p11 4 c11) (unitL v) from row_dr V11.out h3 hg11)
              have V13 := Lib.hid (V12.out.ext ((Ext.refl w12).alloc (.cells #[.int .i64 0, .int .i64 1, .int .i64 0, .int .i64 0, .int .i64 2] 3)))
              clear h2 h3 ST11 X11 hym V11 V12
              go_wp2_with (fail)
              refine (num_any W g (K + 1 + 5 * k + 1 + 1 + 1 + 1) w12.heap.size 5 [0, 1, 0, 0, 2] _ (ST12.out.rd.ext ((Ext.refl w12).alloc _)) (by omega) rfl (by omega) (by omega) (blk_at rfl) (by have := ST12.out.dr.size; omega)).mono ?_
              rintro e w13 ⟨⟨z, rfl, hzm⟩, h2, h3⟩
              have hz2' : 0 ≤ z ∧ z ≤ 2 := by simp at hzm; omega
              have ST13 := Lib.hid (ElSt.call (ST12.out.ext ((Ext.refl w12).alloc _)) h2 h3 hlg hA); have X13 := Lib.hid (blk_dr (blk_old X12.out) h3 (by omega)); have V14 := Lib.hid (show IntsOwn w10.heap.size w13 (.slice p11 4 c11) (unitL v) from row_dr V13.out h3 hg11)
              clear h2 h3 ST12 X12 hzm V13
              go_wp2_with (fail)
              refine (l1Const_any z w13).mono ?_
              rintro e w14 ⟨p14, c14, rfl, hv14, hE14⟩
              have ST14 := Lib.hid (ST13.out.ext hE14); have X14 := Lib.hid (hE14.blk X13.out); have V15 := Lib.hid (V14.out.ext hE14).at; have Z14 := Lib.hid hv14.at
              clear hE14 hv14 ST13 X13 V14
              go_wp2_with (fail)
              refine (l1Combine_any (.slice p11 4 c11) (.slice p14 4 c14) (unitL v) [0, 0, 0, 0] 0 z y 1 w14 V15.out Z14.out (unitL_len v) rfl (by omega) (fun i a b h1 h2 => by
                have e1 := unit_b h1
                have e2 := zero_b h2
                rcases (show a = 0 ∨ a = 1 by omega) with rfl | rfl <;> omega)).mono ?_
              rintro e w15 ⟨p15, c15, rfl, hv15, hE15⟩
              have ST15 := Lib.hid (ST14.out.ext hE15); have X15 := Lib.hid (hE15.blk X14.out); have O15 := Lib.hid (hv15.weak (B' := w.heap.size) ST14.out.dr.size)
              have Y15 : Hid ((comb (unitL v) y [0, 0, 0, 0] 1).length = 4) := Lib.hid (comb_4 (unitL_len v) rfl)
              obtain ⟨x0, x1, xf0, xf1⟩ := blk2 X15.out
              have S1 := ElSt.setX (o := 0) ST15.out X15.out HQ7.out hlg hXw (.slice p15 4 c15)
              have X16 := blk2_set0' (c := .slice p15 4 c15) X15.out
              have S2 := ElSt.setX (o := 1) S1 X16 HQ7.out hlg hXw (.int .i64 z)
              have X17 := blk2_set1'' X16 (.int .i64 z)
              have O16 := (O15.out.tag (grown_set w15 XB 0 (.slice p15 4 c15)) (Tag.blk X15.out) (by decide)).tag (grown_set _ XB 1 (.int .i64 z)) (Tag.blk X16) (by decide)
              have HS2 := Lib.hid S2; have HX17 := Lib.hid X17; have HO16 := Lib.hid O16
              clear hv15 hE15 ST14 X14 V15 Z14 ST15 X15 O15 S1 S2 X16 X17 O16
              go_wp2_with (fail)
              go_meet
              exact ⟨_, _, _, _, HS2.out.mono (by omega), HX17.out, HO16.out, Y15.out⟩
          case rest =>
            obtain ⟨p9, c9, x9, y9, hst9, hx9, ho9, hy9⟩ := hcut
            have ST9 := Lib.hid hst9; have X9 := Lib.hid hx9; have O9 := Lib.hid ho9; have Y9 := Lib.hid hy9
            clear hst9 hx9 ho9 hy9 ST8 X8 O8
            have hs9 := ST9.out.dr.size
            have HVS := ST9.out.O
            obtain ⟨vs, ho, he⟩ := HVS
            have hO9 := ownsRow_ext ho ((Ext.refl wc).alloc (.cells #[.slice p9 4 c9, .int .i64 x9] 36))
            rw [ST9.out.L] at hO9
            have HHE := Lib.hid he; have HO9 := Lib.hid hO9
            obtain ⟨t0, t1, -, -⟩ := blk2 X9.out
            obtain ⟨aa0, aa1, -, af1⟩ := blk2 ST9.out.A
            clear ho he hO9
            go_wp2_with (at_builtin; refine wpList_append_own_at _ rfl (.tmp 47) (.tmp 49) 49 rfl w.heap.size 36 i0 (.agg #[.slice none 0 0, .int .i64 0]) 2 32 underSliceAff hi hz0 hz1 hz2 rfl (by decide) (.slice q k c) k vs rfl HO9.out ⟨wc.heap.size, 0, none⟩ 1 1 [.slice p9 4 c9, .int .i64 x9] rfl rfl ?c1 ?c2 ?c3 ?c4 ?c5 ?_)
            case c1 => exact pair_cells rfl
            case c2 => intro u hu; simp at hu; rcases hu with rfl | rfl <;> rfl
            case c3 => unfold maxLen; omega
            case c4 => omega
            case c5 => simp; omega
            intro v' w4 hown' hgrow _ hat
            obtain ⟨q4, d4, rfl⟩ : ∃ q4 d4, v' = .slice q4 (k + 1) d4 := by
              rcases hown'.2 with ⟨rfl, hn0⟩ | ⟨g', cap, cur, e, _⟩
              · exact absurd hn0 (by omega)
              · exact ⟨_, cap, e⟩
            have htag := own_tag HO9.out
            have E10 : Ext wc (wc.alloc (.cells #[.slice p9 4 c9, .int .i64 x9] 36)) := (Ext.refl wc).alloc _
            have HPUSH : Hid (AffsOwn w.heap.size w4 (.slice q4 (k + 1) d4) (subs ++ [(y9, x9)])) := Lib.hid (PairsOwn.push (R := AffO) (fun h a b => AffO.grow h a b) ST9.out.L (fun i y hy => by obtain ⟨u0, u1, e0, e1, e2⟩ := HHE.out i y hy; exact ⟨u0, u1, e0, e1, ⟨e2.1.ext E10, e2.2⟩⟩) HO9.out.1 hown' hgrow htag ⟨O9.out.ext E10, rfl⟩)
            have A4 := blk_tag (E10.blk ST9.out.A) hgrow htag (by decide)
            have R4 := blk_tag (E10.blk ST9.out.R) hgrow htag (by decide)
            have hob : ∀ b, (Value.slice q k c).ownBlock = some b → w.heap.size ≤ b := fun b hb => (HO9.out.lt b hb).1
            have D4 : Dr w g w4 := (ST9.out.dr.ext E10).fresh hgrow (fun j hj => hob j hj)
            have H4 : Rd W g (K + 1 + 5 * k + 5) w4 := (ST9.out.rd.ext E10).beside hgrow (fun j hj => by have := hob j hj; omega)
            obtain ⟨z0, z1, -, zf⟩ := blk2 A4
            have hset := grown_set w4 AB 1 (.slice q4 (k + 1) d4)
            have htA : Tag w4 (some AB) 51 := Tag.blk A4
            have HST : Hid (ElSt W w g (K + 1 + 5 * k + 5) AB (w4.setCell ⟨AB, 1, none⟩ (.slice q4 (k + 1) d4)) arr q4 (k + 1) d4 (subs ++ [(y9, x9)])) := Lib.hid
              ⟨(Below.heap_setCell _ _ _ _ (show w.heap.size ≠ AB by omega)).trans R4, blk2_set1'' A4 _, AffsOwn.tag HPUSH.out hset htA (by decide) (by decide), by rw [List.length_append, ST9.out.L]; rfl, fun a ha => by rcases List.mem_append.1 ha with h | h; exact ST9.out.F a h; simp at h; subst h; exact Y9.out, H4.set (by omega) _, D4.set (by omega) _⟩
            clear hown' hgrow htag hob HHE HO9 HPUSH R4 D4 H4 hset htA aa0 aa1 af1 t0 t1 A4 E10
            go_wp2
            go_roundw
            case rel => exact ⟨k + 1, _, _, _, by omega, by go_num, HST.out.mono (by omega)⟩
            case measure => simp [intOf]; omega
      · obtain rfl : k = nn := by omega
        obtain ⟨r0, r1, rf0, rf1⟩ := blk2 ST.out.R
        obtain ⟨a0, a1, -, -⟩ := blk2 ST.out.A
        go_wp2
        refine bodyPost_ret (v := .agg #[.string arr, .slice q k c]) (by simp [results, Try.results86, go_sem, r0, r1]) rfl ⟨⟨_, _, _, _, subs, rfl, hsz, ST.out.L, ⟨by rw [ST.out.L]; omega, ST.out.F⟩, ?_⟩, ?_, ?_⟩
        · have ht : Tag wr (some w.heap.size) 51 := Tag.blk ST.out.R
          refine AffsOwn.tag (AffsOwn.tag ST.out.O (grown_set _ _ _ _) ht (by decide) (by decide)) (grown_set _ _ _ _) (Tag.blk (blk2_set0' ST.out.R)) (by decide) (by decide)
        · exact ((ST.out.rd.set (by omega) _).set (by omega) _).mono (by omega)
        · exact (ST.out.dr.set (Nat.le_refl _) _).set (Nat.le_refl _) _
end Go.Proofs.Ytccibfldadflkaa

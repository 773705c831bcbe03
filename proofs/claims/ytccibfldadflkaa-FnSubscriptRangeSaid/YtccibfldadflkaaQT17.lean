/- The texts R1, joined. No statement is proved here. -/
import Derived.Test.YtccibfldadflkaaQT12
import Derived.Test.YtccibfldadflkaaQT32
import Derived.Maps.AppendAt
import Derived.Test.YtccibfldadflkaaQT48
import Derived.Test.YtccibfldadflkaaQT36
/- Points of a nest: how many iterations, which points; bounds of coordinates. No statement is proved here. | The model's count of iterations. | The model's points of a nest. | The model's NestPoints; a point of about a nest; the arguments of PointIn. | Prefixes of points in the order in which the program visits them, and that the model counts and lists the same. No statement is proved here. -/
namespace Go.Proofs.Ytccibfldadflkaa
open Go.RowKit

theorem mulm {a x m : Int} (h1 : -9 ≤ a) (h2 : a ≤ 9) (h3 : -m ≤ x) (h4 : x ≤ m) : -(9 * m) ≤ a * x ∧ a * x ≤ 9 * m := by
  constructor
  · have := Int.mul_nonneg (a := a + 9) (b := m + x) (by omega) (by omega)
    have := Int.mul_nonneg (a := 9 - a) (b := m - x) (by omega) (by omega)
    simp only [Int.add_mul, Int.mul_add, Int.sub_mul, Int.mul_sub] at *
    omega
  · have := Int.mul_nonneg (a := a + 9) (b := m - x) (by omega) (by omega)
    have := Int.mul_nonneg (a := 9 - a) (b := m + x) (by omega) (by omega)
    simp only [Int.add_mul, Int.mul_add, Int.sub_mul, Int.mul_sub] at *
    omega
/-- How far a coordinate can be from zero. -/
def bnd : Nat → Int
  | 0 => 99
  | 1 => 990
  | 2 => 9900
  | _ => 99000
def PB (ps : List Int) : Prop := ∀ i x, ps[i]? = some x → -bnd i ≤ x ∧ x ≤ bnd i
theorem PB.nil : PB [] := fun i x h => by simp at h
theorem PB.push {ps : List Int} {v : Int} (h : PB ps) (h0 : -bnd ps.length ≤ v) (h1 : v ≤ bnd ps.length) : PB (ps ++ [v]) := fun i x hi => by
  rcases Nat.lt_or_ge i ps.length with hl | hl
  · rw [List.getElem?_append_left hl] at hi; exact h i x hi
  · rw [List.getElem?_append_right hl] at hi
    have hi0 : i - ps.length = 0 := by
      rcases Nat.eq_zero_or_pos (i - ps.length) with h | h
      · exact h
      · rw [List.getElem?_eq_none (by simp; omega)] at hi; cases hi
    rw [hi0] at hi
    simp at hi
    subst hi
    rw [show i = ps.length by omega]
    exact ⟨h0, h1⟩
theorem PB.pt {ps : List Int} (h : PB ps) (hl : ps.length ≤ 3) : ptB ps = true := by
  simp only [ptB, Bool.and_eq_true, decide_eq_true_eq, List.all_eq_true]
  refine ⟨by omega, fun x hx => ?_⟩
  obtain ⟨i, hi⟩ := List.mem_iff_getElem?.1 hx
  have h1 := h i x hi
  have hi3 : i < 3 := by have := (List.getElem?_eq_some_iff.1 hi).1; omega
  refine withinB_iff.2 ?_
  match i, hi3, h1 with
  | 0, _, h1 => simp only [bnd] at h1; omega
  | 1, _, h1 => simp only [bnd] at h1; omega
  | 2, _, h1 => simp only [bnd] at h1; omega
theorem evalA_bd {a : Aff} {ps : List Int} (hv : affValidB a.1 a.2 = true) (h : PB ps) (hl : ps.length ≤ 3) : -bnd ps.length ≤ evalA ps a ∧ evalA ps a ≤ bnd ps.length := by
  obtain ⟨xs, k⟩ := a
  obtain ⟨a0, a1, a2, a3, e, ⟨l0, u0⟩, ⟨l1, u1⟩, ⟨l2, u2⟩, ⟨l3, u3⟩, ⟨lk, uk⟩⟩ := valid_four hv
  simp only at e lk uk
  subst e
  match ps, hl with
  | [], _ => simp only [evalA, evalK, bnd, List.length_nil]; omega
  | [x0], _ =>
    have h0 := h 0 x0 rfl
    simp only [bnd] at h0
    have m0 := mulm l0 u0 h0.1 h0.2
    simp [evalA, evalK, bnd]; omega
  | [x0, x1], _ =>
    have h0 := h 0 x0 rfl
    have h1 := h 1 x1 rfl
    simp only [bnd] at h0 h1
    have m0 := mulm l0 u0 h0.1 h0.2
    have m1 := mulm l1 u1 h1.1 h1.2
    simp [evalA, evalK, bnd]; omega
  | [x0, x1, x2], _ =>
    have h0 := h 0 x0 rfl
    have h1 := h 1 x1 rfl
    have h2 := h 2 x2 rfl
    simp only [bnd] at h0 h1 h2
    have m0 := mulm l0 u0 h0.1 h0.2
    have m1 := mulm l1 u1 h1.1 h1.2
    have m2 := mulm l2 u2 h2.1 h2.2
    simp [evalA, evalK, bnd]; omega
theorem maxL_bd {ys : List Int} {m : Int} (h0 : 0 < ys.length) (h2 : ys.length ≤ 2) (h : ∀ y ∈ ys, -m ≤ y ∧ y ≤ m) : -m ≤ maxL ys ∧ maxL ys ≤ m := by
  match ys, h0, h2 with
  | [a], _, _ => have := h a (by simp); simpa [maxL] using this
  | [a, b], _, _ =>
    have ha := h a (by simp)
    have hb := h b (by simp)
    simp only [maxL, List.foldl_cons, List.foldl_nil]
    split <;> omega
theorem minL_bd {ys : List Int} {m : Int} (h0 : 0 < ys.length) (h2 : ys.length ≤ 2) (h : ∀ y ∈ ys, -m ≤ y ∧ y ≤ m) : -m ≤ minL ys ∧ minL ys ≤ m := by
  match ys, h0, h2 with
  | [a], _, _ => have := h a (by simp); simpa [minL] using this
  | [a, b], _, _ =>
    have ha := h a (by simp)
    have hb := h b (by simp)
    simp only [minL, List.foldl_cons, List.foldl_nil]
    split <;> omega
theorem lo_bd {x : Lp} {ps : List Int} (hx : sideOk x.1) (h : PB ps) (hl : ps.length ≤ 3) : -bnd ps.length ≤ loV x ps ∧ loV x ps ≤ bnd ps.length :=
  maxL_bd (by rw [List.length_map]; exact hx.1) (by rw [List.length_map]; exact hx.2.1) (fun y hy => by
    obtain ⟨a, ha, rfl⟩ := List.mem_map.1 hy
    exact evalA_bd (hx.2.2 a ha) h hl)
theorem hi_bd {x : Lp} {ps : List Int} (hx : sideOk x.2) (h : PB ps) (hl : ps.length ≤ 3) : -bnd ps.length ≤ hiV x ps ∧ hiV x ps ≤ bnd ps.length :=
  minL_bd (by rw [List.length_map]; exact hx.1) (by rw [List.length_map]; exact hx.2.1) (fun y hy => by
    obtain ⟨a, ha, rfl⟩ := List.mem_map.1 hy
    exact evalA_bd (hx.2.2 a ha) h hl)
theorem bnd_le (i : Nat) : 0 ≤ bnd i ∧ bnd i ≤ 99000 := by unfold bnd; split <;> omega

/-- The iterations that are counted, up to a limit. -/
def workLoop (f : Int → Int → Int) (most : Int) : Nat → Int → Int → Int
  | 0, _, n => n
  | k + 1, v, n => if n ≤ most then workLoop f most k (v + 1) (n + f v (most - n)) else n
def lpAt (ls : List Lp) (ps : List Int) : Lp := ls.getD ps.length ([], [])
def work (ls : List Lp) : Nat → List Int → Int → Int
  | 0, _, _ => 1
  | d + 1, ps, most => workLoop (fun v m => work ls d (ps ++ [v]) m) most (hiV (lpAt ls ps) ps - loV (lpAt ls ps) ps).toNat (loV (lpAt ls ps) ps) 1
theorem workLoop_bd {f : Int → Int → Int} {most D : Int} (hf : ∀ v m, 0 ≤ m → 1 ≤ f v m ∧ f v m ≤ m + D) : ∀ (k : Nat) (v n : Int), 1 ≤ n → n ≤ most + D → 1 ≤ workLoop f most k v n ∧ workLoop f most k v n ≤ most + D
  | 0, v, n, h1, h2 => ⟨h1, h2⟩
  | k + 1, v, n, h1, h2 => by
    simp only [workLoop]
    split
    · have := hf v (most - n) (by omega)
      exact workLoop_bd hf k _ _ (by omega) (by omega)
    · exact ⟨h1, h2⟩
theorem work_bd (ls : List Lp) : ∀ (d : Nat) (ps : List Int) (most : Int), 0 ≤ most → 1 ≤ work ls d ps most ∧ work ls d ps most ≤ most + (d + 1)
  | 0, _, most, h => by simp only [work]; omega
  | d + 1, ps, most, h => by
    show 1 ≤ workLoop (fun v m => work ls d (ps ++ [v]) m) most (hiV (lpAt ls ps) ps - loV (lpAt ls ps) ps).toNat (loV (lpAt ls ps) ps) 1 ∧ workLoop (fun v m => work ls d (ps ++ [v]) m) most (hiV (lpAt ls ps) ps - loV (lpAt ls ps) ps).toNat (loV (lpAt ls ps) ps) 1 ≤ most + (((d + 1 : Nat) : Int) + 1)
    have h1 := workLoop_bd (f := fun v m => work ls d (ps ++ [v]) m) (most := most) (D := (d : Int) + 1) (fun v m hm => work_bd ls d (ps ++ [v]) m hm) (hiV (lpAt ls ps) ps - loV (lpAt ls ps) ps).toNat (loV (lpAt ls ps) ps) 1 (by omega) (by omega)
    omega

/-- The points, as long as there are not too many. -/
def ptsLoop (f : Int → List (List Int) → List (List Int)) : Nat → Int → List (List Int) → List (List Int)
  | 0, _, out => out
  | k + 1, v, out => if out.length ≤ 120 then ptsLoop f k (v + 1) (f v out) else out
def pts (ls : List Lp) : Nat → List Int → List (List Int) → List (List Int)
  | 0, ps, out => out ++ [ps]
  | d + 1, ps, out => ptsLoop (fun v o => pts ls d (ps ++ [v]) o) (hiV (lpAt ls ps) ps - loV (lpAt ls ps) ps).toNat (loV (lpAt ls ps) ps) out
theorem ptsLoop_bd {f : Int → List (List Int) → List (List Int)} (hf : ∀ v o, o.length ≤ 120 → (f v o).length ≤ 121) : ∀ (k : Nat) (v : Int) (o : List (List Int)), o.length ≤ 121 → (ptsLoop f k v o).length ≤ 121
  | 0, v, o, h => h
  | k + 1, v, o, h => by
    simp only [ptsLoop]
    split
    · exact ptsLoop_bd hf k _ _ (hf v o (by assumption))
    · exact h
theorem pts_bd (ls : List Lp) : ∀ (d : Nat) (ps : List Int) (o : List (List Int)), o.length ≤ 120 → (pts ls d ps o).length ≤ 121
  | 0, ps, o, h => by simp only [pts, List.length_append, List.length_cons, List.length_nil]; omega
  | d + 1, ps, o, h => by
    simp only [pts]
    exact ptsLoop_bd (fun v o ho => pts_bd ls d _ o ho) _ _ _ (by omega)
end Go.Proofs.Ytccibfldadflkaa

namespace Go.Proofs.Ytccibfldadflkaa
open Go.RowKit

/-- A prefix of a point, as the model hands it on: nil, or a row. -/
def PreAt (w : World) (pv : Value) (ps : List Int) : Prop := (pv = .slice none 0 0 ∧ ps = []) ∨ ∃ b c', pv = .slice (some ⟨b, 0, none⟩) ps.length c' ∧ IntsAt w pv ps
theorem PreAt.at {w : World} {pv : Value} {ps : List Int} (h : PreAt w pv ps) : IntsAt w pv ps := by
  rcases h with ⟨rfl, rfl⟩ | ⟨b, c', rfl, h⟩
  · exact ⟨none, 0, rfl, by simp, fun i x h => by simp at h⟩
  · exact h
theorem PreAt.ext {w w' : World} {pv : Value} {ps : List Int} (h : PreAt w pv ps) (hE : Ext w w') : PreAt w' pv ps := by
  rcases h with h | ⟨b, c', e, h⟩
  · exact .inl h
  · exact .inr ⟨b, c', e, h.ext hE⟩
theorem lpAt_of {ls : List Lp} {ps : List Int} {x : Lp} (h : ls[ps.length]? = some x) : lpAt ls ps = x := by unfold lpAt; rw [List.getD_eq_getElem?_getD, h]; rfl

set_option linter.unusedVariables false in
set_option maxRecDepth 100000 in
set_option maxHeartbeats 4000000 in
theorem l2WorkRow (pn : Option Addr) (n c : Nat) (ls : List Lp) (hnb : nestB ls = true) (hn : ls.length = n) : ∀ (d : Nat) (bp co : Nat) (ps : List Int) (most : Int) (w : World), ps.length + d = n → PB ps → IntsAt w (.slice (some ⟨bp, 0, none⟩) ps.length co) ps → LoopsAt w (.slice pn n c) ls → 0 ≤ most → most ≤ 1200 →
    Calls Try.prog 67 #[.slice pn n c, .slice (some ⟨bp, 0, none⟩) ps.length co, .int .i64 most] w fun e w' => e = .returned (.int .i64 (work ls d ps most)) ∧ Ext w w'
  | 0, bp, co, ps, most, w, hd, hpb, hp, hs, h0, h1 => by
    have hb : ((ps.length : Int) == (n : Int)) = true := by simp; omega
    clear hd
    go_enter Try.func67, Try.ntmps67
    go_wp2
    go_ret
    exact ⟨rfl, Ext.refl w⟩
  | d + 1, bp, co, ps, most, w, hd, hpb, hp, hs, h0, h1 => by
    obtain ⟨i0, hi0, hz0, hz1, hz2⟩ := info_parts infoInt
    have hn4 : n ≤ 4 := by have := (nestB_iff.1 hnb).1; rw [hn] at this; exact this
    obtain ⟨x, hx⟩ := get_some (xs := ls) (k := ps.length) (by omega)
    obtain ⟨b, off, q1, n1, q2, n2, rfl, c0, c1, hbb, hr1, hr2⟩ := hs.elem hx
    have hsd := nest_side hnb hx
    have hpt := hpb.pt (by omega)
    have hlo := lo_bd hsd.1 hpb (by omega)
    have hhi := hi_bd hsd.2 hpb (by omega)
    have hbn := bnd_le ps.length
    have HS := Lib.hid hs; have HX := Lib.hid hx; have HR1 := Lib.hid hr1; have HR2 := Lib.hid hr2; have S1 := Lib.hid hsd.1; have S2 := Lib.hid hsd.2; have HPT := Lib.hid hpt; have HPB := Lib.hid hpb
    have HIH := Lib.hid (l2WorkRow (some ⟨b, off, none⟩) n c ls hnb hn d)
    have HTOT : Hid (work ls (d + 1) ps most = workLoop (fun v m => work ls d (ps ++ [v]) m) most (hiV x ps - loV x ps).toNat (loV x ps) 1) := Lib.hid (by rw [← lpAt_of HX.out]; rfl)
    clear hs hx hr1 hr2 hsd hpt hpb hn hnb
    obtain ⟨k, hk⟩ : ∃ k, ps.length = k := ⟨_, rfl⟩
    rw [hk] at hp hd hlo hhi hbn c0 c1 ⊢
    have HP := Lib.hid hp; clear hp
    have HK := Lib.hid hk; clear hk
    have hb : ((k : Int) == (n : Int)) = false := by simp; omega
    have hk0 : (0 : Int) ≤ (k : Int) := by omega
    have hkn : (k : Int) < (n : Int) := by omega
    rw [HTOT.out]
    obtain ⟨TOT, hT0⟩ : ∃ TOT, workLoop (fun v m => work ls d (ps ++ [v]) m) most (hiV x ps - loV x ps).toNat (loV x ps) 1 = TOT := ⟨_, rfl⟩
    rw [hT0]
    have HT0 := Lib.hid hT0; clear hT0
    go_enter Try.func67, Try.ntmps67
    go_wp2_with (fail)
    refine (l2Range_any _ _ x (.slice (some ⟨bp, 0, none⟩) k co) ps _ HR1.out HR2.out HP.out S1.out S2.out HPT.out).mono ?_
    rintro e w1 ⟨rfl, hE⟩
    generalize loV x ps = lo at *
    generalize hiV x ps = hi at *
    have HE1 := Lib.hid hE
    clear hE c0 c1 HTOT
    go_wp2_with (fail)
    go_loopw [7, 10] (fun nn vv wr => ∃ (N V : Int), nn = .int .i64 N ∧ vv = .int .i64 V ∧ lo ≤ V ∧ (V ≤ hi ∨ V = lo) ∧ 1 ≤ N ∧ N ≤ most + ((d : Int) + 1) ∧ workLoop (fun v m => work ls d (ps ++ [v]) m) most (hi - V).toNat V N = TOT ∧ Ext w1 wr) (fun _ vv _ => (hi - intOf vv).toNat)
    case atStart => exact ⟨1, lo, rfl, rfl, by omega, .inr rfl, by omega, by omega, HT0.out, Ext.refl _⟩
    case round =>
      obtain ⟨N, V, rfl, rfl, hV1, hV2, hN1, hN2, hT, hE⟩ := hrel
      have HT := Lib.hid hT; have HE := Lib.hid hE; clear hT hE HT0
      have hV2' := Lib.hid hV2; clear hV2
      by_cases hlt : V < hi
      · have hb1 : decide (V < hi) = true := by simp [hlt]
        by_cases hle : N ≤ most
        · have hb2 : decide (N ≤ most) = true := by simp [hle]
          have HT2 : Hid (workLoop (fun v m => work ls d (ps ++ [v]) m) most (hi - (V + 1)).toNat (V + 1) (N + work ls d (ps ++ [V]) (most - N)) = TOT) := Lib.hid (by
            rw [← HT.out, show (hi - V).toNat = (hi - (V + 1)).toNat + 1 by omega]
            simp only [workLoop]
            rw [if_pos hle])
          have hr := work_bd ls d (ps ++ [V]) (most - N) (by omega)
          obtain ⟨r, hr0⟩ : ∃ r, work ls d (ps ++ [V]) (most - N) = r := ⟨_, rfl⟩
          rw [hr0] at hr HT2
          have HR0 := Lib.hid hr0; clear hr0
          have HQ0 : Hid ((wr.alloc (.cells #[] 3)).ownsRow wr.heap.size 3 1 (.slice (some ⟨wr.heap.size, 0, none⟩) 0 0) 0 []) := Lib.hid (World.ownsRow_made wr #[] 0 (Nat.le_refl _) (Nat.zero_le _) rfl)
          have hpb2 : PB (ps ++ [V]) := HPB.out.push (by rw [HK.out]; omega) (by rw [HK.out]; omega)
          have hat := HP.out.ext (HE1.out.trans HE.out)
          have hcell : ∀ j u, (ps.map (Value.int .i64))[j]? = some u → (wr.alloc (.cells #[] 3)).cell? ((⟨bp, 0, none⟩ : Addr).add j) = some u := by
            intro j u hu
            simp only [List.getElem?_map, Option.map_eq_some_iff] at hu
            obtain ⟨y, hy, rfl⟩ := hu
            obtain ⟨p', c'', e', hm', hc'⟩ := hat
            cases e'
            obtain ⟨b', o', e2, hcl⟩ := hc' j y hy
            cases e2
            rw [Addr.add_lit]
            exact ((Ext.refl wr).alloc _).keep hcl
          have HCell := Lib.hid hcell; clear hcell
          go_wp2_with (at_builtin; refine wpList_append_own_at _ rfl (.tmp 40) (.tmp 41) 22 rfl wr.heap.size 3 i0 (.int .i64 0) 1 8 Try.underlying22 hi0 hz0 hz1 hz2 rfl (by decide) (.slice (some ⟨wr.heap.size, 0, none⟩) 0 0) 0 [] rfl HQ0.out ⟨bp, 0, none⟩ k co (ps.map (Value.int .i64)) rfl (by rw [List.length_map, HK.out, Nat.mul_one]) HCell.out ?c2 ?c3 ?c4 ?c5 ?_)
          case c2 => intro u hu; simp only [List.mem_map] at hu; obtain ⟨y, -, rfl⟩ := hu; rfl
          case c3 => unfold maxLen; omega
          case c4 => omega
          case c5 => simp
          intro v1 w4 hown1 hgrow1 hnil1 hat1
          have hne1 : v1 ≠ .slice none 0 0 := by intro e; have := hnil1; simp [e] at this
          have HO4 : Hid (w4.ownsRow wr.heap.size 3 1 v1 k (ps.map (Value.int .i64))) := Lib.hid (by simpa using hown1)
          obtain ⟨g1, c1, rfl, hc1⟩ := own_form' HO4.out hne1
          have E4 := Lib.hid (((Ext.refl wr).alloc (.cells #[] 3)).grown hgrow1 (fun b hb => by have hb' : wr.heap.size = b := Option.some.inj hb; omega))
          clear hown1 hgrow1 hnil1 hat1 hne1
          have HO5 : Hid ((w4.alloc (.cells #[.int .i64 V] 3)).ownsRow wr.heap.size 3 1 (.slice (some ⟨g1, 0, none⟩) k c1) k (ps.map (Value.int .i64))) := Lib.hid (HO4.out.alloc _)
          have hsz4 := E4.out.size_le
          go_wp2_with (at_builtin; refine wpList_append_own_at _ rfl (.tmp 42) (.tmp 44) 22 rfl wr.heap.size 3 i0 (.int .i64 0) 1 8 Try.underlying22 hi0 hz0 hz1 hz2 rfl (by decide) (.slice (some ⟨g1, 0, none⟩) k c1) k (ps.map (Value.int .i64)) rfl HO5.out ⟨w4.heap.size, 0, none⟩ 1 1 [.int .i64 V] rfl rfl ?d1 ?d2 ?d3 ?d4 ?d5 ?_)
          case d1 => intro j u hu; match j, hu with | 0, hu => (simp at hu; subst hu; simp [Addr.add, go_sem])
          case d2 => intro u hu; simp at hu; subst hu; rfl
          case d3 => unfold maxLen; omega
          case d4 => omega
          case d5 => simp; omega
          intro v2 w6 hown2 hgrow2 hnil2 hat2
          have hne2 : v2 ≠ .slice none 0 0 := by intro e; have := hnil2; simp [e] at this
          have HO6 : Hid (w6.ownsRow wr.heap.size 3 1 v2 (k + 1) ((ps ++ [V]).map (Value.int .i64))) := Lib.hid (by simpa using hown2)
          obtain ⟨g2, c2, rfl, hc2⟩ := own_form' HO6.out hne2
          have E6 := Lib.hid ((E4.out.alloc (.cells #[.int .i64 V] 3)).grown hgrow2 (fun b hb => (HO5.out.lt b hb).1))
          clear hown2 hgrow2 hnil2 hat2 hne2 HO5
          have hlen : (ps ++ [V]).length = k + 1 := by rw [List.length_append, HK.out]; rfl
          have HPA : Hid (IntsAt w6 (.slice (some ⟨g2, 0, none⟩) (ps ++ [V]).length c2) (ps ++ [V])) := Lib.hid (by rw [hlen]; exact row_at HO6.out hlen)
          have HLA := Lib.hid (HS.out.ext ((HE1.out.trans HE.out).trans E6.out))
          have hdd : (ps ++ [V]).length + d = n := by rw [hlen]; omega
          have HLEN := Lib.hid hlen; clear hlen
          go_wp2_with (fail)
          have hcall := HIH.out g2 c2 (ps ++ [V]) (most - N) w6 hdd hpb2 HPA.out HLA.out (by omega) (by omega)
          rw [HLEN.out] at hcall
          refine hcall.mono ?_
          rw [HR0.out]
          rintro e w7 ⟨rfl, hE7⟩
          have HE7 := Lib.hid (HE.out.trans (E6.out.trans hE7)); clear hE7 hcall hdd
          go_wp2
          go_roundw
          case rel => exact ⟨N + r, V + 1, rfl, rfl, by omega, by omega, by omega, by omega, HT2.out, HE7.out⟩
          case measure => simp [intOf]; omega
        · have hb2 : decide (N ≤ most) = false := by simp; omega
          have hN : N = TOT := by
            rw [← HT.out, show (hi - V).toNat = (hi - (V + 1)).toNat + 1 by omega]
            simp only [workLoop]
            rw [if_neg hle]
          subst hN
          go_wp2
          go_ret
          exact ⟨rfl, HE1.out.trans HE.out⟩
      · have hb1 : decide (V < hi) = false := by simp; omega
        have hN : N = TOT := by
          rw [← HT.out, show (hi - V).toNat = 0 by omega]
          rfl
        subst hN
        go_wp2
        go_ret
        exact ⟨rfl, HE1.out.trans HE.out⟩

set_option linter.unusedVariables false in
set_option maxRecDepth 100000 in
set_option maxHeartbeats 4000000 in
theorem l2WorkNil (pn : Option Addr) (n c : Nat) (ls : List Lp) (hnb : nestB ls = true) (hn : ls.length = n) : ∀ (d : Nat) (ps : List Int) (most : Int) (w : World), d = n → ps = [] → PB ps → LoopsAt w (.slice pn n c) ls → 0 ≤ most → most ≤ 1200 →
    Calls Try.prog 67 #[.slice pn n c, .slice none 0 0, .int .i64 most] w fun e w' => e = .returned (.int .i64 (work ls d ps most)) ∧ Ext w w'
  | 0, ps, most, w, hd, hps, hpb, hs, h0, h1 => by
    have hb : ((0 : Int) == (n : Int)) = true := by simp; omega
    subst hd
    go_enter Try.func67, Try.ntmps67
    go_wp2
    go_ret
    exact ⟨rfl, Ext.refl w⟩
  | d + 1, ps, most, w, hd, hps, hpb, hs, h0, h1 => by
    obtain ⟨i0, hi0, hz0, hz1, hz2⟩ := info_parts infoInt
    have hn4 : n ≤ 4 := by have := (nestB_iff.1 hnb).1; rw [hn] at this; exact this
    obtain ⟨x, hx⟩ := get_some (xs := ls) (k := ps.length) (by rw [hps]; simp <;> omega)
    obtain ⟨b, off, q1, n1, q2, n2, rfl, c0, c1, hbb, hr1, hr2⟩ := hs.elem hx
    have hsd := nest_side hnb hx
    have hpt := hpb.pt (by rw [hps]; simp <;> omega)
    have hlo := lo_bd hsd.1 hpb (by rw [hps]; simp <;> omega)
    have hhi := hi_bd hsd.2 hpb (by rw [hps]; simp <;> omega)
    have hbn := bnd_le ps.length
    have HS := Lib.hid hs; have HX := Lib.hid hx; have HR1 := Lib.hid hr1; have HR2 := Lib.hid hr2; have S1 := Lib.hid hsd.1; have S2 := Lib.hid hsd.2; have HPT := Lib.hid hpt; have HPB := Lib.hid hpb
    have HIH := Lib.hid (l2WorkRow (some ⟨b, off, none⟩) n c ls hnb hn d)
    have HTOT : Hid (work ls (d + 1) ps most = workLoop (fun v m => work ls d (ps ++ [v]) m) most (hiV x ps - loV x ps).toNat (loV x ps) 1) := Lib.hid (by rw [← lpAt_of HX.out]; rfl)
    clear hs hx hr1 hr2 hsd hpt hpb hn hnb
    have hk : ps.length = 0 := by rw [hps]; rfl
    have HP : Hid (IntsAt w (.slice none 0 0) ps) := Lib.hid (by rw [hps]; exact ⟨none, 0, rfl, by simp, fun i x h => by simp at h⟩)
    have HPS := Lib.hid hps; clear hps
    rw [hk] at hlo hhi hbn c0 c1
    simp only [Nat.zero_mul, Nat.add_zero] at c0 c1
    have HK := Lib.hid hk; clear hk
    have hb : ((0 : Int) == (n : Int)) = false := by simp; omega
    have hkn : (0 : Int) < (n : Int) := by omega
    rw [HTOT.out]
    obtain ⟨TOT, hT0⟩ : ∃ TOT, workLoop (fun v m => work ls d (ps ++ [v]) m) most (hiV x ps - loV x ps).toNat (loV x ps) 1 = TOT := ⟨_, rfl⟩
    rw [hT0]
    have HT0 := Lib.hid hT0; clear hT0
    go_enter Try.func67, Try.ntmps67
    go_wp2_with (fail)
    refine (l2Range_any _ _ x (.slice none 0 0) ps _ HR1.out HR2.out HP.out S1.out S2.out HPT.out).mono ?_
    rintro e w1 ⟨rfl, hE⟩
    generalize loV x ps = lo at *
    generalize hiV x ps = hi at *
    have HE1 := Lib.hid hE
    clear hE c0 c1 HTOT
    go_wp2_with (fail)
    go_loopw [7, 10] (fun nn vv wr => ∃ (N V : Int), nn = .int .i64 N ∧ vv = .int .i64 V ∧ lo ≤ V ∧ (V ≤ hi ∨ V = lo) ∧ 1 ≤ N ∧ N ≤ most + ((d : Int) + 1) ∧ workLoop (fun v m => work ls d (ps ++ [v]) m) most (hi - V).toNat V N = TOT ∧ Ext w1 wr) (fun _ vv _ => (hi - intOf vv).toNat)
    case atStart => exact ⟨1, lo, rfl, rfl, by omega, .inr rfl, by omega, by omega, HT0.out, Ext.refl _⟩
    case round =>
      obtain ⟨N, V, rfl, rfl, hV1, hV2, hN1, hN2, hT, hE⟩ := hrel
      have HT := Lib.hid hT; have HE := Lib.hid hE; clear hT hE HT0
      have hV2' := Lib.hid hV2; clear hV2
      by_cases hlt : V < hi
      · have hb1 : decide (V < hi) = true := by simp [hlt]
        by_cases hle : N ≤ most
        · have hb2 : decide (N ≤ most) = true := by simp [hle]
          have HT2 : Hid (workLoop (fun v m => work ls d (ps ++ [v]) m) most (hi - (V + 1)).toNat (V + 1) (N + work ls d (ps ++ [V]) (most - N)) = TOT) := Lib.hid (by
            rw [← HT.out, show (hi - V).toNat = (hi - (V + 1)).toNat + 1 by omega]
            simp only [workLoop]
            rw [if_pos hle])
          have hr := work_bd ls d (ps ++ [V]) (most - N) (by omega)
          obtain ⟨r, hr0⟩ : ∃ r, work ls d (ps ++ [V]) (most - N) = r := ⟨_, rfl⟩
          rw [hr0] at hr HT2
          have HR0 := Lib.hid hr0; clear hr0
          have HQ0 : Hid ((wr.alloc (.cells #[] 3)).ownsRow wr.heap.size 3 1 (.slice (some ⟨wr.heap.size, 0, none⟩) 0 0) 0 []) := Lib.hid (World.ownsRow_made wr #[] 0 (Nat.le_refl _) (Nat.zero_le _) rfl)
          have hpb2 : PB (ps ++ [V]) := HPB.out.push (by rw [HK.out]; omega) (by rw [HK.out]; omega)
          have hat := HP.out.ext (HE1.out.trans HE.out)
          have E4 := Lib.hid ((Ext.refl wr).alloc (.cells #[] 3))
          have HO4 : Hid ((wr.alloc (.cells #[] 3)).ownsRow wr.heap.size 3 1 (.slice (some ⟨wr.heap.size, 0, none⟩) 0 0) 0 (ps.map (Value.int .i64))) := Lib.hid (by rw [HPS.out]; exact HQ0.out)
          clear hat
          have HO5 : Hid (((wr.alloc (.cells #[] 3)).alloc (.cells #[.int .i64 V] 3)).ownsRow wr.heap.size 3 1 (.slice (some ⟨wr.heap.size, 0, none⟩) 0 0) 0 (ps.map (Value.int .i64))) := Lib.hid (HO4.out.alloc _)
          have hsz4 := E4.out.size_le; simp only [World.size_alloc] at hsz4
          go_wp2_with (at_builtin; refine wpList_append_own_at _ rfl (.tmp 42) (.tmp 44) 22 rfl wr.heap.size 3 i0 (.int .i64 0) 1 8 Try.underlying22 hi0 hz0 hz1 hz2 rfl (by decide) (.slice (some ⟨wr.heap.size, 0, none⟩) 0 0) 0 (ps.map (Value.int .i64)) rfl HO5.out ⟨wr.heap.size + 1, 0, none⟩ 1 1 [.int .i64 V] rfl rfl ?d1 ?d2 ?d3 ?d4 ?d5 ?_)
          case d1 => intro j u hu; match j, hu with | 0, hu => (simp at hu; subst hu; simp [Addr.add, go_sem])
          case d2 => intro u hu; simp at hu; subst hu; rfl
          case d3 => unfold maxLen; omega
          case d4 => omega
          case d5 => simp; omega
          intro v2 w6 hown2 hgrow2 hnil2 hat2
          have hne2 : v2 ≠ .slice none 0 0 := by intro e; have := hnil2; simp [e] at this
          have HO6 : Hid (w6.ownsRow wr.heap.size 3 1 v2 (0 + 1) ((ps ++ [V]).map (Value.int .i64))) := Lib.hid (by simpa using hown2)
          obtain ⟨g2, c2, rfl, hc2⟩ := own_form' HO6.out hne2
          have E6 := Lib.hid ((E4.out.alloc (.cells #[.int .i64 V] 3)).grown hgrow2 (fun b hb => (HO5.out.lt b hb).1))
          clear hown2 hgrow2 hnil2 hat2 hne2 HO5
          have hlen : (ps ++ [V]).length = 0 + 1 := by rw [List.length_append, HK.out]; rfl
          have HPA : Hid (IntsAt w6 (.slice (some ⟨g2, 0, none⟩) (ps ++ [V]).length c2) (ps ++ [V])) := Lib.hid (by rw [hlen]; exact row_at HO6.out hlen)
          have HLA := Lib.hid (HS.out.ext ((HE1.out.trans HE.out).trans E6.out))
          have hdd : (ps ++ [V]).length + d = n := by rw [hlen]; omega
          have HLEN := Lib.hid hlen; clear hlen
          go_wp2_with (fail)
          have hcall := HIH.out g2 c2 (ps ++ [V]) (most - N) w6 hdd hpb2 HPA.out HLA.out (by omega) (by omega)
          rw [HLEN.out] at hcall
          refine hcall.mono ?_
          rw [HR0.out]
          rintro e w7 ⟨rfl, hE7⟩
          have HE7 := Lib.hid (HE.out.trans (E6.out.trans hE7)); clear hE7 hcall hdd
          go_wp2
          go_roundw
          case rel => exact ⟨N + r, V + 1, rfl, rfl, by omega, by omega, by omega, by omega, HT2.out, HE7.out⟩
          case measure => simp [intOf]; omega
        · have hb2 : decide (N ≤ most) = false := by simp; omega
          have hN : N = TOT := by
            rw [← HT.out, show (hi - V).toNat = (hi - (V + 1)).toNat + 1 by omega]
            simp only [workLoop]
            rw [if_neg hle]
          subst hN
          go_wp2
          go_ret
          exact ⟨rfl, HE1.out.trans HE.out⟩
      · have hb1 : decide (V < hi) = false := by simp; omega
        have hN : N = TOT := by
          rw [← HT.out, show (hi - V).toNat = 0 by omega]
          rfl
        subst hN
        go_wp2
        go_ret
        exact ⟨rfl, HE1.out.trans HE.out⟩
end Go.Proofs.Ytccibfldadflkaa

namespace Go.Proofs.Ytccibfldadflkaa
open Go.RowKit

/-- Lists of ints of the call's own. -/
def PtsOwn (B : Nat) (w : World) (v : Value) (xss : List (List Int)) : Prop := ∃ vs, w.ownsRow B 22 1 v xss.length vs ∧ ∀ (i : Nat) (xs : List Int), xss[i]? = some xs → ∃ u : Value, vs[i]? = some u ∧ IntsOwn B w u xs
/-- Whatever is no row of lists lies as it lay. -/
def Kt (w w' : World) : Prop := ∀ (g : Nat) (cs : Array Value) (T : TypeId) (fz : Nat × Nat), T ≠ 22 → w.heap[g]? = some (.cells cs T fz) → w'.heap[g]? = some (.cells cs T fz)
theorem Kt.refl (w : World) : Kt w w := fun _ _ _ _ _ h => h
theorem Kt.trans {a b c : World} (h : Kt a b) (k : Kt b c) : Kt a c := fun _ _ _ _ hT hg => k _ _ _ _ hT (h _ _ _ _ hT hg)
theorem Kt.ext {a b : World} (h : Ext a b) : Kt a b := fun _ _ _ _ _ hg => h.blk hg
theorem Kt.grown {a b : World} {row : Option Nat} (hg : a.grownBy b row) (ht : Tag a row 22) : Kt a b := fun _ _ _ _ hT h => blk_tag h hg ht (fun e => hT e.symm)
theorem row_kt {B size n : Nat} {e : TypeId} {w w' : World} {v : Value} {xs : List Value} (h : w.ownsRow B e size v n xs) (hk : Kt w w') (he : e ≠ 22) : w'.ownsRow B e size v n xs := by
  refine ⟨h.1, ?_⟩
  rcases h.2 with hn | ⟨g, cap, cur, hv, hbg, hgh, r⟩
  · exact .inl hn
  · exact .inr ⟨g, cap, cur, hv, hbg, hk g _ _ _ he hgh, r⟩
theorem PtsOwn.slice {B : Nat} {w : World} {v : Value} {xss : List (List Int)} (h : PtsOwn B w v xss) : ∃ p c, v = .slice p xss.length c := by
  obtain ⟨vs, ho, -⟩ := h
  rcases ho.2 with ⟨rfl, hn⟩ | ⟨g, cap, cur, rfl, _⟩
  · exact ⟨none, 0, by rw [hn]⟩
  · exact ⟨_, _, rfl⟩
theorem PtsOwn.ext {B : Nat} {w w' : World} {v : Value} {xss : List (List Int)} (h : PtsOwn B w v xss) (hE : Ext w w') : PtsOwn B w' v xss := by
  obtain ⟨vs, ho, he⟩ := h
  exact ⟨vs, ownsRow_ext ho hE, fun i xs hi => by obtain ⟨u, h0, h1⟩ := he i xs hi; exact ⟨u, h0, h1.ext hE⟩⟩
theorem PtsOwn.made {B g c : Nat} {w : World} (h : w.ownsRow B 22 1 (.slice (some ⟨g, 0, none⟩) 0 c) 0 []) : PtsOwn B w (.slice (some ⟨g, 0, none⟩) 0 c) [] := ⟨[], h, fun i x hi => by simp at hi⟩
theorem PtsOwn.push {B m : Nat} {w w' : World} {v v' u : Value} {xss : List (List Int)} {ps : List Int} {vs : List Value} (hm : xss.length = m) (he : ∀ (i : Nat) (xs : List Int), xss[i]? = some xs → ∃ u : Value, vs[i]? = some u ∧ IntsOwn B w u xs) (hvl : vs.length = m)
    (ho' : w'.ownsRow B 22 1 v' (m + 1) (vs ++ [u])) (hg : w.grownBy w' v.ownBlock) (ht : Tag w v.ownBlock 22) (hx : IntsOwn B w u ps) : PtsOwn B w' v' (xss ++ [ps]) := by
  refine ⟨vs ++ [u], by rw [List.length_append, hm]; exact ho', fun i xs hi => ?_⟩
  rcases Nat.lt_or_ge i xss.length with hlt | hge
  · rw [List.getElem?_append_left hlt] at hi
    obtain ⟨u', h0, h1⟩ := he i xs hi
    exact ⟨u', by rw [List.getElem?_append_left (by omega)]; exact h0, h1.tag hg ht (by decide)⟩
  · rw [List.getElem?_append_right hge] at hi
    have hi0 : i - xss.length = 0 := by
      rcases Nat.eq_zero_or_pos (i - xss.length) with h | h
      · exact h
      · rw [List.getElem?_eq_none (by simp; omega)] at hi; cases hi
    rw [hi0] at hi
    simp at hi
    subst hi
    have hin : i = m := by omega
    subst hin
    exact ⟨u, by rw [List.getElem?_append_right (by omega)]; simp [hvl], hx.tag hg ht (by decide)⟩
theorem infoSS : (Try.prog.info? 22).map (fun i => (i.zero, i.size, i.bytes)) = some (some (.slice none 0 0), 1, 24) := by kernel_rfl
theorem underSS : Try.prog.underlying 44 = some (.slice 22) := by kernel_rfl
theorem one_cell {L : Nat} {w : World} {u : Value} {t : TypeId} (hL : L = w.heap.size) : ∀ j v, [u][j]? = some v → (w.alloc (.cells #[u] t)).cell? ((⟨L, 0, none⟩ : Addr).add j) = some v := by
  subst hL
  intro q v hq
  match q, hq with
  | 0, hq => simp at hq; subst hq; simp [Addr.add]

set_option linter.unusedVariables false in
set_option maxRecDepth 100000 in
set_option maxHeartbeats 4000000 in
theorem l2PtsRow (W0 : World) (pn : Option Addr) (n c : Nat) (ls : List Lp) (hnb : nestB ls = true) (hn : ls.length = n) (hs : LoopsAt W0 (.slice pn n c) ls) : ∀ (d : Nat) (bp co : Nat) (ps : List Int) (ov : Value) (xss : List (List Int)) (w : World), ps.length + d = n → PB ps → w.ownsRow 0 3 1 (.slice (some ⟨bp, 0, none⟩) ps.length co) ps.length (ps.map (Value.int .i64)) → PtsOwn W0.heap.size w ov xss → xss.length ≤ 120 → Ext W0 w →
    Calls Try.prog 68 #[ov, .slice pn n c, .slice (some ⟨bp, 0, none⟩) ps.length co] w fun e w' => (∃ v', e = .returned v' ∧ PtsOwn W0.heap.size w' v' (pts ls d ps xss)) ∧ Ext W0 w' ∧ Kt w w'
  | 0, bp, co, ps, ov, xss, w, hd, hpb, hp, ho, hl, hE => by
    obtain ⟨i0, hi0, hz0, hz1, hz2⟩ := info_parts infoInt
    obtain ⟨j0, hj0, hj1, hj2, hj3⟩ := info_parts infoSS
    obtain ⟨k, hk⟩ : ∃ k, ps.length = k := ⟨_, rfl⟩
    rw [hk] at hp hd ⊢
    have HK := Lib.hid hk; clear hk
    have hb : ((k : Int) == (n : Int)) = true := by simp; omega
    have hk4 : k ≤ 4 := by have := (nestB_iff.1 hnb).1; rw [hn] at this; omega
    have HP := Lib.hid hp; clear hp
    have HO := Lib.hid ho; have HX := Lib.hid hE; clear ho hE
    obtain ⟨qo, co2, rfl⟩ := PtsOwn.slice HO.out
    obtain ⟨m, hm⟩ : ∃ m, xss.length = m := ⟨_, rfl⟩
    have HM := Lib.hid hm
    rw [hm] at hl HO ⊢
    clear hm
    obtain ⟨wr, hwr⟩ : ∃ wr, wr = w := ⟨_, rfl⟩
    subst hwr
    have HQ0 : Hid ((wr.alloc (.cells #[] 3)).ownsRow wr.heap.size 3 1 (.slice (some ⟨wr.heap.size, 0, none⟩) 0 0) 0 []) := Lib.hid (World.ownsRow_made wr #[] 0 (Nat.le_refl _) (Nat.zero_le _) rfl)
    have hat := row_at HP.out HK.out
    go_enter Try.func68, Try.ntmps68
    have hcell : ∀ j u, (ps.map (Value.int .i64))[j]? = some u → (wr.alloc (.cells #[] 3)).cell? ((⟨bp, 0, none⟩ : Addr).add j) = some u := by
      intro j u hu
      simp only [List.getElem?_map, Option.map_eq_some_iff] at hu
      obtain ⟨y, hy, rfl⟩ := hu
      obtain ⟨p', c'', e', hm', hc'⟩ := hat
      cases e'
      obtain ⟨b', o', e2, hcl⟩ := hc' j y hy
      cases e2
      rw [Addr.add_lit]
      exact ((Ext.refl wr).alloc _).keep hcl
    have HCell := Lib.hid hcell; clear hcell
    go_wp2_with (at_builtin; refine wpList_append_own_at _ rfl (.tmp 16) (.tmp 17) 22 rfl wr.heap.size 3 i0 (.int .i64 0) 1 8 Try.underlying22 hi0 hz0 hz1 hz2 rfl (by decide) (.slice (some ⟨wr.heap.size, 0, none⟩) 0 0) 0 [] rfl HQ0.out ⟨bp, 0, none⟩ k co (ps.map (Value.int .i64)) rfl (by rw [List.length_map, HK.out, Nat.mul_one]) HCell.out ?c2 ?c3 ?c4 ?c5 ?_)
    case c2 => intro u hu; simp only [List.mem_map] at hu; obtain ⟨y, -, rfl⟩ := hu; rfl
    case c3 => unfold maxLen; omega
    case c4 => omega
    case c5 => simp
    intro v1 w4 hown1 hgrow1 hnil1 hat1
    have hne1 : v1 ≠ .slice none 0 0 := by intro e; have := hnil1; simp [e] at this
    have HO4 : Hid (w4.ownsRow wr.heap.size 3 1 v1 k (ps.map (Value.int .i64))) := Lib.hid (by simpa using hown1)
    obtain ⟨g1, c1, rfl, hc1⟩ := own_form' HO4.out hne1
    have E4 := Lib.hid (((Ext.refl wr).alloc (.cells #[] 3)).grown hgrow1 (fun b hb => by have hb' : wr.heap.size = b := Option.some.inj hb; omega))
    clear hown1 hgrow1 hnil1 hat1 hne1
    have hsz4 := E4.out.size_le
    have EE := E4.out.alloc (.cells #[.slice (some ⟨g1, 0, none⟩) k c1] 22)
    have HPO := Lib.hid (HO.out.ext EE)
    obtain ⟨vs, ho, he⟩ := HPO.out
    rw [HM.out] at ho
    have hvl := ho.1
    rw [Nat.mul_one] at hvl
    have hx0 := HX.out.size_le
    have HEL : Hid (IntsOwn W0.heap.size (w4.alloc (.cells #[.slice (some ⟨g1, 0, none⟩) k c1] 22)) (.slice (some ⟨g1, 0, none⟩) k c1) ps) := Lib.hid (IntsOwn.ext (IntsOwn.weak (IntsOwn.mk HO4.out HK.out) hx0) ((Ext.refl _).alloc _))
    have HHE := Lib.hid he; clear he HPO
    go_wp2_with (at_builtin; refine wpList_append_own_at _ rfl (.tmp 15) (.tmp 19) 44 rfl W0.heap.size 22 j0 (.slice none 0 0) 1 24 underSS hj0 hj1 hj2 hj3 rfl (by decide) (.slice qo m co2) m vs rfl ho ⟨w4.heap.size, 0, none⟩ 1 1 [.slice (some ⟨g1, 0, none⟩) k c1] rfl rfl ?e1 ?e2 ?e3 ?e4 ?e5 ?_)
    case e1 => exact one_cell (by simp)
    case e2 => intro u hu; simp at hu; subst hu; rfl
    case e3 => unfold maxLen; omega
    case e4 => omega
    case e5 => simp; omega
    intro v2 w6 hown2 hgrow2 hnil2 hat2
    have HRS := Lib.hid (PtsOwn.push HM.out HHE.out hvl hown2 hgrow2 (own_tag ho) HEL.out)
    have EW := Lib.hid ((HX.out.trans EE).grown hgrow2 (fun b hb => (ho.lt b hb).1)); have KW := Lib.hid ((Kt.ext EE).trans (Kt.grown hgrow2 (own_tag ho)))
    clear hown2 hgrow2 hnil2 hat2 ho EE
    go_wp2
    go_ret
    exact ⟨⟨_, rfl, HRS.out⟩, EW.out, KW.out⟩
  | d + 1, bp, co, ps, ov, xss, w, hd, hpb, hp, ho, hl, hE => by
    obtain ⟨i0, hi0, hz0, hz1, hz2⟩ := info_parts infoInt
    have hn4 : n ≤ 4 := by have := (nestB_iff.1 hnb).1; rw [hn] at this; exact this
    obtain ⟨x, hx⟩ := get_some (xs := ls) (k := ps.length) (by omega)
    obtain ⟨b, off, q1, n1, q2, n2, rfl, c0, c1, hbb, hr1, hr2⟩ := hs.elem hx
    replace c0 := hE.keep c0
    replace c1 := hE.keep c1
    have hsd := nest_side hnb hx
    have hpt := hpb.pt (by omega)
    have hlo := lo_bd hsd.1 hpb (by omega)
    have hhi := hi_bd hsd.2 hpb (by omega)
    have hbn := bnd_le ps.length
    have HS := Lib.hid hs; have HX := Lib.hid hx; have HR1 := Lib.hid (hr1.ext hE); have HR2 := Lib.hid (hr2.ext hE); have S1 := Lib.hid hsd.1; have S2 := Lib.hid hsd.2; have HPT := Lib.hid hpt; have HPB := Lib.hid hpb; have HO := Lib.hid ho; have HE0 := Lib.hid hE
    have HIH := Lib.hid (l2PtsRow W0 (some ⟨b, off, none⟩) n c ls hnb hn hs d)
    have HTOT : Hid (pts ls (d + 1) ps xss = ptsLoop (fun v o => pts ls d (ps ++ [v]) o) (hiV x ps - loV x ps).toNat (loV x ps) xss) := Lib.hid (by rw [← lpAt_of HX.out]; rfl)
    clear hs hx hr1 hr2 hsd hpt hpb hn hnb ho hE
    obtain ⟨k, hk⟩ : ∃ k, ps.length = k := ⟨_, rfl⟩
    rw [hk] at hp hd hlo hhi hbn c0 c1 ⊢
    have HPR := Lib.hid hp; clear hp
    have HK := Lib.hid hk; clear hk
    have HP : Hid (IntsAt w (.slice (some ⟨bp, 0, none⟩) k co) ps) := Lib.hid (row_at HPR.out HK.out)
    have hb : ((k : Int) == (n : Int)) = false := by simp; omega
    have hk0 : (0 : Int) ≤ (k : Int) := by omega
    have hkn : (k : Int) < (n : Int) := by omega
    rw [HTOT.out]
    obtain ⟨TOT, hT0⟩ : ∃ TOT, ptsLoop (fun v o => pts ls d (ps ++ [v]) o) (hiV x ps - loV x ps).toNat (loV x ps) xss = TOT := ⟨_, rfl⟩
    rw [hT0]
    have HT0 := Lib.hid hT0; clear hT0
    obtain ⟨qo, co2, rfl⟩ := PtsOwn.slice HO.out
    go_enter Try.func68, Try.ntmps68
    go_wp2_with (fail)
    refine (l2Range_any _ _ x (.slice (some ⟨bp, 0, none⟩) k co) ps _ HR1.out HR2.out HP.out S1.out S2.out HPT.out).mono ?_
    rintro e w1 ⟨rfl, hE⟩
    generalize loV x ps = lo at *
    generalize hiV x ps = hi at *
    have HE1 := Lib.hid hE
    clear hE c0 c1 HTOT
    go_wp2_with (fail)
    go_loopw [0, 9] (fun ov vv wr => ∃ (V : Int) (os : List (List Int)), vv = .int .i64 V ∧ lo ≤ V ∧ (V ≤ hi ∨ V = lo) ∧ PtsOwn W0.heap.size wr ov os ∧ os.length ≤ 121 ∧ ptsLoop (fun v o => pts ls d (ps ++ [v]) o) (hi - V).toNat V os = TOT ∧ Ext W0 wr ∧ Kt w1 wr) (fun _ vv _ => (hi - intOf vv).toNat)
    case atStart => exact ⟨lo, xss, rfl, by omega, .inr rfl, HO.out.ext HE1.out, by omega, HT0.out, HE0.out.trans HE1.out, Kt.refl _⟩
    case round =>
      obtain ⟨V, os, rfl, hV1, hV2, hov, hol, hT, hE, hKt⟩ := hrel
      have HT := Lib.hid hT; have HE := Lib.hid hE; have HOV := Lib.hid hov; have HKT := Lib.hid hKt; clear hT hE hov hKt HT0
      have hV2' := Lib.hid hV2; clear hV2
      obtain ⟨qv, cv, rfl⟩ := PtsOwn.slice HOV.out
      obtain ⟨m, hm⟩ : ∃ m, os.length = m := ⟨_, rfl⟩
      have HM := Lib.hid hm
      rw [hm] at hol HOV ⊢
      clear hm
      by_cases hlt : V < hi
      · have hb1 : decide (V < hi) = true := by simp [hlt]
        by_cases hle : m ≤ 120
        · have hb2 : decide ((m : Int) ≤ 120) = true := decide_eq_true (by omega)
          have HT2 : Hid (ptsLoop (fun v o => pts ls d (ps ++ [v]) o) (hi - (V + 1)).toNat (V + 1) (pts ls d (ps ++ [V]) os) = TOT) := Lib.hid (by
            rw [← HT.out, show (hi - V).toNat = (hi - (V + 1)).toNat + 1 by omega]
            simp only [ptsLoop]
            rw [if_pos (by rw [HM.out]; exact hle)])
          have hptl := pts_bd ls d (ps ++ [V]) os (by rw [HM.out]; exact hle)
          have HQ0 : Hid ((wr.alloc (.cells #[] 3)).ownsRow wr.heap.size 3 1 (.slice (some ⟨wr.heap.size, 0, none⟩) 0 0) 0 []) := Lib.hid (World.ownsRow_made wr #[] 0 (Nat.le_refl _) (Nat.zero_le _) rfl)
          have hpb2 : PB (ps ++ [V]) := HPB.out.push (by rw [HK.out]; omega) (by rw [HK.out]; omega)
          have hat := row_at (row_kt (ownsRow_ext HPR.out HE1.out) HKT.out (by decide)) HK.out
          have hcell : ∀ j u, (ps.map (Value.int .i64))[j]? = some u → (wr.alloc (.cells #[] 3)).cell? ((⟨bp, 0, none⟩ : Addr).add j) = some u := by
            intro j u hu
            simp only [List.getElem?_map, Option.map_eq_some_iff] at hu
            obtain ⟨y, hy, rfl⟩ := hu
            obtain ⟨p', c'', e', hm', hc'⟩ := hat
            cases e'
            obtain ⟨b', o', e2, hcl⟩ := hc' j y hy
            cases e2
            rw [Addr.add_lit]
            exact ((Ext.refl wr).alloc _).keep hcl
          have HCell := Lib.hid hcell; clear hcell
          go_wp2_with (at_builtin; refine wpList_append_own_at _ rfl (.tmp 44) (.tmp 45) 22 rfl wr.heap.size 3 i0 (.int .i64 0) 1 8 Try.underlying22 hi0 hz0 hz1 hz2 rfl (by decide) (.slice (some ⟨wr.heap.size, 0, none⟩) 0 0) 0 [] rfl HQ0.out ⟨bp, 0, none⟩ k co (ps.map (Value.int .i64)) rfl (by rw [List.length_map, HK.out, Nat.mul_one]) HCell.out ?c2 ?c3 ?c4 ?c5 ?_)
          case c2 => intro u hu; simp only [List.mem_map] at hu; obtain ⟨y, -, rfl⟩ := hu; rfl
          case c3 => unfold maxLen; omega
          case c4 => omega
          case c5 => simp
          intro v1 w4 hown1 hgrow1 hnil1 hat1
          have hne1 : v1 ≠ .slice none 0 0 := by intro e; have := hnil1; simp [e] at this
          have HO4 : Hid (w4.ownsRow wr.heap.size 3 1 v1 k (ps.map (Value.int .i64))) := Lib.hid (by simpa using hown1)
          obtain ⟨g1, c1, rfl, hc1⟩ := own_form' HO4.out hne1
          have E4 := Lib.hid (((Ext.refl wr).alloc (.cells #[] 3)).grown hgrow1 (fun b hb => by have hb' : wr.heap.size = b := Option.some.inj hb; omega))
          clear hown1 hgrow1 hnil1 hat1 hne1
          have HO5 : Hid ((w4.alloc (.cells #[.int .i64 V] 3)).ownsRow wr.heap.size 3 1 (.slice (some ⟨g1, 0, none⟩) k c1) k (ps.map (Value.int .i64))) := Lib.hid (HO4.out.alloc _)
          have hsz4 := E4.out.size_le
          go_wp2_with (at_builtin; refine wpList_append_own_at _ rfl (.tmp 46) (.tmp 48) 22 rfl wr.heap.size 3 i0 (.int .i64 0) 1 8 Try.underlying22 hi0 hz0 hz1 hz2 rfl (by decide) (.slice (some ⟨g1, 0, none⟩) k c1) k (ps.map (Value.int .i64)) rfl HO5.out ⟨w4.heap.size, 0, none⟩ 1 1 [.int .i64 V] rfl rfl ?d1 ?d2 ?d3 ?d4 ?d5 ?_)
          case d1 => intro j u hu; match j, hu with | 0, hu => (simp at hu; subst hu; simp [Addr.add, go_sem])
          case d2 => intro u hu; simp at hu; subst hu; rfl
          case d3 => unfold maxLen; omega
          case d4 => omega
          case d5 => simp; omega
          intro v2 w6 hown2 hgrow2 hnil2 hat2
          have hne2 : v2 ≠ .slice none 0 0 := by intro e; have := hnil2; simp [e] at this
          have HO6 : Hid (w6.ownsRow wr.heap.size 3 1 v2 (k + 1) ((ps ++ [V]).map (Value.int .i64))) := Lib.hid (by simpa using hown2)
          obtain ⟨g2, c2, rfl, hc2⟩ := own_form' HO6.out hne2
          have E6 := Lib.hid ((E4.out.alloc (.cells #[.int .i64 V] 3)).grown hgrow2 (fun b hb => (HO5.out.lt b hb).1))
          clear hown2 hgrow2 hnil2 hat2 hne2 HO5
          have hlen : (ps ++ [V]).length = k + 1 := by rw [List.length_append, HK.out]; rfl
          have hdd : (ps ++ [V]).length + d = n := by rw [hlen]; omega
          have HLEN := Lib.hid hlen; clear hlen
          go_wp2_with (fail)
          have hcall := HIH.out g2 c2 (ps ++ [V]) (.slice qv m cv) os w6 hdd hpb2 (by rw [HLEN.out]; exact ownsRow_weak HO6.out (Nat.zero_le _)) (HOV.out.ext E6.out) (by rw [HM.out]; exact hle) (HE.out.trans E6.out)
          rw [HLEN.out] at hcall
          refine hcall.mono ?_
          rintro e w7 ⟨⟨v7, rfl, hp7⟩, hE7, hK7⟩
          have HP7 := Lib.hid hp7; have HE7 := Lib.hid hE7; have HK7 := Lib.hid (HKT.out.trans ((Kt.ext E6.out).trans hK7)); clear hp7 hE7 hK7 hcall hdd
          go_wp2
          go_roundw
          case rel => exact ⟨V + 1, _, rfl, by omega, by omega, HP7.out, hptl, HT2.out, HE7.out, HK7.out⟩
          case measure => simp [intOf]; omega
        · have hb2 : decide ((m : Int) ≤ 120) = false := decide_eq_false (by omega)
          have hN : os = TOT := by
            rw [← HT.out, show (hi - V).toNat = (hi - (V + 1)).toNat + 1 by omega]
            simp only [ptsLoop]
            rw [if_neg (by rw [HM.out]; exact hle)]
          have HN0 := Lib.hid hN; clear hN
          go_wp2
          go_ret
          exact ⟨⟨_, rfl, by rw [← HN0.out]; exact HOV.out⟩, HE.out, (Kt.ext HE1.out).trans HKT.out⟩
      · have hb1 : decide (V < hi) = false := by simp; omega
        have hN : os = TOT := by
          rw [← HT.out, show (hi - V).toNat = 0 by omega]
          rfl
        have HN0 := Lib.hid hN; clear hN
        go_wp2
        go_ret
        exact ⟨⟨_, rfl, by rw [← HN0.out]; exact HOV.out⟩, HE.out, (Kt.ext HE1.out).trans HKT.out⟩

set_option linter.unusedVariables false in
set_option maxRecDepth 100000 in
set_option maxHeartbeats 4000000 in
theorem l2PtsNil (W0 : World) (pn : Option Addr) (n c : Nat) (ls : List Lp) (hnb : nestB ls = true) (hn : ls.length = n) (hs : LoopsAt W0 (.slice pn n c) ls) : ∀ (d : Nat) (ps : List Int) (ov : Value) (xss : List (List Int)) (w : World), d = n → ps = [] → PB ps → PtsOwn W0.heap.size w ov xss → xss.length ≤ 120 → Ext W0 w →
    Calls Try.prog 68 #[ov, .slice pn n c, .slice none 0 0] w fun e w' => (∃ v', e = .returned v' ∧ PtsOwn W0.heap.size w' v' (pts ls d ps xss)) ∧ Ext W0 w' ∧ Kt w w'
  | 0, ps, ov, xss, w, hd, hps, hpb, ho, hl, hE => by
    obtain ⟨i0, hi0, hz0, hz1, hz2⟩ := info_parts infoInt
    obtain ⟨j0, hj0, hj1, hj2, hj3⟩ := info_parts infoSS
    subst hd
    have HPS := Lib.hid hps; have HK : Hid (ps.length = 0) := Lib.hid (by rw [hps]; rfl); clear hps
    have hb : ((0 : Int) == (0 : Int)) = true := rfl
    have HO := Lib.hid ho; have HX := Lib.hid hE; clear ho hE
    obtain ⟨qo, co2, rfl⟩ := PtsOwn.slice HO.out
    obtain ⟨m, hm⟩ : ∃ m, xss.length = m := ⟨_, rfl⟩
    have HM := Lib.hid hm
    rw [hm] at hl HO ⊢
    clear hm
    obtain ⟨wr, hwr⟩ : ∃ wr, wr = w := ⟨_, rfl⟩
    subst hwr
    have HQ0 : Hid ((wr.alloc (.cells #[] 3)).ownsRow wr.heap.size 3 1 (.slice (some ⟨wr.heap.size, 0, none⟩) 0 0) 0 []) := Lib.hid (World.ownsRow_made wr #[] 0 (Nat.le_refl _) (Nat.zero_le _) rfl)
    go_enter Try.func68, Try.ntmps68
    have E4 := Lib.hid ((Ext.refl wr).alloc (.cells #[] 3))
    have HO4 : Hid ((wr.alloc (.cells #[] 3)).ownsRow wr.heap.size 3 1 (.slice (some ⟨wr.heap.size, 0, none⟩) 0 0) 0 (ps.map (Value.int .i64))) := Lib.hid (by rw [HPS.out]; exact HQ0.out)
    have hsz4 := E4.out.size_le; simp only [World.size_alloc] at hsz4
    have EE := E4.out.alloc (.cells #[.slice (some ⟨wr.heap.size, 0, none⟩) 0 0] 22)
    have HPO := Lib.hid (HO.out.ext EE)
    obtain ⟨vs, ho, he⟩ := HPO.out
    rw [HM.out] at ho
    have hvl := ho.1
    rw [Nat.mul_one] at hvl
    have hx0 := HX.out.size_le
    have HEL : Hid (IntsOwn W0.heap.size ((wr.alloc (.cells #[] 3)).alloc (.cells #[.slice (some ⟨wr.heap.size, 0, none⟩) 0 0] 22)) (.slice (some ⟨wr.heap.size, 0, none⟩) 0 0) ps) := Lib.hid (IntsOwn.ext (IntsOwn.weak (IntsOwn.mk HO4.out HK.out) hx0) ((Ext.refl _).alloc _))
    have HHE := Lib.hid he; clear he HPO
    go_wp2_with (at_builtin; refine wpList_append_own_at _ rfl (.tmp 15) (.tmp 19) 44 rfl W0.heap.size 22 j0 (.slice none 0 0) 1 24 underSS hj0 hj1 hj2 hj3 rfl (by decide) (.slice qo m co2) m vs rfl ho ⟨wr.heap.size + 1, 0, none⟩ 1 1 [.slice (some ⟨wr.heap.size, 0, none⟩) 0 0] rfl rfl ?e1 ?e2 ?e3 ?e4 ?e5 ?_)
    case e1 => exact one_cell (by simp)
    case e2 => intro u hu; simp at hu; subst hu; rfl
    case e3 => unfold maxLen; omega
    case e4 => omega
    case e5 => simp; omega
    intro v2 w6 hown2 hgrow2 hnil2 hat2
    have HRS := Lib.hid (PtsOwn.push HM.out HHE.out hvl hown2 hgrow2 (own_tag ho) HEL.out)
    have EW := Lib.hid ((HX.out.trans EE).grown hgrow2 (fun b hb => (ho.lt b hb).1)); have KW := Lib.hid ((Kt.ext EE).trans (Kt.grown hgrow2 (own_tag ho)))
    clear hown2 hgrow2 hnil2 hat2 ho EE
    go_wp2
    go_ret
    exact ⟨⟨_, rfl, HRS.out⟩, EW.out, KW.out⟩
  | d + 1, ps, ov, xss, w, hd, hps, hpb, ho, hl, hE => by
    obtain ⟨i0, hi0, hz0, hz1, hz2⟩ := info_parts infoInt
    have hn4 : n ≤ 4 := by have := (nestB_iff.1 hnb).1; rw [hn] at this; exact this
    obtain ⟨x, hx⟩ := get_some (xs := ls) (k := ps.length) (by rw [hps]; simp <;> omega)
    obtain ⟨b, off, q1, n1, q2, n2, rfl, c0, c1, hbb, hr1, hr2⟩ := hs.elem hx
    replace c0 := hE.keep c0
    replace c1 := hE.keep c1
    have hsd := nest_side hnb hx
    have hpt := hpb.pt (by rw [hps]; simp <;> omega)
    have hlo := lo_bd hsd.1 hpb (by rw [hps]; simp <;> omega)
    have hhi := hi_bd hsd.2 hpb (by rw [hps]; simp <;> omega)
    have hbn := bnd_le ps.length
    have HS := Lib.hid hs; have HX := Lib.hid hx; have HR1 := Lib.hid (hr1.ext hE); have HR2 := Lib.hid (hr2.ext hE); have S1 := Lib.hid hsd.1; have S2 := Lib.hid hsd.2; have HPT := Lib.hid hpt; have HPB := Lib.hid hpb; have HO := Lib.hid ho; have HE0 := Lib.hid hE
    have HIH := Lib.hid (l2PtsRow W0 (some ⟨b, off, none⟩) n c ls hnb hn hs d)
    have HTOT : Hid (pts ls (d + 1) ps xss = ptsLoop (fun v o => pts ls d (ps ++ [v]) o) (hiV x ps - loV x ps).toNat (loV x ps) xss) := Lib.hid (by rw [← lpAt_of HX.out]; rfl)
    clear hs hx hr1 hr2 hsd hpt hpb hn hnb ho hE
    have hk : ps.length = 0 := by rw [hps]; rfl
    have HP : Hid (IntsAt w (.slice none 0 0) ps) := Lib.hid (by rw [hps]; exact ⟨none, 0, rfl, by simp, fun i x h => by simp at h⟩)
    have HPS := Lib.hid hps; clear hps
    rw [hk] at hlo hhi hbn c0 c1
    simp only [Nat.zero_mul, Nat.add_zero] at c0 c1
    have HK := Lib.hid hk; clear hk
    have hb : ((0 : Int) == (n : Int)) = false := by simp; omega
    have hkn : (0 : Int) < (n : Int) := by omega
    rw [HTOT.out]
    obtain ⟨TOT, hT0⟩ : ∃ TOT, ptsLoop (fun v o => pts ls d (ps ++ [v]) o) (hiV x ps - loV x ps).toNat (loV x ps) xss = TOT := ⟨_, rfl⟩
    rw [hT0]
    have HT0 := Lib.hid hT0; clear hT0
    obtain ⟨qo, co2, rfl⟩ := PtsOwn.slice HO.out
    go_enter Try.func68, Try.ntmps68
    go_wp2_with (fail)
    refine (l2Range_any _ _ x (.slice none 0 0) ps _ HR1.out HR2.out HP.out S1.out S2.out HPT.out).mono ?_
    rintro e w1 ⟨rfl, hE⟩
    generalize loV x ps = lo at *
    generalize hiV x ps = hi at *
    have HE1 := Lib.hid hE
    clear hE c0 c1 HTOT
    go_wp2_with (fail)
    go_loopw [0, 9] (fun ov vv wr => ∃ (V : Int) (os : List (List Int)), vv = .int .i64 V ∧ lo ≤ V ∧ (V ≤ hi ∨ V = lo) ∧ PtsOwn W0.heap.size wr ov os ∧ os.length ≤ 121 ∧ ptsLoop (fun v o => pts ls d (ps ++ [v]) o) (hi - V).toNat V os = TOT ∧ Ext W0 wr ∧ Kt w1 wr) (fun _ vv _ => (hi - intOf vv).toNat)
    case atStart => exact ⟨lo, xss, rfl, by omega, .inr rfl, HO.out.ext HE1.out, by omega, HT0.out, HE0.out.trans HE1.out, Kt.refl _⟩
    case round =>
      obtain ⟨V, os, rfl, hV1, hV2, hov, hol, hT, hE, hKt⟩ := hrel
      have HT := Lib.hid hT; have HE := Lib.hid hE; have HOV := Lib.hid hov; have HKT := Lib.hid hKt; clear hT hE hov hKt HT0
      have hV2' := Lib.hid hV2; clear hV2
      obtain ⟨qv, cv, rfl⟩ := PtsOwn.slice HOV.out
      obtain ⟨m, hm⟩ : ∃ m, os.length = m := ⟨_, rfl⟩
      have HM := Lib.hid hm
      rw [hm] at hol HOV ⊢
      clear hm
      by_cases hlt : V < hi
      · have hb1 : decide (V < hi) = true := by simp [hlt]
        by_cases hle : m ≤ 120
        · have hb2 : decide ((m : Int) ≤ 120) = true := decide_eq_true (by omega)
          have HT2 : Hid (ptsLoop (fun v o => pts ls d (ps ++ [v]) o) (hi - (V + 1)).toNat (V + 1) (pts ls d (ps ++ [V]) os) = TOT) := Lib.hid (by
            rw [← HT.out, show (hi - V).toNat = (hi - (V + 1)).toNat + 1 by omega]
            simp only [ptsLoop]
            rw [if_pos (by rw [HM.out]; exact hle)])
          have hptl := pts_bd ls d (ps ++ [V]) os (by rw [HM.out]; exact hle)
          have HQ0 : Hid ((wr.alloc (.cells #[] 3)).ownsRow wr.heap.size 3 1 (.slice (some ⟨wr.heap.size, 0, none⟩) 0 0) 0 []) := Lib.hid (World.ownsRow_made wr #[] 0 (Nat.le_refl _) (Nat.zero_le _) rfl)
          have hpb2 : PB (ps ++ [V]) := HPB.out.push (by rw [HK.out]; omega) (by rw [HK.out]; omega)
          have E4 := Lib.hid ((Ext.refl wr).alloc (.cells #[] 3))
          have HO4 : Hid ((wr.alloc (.cells #[] 3)).ownsRow wr.heap.size 3 1 (.slice (some ⟨wr.heap.size, 0, none⟩) 0 0) 0 (ps.map (Value.int .i64))) := Lib.hid (by rw [HPS.out]; exact HQ0.out)
          have HO5 : Hid (((wr.alloc (.cells #[] 3)).alloc (.cells #[.int .i64 V] 3)).ownsRow wr.heap.size 3 1 (.slice (some ⟨wr.heap.size, 0, none⟩) 0 0) 0 (ps.map (Value.int .i64))) := Lib.hid (HO4.out.alloc _)
          have hsz4 := E4.out.size_le; simp only [World.size_alloc] at hsz4
          go_wp2_with (at_builtin; refine wpList_append_own_at _ rfl (.tmp 46) (.tmp 48) 22 rfl wr.heap.size 3 i0 (.int .i64 0) 1 8 Try.underlying22 hi0 hz0 hz1 hz2 rfl (by decide) (.slice (some ⟨wr.heap.size, 0, none⟩) 0 0) 0 (ps.map (Value.int .i64)) rfl HO5.out ⟨wr.heap.size + 1, 0, none⟩ 1 1 [.int .i64 V] rfl rfl ?d1 ?d2 ?d3 ?d4 ?d5 ?_)
          case d1 => intro j u hu; match j, hu with | 0, hu => (simp at hu; subst hu; simp [Addr.add, go_sem])
          case d2 => intro u hu; simp at hu; subst hu; rfl
          case d3 => unfold maxLen; omega
          case d4 => omega
          case d5 => simp; omega
          intro v2 w6 hown2 hgrow2 hnil2 hat2
          have hne2 : v2 ≠ .slice none 0 0 := by intro e; have := hnil2; simp [e] at this
          have HO6 : Hid (w6.ownsRow wr.heap.size 3 1 v2 (0 + 1) ((ps ++ [V]).map (Value.int .i64))) := Lib.hid (by simpa using hown2)
          obtain ⟨g2, c2, rfl, hc2⟩ := own_form' HO6.out hne2
          have E6 := Lib.hid ((E4.out.alloc (.cells #[.int .i64 V] 3)).grown hgrow2 (fun b hb => (HO5.out.lt b hb).1))
          clear hown2 hgrow2 hnil2 hat2 hne2 HO5
          have hlen : (ps ++ [V]).length = 0 + 1 := by rw [List.length_append, HK.out]; rfl
          have hdd : (ps ++ [V]).length + d = n := by rw [hlen]; omega
          have HLEN := Lib.hid hlen; clear hlen
          go_wp2_with (fail)
          have hcall := HIH.out g2 c2 (ps ++ [V]) (.slice qv m cv) os w6 hdd hpb2 (by rw [HLEN.out]; exact ownsRow_weak HO6.out (Nat.zero_le _)) (HOV.out.ext E6.out) (by rw [HM.out]; exact hle) (HE.out.trans E6.out)
          rw [HLEN.out] at hcall
          refine hcall.mono ?_
          rintro e w7 ⟨⟨v7, rfl, hp7⟩, hE7, hK7⟩
          have HP7 := Lib.hid hp7; have HE7 := Lib.hid hE7; have HK7 := Lib.hid (HKT.out.trans ((Kt.ext E6.out).trans hK7)); clear hp7 hE7 hK7 hcall hdd
          go_wp2
          go_roundw
          case rel => exact ⟨V + 1, _, rfl, by omega, by omega, HP7.out, hptl, HT2.out, HE7.out, HK7.out⟩
          case measure => simp [intOf]; omega
        · have hb2 : decide ((m : Int) ≤ 120) = false := decide_eq_false (by omega)
          have hN : os = TOT := by
            rw [← HT.out, show (hi - V).toNat = (hi - (V + 1)).toNat + 1 by omega]
            simp only [ptsLoop]
            rw [if_neg (by rw [HM.out]; exact hle)]
          have HN0 := Lib.hid hN; clear hN
          go_wp2
          go_ret
          exact ⟨⟨_, rfl, by rw [← HN0.out]; exact HOV.out⟩, HE.out, (Kt.ext HE1.out).trans HKT.out⟩
      · have hb1 : decide (V < hi) = false := by simp; omega
        have hN : os = TOT := by
          rw [← HT.out, show (hi - V).toNat = 0 by omega]
          rfl
        have HN0 := Lib.hid hN; clear hN
        go_wp2
        go_ret
        exact ⟨⟨_, rfl, by rw [← HN0.out]; exact HOV.out⟩, HE.out, (Kt.ext HE1.out).trans HKT.out⟩
end Go.Proofs.Ytccibfldadflkaa

namespace Go.Proofs.Ytccibfldadflkaa
open Go.RowKit

/-- Whether the document's NestPoints lists a nest's points, and which. -/
def nptsB (ls : List Lp) : Bool := nestB ls && (decide (work ls ls.length [] 1200 ≤ 1200) && decide ((pts ls ls.length [] []).length ≤ 120))
def nptsL (ls : List Lp) : List (List Int) := if nptsB ls = true then pts ls ls.length [] [] else []
theorem IntsOwn.dr {B g : Nat} {w w' : World} {v : Value} {xs : List Int} (h : IntsOwn B w v xs) (hD : Dr w g w') (hB : g < B) : IntsOwn B w' v xs := row_dr h hD hB
theorem PtsOwn.dr {B g : Nat} {w w' : World} {v : Value} {xss : List (List Int)} (h : PtsOwn B w v xss) (hD : Dr w g w') (hB : g < B) : PtsOwn B w' v xss := by
  obtain ⟨vs, ho, he⟩ := h
  exact ⟨vs, row_dr ho hD hB, fun i xs hi => by obtain ⟨u, h0, h1⟩ := he i xs hi; exact ⟨u, h0, h1.dr hD hB⟩⟩
theorem PtsOwn.weak {B B' : Nat} {w : World} {v : Value} {xss : List (List Int)} (h : PtsOwn B w v xss) (hB : B' ≤ B) : PtsOwn B' w v xss := by
  obtain ⟨vs, ho, he⟩ := h
  exact ⟨vs, ownsRow_weak ho hB, fun i xs hi => by obtain ⟨u, h0, h1⟩ := he i xs hi; exact ⟨u, h0, h1.weak hB⟩⟩
theorem PtsOwn.get {B m c i : Nat} {w : World} {p : Option Addr} {xss : List (List Int)} (h : PtsOwn B w (.slice p m c) xss) (hm : xss.length = m) (hi : i < m) : ∃ g xs u, p = some ⟨g, 0, none⟩ ∧ w.cell? ⟨g, i, none⟩ = some u ∧ IntsOwn B w u xs ∧ xs ∈ xss := by
  obtain ⟨vs, ho, he⟩ := h
  rw [hm] at ho
  obtain ⟨xs, hx⟩ := get_some (xs := xss) (k := i) (by omega)
  obtain ⟨u, h0, h1⟩ := he i xs hx
  have hne : (Value.slice p m c) ≠ .slice none 0 0 := by intro e; simp at e; omega
  obtain ⟨g, c', e, -⟩ := own_form' ho hne
  simp only [Value.slice.injEq] at e
  obtain ⟨rfl, -, rfl⟩ := e
  exact ⟨g, xs, u, rfl, by rw [ho.cellAt i (by omega)]; exact h0, h1, List.mem_of_getElem? hx⟩

theorem ptsLoop_mem {P : List Int → Prop} {f : Int → List (List Int) → List (List Int)} {L H : Int} (hf : ∀ v o, L ≤ v → v < H → (∀ x ∈ o, P x) → ∀ x ∈ f v o, P x) : ∀ (k : Nat) (v : Int) (o : List (List Int)), L ≤ v → (0 < k → v + k ≤ H) → (∀ x ∈ o, P x) → ∀ x ∈ ptsLoop f k v o, P x
  | 0, _, _, _, _, ho => ho
  | k + 1, v, o, h1, h2, ho => by
    simp only [ptsLoop]
    have h3 := h2 (by omega)
    split
    · exact ptsLoop_mem hf k (v + 1) _ (by omega) (fun _ => by omega) (hf v o h1 (by omega) ho)
    · exact ho
/-- Every point that is listed keeps the bounds. -/
theorem pts_PB {ls : List Lp} (hv : nestB ls = true) : ∀ (d : Nat) (ps : List Int) (out : List (List Int)), ps.length + d = ls.length → PB ps → (∀ x ∈ out, PB x) → ∀ x ∈ pts ls d ps out, PB x
  | 0, ps, out, _, hp, ho => by
    simp only [pts]
    intro x hx
    rcases List.mem_append.1 hx with h | h
    · exact ho x h
    · simp at h; rw [h]; exact hp
  | d + 1, ps, out, hd, hp, ho => by
    simp only [pts]
    have h4 : ls.length ≤ 4 := (nestB_iff.1 hv).1
    obtain ⟨x, hx⟩ := get_some (xs := ls) (k := ps.length) (by omega)
    obtain ⟨s1, s2⟩ := nest_side hv hx
    rw [lpAt_of hx]
    have b1 := lo_bd s1 hp (by omega)
    have b2 := hi_bd s2 hp (by omega)
    exact ptsLoop_mem (P := PB) (L := loV x ps) (H := hiV x ps) (fun v o h1 h2 ho => pts_PB hv d (ps ++ [v]) o (by rw [List.length_append]; simp; omega) (hp.push (by omega) (by omega)) ho) _ _ _ (Int.le_refl _) (fun h => by omega) ho
theorem npts_PB {ls : List Lp} {xs : List Int} (h : xs ∈ nptsL ls) : PB xs := by
  unfold nptsL at h
  split at h
  · rename_i hb
    simp only [nptsB, Bool.and_eq_true] at hb
    exact pts_PB hb.1 _ [] [] (by simp) PB.nil (by simp) xs h
  · simp at h

set_option linter.unusedVariables false in
set_option maxHeartbeats 4000000 in
theorem specNestPoints_any (p : Option Addr) (n c : Nat) (ls : List Lp) (w : World) (hn : ls.length = n) (hs : LoopsAt w (.slice p n c) ls) :
    Calls Try.prog 34 #[.slice p n c] w fun e w' => (∃ v' b, e = .returned (.tuple #[v', .bool b]) ∧ b = nptsB ls ∧ PtsOwn w.heap.size w' v' (nptsL ls)) ∧ Ext w w' := by
  have HS := Lib.hid hs; have HN := Lib.hid hn; clear hs hn
  have HM : ∀ w1 : World, Ext w w1 → nptsB ls = false → Hid (PtsOwn w.heap.size (w1.alloc (.cells #[] 22)) (.slice (some ⟨w1.heap.size, 0, none⟩) 0 0) (nptsL ls)) := fun w1 E1 hf => Lib.hid (by
    rw [show nptsL ls = [] by simp [nptsL, hf]]
    exact PtsOwn.made (ownsRow_weak (World.ownsRow_made w1 #[] 0 (Nat.le_refl _) (Nat.zero_le _) rfl) E1.size_le))
  cases hv : nestB ls with
  | false =>
    have HV := Lib.hid hv; clear hv
    have HB : Hid (nptsB ls = false) := Lib.hid (by simp [nptsB, HV.out])
    go_enter Try.func34, Try.ntmps34
    go_wp2_with (fail)
    refine (specNestValid_any _ _ _ ls _ HN.out HS.out).mono ?_
    rw [HV.out]
    rintro e w1 ⟨rfl, E1⟩
    have HR := HM w1 E1 HB.out
    clear HM
    go_wp2
    exact bodyPost_ret (v := .tuple #[.slice (some ⟨w1.heap.size, 0, none⟩) 0 0, .bool false]) (by simp [results, Try.results34, go_sem]) rfl ⟨⟨_, _, rfl, HB.out.symm, HR.out⟩, E1.alloc _⟩
  | true =>
    have HV := Lib.hid hv; clear hv
    go_enter Try.func34, Try.ntmps34
    go_wp2_with (fail)
    refine (specNestValid_any _ _ _ ls _ HN.out HS.out).mono ?_
    rw [HV.out]
    rintro e w1 ⟨rfl, E1⟩
    go_wp2_with (fail)
    refine (l2WorkNil p n c ls HV.out HN.out n [] 1200 w1 rfl rfl PB.nil (HS.out.ext E1) (by omega) (by omega)).mono ?_
    rintro e w2 ⟨rfl, E2⟩
    obtain ⟨k, hk⟩ : ∃ k, work ls n [] 1200 = k := ⟨_, rfl⟩
    rw [hk]
    have HK := Lib.hid hk; clear hk
    have E02 := Lib.hid (E1.trans E2)
    clear E1 E2
    by_cases hw : k ≤ 1200
    · have hb : decide ((1200 : Int) < k) = false := by simp; omega
      have HWK : Hid (k ≤ 1200) := Lib.hid hw
      clear hw
      have HP0 : Hid (PtsOwn w2.heap.size (w2.alloc (.cells #[] 22)) (.slice (some ⟨w2.heap.size, 0, none⟩) 0 0) []) := Lib.hid (PtsOwn.made (World.ownsRow_made w2 #[] 0 (Nat.le_refl _) (Nat.zero_le _) rfl))
      go_wp2_with (fail)
      refine (l2PtsNil w2 p n c ls HV.out HN.out (HS.out.ext E02.out) n [] _ [] _ rfl rfl PB.nil HP0.out (by simp) ((Ext.refl w2).alloc _)).mono ?_
      rintro e w3 ⟨⟨v', rfl, ho⟩, E3, -⟩
      clear HP0
      obtain ⟨q, d, rfl⟩ := ho.slice
      have hbd : (pts ls n [] []).length ≤ 121 := pts_bd ls n [] [] (by simp)
      obtain ⟨m, hm⟩ : ∃ m, (pts ls n [] []).length = m := ⟨_, rfl⟩
      rw [hm] at ho hbd ⊢
      have HMM := Lib.hid hm; have HO := Lib.hid ho; clear hm ho
      have E03 := Lib.hid (E02.out.trans E3); clear E3
      by_cases hl : m ≤ 120
      · have hb2 : decide ((120 : Int) < (m : Int)) = false := by simp; omega
        have HB : Hid (nptsB ls = true) := Lib.hid (by simp only [nptsB, HN.out, HV.out, HK.out, HMM.out, Bool.true_and, Bool.and_eq_true, decide_eq_true_eq]; exact ⟨HWK.out, hl⟩)
        have HQ : Hid (PtsOwn w.heap.size w3 (.slice q m d) (nptsL ls)) := Lib.hid (by
          rw [show nptsL ls = pts ls n [] [] by simp [nptsL, HB.out, HN.out]]
          exact HO.out.weak E02.out.size_le)
        clear HM hl
        go_wp2
        exact bodyPost_ret (v := .tuple #[.slice q m d, .bool true]) (by simp [results, Try.results34, go_sem]) rfl ⟨⟨_, _, rfl, HB.out.symm, HQ.out⟩, E03.out⟩
      · have hb2 : decide ((120 : Int) < (m : Int)) = true := by simp; omega
        have HB : Hid (nptsB ls = false) := Lib.hid (by simp only [nptsB, HN.out, HV.out, HK.out, HMM.out, Bool.true_and, Bool.and_eq_false_iff, decide_eq_false_iff_not]; exact .inr hl)
        have HR := HM w3 E03.out HB.out
        clear HM hl
        go_wp2
        exact bodyPost_ret (v := .tuple #[.slice (some ⟨w3.heap.size, 0, none⟩) 0 0, .bool false]) (by simp [results, Try.results34, go_sem]) rfl ⟨⟨_, _, rfl, HB.out.symm, HR.out⟩, E03.out.alloc _⟩
    · have hb : decide ((1200 : Int) < k) = true := by simp; omega
      have HB : Hid (nptsB ls = false) := Lib.hid (by simp only [nptsB, HN.out, HV.out, HK.out, Bool.true_and, Bool.and_eq_false_iff, decide_eq_false_iff_not]; exact .inl hw)
      have HR := HM w2 E02.out HB.out
      clear HM hw
      go_wp2
      exact bodyPost_ret (v := .tuple #[.slice (some ⟨w2.heap.size, 0, none⟩) 0 0, .bool false]) (by simp [results, Try.results34, go_sem]) rfl ⟨⟨_, _, rfl, HB.out.symm, HR.out⟩, E02.out.alloc _⟩
end Go.Proofs.Ytccibfldadflkaa

namespace Go.Proofs.Ytccibfldadflkaa
open Go.RowKit

def listLoop (f : Int → List (List Int)) : Nat → Int → List (List Int)
  | 0, _ => []
  | k + 1, v => f v ++ listLoop f k (v + 1)
def trips (ls : List Lp) (ps : List Int) : Nat := (hiV (lpAt ls ps) ps - loV (lpAt ls ps) ps).toNat
/-- The prefixes from ps on: ps, then those of the iterations of the next loop. -/
def pre (ls : List Lp) : Nat → List Int → List (List Int)
  | 0, ps => [ps]
  | d + 1, ps => ps :: listLoop (fun v => pre ls d (ps ++ [v])) (trips ls ps) (loV (lpAt ls ps) ps)
/-- The points that begin with ps. -/
def leaves (ls : List Lp) : Nat → List Int → List (List Int)
  | 0, ps => [ps]
  | d + 1, ps => listLoop (fun v => leaves ls d (ps ++ [v])) (trips ls ps) (loV (lpAt ls ps) ps)

/-- The model's count: right up to the limit, above it otherwise. -/
theorem workLoop_count {f : Int → Int → Int} {g : Int → List (List Int)} {most : Int} (hf : ∀ v m, 0 ≤ m → (((g v).length : Int) ≤ m → f v m = (g v).length) ∧ (m < ((g v).length : Int) → m < f v m)) :
    ∀ (k : Nat) (v n : Int), (n + ((listLoop g k v).length : Int) ≤ most → workLoop f most k v n = n + (listLoop g k v).length) ∧ (most < n + ((listLoop g k v).length : Int) → most < workLoop f most k v n)
  | 0, v, n => by simp [listLoop, workLoop]
  | k + 1, v, n => by
    simp only [listLoop, workLoop, List.length_append]
    by_cases hn : n ≤ most
    · rw [if_pos hn]
      have h1 := hf v (most - n) (by omega)
      have h2 := workLoop_count (most := most) hf k (v + 1) (n + f v (most - n))
      rcases Int.lt_or_le (most - n) ((g v).length : Int) with hc | hc
      · have h3 := h1.2 hc
        refine ⟨fun h => by omega, fun _ => h2.2 (by omega)⟩
      · have h3 := h1.1 hc
        rw [h3] at h2 ⊢
        refine ⟨fun h => ?_, fun h => h2.2 (by omega)⟩
        rw [h2.1 (by omega)]; omega
    · rw [if_neg hn]
      exact ⟨fun h => by omega, fun _ => by omega⟩
theorem work_count (ls : List Lp) : ∀ (d : Nat) (ps : List Int) (most : Int), 0 ≤ most → (((pre ls d ps).length : Int) ≤ most → work ls d ps most = (pre ls d ps).length) ∧ (most < ((pre ls d ps).length : Int) → most < work ls d ps most)
  | 0, ps, most, h => by simp [work, pre]
  | d + 1, ps, most, h => by
    have h1 := workLoop_count (f := fun v m => work ls d (ps ++ [v]) m) (g := fun v => pre ls d (ps ++ [v])) (most := most) (fun v m hm => work_count ls d (ps ++ [v]) m hm) (trips ls ps) (loV (lpAt ls ps) ps) 1
    simp only [work, pre, List.length_cons]
    unfold trips at *
    refine ⟨fun h => ?_, fun h => h1.2 (by omega)⟩
    rw [h1.1 (by omega)]; omega
/-- The model's list: right up to the limit, longer otherwise. -/
theorem ptsLoop_count {f : Int → List (List Int) → List (List Int)} {g : Int → List (List Int)} (hf : ∀ v o, o.length ≤ 120 → ((o ++ g v).length ≤ 120 → f v o = o ++ g v) ∧ (120 < (o ++ g v).length → 120 < (f v o).length)) :
    ∀ (k : Nat) (v : Int) (o : List (List Int)), ((o ++ listLoop g k v).length ≤ 120 → ptsLoop f k v o = o ++ listLoop g k v) ∧ (120 < (o ++ listLoop g k v).length → 120 < (ptsLoop f k v o).length)
  | 0, v, o => by simp [listLoop, ptsLoop]
  | k + 1, v, o => by
    simp only [listLoop, ptsLoop]
    rw [← List.append_assoc]
    by_cases hn : o.length ≤ 120
    · rw [if_pos hn]
      have h1 := hf v o hn
      rcases Nat.lt_or_ge 120 (o ++ g v).length with hc | hc
      · have h3 := h1.2 hc
        have h2 := ptsLoop_count hf k (v + 1) (f v o)
        refine ⟨fun h => by rw [List.length_append] at h; omega, fun _ => h2.2 (by rw [List.length_append]; omega)⟩
      · rw [h1.1 hc]
        exact ptsLoop_count hf k (v + 1) (o ++ g v)
    · rw [if_neg hn]
      refine ⟨fun h => by rw [List.length_append, List.length_append] at h; omega, fun _ => by omega⟩
theorem pts_count (ls : List Lp) : ∀ (d : Nat) (ps : List Int) (o : List (List Int)), o.length ≤ 120 → ((o ++ leaves ls d ps).length ≤ 120 → pts ls d ps o = o ++ leaves ls d ps) ∧ (120 < (o ++ leaves ls d ps).length → 120 < (pts ls d ps o).length)
  | 0, ps, o, h => by unfold pts leaves; exact ⟨fun _ => rfl, fun h => h⟩
  | d + 1, ps, o, h => by
    simp only [pts, leaves]
    unfold trips
    exact ptsLoop_count (g := fun v => leaves ls d (ps ++ [v])) (fun v o ho => pts_count ls d (ps ++ [v]) o ho) _ _ o
/-- What NestPoints answers, said with the prefixes and the points. -/
theorem nptsB_pre {ls : List Lp} (hv : nestB ls = true) : nptsB ls = (decide ((pre ls ls.length []).length ≤ 1200) && decide ((leaves ls ls.length []).length ≤ 120)) := by
  have h1 := work_count ls ls.length [] 1200 (by omega)
  have h2 := pts_count ls ls.length [] [] (by simp)
  simp only [List.nil_append] at h2
  unfold nptsB
  rw [hv, Bool.true_and]
  congr 1
  · rcases Nat.lt_or_ge 1200 (pre ls ls.length []).length with h | h
    · have := h1.2 (by omega); rw [decide_eq_false (by omega), decide_eq_false (by omega)]
    · have := h1.1 (by omega); rw [decide_eq_true (by omega), decide_eq_true (by omega)]
  · rcases Nat.lt_or_ge 120 (leaves ls ls.length []).length with h | h
    · have := h2.2 h; rw [decide_eq_false (by omega), decide_eq_false (by omega)]
    · rw [h2.1 h]
theorem nptsL_leaves {ls : List Lp} (h : nptsB ls = true) : nptsL ls = leaves ls ls.length [] := by
  have hv : nestB ls = true := by simp only [nptsB, Bool.and_eq_true] at h; exact h.1
  have h2 := pts_count ls ls.length [] [] (by simp)
  simp only [List.nil_append] at h2
  rw [nptsB_pre hv] at h
  simp only [Bool.and_eq_true, decide_eq_true_eq] at h
  unfold nptsL
  rw [if_pos (by rw [nptsB_pre hv]; simp only [Bool.and_eq_true, decide_eq_true_eq]; exact h)]
  exact h2.1 h.2
theorem listLoop_mem {P : List Int → Prop} {f : Int → List (List Int)} {L H : Int} (hf : ∀ v, L ≤ v → v < H → ∀ x ∈ f v, P x) : ∀ (k : Nat) (v : Int), L ≤ v → (0 < k → v + k ≤ H) → ∀ x ∈ listLoop f k v, P x
  | 0, _, _, _ => fun x hx => by simp [listLoop] at hx
  | k + 1, v, h1, h2 => fun x hx => by
    have h3 := h2 (by omega)
    rcases List.mem_append.1 hx with h | h
    · exact hf v h1 (by omega) x h
    · exact listLoop_mem hf k (v + 1) (by omega) (fun _ => by omega) x h
/-- Every prefix keeps the bounds and is no longer than the nest. -/
theorem pre_PB {ls : List Lp} (hv : nestB ls = true) : ∀ (d : Nat) (ps : List Int), ps.length + d = ls.length → PB ps → ∀ x ∈ pre ls d ps, PB x ∧ x.length ≤ ls.length
  | 0, ps, hd, hp => fun x hx => by simp [pre] at hx; subst hx; exact ⟨hp, by omega⟩
  | d + 1, ps, hd, hp => fun x hx => by
    have h4 : ls.length ≤ 4 := (nestB_iff.1 hv).1
    rcases List.mem_cons.1 hx with rfl | hx
    · exact ⟨hp, by omega⟩
    · obtain ⟨y, hy⟩ := get_some (xs := ls) (k := ps.length) (by omega)
      obtain ⟨s1, s2⟩ := nest_side hv hy
      have b1 := lo_bd s1 hp (by omega)
      have b2 := hi_bd s2 hp (by omega)
      rw [trips, lpAt_of hy] at hx
      exact listLoop_mem (P := fun x => PB x ∧ x.length ≤ ls.length) (L := loV y ps) (H := hiV y ps) (fun v h1 h2 => pre_PB hv d (ps ++ [v]) (by rw [List.length_append]; simp; omega) (hp.push (by omega) (by omega))) _ _ (Int.le_refl _) (fun h => by omega) x hx
theorem listLoop_filter {p : List Int → Bool} {f g : Int → List (List Int)} (h : ∀ v, (f v).filter p = g v) : ∀ (k : Nat) (v : Int), (listLoop f k v).filter p = listLoop g k v
  | 0, _ => rfl
  | k + 1, v => by simp only [listLoop, List.filter_append]; rw [h v, listLoop_filter h k (v + 1)]
/-- The points are the longest prefixes, in the same order. -/
theorem pre_leaves (ls : List Lp) : ∀ (d : Nat) (ps : List Int), ps.length + d = ls.length → (pre ls d ps).filter (fun x => decide (x.length = ls.length)) = leaves ls d ps
  | 0, ps, hd => by simp only [pre, leaves]; rw [List.filter_cons_of_pos (by simp; omega)]; rfl
  | d + 1, ps, hd => by
    simp only [pre, leaves]
    rw [List.filter_cons_of_neg (by simp; omega)]
    exact listLoop_filter (fun v => pre_leaves ls d (ps ++ [v]) (by rw [List.length_append]; simp; omega)) _ _
end Go.Proofs.Ytccibfldadflkaa

/- The texts A12, joined. No statement is proved here. -/
import Derived.Test.YtccibfldadflkaaQV34
import Derived.Deep.AppendLies
import Derived.Deep.RegionLaw
import Derived.Deep.RegionHeld3
/- Contracts: the model's combination of two expressions. -/
namespace Go.Proofs.Ytccibfldadflkaa
open Go.RowKit

/-- x times a plus y times b, coefficient by coefficient. -/
def comb (xs : List Int) (x : Int) (ys : List Int) (y : Int) : List Int := List.zipWith (fun a b => x * a + y * b) xs ys

/-- One int appended to a row of the call's own, in a region that draws. -/
theorem step_push {ops : Array Oper} {o : Oper} {a : Act} {K : Act → World → Prop} {Q : Exit → Act → World → Prop} {E : Prop} {W : World} (hgd : o.guard = none) (s x : Operand)
    (ho : o.op = .call { callee := .builtin .append, args := #[s, x], argTypes := #[22, 22] }) (base n : Nat) (p : Option Addr) (c : Nat) (xs : List Int) (val : Int) (ab ao : Nat)
    (hs : a.eval s = .slice p n c) (hx : a.eval x = .slice (some ⟨ab, ao, none⟩) 1 1) (hown : W.ownsRow base 3 1 (.slice p n c) n (xs.map (Value.int .i64))) (hcell : W.cell? ⟨ab, ao, none⟩ = some (.int .i64 val)) (hn : n < 1000000000) (hb : base ≤ W.heap.size)
    (h : ∀ g cap w', w'.ownsRow base 3 1 (.slice (some ⟨g, 0, none⟩) (n + 1) cap) (n + 1) ((xs ++ [val]).map (Value.int .i64)) → W.grownBy w' (Value.slice p n c).ownBlock → K (a.put o.dst (.slice (some ⟨g, 0, none⟩) (n + 1) cap)) w') :
    if Region.wanted o (yielded ops a.tmps) = true then Oper.wp Try.prog o a W K Q else E := by
  obtain ⟨i0, hi, hz0, hz1, hz2⟩ := info_parts infoInt
  refine step_append_lies W hgd s x 22 ho base 3 i0 (.int .i64 0) 1 8 underSliceInt hi hz0 hz1 hz2 rfl (by decide) (.slice p n c) n _ hs hown ⟨ab, ao, none⟩ 1 1 [.int .i64 val] hx rfl ?_ (by intro u hu; simp at hu; subst hu; rfl) (by omega) (by unfold maxLen; omega) (by omega) hb W.heap.size rfl ?_
  · intro j u hu
    match j, hu with
    | 0, hu => simp at hu; subst hu; rw [Addr.add_lit]; exact hcell
  · intro g cap w' h1 h2 _ _
    refine h g cap w' ?_ h2
    simpa using h1

theorem cell_setAt {w : World} {g o b o' : Nat} (u : Value) (h : b ≠ g) : (w.setCell ⟨g, o, none⟩ u).cell? ⟨b, o', none⟩ = w.cell? ⟨b, o', none⟩ := World.cell?_of_block (Below.heap_setCell _ _ _ _ h)

theorem comb_get {xs ys : List Int} {x y a b : Int} {i : Nat} (ha : xs[i]? = some a) (hb : ys[i]? = some b) : (comb xs x ys y)[i]? = some (x * a + y * b) := by
  simp [comb, List.getElem?_zipWith, ha, hb]
theorem comb_len (xs ys : List Int) (x y : Int) : (comb xs x ys y).length = min xs.length ys.length := by simp [comb]

theorem blk2_set0 {W : World} {g : Nat} {a b c : Value} {t : TypeId} (h : W.heap[g]? = some (.cells #[a, b] t (0, 0))) : (W.setCell ⟨g, 0, none⟩ c).heap[g]? = some (.cells #[c, b] t (0, 0)) := by
  simpa using heap_setCell_same W g 0 #[a, b] t c h
theorem grownBy_blk {a b : World} {r : Option Nat} {g : Nat} {o : Obj} (h : a.grownBy b r) (hg : a.heap[g]? = some o) (hne : some g ≠ r) : b.heap[g]? = some o := (h.block _ (lt_of_block hg) hne).trans hg
theorem setCell_blk {a : World} {g g' o' : Nat} {o : Obj} (hg : a.heap[g]? = some o) (hne : g ≠ g') (u : Value) : (a.setCell ⟨g', o', none⟩ u).heap[g]? = some o := (Below.heap_setCell _ _ _ _ hne).trans hg

/-- What holds at the head of round n of the model's combination. -/
def CombRel (w : World) (g0 : Nat) (va vb : Value) (zs : List Int) (k l m : Int) (n : Nat) (wr : World) : Prop :=
  ∃ p c, wr.heap[g0 + 1 + 1 + 1]? = some (.cells #[.slice p n c, .int .i64 m] 36 (0, 0)) ∧ wr.ownsRow (g0 + 1 + 1 + 1 + 1) 3 1 (.slice p n c) n ((zs.take n).map (Value.int .i64)) ∧
    wr.heap[g0]? = some (.cells #[va, .int .i64 k] 36 (0, 0)) ∧ wr.heap[g0 + 1]? = some (.cells #[vb, .int .i64 l] 36 (0, 0)) ∧ wr.heap[g0 + 1 + 1]? = some (.cells #[.slice none 0 0, .int .i64 0] 36 (0, 0)) ∧ Ext w wr

theorem comb_step {w wr : World} {g0 n : Nat} {va vb : Value} {zs : List Int} {k l m z : Int} {p : Option Addr} {c : Nat} (hg : w.heap.size = g0) (hz : zs[n]? = some z)
    (B9 : wr.heap[g0 + 1 + 1 + 1]? = some (.cells #[.slice p n c, .int .i64 m] 36 (0, 0))) (hown : wr.ownsRow (g0 + 1 + 1 + 1 + 1) 3 1 (.slice p n c) n ((zs.take n).map (Value.int .i64)))
    (BA : wr.heap[g0]? = some (.cells #[va, .int .i64 k] 36 (0, 0))) (BB : wr.heap[g0 + 1]? = some (.cells #[vb, .int .i64 l] 36 (0, 0))) (BR : wr.heap[g0 + 1 + 1]? = some (.cells #[.slice none 0 0, .int .i64 0] 36 (0, 0))) (hE : Ext w wr)
    (g cap : Nat) (o : Obj) (w1 : World) (hown1 : w1.ownsRow (g0 + 1 + 1 + 1 + 1) 3 1 (.slice (some ⟨g, 0, none⟩) (n + 1) cap) (n + 1) ((zs.take n ++ [z]).map (Value.int .i64))) (hgrow : ((wr.alloc o).drew).grownBy w1 (Value.slice p n c).ownBlock) :
    CombRel w g0 va vb zs k l m (n + 1) (w1.setCell ⟨g0 + 1 + 1 + 1, 0, none⟩ (.slice (some ⟨g, 0, none⟩) (n + 1) cap)) := by
  have ne : ∀ b, b < g0 + 1 + 1 + 1 + 1 → some b ≠ (Value.slice p n c).ownBlock := fun b hb e => by have := (hown.lt b e.symm).1; omega
  refine ⟨some ⟨g, 0, none⟩, cap, blk2_set0 (grownBy_blk hgrow (blk_old B9) (ne _ (by omega))), ?_, setCell_blk (grownBy_blk hgrow (blk_old BA) (ne _ (by omega))) (by omega) _, setCell_blk (grownBy_blk hgrow (blk_old BB) (ne _ (by omega))) (by omega) _, setCell_blk (grownBy_blk hgrow (blk_old BR) (ne _ (by omega))) (by omega) _, ?_⟩
  · rw [take_next hz]
    exact ownsRow_setCell_below hown1 (by dsimp only; omega) _
  · refine Ext.setAt ((hE.alloc _).drew.grown hgrow (fun b hb => ?_)) (by omega) _
    have := (hown.lt b hb).1
    omega

set_option maxHeartbeats 8000000 in
theorem l1Combine_any (s t : Value) (xs ys : List Int) (k l x y : Int) (w : World) (hs : IntsAt w s xs) (ht : IntsAt w t ys) (hx : xs.length = 4) (hy : ys.length = 4)
    (hk : (-100000 ≤ x * k ∧ x * k ≤ 100000) ∧ (-100000 ≤ y * l ∧ y * l ≤ 100000))
    (hb : ∀ (i : Nat) (a b : Int), xs[i]? = some a → ys[i]? = some b → (-100000 ≤ x * a ∧ x * a ≤ 100000) ∧ (-100000 ≤ y * b ∧ y * b ≤ 100000)) :
    Calls Try.prog 98 #[.agg #[s, .int .i64 k], .int .i64 x, .agg #[t, .int .i64 l], .int .i64 y] w fun e w' => ∃ p c, e = .returned (.agg #[.slice p 4 c, .int .i64 (x * k + y * l)]) ∧ IntsOwn w.heap.size w' (.slice p 4 c) (comb xs x ys y) ∧ Ext w w' := by
  obtain ⟨⟨k1, k2⟩, ⟨k3, k4⟩⟩ := hk
  have HB := Lib.hid hb; clear hb
  obtain ⟨pa, ca, rfl, -, hca⟩ := hs.get
  obtain ⟨pb, cb, rfl, -, hcb⟩ := ht.get
  have HX := Lib.hid hx; have HY := Lib.hid hy
  rw [hx, hy]
  have HCA := Lib.hid hca; have HCB := Lib.hid hcb
  clear hs ht hca hcb hx hy
  generalize hg0 : w.heap.size = g0 at *
  have HG := Lib.hid hg0; clear hg0
  go_enter Try.func98, Try.ntmps98
  go_wp2
  rw [HG.out]
  go_loopw [10] (fun i wr => ∃ n : Nat, n ≤ 4 ∧ i = .int .i64 n ∧ CombRel w g0 (.slice pa 4 ca) (.slice pb 4 cb) (comb xs x ys y) k l (x * k + y * l) n wr) (fun i _ => 4 - (intOf i).toNat)
  case atStart => exact ⟨0, by omega, rfl, none, 0, blk_at (by simp [HG.out]), World.ownsRow_nil _ _ _ _, blk_old (blk_old (blk_old (blk_at HG.out.symm))), blk_old (blk_old (blk_at (by simp [HG.out]))), blk_old (blk_at (by simp [HG.out])), ((((Ext.refl w).alloc _).alloc _).alloc _).alloc _⟩
  case round =>
    obtain ⟨n, hn, rfl, p, c, B9, hown, BA, BB, BR, hE⟩ := hrel
    have h9 := lt_of_block B9
    by_cases hlt : n < 4
    · obtain ⟨a, ha⟩ := get_some (xs := xs) (k := n) (by rw [HX.out]; exact hlt)
      obtain ⟨b, hb⟩ := get_some (xs := ys) (k := n) (by rw [HY.out]; exact hlt)
      obtain ⟨ba, oa, rfl, ea, hba⟩ := HCA.out n a ha
      obtain ⟨bb, ob, rfl, eb, hbb⟩ := HCB.out n b hb
      obtain ⟨⟨l0, u0⟩, ⟨l1, u1⟩⟩ := HB.out n a b ha hb
      replace ea := hE.keep ea
      replace eb := hE.keep eb
      have HST := Lib.hid (comb_step HG.out (comb_get (x := x) (y := y) ha hb) B9 hown BA BB BR hE)
      obtain ⟨c90, c91, f90, f91⟩ := blk2 B9
      obtain ⟨cA0, cA1, -, -⟩ := blk2 BA
      obtain ⟨cB0, cB1, -, -⟩ := blk2 BB
      have HO := Lib.hid hown
      have hne : ∀ b, b < g0 + 1 + 1 + 1 + 1 → some b ≠ (Value.slice p n c).ownBlock := fun b hb e => by have := (hown.lt b e.symm).1; omega
      have ne9 := hne (g0 + 1 + 1 + 1) (by omega)
      clear B9 BA BB BR hown hE ha hb hne hba hbb HCA HCB HB
      have v1 : IntKind.i64.wrap (x * a) = x * a := IntWalk.i64_in _ (by omega)
      have v2 : IntKind.i64.wrap (y * b) = y * b := IntWalk.i64_in _ (by omega)
      have v3 : IntKind.i64.wrap (x * a + y * b) = x * a + y * b := IntWalk.i64_in _ (by omega)
      have c90a := ((Ext.refl wr).alloc (.cells #[.int .i64 (x * a + y * b)] 3)).drew.keep c90
      have f90a : (wr.alloc (.cells #[.int .i64 (x * a + y * b)] 3)).drew.frozen? ⟨g0 + 1 + 1 + 1, 0, none⟩ = false := (((Ext.refl wr).alloc _).drew.cells.2 _ _ h9).trans f90
      have lt9 : g0 + 1 + 1 + 1 < (wr.alloc (.cells #[.int .i64 (x * a + y * b)] 3)).drew.heap.size := World.block_lt_of_cell? _ _ c90a
      have HC9 := Lib.hid c90a; have HF9 := Lib.hid f90a; have HL9 := Lib.hid lt9; have HN9 := Lib.hid ne9
      clear c90a f90a lt9 ne9 l0 u0 l1 u1 c91 f91 cA1 cB1
      go_wp2
      go_region_law (refine step_push rfl (.tmp 26) (.tmp 42) rfl (g0 + 1 + 1 + 1 + 1) n p c _ (x * a + y * b) wr.heap.size 0 rfl rfl (HO.out.alloc (.cells #[.int .i64 (x * a + y * b)] 3)).drew ((Ext.refl _).drew.keep (new0 wr _ [] 3)) (by omega) (by show g0 + 1 + 1 + 1 + 1 ≤ (wr.alloc _).heap.size; simp; omega) ?_; intro g cap w1 hown hgrow; have c90' := hgrow.cell HC9.out HN9.out; have f90' := (World.frozen?_of_block (a := ⟨g0 + 1 + 1 + 1, 0, none⟩) (hgrow.block _ HL9.out HN9.out)).trans HF9.out)
      all_goals
        have HF := Lib.hid (HST.out g cap _ w1 hown hgrow)
        clear hown hgrow c90 f90 c90' f90' cA0 cB0 ea eb v1 v2 v3
        go_wp2
        go_roundw
        case rel => exact ⟨n + 1, by omega, by go_num, HF.out⟩
        case measure => simp [intOf]; omega
    · have e : n = 4 := by omega
      subst e
      obtain ⟨c90, c91, -, -⟩ := blk2 B9
      obtain ⟨r0, r1, fr0, fr1⟩ := blk2 BR
      have HE := Lib.hid hE
      rw [List.take_of_length_le (by rw [comb_len, HX.out, HY.out]; decide)] at hown
      have HO : Hid (IntsOwn (g0 + 1 + 1 + 1 + 1) wr (.slice p 4 c) (comb xs x ys y)) := IntsOwn.mk hown (by rw [comb_len, HX.out, HY.out]; rfl)
      clear B9 BA BB BR hown hE
      go_wp2
      refine bodyPost_ret (v := .agg #[.slice p 4 c, .int .i64 (x * k + y * l)]) (by simp [results, Try.results98, go_sem, r0, r1]) rfl ⟨_, _, rfl, IntsOwn.weak (B := g0 + 1 + 1 + 1 + 1) ?_ (by omega), ?_⟩
      · exact (HO.out.setAt (by omega) _).setAt (by omega) _
      · exact (HE.out.setAt (by rw [HG.out]; omega) _).setAt (by rw [HG.out]; omega) _
end Go.Proofs.Ytccibfldadflkaa

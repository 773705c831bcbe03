/- The texts G50 G34 Shelf G35 G36, joined. No statement is proved here. -/
import Derived.Test.YtmhldhjpfeageabGreatK44
import Derived.Test.YtmhldhjpfeageabGreatK40
import Derived.Test.YtmhldhjpfeageabGreatK38
import Derived.Shelf.SlIterI.Nil
import Derived.Shelf.SortM.Plain
import Derived.Shelf.SortM.SortNone
import Derived.Ground.GgzProg
import Derived.Ground.SlgmProg
import Derived.Test.YtmhldhjpfeageabGreatProg
import Derived.Sort.OwnSortedInts
import Derived.Lib.SlicesCompact
import Derived.Lib.RowBridge
/- Maps keyed by ints, as functions. No statement is proved here. -/
namespace Go.Proofs.YtmhldhjpfeageabGreat
open Go.RowKit Go.Maps
theorem keyInt : Keyed Tryz.prog 3 := int_keyed Tryz.underlying3
theorem wfI {c : Int} (h1 : -9223372036854775808 ≤ c) (h2 : c ≤ 9223372036854775807) : (Lit.int .i64 c).wf = true := by
 have e1 : IntKind.i64.min = -9223372036854775808 := by decide
 have e2 : IntKind.i64.max = 9223372036854775807 := by decide
 simp only [Lit.wf, e1, e2, Bool.and_eq_true, decide_eq_true_eq]
 exact ⟨h1, h2⟩
def IMp (w : World) (b n : Nat) (F : Int → Option Value) : Prop := ∃ D : DataW Value, w.ownsMap Tryz.prog 3 rawE b n D ∧ ∀ c : Int, Maps.has D (.int .i64 c) = (F c).isSome ∧ ∀ v, F c = some v → ∀ z, D.atKey (.int .i64 c) z = .held v
def updF (F : Int → Option Value) (c : Int) (v : Value) : Int → Option Value := fun x => if x = c then some v else F x
def delF (F : Int → Option Value) (c : Int) : Int → Option Value := fun x => if x = c then none else F x
theorem IMp.made (w : World) : IMp (w.alloc (.map #[] 0)) w.heap.size 0 (fun _ => none) :=
 ⟨.map [], World.ownsMap_made w Tryz.prog 3 rawE, fun c => ⟨rfl, fun v h => by cases h⟩⟩
theorem IMp.kept {w w' : World} {b n : Nat} {F : Int → Option Value} {row : Option Nat} (h : IMp w b n F) (hg : w.grownBy w' row) (hne : some b ≠ row) : IMp w' b n F := by
 obtain ⟨D, h1, h2⟩ := h
 exact ⟨D, h1.kept hg hne, h2⟩
theorem IMp.ext {w w' : World} {b n : Nat} {F : Int → Option Value} (h : IMp w b n F) (hE : Ext w w') : IMp w' b n F := h.kept (hE.grownBy none) (by simp)
theorem IMp.setCell {w : World} {b n : Nat} {F : Int → Option Value} (h : IMp w b n F) {a : Addr} (ha : b ≠ a.block) (u : Value) : IMp (w.setCell a u) b n F := by
 obtain ⟨D, h1, h2⟩ := h
 exact ⟨D, h1.setCell ha u, h2⟩
theorem IMp.lt {w : World} {b n : Nat} {F : Int → Option Value} (h : IMp w b n F) : b < w.heap.size := by obtain ⟨D, h1, -⟩ := h; exact h1.lt
theorem int_ne {x c : Int} (h : x ≠ c) : Lit.int .i64 x ≠ Lit.int .i64 c := fun e => h (by cases e; rfl)
theorem IMp.look {w : World} {b n : Nat} {F : Int → Option Value} (h : IMp w b n F) {T e : TypeId} (ht : Tryz.prog.underlying T = some (.map 3 e)) {z : Value} (hz : (zeroValue e).run Tryz.prog w = .ok z w) {c : Int} (hc : (Lit.int .i64 c).wf = true) :
  (Instr.lookup T (.map (some b)) (.int .i64 c) false).run Tryz.prog w = .ok ((F c).getD z) w := by
 obtain ⟨D, h1, h2⟩ := h
 obtain ⟨v, ps, hrun, hv⟩ := h1.lookup keyInt ht hz (zd := .held z) (zp := []) rfl (keyOf_int_mk Tryz.underlying3 hc)
 simp only [rawE, Option.some.injEq, Prod.mk.injEq] at hv
 obtain ⟨ha, hb⟩ := h2 c
 have e : v = (F c).getD z := by
  cases hF : F c with
  | none =>
   rw [hF] at ha
   rw [Maps.atKey_of_not_has ha] at hv
   have := hv.1
   cases this
   rfl
  | some u =>
   rw [hb u hF] at hv
   have := hv.1
   cases this
   rfl
 rw [hrun, e]
theorem IMp.lookOk {w : World} {b n : Nat} {F : Int → Option Value} (h : IMp w b n F) {T e : TypeId} (ht : Tryz.prog.underlying T = some (.map 3 e)) {z : Value} (hz : (zeroValue e).run Tryz.prog w = .ok z w) {c : Int} (hc : (Lit.int .i64 c).wf = true) :
  (Instr.lookup T (.map (some b)) (.int .i64 c) true).run Tryz.prog w = .ok (.tuple #[(F c).getD z, .bool (F c).isSome]) w := by
 obtain ⟨D, h1, h2⟩ := h
 obtain ⟨v, ps, hrun, hv⟩ := h1.look_ok keyInt ht hz (zd := .held z) (zp := []) rfl (keyOf_int_mk Tryz.underlying3 hc)
 simp only [rawE, Option.some.injEq, Prod.mk.injEq] at hv
 obtain ⟨ha, hb⟩ := h2 c
 have e : v = (F c).getD z := by
  cases hF : F c with
  | none =>
   rw [hF] at ha
   rw [Maps.atKey_of_not_has ha] at hv
   have := hv.1
   cases this
   rfl
  | some u =>
   rw [hb u hF] at hv
   have := hv.1
   cases this
   rfl
 rw [hrun, ha, e]
theorem IMp.upd {w : World} {b n : Nat} {F : Int → Option Value} (h : IMp w b n F) {T e : TypeId} (ht : Tryz.prog.underlying T = some (.map 3 e)) (hn : n < maxLen) {c : Int} (hc : (Lit.int .i64 c).wf = true) (v : Value) :
  ∃ w', (Instr.mapUpdate T (.map (some b)) (.int .i64 c) v).run Tryz.prog w = .ok () w' ∧ IMp w' b (n + 1) (updF F c v) ∧ w.grownBy w' (some b) := by
 obtain ⟨D, h1, h2⟩ := h
 obtain ⟨w', hrun, h3, h4⟩ := h1.update keyInt ht hn (val := v) (d := .held v) (ps := []) (keyOf_int_mk Tryz.underlying3 hc) rfl
 refine ⟨w', hrun, ⟨_, h3, fun x => ?_⟩, h4⟩
 by_cases e : x = c
 ·subst e
  refine ⟨by rw [Maps.has_put_same h1.isMap (by trivial)]; simp [updF], fun u hu z => ?_⟩
  simp only [updF, if_pos, Option.some.injEq] at hu
  rw [Maps.atKey_put_same h1.isMap (by trivial), hu]
 ·obtain ⟨ha, hb⟩ := h2 x
  refine ⟨by rw [Maps.has_put_other (int_ne e), ha]; simp [updF, e], fun u hu z => ?_⟩
  simp only [updF, if_neg e] at hu
  rw [Maps.atKey_put_other (int_ne e)]
  exact hb u hu z
theorem IMp.del {w : World} {b n : Nat} {F : Int → Option Value} (h : IMp w b n F) {T e : TypeId} (ht : Tryz.prog.underlying T = some (.map 3 e)) {c : Int} (hc : (Lit.int .i64 c).wf = true) (ty : TypeId) :
  ∃ w', (Builtin.delete_ #[T, 3] ty #[.map (some b), .int .i64 c]).run Tryz.prog w = .ok (.tuple #[]) w' ∧ IMp w' b n (delF F c) ∧ w.grownBy w' (some b) := by
 obtain ⟨D, h1, h2⟩ := h
 obtain ⟨w', hrun, h3, h4⟩ := h1.drop keyInt ht (keyOf_int_mk Tryz.underlying3 hc) ty
 refine ⟨w', hrun, ⟨_, h3, fun x => ?_⟩, h4.grown⟩
 by_cases e : x = c
 ·subst e
  exact ⟨by rw [Maps.has_del_same]; simp [delF], fun u hu => by simp [delF] at hu⟩
 ·obtain ⟨ha, hb⟩ := h2 x
  refine ⟨by rw [Maps.has_del_other (int_ne e), ha]; simp [delF, e], fun u hu z => ?_⟩
  simp only [delF, if_neg e] at hu
  rw [Maps.atKey_del_other (int_ne e)]
  exact hb u hu z
theorem grown_lv {w w' : World} {b : Nat} (h : w.grownBy w' (some b)) : Lv (fun k => k = b) w w' := Lv.grown h (fun r hr _ => by cases hr; rfl)
end Go.Proofs.YtmhldhjpfeageabGreat
/- What a program writes, in ascending order: the model's l5Flagged and WrittenCells. No statement is proved here. -/
namespace Go.Proofs.YtmhldhjpfeageabGreat
open Go.RowKit Go.Maps
def fl (n : Nat) (s : List Int) : List Int := ((List.range n).filter (fun (j : Nat) => decide ((j : Int) ∈ s))).map (fun (j : Nat) => (j : Int))
theorem fl_yes {k : Nat} {s : List Int} (h : (k : Int) ∈ s) : fl (k + 1) s = fl k s ++ [(k : Int)] := by simp [fl, List.range_succ, List.filter_append, h]
theorem fl_no {k : Nat} {s : List Int} (h : (k : Int) ∉ s) : fl (k + 1) s = fl k s := by simp [fl, List.range_succ, List.filter_append, h]
theorem fl_len (k : Nat) (s : List Int) : (fl k s).length ≤ k := by
 unfold fl
 rw [List.length_map]
 exact Nat.le_trans (List.length_filter_le _ _) (by simp)
set_option linter.unusedVariables false in
set_option linter.unusedSimpArgs false in
set_option maxRecDepth 100000 in
set_option maxHeartbeats 2000000 in
theorem l5Flagged_any (L N : Nat) (s : List Int) (w : World) (hF : FlgAt w L (flg N s)) (hN : N ≤ 1048576) :
  Calls Tryz.prog 69 #[.slice (some ⟨L, 0, none⟩) N N] w fun e w' => (∃ v, e = .returned v ∧ IntsOwn w.heap.size w' v (fl N s)) ∧ Ext w w' := by
 obtain ⟨i0, hi, hz0, hz1, hz2⟩ := info_parts infoInt
 have HF := Lib.hid hF; clear hF
 go_enter Tryz.func69, Tryz.ntmps69
 go_wp2
 obtain ⟨W0, hW0⟩ : ∃ W0, w.alloc (.cells #[] 3) = W0 := ⟨_, rfl⟩
 have E0 : Hid (Ext w W0) := Lib.hid (by rw [← hW0]; exact (Ext.refl w).alloc _)
 have O0 : Hid (W0.ownsRow w.heap.size 3 1 (.slice (some ⟨w.heap.size, 0, none⟩) 0 0) 0 []) := Lib.hid (by rw [← hW0]; exact World.ownsRow_made w #[] 0 (Nat.le_refl _) (Nat.zero_le _) rfl)
 try rw [hW0]
 clear hW0
 go_loopw [3, 4] (fun ov iv wr => ∃ (k m : Nat) (po : Option Addr) (co : Nat), k ≤ N ∧ iv = .int .i64 k ∧ ov = .slice po m co ∧ (fl k s).length = m ∧ wr.ownsRow w.heap.size 3 1 (.slice po m co) m ((fl k s).map (Value.int .i64)) ∧ Ext w wr) (fun _ iv _ => N - (intOf iv).toNat)
 case atStart => exact ⟨0, 0, _, _, by omega, rfl, rfl, rfl, O0.out, E0.out⟩
 case round =>
  obtain ⟨k, m, po, co, hk, rfl, rfl, hm, ho, hE⟩ := hrel
  have HM := Lib.hid hm; have HO := Lib.hid ho; have HE := Lib.hid hE
  have hmk : m ≤ k := by rw [← hm]; exact fl_len k s
  clear hm ho hE
  by_cases hlt : k < N
  ·have hfl := (show FlgAt wr L (flg N s) from HE.out.blk HF.out).cell (flg_get s hlt)
   obtain ⟨sb, hsb⟩ : ∃ sb, decide ((k : Int) ∈ s) = sb := ⟨_, rfl⟩
   rw [hsb] at hfl
   have HSB := Lib.hid hsb
   clear hsb
   cases sb with
   | false =>
    have HN1 := Lib.hid (fl_no (of_decide_eq_false HSB.out))
    go_wp2
    go_roundw
    case rel => exact ⟨k + 1, m, po, co, by omega, by go_num, rfl, by rw [HN1.out]; exact HM.out, by rw [HN1.out]; exact HO.out, HE.out⟩
    case measure => simp [intOf]; omega
   | true =>
    have HN1 := Lib.hid (fl_yes (of_decide_eq_true HSB.out))
    have HOX := Lib.hid (ownsRow_ext HO.out ((Ext.refl wr).alloc (.cells #[.int .i64 (k : Int)] 3)))
    have hsz : w.heap.size ≤ wr.heap.size := HE.out.size_le
    go_wp2_with (at_builtin; refine wpList_append_own_at _ rfl (.tmp 16) (.tmp 18) 39 rfl w.heap.size 3 i0 (.int .i64 0) 1 8 underSliceInt hi hz0 hz1 hz2 rfl (by decide) (.slice po m co) m _ rfl HOX.out ⟨wr.heap.size, 0, none⟩ 1 1 [.int .i64 (k : Int)] rfl rfl ?c1 ?c2 ?c3 ?c4 ?c5 ?_)
    case c1 => exact one_cell rfl
    case c2 => intro u hu; simp at hu; subst hu; rfl
    case c3 => unfold maxLen; omega
    case c4 => omega
    case c5 => simp; omega
    intro v' w5 hown' hgrow _ hat
    obtain ⟨po', co', rfl⟩ : ∃ po' co', v' = .slice po' (m + 1) co' := by
     rcases hown'.2 with ⟨rfl, hn0⟩ | ⟨g, cap, cur, e, _⟩
     ·exact absurd hn0 (by omega)
     ·exact ⟨_, cap, e⟩
    have HRW' : Hid (w5.ownsRow w.heap.size 3 1 (.slice po' (m + 1) co') (m + 1) ((fl (k + 1) s).map (Value.int .i64))) := Lib.hid (by rw [HN1.out, List.map_append]; simpa using hown')
    have HE5 := Lib.hid ((HE.out.alloc (.cells #[.int .i64 (k : Int)] 3)).grown hgrow (fun b hb => (HOX.out.lt b hb).1))
    clear hown' hgrow hat
    go_wp2
    go_roundw
    case rel => exact ⟨k + 1, m + 1, _, _, by omega, by go_num, rfl, by rw [HN1.out, List.length_append, HM.out]; rfl, HRW'.out, HE5.out⟩
    case measure => simp [intOf]; omega
  ·obtain rfl : k = N := by omega
   go_wp2
   go_ret
   exact ⟨⟨_, rfl, IntsOwn.mk HO.out HM.out⟩, HE.out⟩
theorem InssOwn.setOld {B : Nat} {w : World} {v : Value} {l : List In3} (h : InssOwn B w v l) {p : Addr} (hp : p.block < B) (u : Value) : InssOwn B (w.setCell p u) v l := by
 obtain ⟨vs, ho, he⟩ := h
 refine ⟨vs, ownsRow_setCell_below ho hp u, fun i x hi => ?_⟩
 obtain ⟨u0, u1, u2, a0, a1, a2, b0, b1, b2⟩ := he i x hi
 exact ⟨u0, u1, u2, a0, a1, a2, b0, b1, b2.setOld hp u⟩
theorem write_bd {ars : List Arr} {s : St} {pt : List Int} (hok : ∀ a ∈ ars, arrOkB a = true) (h : cellsOk ars s pt = true) : 0 ≤ writeCell ars s pt ∧ writeCell ars s pt < totN ars := by
 simp only [cellsOk, Bool.and_eq_true, decide_eq_true_eq] at h
 have h1 := cellI_bd s.1 s.2.1 pt (base := 0) hok
 have h2 : cellI s.1 s.2.1 pt 0 ars = writeCell ars s pt := rfl
 rw [h2] at h1
 omega
end Go.Proofs.YtmhldhjpfeageabGreat
/-
 DERIVED: THE SHELF's CONTRACTS AT THIS DUMP, IN PLAIN WORDS (tools/lay-plain.mjs out of 'YtmhldhjpfeageabGreatShelf.lean', which tools/lay-shelf.mjs wrote): THE SAME DECLARATIONS UNDER THE SAME NAMES: 'import', 'namespace', 'open', 'def', 'theorem' AND NOTHING ELSE: no command of the shelf's: FOR A HAND-IN. Each laying: the table of numbers ('.._ren') and one theorem, a field a fact of the dump's own or the kernel's comparison; each contract: ONE APPLICATION.
-/
namespace Go.Proofs
open Go.Shelf
def Tryz.keysI_ren : Go.Shelf.Ren := ⟨fun | 7 => 72 | 10 => 105 | n => n, fun | 23 => 129 | 26 => 3 | 3 => 4 | 28 => 132 | 0 => 0 | 27 => 131 | 33 => 176 | 4 => 4 | n => n, fun | n => n⟩
theorem Tryz.keysI : Go.Proofs.SlLaysZI.n7 Tryz.prog Tryz.keysI_ren := {
 mixed := by kernel_rfl
 f7 := ⟨Tryz.f72.name, by decide, Tryz.func72.trans (congrArg some (by kernel_rfl))⟩
 f10 := ⟨Tryz.f105.name, by decide, Tryz.func105.trans (congrArg some (by kernel_rfl))⟩
 t0 := Tryz.underlying0
 a0 := Tryz.isAgg0
 z0 := Tryz.sizeOf0
 v0 := Tryz.zeroValue0
 t4 := Tryz.underlying4
 a4 := Tryz.isAgg4
 z4 := Tryz.sizeOf4
 v4 := Tryz.zeroValue4
 t23 := Tryz.underlying129
 a23 := Tryz.isAgg129
 z23 := Tryz.sizeOf129
 v23 := Tryz.zeroValue129
 t26 := Tryz.underlying3
 a26 := Tryz.isAgg3
 z26 := Tryz.sizeOf3
 v26 := Tryz.zeroValue3
 t27 := Tryz.underlying131
 a27 := Tryz.isAgg131
 z27 := Tryz.sizeOf131
 v27 := Tryz.zeroValue131
 t28 := Tryz.underlying132
 a28 := Tryz.isAgg132
 z28 := Tryz.sizeOf132
 v28 := Tryz.zeroValue132
 t33 := Tryz.underlying176
 a33 := Tryz.isAgg176
 z33 := Tryz.sizeOf176
 v33 := Tryz.zeroValue176 }
def Tryz.sortedI_ren : Go.Shelf.Ren := ⟨fun | 6 => 71 | 8 => 103 | 9 => 104 | 11 => 129 | 13 => 131 | 12 => 130 | 23 => 169 | 24 => 170 | 14 => 160 | 15 => 161 | 16 => 162 | 17 => 163 | 18 => 164 | 19 => 165 | 20 => 166 | 21 => 167 | 22 => 168 | 25 => 194 | 26 => 195 | 27 => 196 | 28 => 197 | 29 => 198 | 30 => 199 | 31 => 216 | n => n, fun | 26 => 3 | 28 => 132 | 24 => 39 | 0 => 0 | 3 => 3 | 37 => 224 | 48 => 278 | 50 => 280 | 4 => 4 | 40 => 272 | 39 => 271 | 45 => 55 | 5 => 5 | 9 => 9 | 51 => 303 | 55 => 307 | 57 => 320 | 58 => 193 | 33 => 176 | n => n, fun | n => n⟩
theorem Tryz.sortedI : Go.Proofs.SlLaysZI.n6 Tryz.prog Tryz.sortedI_ren := {
 mixed := by kernel_rfl
 f6 := ⟨Tryz.f71.name, by decide, Tryz.func71.trans (congrArg some (by kernel_rfl))⟩
 f8 := ⟨Tryz.f103.name, by decide, Tryz.func103.trans (congrArg some (by kernel_rfl))⟩
 f11 := ⟨Tryz.f129.name, by decide, Tryz.func129.trans (congrArg some (by kernel_rfl))⟩
 t0 := Tryz.underlying0
 a0 := Tryz.isAgg0
 z0 := Tryz.sizeOf0
 v0 := Tryz.zeroValue0
 t24 := Tryz.underlying39
 a24 := Tryz.isAgg39
 z24 := Tryz.sizeOf39
 v24 := Tryz.zeroValue39
 t26 := Tryz.underlying3
 a26 := Tryz.isAgg3
 z26 := Tryz.sizeOf3
 v26 := Tryz.zeroValue3
 t28 := Tryz.underlying132
 a28 := Tryz.isAgg132
 z28 := Tryz.sizeOf132
 v28 := Tryz.zeroValue132
 i26 := by kernel_rfl }
def Tryz.sortI_ren : Go.Shelf.Ren := ⟨fun | 5 => 104 | 8 => 131 | 7 => 130 | 19 => 169 | 20 => 170 | 10 => 160 | 11 => 161 | 12 => 162 | 13 => 163 | 14 => 164 | 15 => 165 | 16 => 166 | 17 => 167 | 18 => 168 | 30 => 194 | 31 => 195 | 32 => 196 | 33 => 197 | 34 => 198 | 35 => 199 | 40 => 216 | n => n, fun | 23 => 39 | 25 => 3 | 3 => 3 | 32 => 224 | 22 => 39 | 0 => 0 | 44 => 278 | 46 => 280 | 4 => 4 | 36 => 272 | 35 => 271 | 41 => 55 | 5 => 5 | 9 => 9 | 53 => 303 | 57 => 307 | 63 => 320 | 64 => 193 | n => n, fun | n => n⟩
theorem Tryz.sortI : Go.Proofs.SlLaysM.n5 Tryz.prog Tryz.sortI_ren := {
 mixed := by kernel_rfl
 f5 := ⟨Tryz.f104.name, by decide, Tryz.func104.trans (congrArg some (by kernel_rfl))⟩
 f7 := ⟨Tryz.f130.name, by decide, Tryz.func130.trans (congrArg some (by kernel_rfl))⟩
 f8 := Tryz.func131.trans (congrArg some (by kernel_rfl))
 f10 := ⟨Tryz.f160.name, by decide, Tryz.func160.trans (congrArg some (by kernel_rfl))⟩
 f11 := ⟨Tryz.f161.name, by decide, Tryz.func161.trans (congrArg some (by kernel_rfl))⟩
 f12 := ⟨Tryz.f162.name, by decide, Tryz.func162.trans (congrArg some (by kernel_rfl))⟩
 f13 := ⟨Tryz.f163.name, by decide, Tryz.func163.trans (congrArg some (by kernel_rfl))⟩
 f14 := ⟨Tryz.f164.name, by decide, Tryz.func164.trans (congrArg some (by kernel_rfl))⟩
 f15 := ⟨Tryz.f165.name, by decide, Tryz.func165.trans (congrArg some (by kernel_rfl))⟩
 f16 := ⟨Tryz.f166.name, by decide, Tryz.func166.trans (congrArg some (by kernel_rfl))⟩
 f17 := ⟨Tryz.f167.name, by decide, Tryz.func167.trans (congrArg some (by kernel_rfl))⟩
 f18 := ⟨Tryz.f168.name, by decide, Tryz.func168.trans (congrArg some (by kernel_rfl))⟩
 f19 := Tryz.func169.trans (congrArg some (by kernel_rfl))
 f20 := Tryz.func170.trans (congrArg some (by kernel_rfl))
 f30 := ⟨Tryz.f194.name, by decide, Tryz.func194.trans (congrArg some (by kernel_rfl))⟩
 f31 := Tryz.func195.trans (congrArg some (by kernel_rfl))
 f32 := Tryz.func196.trans (congrArg some (by kernel_rfl))
 f33 := ⟨Tryz.f197.name, by decide, Tryz.func197.trans (congrArg some (by kernel_rfl))⟩
 f34 := ⟨Tryz.f198.name, by decide, Tryz.func198.trans (congrArg some (by kernel_rfl))⟩
 f35 := ⟨Tryz.f199.name, by decide, Tryz.func199.trans (congrArg some (by kernel_rfl))⟩
 f40 := ⟨Tryz.f216.name, by decide, Tryz.func216.trans (congrArg some (by kernel_rfl))⟩
 t0 := Tryz.underlying0
 a0 := Tryz.isAgg0
 z0 := Tryz.sizeOf0
 v0 := Tryz.zeroValue0
 t3 := Tryz.underlying3
 a3 := Tryz.isAgg3
 z3 := Tryz.sizeOf3
 v3 := Tryz.zeroValue3
 t4 := Tryz.underlying4
 a4 := Tryz.isAgg4
 z4 := Tryz.sizeOf4
 v4 := Tryz.zeroValue4
 t5 := Tryz.underlying5
 a5 := Tryz.isAgg5
 z5 := Tryz.sizeOf5
 v5 := Tryz.zeroValue5
 t9 := Tryz.underlying9
 a9 := Tryz.isAgg9
 z9 := Tryz.sizeOf9
 v9 := Tryz.zeroValue9
 t22 := Tryz.underlying39
 a22 := Tryz.isAgg39
 z22 := Tryz.sizeOf39
 v22 := Tryz.zeroValue39
 t23 := Tryz.underlying39
 a23 := Tryz.isAgg39
 z23 := Tryz.sizeOf39
 v23 := Tryz.zeroValue39
 t25 := Tryz.underlying3
 a25 := Tryz.isAgg3
 z25 := Tryz.sizeOf3
 v25 := Tryz.zeroValue3
 t32 := Tryz.underlying224
 a32 := Tryz.isAgg224
 z32 := Tryz.sizeOf224
 v32 := Tryz.zeroValue224
 t35 := Tryz.underlying271
 a35 := Tryz.isAgg271
 z35 := Tryz.sizeOf271
 v35 := Tryz.zeroValue271
 t36 := Tryz.underlying272
 a36 := Tryz.isAgg272
 z36 := Tryz.sizeOf272
 v36 := Tryz.zeroValue272
 t41 := Tryz.underlying55
 a41 := Tryz.isAgg55
 z41 := Tryz.sizeOf55
 v41 := Tryz.zeroValue55
 t44 := Tryz.underlying278
 a44 := Tryz.isAgg278
 z44 := Tryz.sizeOf278
 v44 := Tryz.zeroValue278
 t46 := Tryz.underlying280
 a46 := Tryz.isAgg280
 z46 := Tryz.sizeOf280
 v46 := Tryz.zeroValue280
 t53 := Tryz.underlying303
 a53 := Tryz.isAgg303
 z53 := Tryz.sizeOf303
 v53 := Tryz.zeroValue303
 t57 := Tryz.underlying307
 a57 := Tryz.isAgg307
 z57 := Tryz.sizeOf307
 v57 := Tryz.zeroValue307
 t63 := Tryz.underlying320
 a63 := Tryz.isAgg320
 z63 := Tryz.sizeOf320
 v63 := Tryz.zeroValue320
 t64 := Tryz.underlying193
 a64 := Tryz.isAgg193
 z64 := Tryz.sizeOf193
 v64 := Tryz.zeroValue193 }
end Go.Proofs
/- The program's ascending: slices.Sort and slices.Compact of a row of the call's own; what it lists. No statement is proved here. -/
namespace Go.Proofs.YtmhldhjpfeageabGreat
open Go.RowKit Go.Maps Go.Sort
theorem fl_mem {N : Nat} {s : List Int} {x : Int} : x ∈ fl N s ↔ x ∈ s ∧ 0 ≤ x ∧ x < N := by
 simp only [fl, List.mem_map, List.mem_filter, List.mem_range, decide_eq_true_eq]
 constructor
 ·rintro ⟨j, ⟨h1, h2⟩, rfl⟩
  exact ⟨h2, by omega, by omega⟩
 ·rintro ⟨h1, h2, h3⟩
  exact ⟨x.toNat, ⟨by omega, by rwa [Int.toNat_of_nonneg h2]⟩, Int.toNat_of_nonneg h2⟩
theorem fl_asc (N : Nat) (s : List Int) : (fl N s).Pairwise (· < ·) := by
 induction N with
 | zero => simp [fl]
 | succ k ih =>
  by_cases h : (k : Int) ∈ s
  ·rw [fl_yes h, List.pairwise_append]
   refine ⟨ih, by simp, fun a ha b hb => ?_⟩
   simp only [List.mem_singleton] at hb
   have := (fl_mem.1 ha).2.2
   omega
  ·rw [fl_no h]; exact ih
end Go.Proofs.YtmhldhjpfeageabGreat
/- The program's WrittenCells. No statement is proved here. -/
namespace Go.Proofs.YtmhldhjpfeageabGreat
open Go.RowKit Go.Maps
end Go.Proofs.YtmhldhjpfeageabGreat

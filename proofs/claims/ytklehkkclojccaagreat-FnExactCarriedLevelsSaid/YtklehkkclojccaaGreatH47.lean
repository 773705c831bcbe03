/- The texts G66 G67 G68 G40, joined. No statement is proved here. -/
import Derived.Test.YtklehkkclojccaaGreatH51
import Derived.Test.YtklehkkclojccaaGreatH46
import Derived.Lib.SliceRun
import Derived.Test.YtklehkkclojccaaGreatH44
import Derived.Shelf.SlSortCmp.Whole1
import Derived.Shelf.SlSortCmp.NoneTotal
import Derived.Test.YtklehkkclojccaaGreatH49
import Derived.StillTailTactics
namespace Go.Proofs.YtklehkkclojccaaGreat
open Go.Lib (hid)
open Go.RowKit
def cmpL : List Int → List Int → Int
 | [], [] => 0
 | [], _ :: _ => -1
 | _ :: _, [] => 1
 | a :: p, b :: q => if a = b then cmpL p q else cmp3 a b
theorem cmp3_lt (x y : Int) : decide (cmp3 x y < 0) = decide (x < y) := by simp only [cmp3]; split <;> (try split) <;> simp <;> omega
theorem cmpL_lex : ∀ p q : List Int, decide (cmpL p q < 0) = lexB p q
 | [], [] => rfl
 | [], _ :: _ => rfl
 | _ :: _, [] => rfl
 | a :: p, b :: q => by
  by_cases h : a = b
  ·have e1 : cmpL (a :: p) (b :: q) = cmpL p q := by simp [cmpL, h]
   have e2 : lexB (a :: p) (b :: q) = lexB p q := by simp [lexB, h]
   rw [e1, e2, cmpL_lex p q]
  ·have e1 : cmpL (a :: p) (b :: q) = cmp3 a b := by simp [cmpL, h]
   have e2 : lexB (a :: p) (b :: q) = decide (a < b) := by simp [lexB, h]
   rw [e1, e2, cmp3_lt]
theorem cmpL_drop {p q : List Int} {k : Nat} (h : p.take k = q.take k) : cmpL p q = cmpL (p.drop k) (q.drop k) := by
 induction k generalizing p q with
 | zero => simp
 | succ k ih =>
  match p, q, h with
  | [], [], _ => simp
  | [], b :: q, h => simp at h
  | a :: p, [], h => simp at h
  | a :: p, b :: q, h =>
   simp only [List.take_succ_cons, List.cons.injEq] at h
   rw [List.drop_succ_cons, List.drop_succ_cons, ← ih h.2, h.1]
   simp [cmpL]
theorem cmpL_at {p q : List Int} {k : Nat} {x y : Int} (h : p.take k = q.take k) (hx : p[k]? = some x) (hy : q[k]? = some y) (hne : x ≠ y) : cmpL p q = cmp3 x y := by
 rw [cmpL_drop h, drop_at hx, drop_at hy]; simp [cmpL, hne]
theorem cmpL_end1 {p q : List Int} {k : Nat} (h : p.take k = q.take k) (hk : p.length = k) : cmpL p q = if k < q.length then -1 else 0 := by
 rw [cmpL_drop h, List.drop_of_length_le (l := p) (by omega)]
 by_cases hq : k < q.length
 ·obtain ⟨y, hy⟩ := get_some (xs := q) (k := k) hq
  rw [drop_at hy, if_pos hq]; rfl
 ·rw [List.drop_of_length_le (l := q) (by omega), if_neg hq]; rfl
theorem cmpL_end2 {p q : List Int} {k : Nat} (h : p.take k = q.take k) (hk : q.length = k) (hp : k < p.length) : cmpL p q = 1 := by
 obtain ⟨y, hy⟩ := get_some (xs := p) (k := k) hp
 rw [cmpL_drop h, List.drop_of_length_le (l := q) (by omega), drop_at hy]; rfl
set_option maxHeartbeats 1000000 in
theorem slicesCompare_fn (s t : Value) (xs ys : List Int) (w : World) (hs : IntsAt w s xs) (ht : IntsAt w t ys) :
  Calls Tryz.prog 118 #[s, t] w fun e w' => e = .returned (.int .i64 (cmpL xs ys)) ∧ w = w' := by
 obtain ⟨p, c, rfl, hm, hc⟩ := hs.get
 obtain ⟨q, d, rfl, hm2, hd⟩ := ht.get
 clear hs ht
 generalize hlen : xs.length = n at *
 generalize hlen' : ys.length = n' at *
 have HL := hid hlen; have HN := hid hlen'; clear hlen hlen'
 have HC := hid hc; have HD := hid hd; clear hc hd
 go_enter Tryz.func118, Tryz.ntmps118
 go_wp2
 go_loop [11] (fun i => ∃ k : Nat, k ≤ n ∧ k ≤ n' ∧ i = .int .i64 k ∧ xs.take k = ys.take k) (fun i => n - (intOf i).toNat)
 case atStart => exact ⟨0, by omega, by omega, rfl, by simp⟩
 case round =>
  obtain ⟨k, hk, hk', rfl, htk⟩ := hrel
  have HT := hid htk; clear htk
  by_cases hlt : k < n
  ·obtain ⟨x, hx⟩ := get_some (xs := xs) (k := k) (by rw [HL.out]; exact hlt)
   obtain ⟨b, off, rfl, hck, hbl⟩ := HC.out k x hx
   by_cases hlt' : k < n'
   ·obtain ⟨y, hy⟩ := get_some (xs := ys) (k := k) (by rw [HN.out]; exact hlt')
    obtain ⟨b2, off2, rfl, hdk, hbl2⟩ := HD.out k y hy
    have HX := hid hx; clear hx
    have HY := hid hy; clear hy
    go_wp2_with (fail)
    refine (cmp_any x y _).mono ?_
    rintro e w1 ⟨rfl, rfl⟩
    by_cases hxy : x = y
    ·have h0 : cmp3 x y = 0 := by simp [cmp3, hxy]
     rw [h0]
     go_wp2
     go_round
     case rel => exact ⟨k + 1, by omega, by omega, by go_num, take_eq_next HX.out HY.out HT.out hxy⟩
     case measure => simp [intOf]; omega
    ·have hb : (cmp3 x y != 0) = true := by simp only [cmp3]; split <;> (try split) <;> simp <;> omega
     have HXY := hid hxy; clear hxy
     have HZ := hid (cmpL_at HT.out HX.out HY.out HXY.out)
     generalize cmp3 x y = z at *
     go_wp2
     go_ret
     exact ⟨ret_int HZ.out.symm, rfl⟩
   ·have e : k = n' := by omega
    subst e
    have HZ := hid (cmpL_end2 HT.out HN.out (by rw [HL.out]; exact hlt))
    clear hx
    go_wp2
    go_ret
    exact ⟨ret_int HZ.out.symm, rfl⟩
  ·have e : k = n := by omega
   subst e
   have HZ := hid (cmpL_end1 HT.out HL.out)
   by_cases hlt' : k < n'
   ·have hd1 : decide ((k : Int) < n') = true := by simp; omega
    have HZ2 : Hid (cmpL xs ys = -1) := hid (by rw [HZ.out, HN.out, if_pos hlt'])
    go_wp2
    go_ret
    exact ⟨ret_int HZ2.out.symm, rfl⟩
   ·have hd1 : decide ((k : Int) < n') = false := by simp; omega
    have HZ2 : Hid (cmpL xs ys = 0) := hid (by rw [HZ.out, HN.out, if_neg hlt'])
    go_wp2
    go_ret
    exact ⟨ret_int HZ2.out.symm, rfl⟩
theorem subL_next {p q : List Int} {k : Nat} {x y : Int} (hx : p[k]? = some x) (hy : q[k]? = some y) :
  ((subL p q).take k ++ p.drop k).set k (x - y) = (subL p q).take (k + 1) ++ p.drop (k + 1) ∧ ((subL p q).take k ++ p.drop k)[k]? = some x := by
 have hz := subL_at hx hy
 have hk := (List.getElem?_eq_some_iff.1 hz).1
 have hlt : ((subL p q).take k).length = k := by rw [List.length_take]; omega
 constructor
 ·rw [drop_at hx, List.set_append_right _ _ (by omega), hlt, Nat.sub_self, List.set_cons_zero, take_next hz, List.append_assoc]; rfl
 ·rw [drop_at hx, List.getElem?_append_right (by omega), hlt, Nat.sub_self]; rfl
set_option linter.unusedVariables false in
set_option linter.unusedSimpArgs false in
set_option maxRecDepth 100000 in
set_option maxHeartbeats 2000000 in
theorem difference_any (ad : Addr) (q : Option Addr) (n c d : Nat) (xs ys : List Int) (w : World) (hx : xs.length = n) (hy : ys.length = n) (hn : n ≤ 1000) (hs : IntsAt w (.slice (some ad) n c) xs) (ht : IntsAt w (.slice q n d) ys) (hbx : ∀ x ∈ xs, -1000000 ≤ x ∧ x ≤ 1000000) (hby : ∀ x ∈ ys, -1000000 ≤ x ∧ x ≤ 1000000) :
  Calls Tryz.prog 116 #[.slice (some ad) n c, .slice q n d] w fun e w' => (∃ g c', e = .returned (.slice (some ⟨g, 0, none⟩) n c') ∧ IntsOwn w.heap.size w' (.slice (some ⟨g, 0, none⟩) n c') (subL xs ys) ∧ w.heap.size ≤ g ∧ g < w'.heap.size) ∧ Ext w w' := by
 obtain ⟨-, hc⟩ := hs.cl
 obtain ⟨-, hd⟩ := ht.cl
 have HX := hid hx; have HY := hid hy; have HD := hid hd; have HBX := hid hbx; have HBY := hid hby
 have HSL : Hid ((subL xs ys).length = n) := hid (subL_len hx hy)
 have HC : Hid (∀ i x, xs[i]? = some x → w.cell? (ad.add i) = some (.int .i64 x)) := hid (fun i x hi => by
  obtain ⟨b, off, e, hcell⟩ := hc i x hi
  cases e
  have hadd : (⟨b, off, none⟩ : Addr).add i = ⟨b, off + i, none⟩ := by unfold Addr.add; split <;> simp_all
  rw [hadd]; exact hcell)
 clear hx hy hc hd hs ht hbx hby
 go_enter Tryz.func116, Tryz.ntmps116
 go_wp2_with (fail)
 refine (cloneNew_any ad n c xs _ HX.out HC.out (by omega)).mono ?_
 rintro e w1 ⟨g, c', rfl, ho, hg0, hg1, hE1⟩
 have HO := hid ho; have E1 := hid hE1
 clear ho hE1
 go_wp2
 go_loopw [12] (fun iv wr => ∃ k : Nat, k ≤ n ∧ iv = .int .i64 k ∧ IntsOwn w.heap.size wr (.slice (some ⟨g, 0, none⟩) n c') ((subL xs ys).take k ++ xs.drop k) ∧ Ext w wr ∧ g < wr.heap.size) (fun iv _ => n - (intOf iv).toNat)
 case atStart => exact ⟨0, by omega, rfl, by simpa using HO.out, E1.out, hg1⟩
 case round =>
  obtain ⟨k, hk, rfl, ho, hE, hgl⟩ := hrel
  clear HO E1
  have HO := hid ho; have HE := hid hE
  clear ho hE
  by_cases hlt : k < n
  ·obtain ⟨x, hx⟩ := get_some (xs := xs) (k := k) (by rw [HX.out]; exact hlt)
   obtain ⟨y, hy⟩ := get_some (xs := ys) (k := k) (by rw [HY.out]; exact hlt)
   obtain ⟨b2, off2, rfl, hcy⟩ := HD.out k y hy
   obtain ⟨hs1, hs2⟩ := subL_next hx hy
   have c2 := HE.out.keep hcy
   have hb1 := HBX.out x (List.mem_of_getElem? hx)
   have hb2 := HBY.out y (List.mem_of_getElem? hy)
   have hwv : IntKind.i64.wrap (x - y) = x - y := IntWalk.i64_in _ (by omega)
   have hca := HO.out.cellI hs2
   have hfz := HO.out.frz k
   have hll : ((subL xs ys).take k ++ xs.drop k).length = n := by rw [List.length_append, List.length_take, List.length_drop, HSL.out, HX.out]; omega
   have HO2 : Hid (IntsOwn w.heap.size (wr.setCell ⟨g, k, none⟩ (.int .i64 (x - y))) (.slice (some ⟨g, 0, none⟩) n c') ((subL xs ys).take (k + 1) ++ xs.drop (k + 1))) := hid (by rw [← hs1]; exact HO.out.store hll k _)
   have HE2 := hid (HE.out.setCell (p := ⟨g, k, none⟩) hg0 (.int .i64 (x - y)))
   have HG2 : Hid (g < (wr.setCell ⟨g, k, none⟩ (.int .i64 (x - y))).heap.size) := hid (by simpa using hgl)
   have hkI : (k : Int) < (n : Int) := by omega
   clear hx hy hcy hs1 hs2 hll
   go_wp2
   go_roundw
   case rel => exact ⟨k + 1, by omega, by go_num, HO2.out, HE2.out, HG2.out⟩
   case measure => simp [intOf]; omega
  ·obtain rfl : k = n := by omega
   have HR : Hid (IntsOwn w.heap.size wr (.slice (some ⟨g, 0, none⟩) k c') (subL xs ys)) := hid (by have h := HO.out; rwa [List.take_of_length_le (by rw [HSL.out]; omega), List.drop_of_length_le (by rw [HX.out]; omega), List.append_nil] at h)
   go_wp2
   go_ret
   exact ⟨⟨g, c', rfl, HR.out, hg0, hgl⟩, HE.out⟩
end Go.Proofs.YtklehkkclojccaaGreat
namespace Go.Proofs.YtklehkkclojccaaGreat
open Go.Lib (hid)
open Go.RowKit
abbrev EA := Value × List Int
def RwA (B o : Nat) (w : World) (a : EA) : Prop := ∃ g c, a.1 = .slice (some ⟨g, 0, none⟩) a.2.length c ∧ g ≠ o ∧ IntsOwn B w a.1 a.2
theorem RwA.lv {B o : Nat} {w w' : World} {a : EA} (h : RwA B o w a) (hv : Lv (fun b => b = o) w w') : RwA B o w' a := by
 obtain ⟨g, c, e, hg, hi⟩ := h
 refine ⟨g, c, e, hg, row_lv hi hv (fun b hb hd => ?_)⟩
 rw [e] at hb
 simp only [Value.ownBlock, Option.some.injEq] at hb
 omega
theorem row_frz {B size n c g : Nat} {t : TypeId} {w : World} {xs : List Value} (h : w.ownsRow B t size (.slice (some ⟨g, 0, none⟩) n c) n xs) (j : Nat) : w.frozen? ⟨g, j, none⟩ = false := by
 rcases h.2 with ⟨e, _⟩ | ⟨g', cap, cur, e, _, hg, _⟩
 ·cases e
 ·cases e; simp [World.frozen?, hg]
theorem heap_setCells {t : TypeId} {fz : Nat × Nat} (o : Nat) : ∀ (vs : List Value) (i : Nat) (w : World) (cur : Array Value), w.heap[o]? = some (.cells cur t fz) →
  ∃ cur', (w.setCells o i vs).heap[o]? = some (.cells cur' t fz) ∧ cur'.size = cur.size ∧ ∀ j, j < i → cur'[j]? = cur[j]?
 | [], i, w, cur, h => ⟨cur, h, rfl, fun _ _ => rfl⟩
 | v :: vs, i, w, cur, h => by
  obtain ⟨cur', h1, h2, h3⟩ := heap_setCells (t := t) (fz := fz) o vs (i + 1) (w.setCell ⟨o, i, none⟩ v) (cur.setIfInBounds i v) (by simp [World.setCell, Array.getElem?_modify, h])
  refine ⟨cur', h1, by rw [h2]; simp, fun j hj => ?_⟩
  rw [h3 j (by omega), Array.getElem?_setIfInBounds, if_neg (by omega)]
theorem lv_setCells (o : Nat) : ∀ (vs : List Value) (i : Nat) (w : World), Lv (fun b => b = o) w (w.setCells o i vs)
 | [], _, w => Lv.refl _ w
 | v :: vs, i, w => (lv_set w o i v).trans (lv_setCells o vs (i + 1) _) (fun _ _ h => h) (fun _ _ h => h)
theorem row_cleared {B o n c kk : Nat} {t : TypeId} {w : World} {xs vs : List Value} (h : w.ownsRow B t 1 (.slice (some ⟨o, 0, none⟩) n c) n xs) (hk : kk ≤ n) : (w.setCells o kk vs).ownsRow B t 1 (.slice (some ⟨o, 0, none⟩) kk c) kk (xs.take kk) := by
 have hl := h.1
 rcases h.2 with ⟨e, _⟩ | ⟨g, cap, cur, e, hB, hg, h1, h2, h3, h4⟩
 ·cases e
 ·cases e
  obtain ⟨cur', k1, k2, k3⟩ := heap_setCells o vs kk w cur hg
  refine ⟨by rw [List.length_take]; omega, .inr ⟨o, c, cur', rfl, hB, k1, by omega, h2, by omega, ?_⟩⟩
  rw [← h4, List.take_take, Nat.mul_one, Nat.mul_one, Nat.min_eq_left hk]
  apply List.ext_getElem?
  intro j
  rw [List.getElem?_take, List.getElem?_take]
  split
  ·rename_i hj
   rw [Array.getElem?_toList, Array.getElem?_toList, k3 j hj]
  ·rfl
theorem cmp_start {al : List EA} {k : Nat} {x y : EA} (hx : al[k + 1]? = some x) (hy : al[k]? = some y) (he : y.2 = x.2) (hall : ∀ j x y, j + 1 < k + 1 → al[j]? = some y → al[j + 1]? = some x → y.2 ≠ x.2) : cpK (fun a : EA => a.2) al (k + 1 + 1) = al.take (k + 1) := by
 rw [cpK_next hx hy, if_pos he, cpK_all (by have := (List.getElem?_eq_some_iff.1 hx).1; omega) hall]
theorem compactF_nil (p : Option Addr) (c : Nat) (w : World) :
  Calls Tryz.prog 119 #[.slice p 0 c, .func (.func 120) #[] #[]] w fun e w' => e = .returned (.slice p 0 c) ∧ w' = w := by
 go_enter Tryz.func119, Tryz.ntmps119
 go_wp2
 go_ret
 exact ⟨rfl, rfl⟩
set_option linter.unusedVariables false in
set_option linter.unusedSimpArgs false in
set_option maxRecDepth 100000 in
set_option maxHeartbeats 4000000 in
theorem compactF_any (B o n c : Nat) (al : List EA) (w : World) (hn : al.length = n) (hn2 : n ≤ 20000) (ho : w.ownsRow B 39 1 (.slice (some ⟨o, 0, none⟩) n c) n (al.map (fun a => a.1))) (hr : ∀ a ∈ al, RwA B o w a) :
  Calls Tryz.prog 119 #[.slice (some ⟨o, 0, none⟩) n c, .func (.func 120) #[] #[]] w fun e w' =>
   (∃ m, e = .returned (.slice (some ⟨o, 0, none⟩) m c) ∧ (cpK (fun a : EA => a.2) al n).length = m ∧ w'.ownsRow B 39 1 (.slice (some ⟨o, 0, none⟩) m c) m ((cpK (fun a : EA => a.2) al n).map (fun a => a.1))) ∧ Lv (fun b => b = o) w w' := by
 have HN := hid hn; have HO := hid ho; have HR := hid hr
 have hcap : n ≤ c := by
  rcases ho.2 with ⟨e, _⟩ | ⟨g', cap, cur, e, _, hg, h1, _⟩
  ·cases e
  ·cases e; exact h1
 clear hn ho hr
 by_cases h2 : n < 2
 ·have hall : cpK (fun a : EA => a.2) al n = al := by rw [cpK_all (by rw [HN.out]; omega) (fun j x y hj => by omega), List.take_of_length_le (by rw [HN.out]; omega)]
  have HALL := hid hall
  clear hall
  go_enter Tryz.func119, Tryz.ntmps119
  go_wp2
  go_ret
  exact ⟨⟨n, rfl, by rw [HALL.out, HN.out], by rw [HALL.out]; exact HO.out⟩, Lv.refl _ _⟩
 ·go_enter Tryz.func119, Tryz.ntmps119
  go_wp2
  go_loopw [5] (fun kv wr => ∃ k : Nat, 1 ≤ k ∧ k ≤ n ∧ kv = .int .i64 k ∧ (∀ j x y, j + 1 < k → al[j]? = some y → al[j + 1]? = some x → y.2 ≠ x.2) ∧ Ext w wr) (fun kv _ => n - (intOf kv).toNat)
  case atStart => exact ⟨1, by omega, by omega, rfl, fun j x y hj => by omega, Ext.refl w⟩
  case round =>
   obtain ⟨k1, hk1, hk, rfl, hall, hE⟩ := hrel
   have HALL := hid hall; have HE := hid hE
   clear hall hE
   by_cases hlt : k1 < n
   ·obtain ⟨k, hk1e⟩ : ∃ k, k1 = k + 1 := ⟨k1 - 1, by omega⟩
    have HK1 := hid hk1e
    obtain ⟨x, hx⟩ := get_some (xs := al) (k := k1) (by rw [HN.out]; exact hlt)
    obtain ⟨y, hy⟩ := get_some (xs := al) (k := k) (by rw [HN.out]; omega)
    have hor := ownsRow_ext HO.out HE.out
    have cx : wr.cell? ⟨o, k1, none⟩ = some x.1 := by rw [hor.cellAt k1 (by omega), List.getElem?_map, hx]; rfl
    have cy : wr.cell? ⟨o, k, none⟩ = some y.1 := by rw [hor.cellAt k (by omega), List.getElem?_map, hy]; rfl
    obtain ⟨gx, dx, ex, -, hix⟩ := (HR.out x (List.mem_of_getElem? hx)).lv (HE.out.lv)
    obtain ⟨gy, dy, ey, -, hiy⟩ := (HR.out y (List.mem_of_getElem? hy)).lv (HE.out.lv)
    obtain ⟨lx, hlx⟩ : ∃ n, x.2.length = n := ⟨_, rfl⟩
    obtain ⟨ly, hly⟩ : ∃ n, y.2.length = n := ⟨_, rfl⟩
    rw [ex, hlx] at cx hix
    rw [ey, hly] at cy hiy
    obtain ⟨bb, hbb⟩ : ∃ b, eqB x.2 y.2 = b := ⟨_, rfl⟩
    have HX := hid hx; have HY := hid hy; have HIX := hid hix; have HIY := hid hiy; have HBB := hid hbb; have HEX := hid ex
    have hkd : (k1 : Int) - 1 = (k : Int) := by omega
    have hkw : IntKind.i64.wrap (k : Int) = (k : Int) := IntWalk.i64_in _ (by omega)
    have hkI : (k1 : Int) < (n : Int) := by omega
    have hkI2 : (k : Int) < (n : Int) := by omega
    clear hx hy hor ex ey hix hiy hlx hly hbb hk1e
    go_wp2_with (fail)
    go_region_held3 (fun W => W.cell? ⟨o, k1, none⟩ = some (.slice (some ⟨gx, 0, none⟩) lx dx) ∧ W.cell? ⟨o, k, none⟩ = some (.slice (some ⟨gy, 0, none⟩) ly dy))
     (first | exact ⟨cx, cy⟩ | exact ⟨g3.keep cx, g3.keep cy⟩ | fail)
     (first | (go_at_call 120; (with_reducible refine (slicesEqual_any _ _ x.2 y.2 _ (HIX.out.at.ext (Ext.refl wr).drew) (HIY.out.at.ext (Ext.refl wr).drew)).mono ?_); rw [HBB.out]; rintro e w4 ⟨rfl, hE4⟩; have g3 := (Ext.refl wr).drew.trans hE4) | fail)
    have E4 := hid (HE.out.trans g3)
    clear g3 hE4 cx cy
    cases bb with
    | false =>
     have hne : y.2 ≠ x.2 := fun e => by have h := HBB.out; unfold eqB at h; simp [e] at h
     have HALL2 : Hid (∀ j x y, j + 1 < k1 + 1 → al[j]? = some y → al[j + 1]? = some x → y.2 ≠ x.2) := hid (fun j x' y' hj h1 h2 => by
      have hk1e := HK1.out
      rcases Nat.lt_or_ge (j + 1) k1 with h | h
      ·exact HALL.out j x' y' h h1 h2
      ·obtain rfl : j = k := by omega
       rw [HY.out] at h1; rw [← hk1e, HX.out] at h2
       cases h1; cases h2; exact hne)
     clear hne hkd hkw
     go_wp2
     go_roundw
     case rel => exact ⟨k1 + 1, by omega, by omega, by go_num, HALL2.out, E4.out⟩
     case measure => simp [intOf]; omega
    | true =>
     have heq : y.2 = x.2 := by have h := HBB.out; unfold eqB at h; simpa using (of_decide_eq_true h).symm
     have HST : Hid (cpK (fun a : EA => a.2) al (k1 + 1) = al.take k1) := hid (by
      have hk1e := HK1.out
      subst hk1e
      exact cmp_start HX.out HY.out heq HALL.out)
     obtain ⟨r, hr⟩ : ∃ r, n - k1 = r := ⟨_, rfl⟩
     obtain ⟨cr, hcr⟩ : ∃ r, c - k1 = r := ⟨_, rfl⟩
     have HO4 := hid (ownsRow_ext HO.out E4.out)
     have HL4 : Hid (Lv (fun b => b = o) w w4) := hid E4.out.lv
     clear heq hkd hkw
     go_wp2
     go_loopw [5, 7] (fun kv jv wr => ∃ (kk j : Nat) (dk : List EA), kv = .int .i64 kk ∧ jv = .int .i64 j ∧ 1 ≤ j ∧ k1 + j ≤ n ∧ kk < k1 + j ∧ dk.length = n ∧ dk.take kk = cpK (fun a : EA => a.2) al (k1 + j) ∧ (∀ i, k1 + j ≤ i + 1 → dk[i]? = al[i]?) ∧ wr.ownsRow B 39 1 (.slice (some ⟨o, 0, none⟩) n c) n (dk.map (fun a => a.1)) ∧ Lv (fun b => b = o) w wr) (fun _ jv _ => n - (intOf jv).toNat)
     case atStart => exact ⟨k1, 1, al, rfl, rfl, by omega, by omega, by omega, HN.out, HST.out.symm, fun _ _ => rfl, HO4.out, HL4.out⟩
     case round =>
      obtain ⟨kk, j1, dk, rfl, rfl, hj1, hjn, hkk, hdl, hdt, hdh, hdo, hlv⟩ := hrel
      obtain ⟨j, hj1e⟩ : ∃ j, j1 = j + 1 := ⟨j1 - 1, by omega⟩
      have HJ1 := hid hj1e
      have HDL := hid hdl; have HDT := hid hdt; have HDH := hid hdh; have HDO := hid hdo; have HLV := hid hlv
      by_cases hlt2 : k1 + j1 < n
      ·obtain ⟨x2, hx2⟩ := get_some (xs := al) (k := k1 + j1) (by rw [HN.out]; exact hlt2)
       obtain ⟨y2, hy2⟩ := get_some (xs := al) (k := k1 + j) (by rw [HN.out]; omega)
       obtain ⟨z2, hz2⟩ := get_some (xs := dk) (k := kk) (by omega)
       have cx : wr.cell? ⟨o, k1 + j1, none⟩ = some x2.1 := by rw [hdo.cellAt (k1 + j1) (by omega), List.getElem?_map, hdh _ (by omega), hx2]; rfl
       have cy : wr.cell? ⟨o, k1 + j, none⟩ = some y2.1 := by rw [hdo.cellAt (k1 + j) (by omega), List.getElem?_map, hdh _ (by omega), hy2]; rfl
       have ck : wr.cell? ⟨o, kk, none⟩ = some z2.1 := by rw [hdo.cellAt kk (by omega), List.getElem?_map, hz2]; rfl
       have fk := row_frz hdo kk
       obtain ⟨gx, dx, ex, -, hix⟩ := (HR.out x2 (List.mem_of_getElem? hx2)).lv hlv
       obtain ⟨gy, dy, ey, -, hiy⟩ := (HR.out y2 (List.mem_of_getElem? hy2)).lv hlv
       obtain ⟨lx, hlx⟩ : ∃ n, x2.2.length = n := ⟨_, rfl⟩
       obtain ⟨ly, hly⟩ : ∃ n, y2.2.length = n := ⟨_, rfl⟩
       obtain ⟨zv, hzv⟩ : ∃ z, z2.1 = z := ⟨_, rfl⟩
       rw [hzv] at ck
       rw [ex, hlx] at cx hix
       rw [ey, hly] at cy hiy
       obtain ⟨bb, hbb⟩ : ∃ b, eqB x2.2 y2.2 = b := ⟨_, rfl⟩
       have HX2 := hid hx2; have HY2 := hid hy2; have HIX2 := hid hix; have HIY2 := hid hiy; have HBB2 := hid hbb; have HEX2 := hid ex; have HLX2 := hid hlx; have HCK := hid ck; have HFK := hid fk; have HCX := hid cx
       have hkd : (j1 : Int) - 1 = (j : Int) := by omega
       have hkw : IntKind.i64.wrap (j : Int) = (j : Int) := IntWalk.i64_in _ (by omega)
       have hj0 : (j1 : Int) < (r : Int) := by omega
       have hj3 : (j : Int) < (r : Int) := by omega
       clear hx2 hy2 hz2 ex ey hix hiy hlx hly hzv hbb hdl hdt hdh hdo hlv ck fk hj1e
       go_wp2_with (fail)
       go_region_held3 (fun W => W.cell? ⟨o, k1 + j1, none⟩ = some (.slice (some ⟨gx, 0, none⟩) lx dx) ∧ W.cell? ⟨o, k1 + j, none⟩ = some (.slice (some ⟨gy, 0, none⟩) ly dy))
        (first | exact ⟨cx, cy⟩ | exact ⟨g3.keep cx, g3.keep cy⟩ | fail)
        (first | (go_at_call 120; (with_reducible refine (slicesEqual_any _ _ x2.2 y2.2 _ (HIX2.out.at.ext (Ext.refl wr).drew) (HIY2.out.at.ext (Ext.refl wr).drew)).mono ?_); rw [HBB2.out]; rintro e w5 ⟨rfl, hE5⟩; have g3 := (Ext.refl wr).drew.trans hE5) | fail)
       have HLV5 : Hid (Lv (fun b => b = o) w w5) := hid (HLV.out.trans (g3.lv (D := fun _ => False)) (fun _ _ h => h) (fun _ _ h => h.elim))
       have HDO5 := hid (ownsRow_ext HDO.out g3)
       have cx5 := g3.keep HCX.out; have ck5 := g3.keep HCK.out; have fk5 := row_frz HDO5.out kk
       clear g3 hE5 cx cy
       cases bb with
       | true =>
        have heq : y2.2 = x2.2 := by have h := HBB2.out; unfold eqB at h; simpa using (of_decide_eq_true h).symm
        have HNX : Hid (dk.take kk = cpK (fun a : EA => a.2) al (k1 + (j1 + 1))) := hid (by
         have hj := HJ1.out
         subst hj
         rw [show k1 + (j + 1 + 1) = k1 + j + 1 + 1 by omega, cpK_next (k := k1 + j) HX2.out HY2.out, if_pos heq, HDT.out]; rfl)
        clear heq hkd hkw cx5 ck5 fk5
        go_wp2
        go_roundw
        case rel => exact ⟨kk, j1 + 1, dk, rfl, by go_num, by omega, by omega, by omega, HDL.out, HNX.out, fun i hi => HDH.out i (by omega), HDO5.out, HLV5.out⟩
        case measure => simp [intOf]; omega
       | false =>
        have hne : ¬ (y2.2 = x2.2) := fun e => by have h := HBB2.out; unfold eqB at h; simp [e] at h
        have hpre : dk.take kk = cpK (fun a : EA => a.2) al (k1 + j + 1) := by have h := HDT.out; rw [HJ1.out] at h; exact h
        have HNX : Hid ((dk.set kk x2).take (kk + 1) = cpK (fun a : EA => a.2) al (k1 + (j1 + 1))) := hid (by
         rw [show k1 + (j1 + 1) = k1 + j + 1 + 1 by have := HJ1.out; omega, cpK_next (k := k1 + j) (by have h := HX2.out; rw [HJ1.out] at h; exact h) HY2.out, if_neg hne, ← hpre, List.take_add_one, List.getElem?_set_self (by rw [HDL.out]; omega), List.take_set_of_le (Nat.le_refl _)]
         rfl)
        have HDL2 : Hid ((dk.set kk x2).length = n) := hid (by rw [List.length_set]; exact HDL.out)
        have HDH2 : Hid (∀ i, k1 + (j1 + 1) ≤ i + 1 → (dk.set kk x2)[i]? = al[i]?) := hid (fun i hi => by rw [List.getElem?_set_ne (by omega)]; exact HDH.out i (by omega))
        have HDO6 : Hid ((w5.setCell ⟨o, kk, none⟩ (.slice (some ⟨gx, 0, none⟩) lx dx)).ownsRow B 39 1 (.slice (some ⟨o, 0, none⟩) n c) n ((dk.set kk x2).map (fun a => a.1))) := hid (by
         have h := (World.ownsRow.stored HDO5.out kk (.slice (some ⟨gx, 0, none⟩) lx dx)).1
         rw [List.map_set, HEX2.out, HLX2.out]
         exact h)
        have HLV6 : Hid (Lv (fun b => b = o) w (w5.setCell ⟨o, kk, none⟩ (.slice (some ⟨gx, 0, none⟩) lx dx))) := hid (HLV5.out.trans (lv_set w5 o kk _) (fun _ _ h => h) (fun _ _ h => h))
        clear hne hkd hkw hpre
        go_wp2
        go_roundw
        case rel => exact ⟨kk + 1, j1 + 1, dk.set kk x2, by go_num, by go_num, by omega, by omega, by omega, HDL2.out, HNX.out, HDH2.out, HDO6.out, HLV6.out⟩
        case measure => simp [intOf]; omega
      ·have hje : k1 + j1 = n := by omega
       have hcl : ∀ ty, (Builtin.clear_ #[46] ty #[.slice (some ⟨o, kk, none⟩) (n - kk) (c - kk)]).run Tryz.prog wr = .ok (.tuple #[]) (wr.setCells o kk (List.replicate (n - kk) (.slice none 0 0))) := fun ty =>
        Lib.run_clear_slice wr 46 39 ty (.slice none 0 0) underSS Tryz.zeroValue39 rfl rfl o kk (n - kk) (c - kk) (by omega)
         (fun j hj => by
          obtain ⟨z, hz⟩ := get_some (xs := dk) (k := kk + j) (by omega)
          rw [hdo.cellAt (kk + j) (by omega), List.getElem?_map, hz]; rfl)
         (fun j hj => row_frz hdo _)
       have hdt2 : dk.take kk = cpK (fun a : EA => a.2) al n := by rw [hdt, hje]
       have hlk : (cpK (fun a : EA => a.2) al n).length = kk := by rw [← hdt2, List.length_take]; omega
       have HRF : Hid ((wr.setCells o kk (List.replicate (n - kk) (.slice none 0 0))).ownsRow B 39 1 (.slice (some ⟨o, 0, none⟩) kk c) kk ((cpK (fun a : EA => a.2) al n).map (fun a => a.1))) := hid (by
        have h := row_cleared (vs := List.replicate (n - kk) (.slice none 0 0)) hdo (by omega : kk ≤ n)
        rw [← List.map_take, hdt2] at h
        exact h)
       have HLF : Hid (Lv (fun b => b = o) w (wr.setCells o kk (List.replicate (n - kk) (.slice none 0 0)))) := hid (hlv.trans (lv_setCells o _ kk wr) (fun _ _ h => h) (fun _ _ h => h))
       have HLK := hid hlk
       have hkn : kk ≤ n := by omega
       have hj0 : ¬ (j1 : Int) < (r : Int) := by omega
       clear hdl hdt hdh hdo hlv hdt2 hlk hje hj1e HDL HDT HDH HDO HLV
       go_wp2
       go_ret
       exact ⟨⟨kk, rfl, HLK.out, HRF.out⟩, HLF.out⟩
   ·obtain rfl : k1 = n := by omega
    have hall : cpK (fun a : EA => a.2) al k1 = al := by rw [cpK_all (by rw [HN.out]; omega) HALL.out, List.take_of_length_le (by rw [HN.out]; omega)]
    have HAL2 := hid hall
    clear hall
    go_wp2
    go_ret
    exact ⟨⟨k1, rfl, by rw [HAL2.out, HN.out], by rw [HAL2.out]; exact ownsRow_ext HO.out HE.out⟩, HE.out.lv⟩
end Go.Proofs.YtklehkkclojccaaGreat
namespace Go.Proofs.YtklehkkclojccaaGreat
open Go.Lib (hid)
open Go.RowKit Go.Sort
theorem sub_list {α : Type} {p : α → Prop} : ∀ (al : List α), (∀ a ∈ al, p a) → ∃ l : List {a // p a}, l.map (fun x => x.1) = al
 | [], _ => ⟨[], rfl⟩
 | a :: al, h => by
  obtain ⟨l, e⟩ := sub_list al (fun x hx => h x (by simp [hx]))
  exact ⟨⟨a, h a (by simp)⟩ :: l, by simp [e]⟩
theorem get_bang {α : Type} [Inhabited α] {ss : List α} {j : Nat} (hj : j < ss.length) : ss.toArray[j]! = ss[j] := by simp [hj]
theorem holdsG {α : Type} [Inhabited α] (enc : α → Value) {B n c g : Nat} {t : TypeId} {w : World} {ss : List α} (h : w.ownsRow B t 1 (.slice (some ⟨g, 0, none⟩) n c) n (ss.map enc)) (hn : ss.length = n) : Holds enc w g 0 ss.toArray := by
 intro j hj
 have hj' : j < ss.length := by simpa using hj
 refine ⟨?_, row_frz h _⟩
 rw [Nat.zero_add, h.cellAt j (by omega), List.getElem?_map, List.getElem?_eq_getElem hj', get_bang hj']; rfl
theorem heap_putG {α : Type} [Inhabited α] (enc : α → Value) {g m : Nat} {t : TypeId} {fz : Nat × Nat} {w : World} {cur : Array Value} (d : Array α) (os : Array Obj) (h : w.heap[g]? = some (.cells cur t fz)) : (grow (putRow enc (Sort.ahead w m) g 0 d) os).heap[g]? = some (.cells (putCells enc 0 d cur) t fz) := by
 have hl := (Array.getElem?_eq_some_iff.1 h).1
 have h1 : (putRow enc (Sort.ahead w m) g 0 d).heap[g]? = some (.cells (putCells enc 0 d cur) t fz) := by simp [putRow, mapBlock, Sort.ahead, Array.getElem?_modify, h, onCells]
 show ((putRow enc (Sort.ahead w m) g 0 d).heap ++ os)[g]? = _
 rw [Array.getElem?_append_left (Array.getElem?_eq_some_iff.1 h1).1]
 exact h1
theorem lv_putG {α : Type} [Inhabited α] (enc : α → Value) {g m : Nat} {w : World} (d : Array α) (os : Array Obj) : Lv (fun b => b = g) w (grow (putRow enc (Sort.ahead w m) g 0 d) os) := by
 refine ⟨rfl, rfl, rfl, ?_, fun k hk hne => ?_⟩
 ·show w.heap.size ≤ ((putRow enc (Sort.ahead w m) g 0 d).heap ++ os).size
  simp [putRow, mapBlock, Sort.ahead]
 ·show ((putRow enc (Sort.ahead w m) g 0 d).heap ++ os)[k]? = _
  have hs : (putRow enc (Sort.ahead w m) g 0 d).heap.size = w.heap.size := by simp [putRow, mapBlock, Sort.ahead]
  rw [Array.getElem?_append_left (by omega)]
  simp [putRow, mapBlock, Sort.ahead, Array.getElem?_modify, Ne.symm hne]
theorem row_putG {α : Type} [Inhabited α] (enc : α → Value) {B n c g m : Nat} {t : TypeId} {w : World} {vs : List Value} {ts : List α} (os : Array Obj) (h : w.ownsRow B t 1 (.slice (some ⟨g, 0, none⟩) n c) n vs) (hn : ts.length = n) :
  (grow (putRow enc (Sort.ahead w m) g 0 ts.toArray) os).ownsRow B t 1 (.slice (some ⟨g, 0, none⟩) n c) n (ts.map enc) := by
 rcases h.2 with ⟨e, _⟩ | ⟨g', cap, cur, e, hB, hg, h1, h2, h3, h4⟩
 ·cases e
 ·cases e
  refine ⟨by simp [hn], .inr ⟨g, c, _, rfl, hB, heap_putG enc ts.toArray os hg, h1, h2, by simp [putCells, h3], ?_⟩⟩
  apply List.ext_getElem?
  intro j
  rw [Nat.mul_one, List.getElem?_take]
  by_cases hj : j < n
  ·rw [if_pos hj, Array.getElem?_toList, List.getElem?_map, List.getElem?_eq_getElem (by omega : j < ts.length)]
   have hc : j < cur.size := by omega
   simp only [putCells, Array.getElem?_mapIdx, Array.getElem?_eq_getElem hc, Option.map_some, Nat.sub_zero]
   rw [if_pos ⟨Nat.zero_le _, by simp; omega⟩, get_bang (by omega)]
  ·rw [if_neg hj, List.getElem?_map, List.getElem?_eq_none (by omega)]; rfl
theorem swoL {α : Type} (f : α → List Int) : SWO (ltOf (fun x y : α => cmpL (f x) (f y))) := by
 have e : ∀ x y : α, ltOf (fun x y : α => cmpL (f x) (f y)) x y = lexB (f x) (f y) := fun x y => cmpL_lex _ _
 refine ⟨fun x => ?_, fun x y z h1 h2 => ?_, fun x y z h1 h2 => ?_⟩
 ·rw [e]; exact lexB_irr _
 ·rw [e] at *; exact lexB_tr _ _ _ h1 h2
 ·rw [e] at *; exact lexB_ntr h1 h2
theorem sortF_none (p : Option Addr) (c : Nat) (w : World) :
  Calls Tryz.prog 117 #[.slice p 0 c, .func (.func 118) #[] #[]] w fun e w' => e = .returned (.tuple #[]) ∧ w' = w := by
 have h := AnyF.slices_SortFunc_none { Tryz.laysSlF6_f117 with } p c (.func (.func 118) #[] #[]) w
 exact h
set_option maxRecDepth 100000 in
set_option maxHeartbeats 1000000 in
theorem sortF_any (B o n c : Nat) (al : List EA) (w : World) (hn : al.length = n) (h0 : 0 < n) (hn2 : n ≤ 20000) (ho : w.ownsRow B 39 1 (.slice (some ⟨o, 0, none⟩) n c) n (al.map (fun a => a.1))) (hr : ∀ a ∈ al, RwA B o w a) :
  Calls Tryz.prog 117 #[.slice (some ⟨o, 0, none⟩) n c, .func (.func 118) #[] #[]] w fun e w' =>
   e = .returned (.tuple #[]) ∧ ∃ al' : List EA, al'.Perm al ∧ al'.Pairwise (fun a b => lexB b.2 a.2 = false) ∧ w'.ownsRow B 39 1 (.slice (some ⟨o, 0, none⟩) n c) n (al'.map (fun a => a.1)) ∧ Lv (fun b => b = o) w w' := by
 obtain ⟨ls, hls⟩ := sub_list al hr
 obtain ⟨a0, ha0⟩ := get_some (xs := al) (k := 0) (by omega)
 haveI : Inhabited {a : EA // RwA B o w a} := ⟨⟨a0, hr a0 (List.mem_of_getElem? ha0)⟩⟩
 have hll : ls.length = n := by rw [← hn, ← hls, List.length_map]
 have hsz : ls.toArray.size = n := by simp [hll]
 have hoe : w.ownsRow B 39 1 (.slice (some ⟨o, 0, none⟩) n c) n (ls.map (fun x => x.1.1)) := by
  have : ls.map (fun x => x.1.1) = al.map (fun a => a.1) := by rw [← hls, List.map_map]; rfl
  rw [this]; exact ho
 have hH := holdsG (fun x : {a : EA // RwA B o w a} => x.1.1) hoe hll
 have hblk : o < w.heap.size := by
  rcases ho.2 with ⟨e, _⟩ | ⟨g', cap, cur, e, _, hg, _⟩
  ·cases e
  ·cases e; exact lt_of_block hg
 have hcmp : CmpReads Tryz.prog 118 #[] (fun x : {a : EA // RwA B o w a} => x.1.1) (fun x y => cmpL x.1.2 y.1.2) o 0 ls.toArray.size w := by
  intro m os dk hdk x y
  have hv : Lv (fun b => b = o) w (sortWorld (fun x : {a : EA // RwA B o w a} => x.1.1) w o 0 m dk os) := lv_putG _ dk os
  obtain ⟨gx, dx, ex, -, hix⟩ := x.2.lv hv
  obtain ⟨gy, dy, ey, -, hiy⟩ := y.2.lv hv
  refine (slicesCompare_fn _ _ x.1.2 y.1.2 _ hix.at hiy.at).mono ?_
  rintro e w' ⟨rfl, rfl⟩
  exact ⟨rfl, 0, rfl⟩
 have hone : OneCell (fun x : {a : EA // RwA B o w a} => x.1.1) := fun x => by
  obtain ⟨gx, dx, ex, -, -⟩ := x.2
  show x.1.1.oneCell' = true
  rw [ex]; rfl
 have hcon := Any.slices_SortFunc Tryz.laysSlF6_f117 (fun x : {a : EA // RwA B o w a} => x.1.1) hone (fun x y => cmpL x.1.2 y.1.2) (swoL (fun x : {a : EA // RwA B o w a} => x.1.2)) 118 #[] o 0 c ls.toArray w (enters_of Tryz.func118 (by kernel_rfl) rfl) hcmp.lays hH hblk (by omega)
 rw [hsz] at hcon
 refine Calls.mono (show Calls Tryz.prog 117 _ _ _ from hcon) ?_
 rintro e w' ⟨rfl, d', m, os, hp, hs, rfl⟩
 have hd' : d'.size = n := by rw [hp.1, hsz]
 have hpl : d'.toList.Perm ls := by
  have h := hp.2.2
  have e1 : d'.extract 0 n = d' := by rw [← hd']; simp
  have e2 : ls.toArray.extract 0 n = ls.toArray := by rw [← hsz]; simp
  rw [e1, e2] at h
  simpa using h
 refine ⟨rfl, d'.toList.map (fun x => x.1), by rw [← hls]; exact hpl.map _, ?_, ?_, lv_putG _ d' os⟩
 ·refine List.pairwise_iff_getElem.2 (fun i j hi hj hij => ?_)
  have hi' : i < d'.size := by simpa using hi
  have hj' : j < d'.size := by simpa using hj
  have h := hs i j (Nat.zero_le _) hij (by omega)
  have e : ltOf (fun x y : {a : EA // RwA B o w a} => cmpL x.1.2 y.1.2) d'[j]! d'[i]! = lexB d'[j]!.1.2 d'[i]!.1.2 := cmpL_lex _ _
  rw [e, getElem!_pos d' j hj', getElem!_pos d' i hi'] at h
  simpa using h
 ·have h := row_putG (m := m) (ts := d'.toList) (fun x : {a : EA // RwA B o w a} => x.1.1) os ho (by simpa using hd')
  rw [List.map_map]
  have e : d'.toList.toArray = d' := by simp
  rw [e] at h
  exact h
end Go.Proofs.YtklehkkclojccaaGreat
namespace Go.Proofs.YtklehkkclojccaaGreat
open Go.Lib (hid)
open Go.RowKit Go.Maps
def lvB (ars : List Arr) (ps : List Pt) : List Int := lvF (cntB ars ps) (depsB ars ps)
end Go.Proofs.YtklehkkclojccaaGreat

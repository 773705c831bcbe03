/- The texts Ho W1, joined. No statement is proved here. -/
import Derived.Test.YtccibfldadflkaaQT38
import Derived.Test.YtccibfldadflkaaQT23
import Derived.Test.YtccibfldadflkaaQT24
import Derived.Test.YtccibfldadflkaaQT41
import Derived.Test.YtccibfldadflkaaQT31
import Derived.Test.YtccibfldadflkaaQT47
import Derived.Test.YtccibfldadflkaaQT09
import Derived.Test.YtccibfldadflkaaQT12
/- A drawn region whose last operation need not keep what the others hold: so a load of the cell that the last store writes is taken first, too. No statement is proved here. -/
namespace Go.Proofs.Ytccibfldadflkaa
open Go.RowKit

section
variable {P : Program} {md : Region.Mode} {ops : Array Oper} {Q : Exit → Act → World → Prop} {S : World → Prop}

/-- 'wpAnyH', but behind the last operation S is not asked. -/
def wpAnyL (P : Program) (md : Region.Mode) (ops : Array Oper) (Q : Exit → Act → World → Prop) (S : World → Prop) : Nat → Array Bool → Act → World → Prop
  | 0, listed, a, w => Region.ready md ops listed = [] ∧ Q .normal a w
  | fuel + 1, listed, a, w =>
    (Region.ready md ops listed = [] → Q .normal a w) ∧
    ∀ i ∈ Region.ready md ops listed, wpOp P ops Q i (fun a' w' => ((listed.setIfInBounds i true).all id = false → S w') ∧ wpAnyL P md ops Q S fuel (listed.setIfInBounds i true) a' w') a w
theorem wpAny_of_last : ∀ (fuel : Nat) (listed : Array Bool) (a : Act) (w : World), wpAnyL P md ops Q S fuel listed a w → wpAny P md ops Q fuel listed a w
  | 0, _, _, _, h => h
  | fuel + 1, _, _, _, h => ⟨h.1, fun i hi => wpOp_mono (fun a' w' h' => wpAny_of_last fuel _ a' w' h'.2) (h.2 i hi)⟩
/-- Does some operation that has not come up wait for number i? -/
def waitsFor (md : Region.Mode) (ops : Array Oper) (listed : Array Bool) (i k : Nat) : Bool :=
  !(listed.getD k true) && (!(k == i) && match ops[k]? with | some o => o.after.any (fun e => Region.binds md e && e.on == i) | none => false)
theorem not_all {listed : Array Bool} {k : Nat} (h : listed.getD k true = false) : listed.all id = false := by
  rw [Bool.eq_false_iff]
  intro hall
  have h1 := Array.all_eq_true.1 hall
  by_cases hk : k < listed.size
  · have h2 := h1 k hk
    rw [Array.getD_eq_getD_getElem?, Array.getElem?_eq_getElem hk] at h
    simp only [Option.getD_some] at h
    simp only [id] at h2
    rw [h] at h2
    cases h2
  · rw [Array.getD_eq_getD_getElem?, Array.getElem?_eq_none (by omega)] at h
    cases h
theorem wpAnyL_first {i : Nat} {oi : Oper} {v : Value} (hi : ops[i]? = some oi) (hsel : ∀ (j : Nat) (o : Oper) cs b, ops[j]? = some o → o.op ≠ .select cs b)
    (hQ : ∀ c a w, Q (.panic c) (a.put oi.dst v) w → Q (.panic c) a w) (k : Nat) :
    ∀ (fuel : Nat) (listed : Array Bool) (a : Act) (w : World), waitsFor md ops listed i k = true →
      (∀ j oj, ops[j]? = some oj → j ≠ i → listed.getD j true = false → (∀ e ∈ oj.after, Region.binds md e = true → e.on ≠ i) → oi.apart ops oj = true) →
      i ∈ Region.ready md ops listed → YieldsIf P ops S oi v a → S w →
      wpAnyL P md ops Q S fuel (listed.setIfInBounds i true) (a.put oi.dst v) w → wpAnyL P md ops Q S (fuel + 1) listed a w := by
  intro fuel
  induction fuel with
  | zero =>
    intro listed a w _ _ hr hy hS H
    refine ⟨fun h => (by rw [h] at hr; cases hr), fun j hj => ?_⟩
    by_cases hji : j = i
    · subst hji; exact hy.wpOp hi hS ⟨fun _ => hS, H⟩
    · have := ready_mono hj hji
      rw [H.1] at this
      cases this
  | succ fuel ih =>
    intro listed a w hw hfree hr hy hS H
    refine ⟨fun h => (by rw [h] at hr; cases hr), fun j hj => ?_⟩
    by_cases hji : j = i
    · subst hji; exact hy.wpOp hi hS ⟨fun _ => hS, H⟩
    · have h1 := H.2 j (ready_mono hj hji)
      obtain ⟨hjun, oj, hoj, hall⟩ := mem_ready.1 hj
      have hnot : ∀ e ∈ oj.after, Region.binds md e = true → e.on ≠ i := fun e he hb heq => by
        have h1 := hall e he hb
        have h0 := (mem_ready.1 hr).1
        rw [heq] at h1
        rcases Nat.lt_or_ge i listed.size with h' | h'
        · simp [h'] at h0 h1; rw [h0] at h1; cases h1
        · simp [Array.getElem?_eq_none h'] at h1
      have hw0 := hw
      unfold waitsFor at hw0
      simp only [Bool.and_eq_true, Bool.not_eq_true', beq_eq_false_iff_ne, ne_eq] at hw0
      obtain ⟨hk0, hki, hkw⟩ := hw0
      have hkj : j ≠ k := by
        intro e
        subst e
        rw [hoj] at hkw
        obtain ⟨x, hx, hx2⟩ := Array.any_eq_true'.1 hkw
        simp only [Bool.and_eq_true, beq_iff_eq] at hx2
        exact hnot x hx hx2.1 hx2.2
      have hkl : (listed.setIfInBounds j true).getD k true = false := by rw [getD_set_ne true hkj]; exact hk0
      have hkl2 : ((listed.setIfInBounds i true).setIfInBounds j true).getD k true = false := by rw [getD_set_ne true hkj, getD_set_ne true (Ne.symm hki)]; exact hk0
      have hw' : waitsFor md ops (listed.setIfInBounds j true) i k = true := by
        unfold waitsFor
        rw [hkl]
        simp only [Bool.not_false, Bool.true_and, Bool.and_eq_true, Bool.not_eq_true', beq_eq_false_iff_ne, ne_eq]
        exact ⟨hki, hkw⟩
      have h2 := wpOp_putIf hoj (hfree j oj hoj hji hjun hnot) (fun cs b => hsel i oi cs b hi) (fun cs b => hsel j oj cs b hoj) hQ hy h1
      have hfree' : ∀ k ok, ops[k]? = some ok → k ≠ i → (listed.setIfInBounds j true).getD k true = false →
          (∀ e ∈ ok.after, Region.binds md e = true → e.on ≠ i) → oi.apart ops ok = true := fun k ok hk hki hun hno => by
        refine hfree k ok hk hki ?_ hno
        by_cases hjk : j = k
        · subst hjk; exact hjun
        · rw [getD_set_ne true hjk] at hun; exact hun
      refine wpOp_mono (fun a' w' h3 => ⟨fun _ => h3.2.1 (not_all hkl2), ih (listed.setIfInBounds j true) a' w' hw' hfree' (ready_mono hr (Ne.symm hji)) h3.1 (h3.2.1 (not_all hkl2)) ?_⟩) h2
      rw [Array.setIfInBounds_comm _ _ hji]
      exact h3.2.2
/-- Taken first (the side conditions for 'kernel_rfl'). -/
theorem tkL {oi : Oper} {fuel : Nat} {listed : Array Bool} {a : Act} {w : World} (d : Option Nat) (i : Nat) (v : Value) (hi : ops[i]? = some oi) (hd : oi.dst = d)
    (hc : (Region.noSelect ops && (Region.free md ops listed i && ((Region.ready md ops listed).contains i && (List.range ops.size).any (waitsFor md ops listed i)))) = true)
    (hQ : ∀ c a w, Q (.panic c) (a.put d v) w → Q (.panic c) a w) (hy : YieldsIf P ops S oi v a) (hS : S w)
    (h : wpAnyL P md ops Q S fuel (listed.setIfInBounds i true) (a.put d v) w) : wpAnyL P md ops Q S (fuel + 1) listed a w := by
  subst hd
  simp only [Bool.and_eq_true] at hc
  obtain ⟨k, -, hk⟩ := List.any_eq_true.1 hc.2.2.2
  exact wpAnyL_first hi (Region.noSelect_spec hc.1) hQ k fuel listed a w hk (Region.free_spec hi hc.2.1) (by simpa using hc.2.2.1) hy hS h
theorem wpAnyL_done {listed : Array Bool} {a : Act} {w : World} (hr : Region.ready md ops listed = []) (h : Q .normal a w) : ∀ fuel, wpAnyL P md ops Q S fuel listed a w
  | 0 => ⟨hr, h⟩
  | _ + 1 => ⟨fun _ => h, by rw [hr]; simp⟩
/-- One that comes up next; it is the only one. -/
theorem oneL {i : Nat} {o : Oper} {fuel : Nat} {listed : Array Bool} {a : Act} {w : World} (ho : ops[i]? = some o) (hr : Region.ready md ops listed = [i])
    (h : ∀ K' : Act → World → Prop, Shut (∀ a w, S w → (S w → wpAnyL P md ops Q S fuel (listed.setIfInBounds i true) a w) → K' a w) → if Region.wanted o (yielded ops a.tmps) = true then Oper.wp P o a w K' Q else K' (a.put o.dst undef) w) :
    wpAnyL P md ops Q S (fuel + 1) listed a w :=
  ⟨fun h0 => (by rw [hr] at h0; cases h0), fun j hj => by
    rw [hr] at hj
    obtain rfl : j = i := by simpa using hj
    exact wpOp_step ho (fun K' hK => h K' (fun a w hS hW => hK a w ⟨fun _ => hS, hW hS⟩))⟩
/-- The last one: behind it only the rest is asked. -/
theorem lastL {i : Nat} {o : Oper} {fuel : Nat} {listed : Array Bool} {a : Act} {w : World} (ho : ops[i]? = some o) (hr : Region.ready md ops listed = [i]) (hl : ((listed.setIfInBounds i true).all id && (Region.ready md ops (listed.setIfInBounds i true)).isEmpty) = true)
    (h : ∀ K' : Act → World → Prop, Shut (∀ a w, Q .normal a w → K' a w) → if Region.wanted o (yielded ops a.tmps) = true then Oper.wp P o a w K' Q else K' (a.put o.dst undef) w) :
    wpAnyL P md ops Q S (fuel + 1) listed a w :=
  ⟨fun h0 => (by rw [hr] at h0; cases h0), fun j hj => by
    rw [hr] at hj
    obtain rfl : j = i := by simpa using hj
    rw [Bool.and_eq_true, List.isEmpty_iff] at hl
    exact wpOp_step ho (fun K' hK => h K' (fun a w hQ => hK a w ⟨(fun hf => by rw [hl.1] at hf; cases hf), wpAnyL_done hl.2 hQ _⟩))⟩
theorem wpIn_round_last {l n id : Nat} {a : Act} {w : World} (hm : P.follows .mixedOrders = true) (hd : noDefer ops = true) (hL : ¬ LetsOut Q) (hS : S w.drew)
    (h : S w.drew → wpAnyL P .any ops Q S ops.size (Array.replicate ops.size false) a w.drew) : (Code.region id ops true).wpIn (Fence.wide.inRound l) n P Q a w :=
  wpIn_region_draw fun t => by
    simp only [Region.schedule, hm, Bool.true_or, if_true]
    have hd' : ∀ (i : Nat) (o : Oper), ops[i]? = some o → ∀ c, o.op ≠ .defer c := fun i o ho c e => by
      have h1 := List.all_eq_true.1 hd o (Array.mem_toList_iff.2 (Array.mem_of_getElem? ho))
      rw [e] at h1; cases h1
    exact opsIn_of_ops hd' hL _ _ _ (wpAny_sound ops.size t _ a _ (wpAny_of_last _ _ _ _ (h hS)))
end
end Go.Proofs.Ytccibfldadflkaa

/- Least and greatest values at the points of a nest: the program's SubscriptRange (by w1.py). No statement is proved here. -/
namespace Go.Proofs.Ytccibfldadflkaa
open Go.RowKit
attribute [local go_sem] Oper.semAt_some

set_option maxHeartbeats 2000000 in
theorem at_W (a b c d k : Int) (s : Value) (ps : List Int) (w : World) (hs : IntsAt w s ps) (hv : affValidB [a, b, c, d] k = true) (hp : ptW ps) :
    Calls Try.prog 54 #[.agg #[.int .i64 a, .int .i64 b, .int .i64 c, .int .i64 d, .int .i64 k], s] w fun e w' => e = .returned (.int .i64 (evalK [a, b, c, d] ps k ps.length)) ∧ Ext w w' := by
  obtain ⟨_, _, _, _, e, ⟨la, ua⟩, ⟨lb, ub⟩, ⟨lc, uc⟩, ⟨ld, ud⟩, ⟨lk, uk⟩⟩ := valid_four hv
  simp only [List.cons.injEq, and_true] at e
  obtain ⟨rfl, rfl, rfl, rfl⟩ := e
  clear hv
  rcases ptW_cases hp with rfl | ⟨x0, rfl, h0⟩ | ⟨x0, x1, rfl, h0, h1⟩ | ⟨x0, x1, x2, rfl, h0, h1, h2⟩ | ⟨x0, x1, x2, x3, rfl, h0, h1, h2, h3⟩
  · obtain ⟨p, cp, rfl, -, -⟩ := hs
    clear hp
    go_enter Try.func54, Try.ntmps54
    go_wp2
    go_rounds 5
    go_ret
    exact ⟨ret_int (by simp [evalK]), (Ext.refl w).alloc _⟩
  · obtain ⟨bl, off, cap, rfl, hc, hbl⟩ := hs.cellsAt
    have c0 : w.cell? ⟨bl, off, none⟩ = some (.int .i64 x0) := hc 0 x0 rfl
    obtain ⟨m0, n0⟩ := mulw la ua h0.1 h0.2
    clear hs hc hp h0
    go_enter Try.func54, Try.ntmps54
    go_wp2
    go_rounds 5
    go_ret
    exact ⟨ret_int (by simp [evalK]), (Ext.refl w).alloc _⟩
  · obtain ⟨bl, off, cap, rfl, hc, hbl⟩ := hs.cellsAt
    have c0 : w.cell? ⟨bl, off, none⟩ = some (.int .i64 x0) := hc 0 x0 rfl
    have c1 := hc 1 x1 rfl
    obtain ⟨m0, n0⟩ := mulw la ua h0.1 h0.2
    obtain ⟨m1, n1⟩ := mulw lb ub h1.1 h1.2
    clear hs hc hp h0 h1
    go_enter Try.func54, Try.ntmps54
    go_wp2
    go_rounds 5
    go_ret
    exact ⟨ret_int (by simp [evalK]), (Ext.refl w).alloc _⟩
  · obtain ⟨bl, off, cap, rfl, hc, hbl⟩ := hs.cellsAt
    have c0 : w.cell? ⟨bl, off, none⟩ = some (.int .i64 x0) := hc 0 x0 rfl
    have c1 := hc 1 x1 rfl
    have c2 := hc 2 x2 rfl
    obtain ⟨m0, n0⟩ := mulw la ua h0.1 h0.2
    obtain ⟨m1, n1⟩ := mulw lb ub h1.1 h1.2
    obtain ⟨m2, n2⟩ := mulw lc uc h2.1 h2.2
    clear hs hc hp h0 h1 h2
    go_enter Try.func54, Try.ntmps54
    go_wp2
    go_rounds 5
    go_ret
    exact ⟨ret_int (by simp [evalK]), (Ext.refl w).alloc _⟩
  · obtain ⟨bl, off, cap, rfl, hc, hbl⟩ := hs.cellsAt
    have c0 : w.cell? ⟨bl, off, none⟩ = some (.int .i64 x0) := hc 0 x0 rfl
    have c1 := hc 1 x1 rfl
    have c2 := hc 2 x2 rfl
    have c3 := hc 3 x3 rfl
    obtain ⟨m0, n0⟩ := mulw la ua h0.1 h0.2
    obtain ⟨m1, n1⟩ := mulw lb ub h1.1 h1.2
    obtain ⟨m2, n2⟩ := mulw lc uc h2.1 h2.2
    obtain ⟨m3, n3⟩ := mulw ld ud h3.1 h3.2
    clear hs hc hp h0 h1 h2 h3
    go_enter Try.func54, Try.ntmps54
    go_wp2
    go_rounds 5
    go_ret
    exact ⟨ret_int (by simp [evalK]), (Ext.refl w).alloc _⟩

/-- The least number, the greatest one, whether there is any. -/
def extR : List Int → Int × Int × Bool
  | [] => (0, 0, false)
  | x :: l => (l.foldl min x, l.foldl max x, true)
theorem extR_next {s : List Int} (h : s ≠ []) (y : Int) : extR (s ++ [y]) = (min (extR s).1 y, max (extR s).2.1 y, true) := by
  cases s with
  | nil => exact absurd rfl h
  | cons x l => simp [extR, List.foldl_append]
theorem extR_some {s : List Int} : (extR s).2.2 = true ↔ s ≠ [] := by
  cases s <;> simp [extR]
def srL (a : Aff) (ls : List Lp) : List Int := (nptsL ls).map (fun p => evalA p a)
def srR (ls : List Lp) (a : Aff) : Int × Int × Bool := if boundB ls.length a = true then extR (srL a ls) else (0, 0, false)
theorem own_nextW {Z : Nat → Prop} {own own' : List Nat} {W W' : World} (h : ∀ b ∈ own, b < W.heap.size ∧ ¬ Z b) (hg : Grew own own' W W') (hZ : ∀ b, Z b → b < W.heap.size) : ∀ b ∈ own', b < W'.heap.size ∧ ¬ Z b := fun b hb => by
  obtain ⟨h1, h2⟩ := hg.2 b hb
  rcases h1 with h1 | h1
  · exact ⟨h2, (h b h1).2⟩
  · exact ⟨h2, fun hz => by have := hZ b hz; omega⟩
def encW (x : Int) : Array Value := #[.int .i64 x]

theorem over_call (a b c d k : Int) (v : Value) (w : World) (hv : ∃ p n dd, v = .slice p n dd) : Calls Try.prog 41 #[.agg #[.int .i64 a, .int .i64 b, .int .i64 c, .int .i64 d, .int .i64 k], v] w fun e w' =>
    e = .returned (.func (.func 72) #[] #[.pointer (some ⟨w.heap.size + 1, 0, none⟩), .pointer (some ⟨w.heap.size, 0, none⟩)]) ∧ w' = (w.alloc (.cells #[.int .i64 a, .int .i64 b, .int .i64 c, .int .i64 d, .int .i64 k] 79)).alloc (.cells #[v] 44) := by
  obtain ⟨p, n, dd, rfl⟩ := hv
  go_enter Try.func41, Try.ntmps41
  go_wp2
  go_ret
  exact ⟨rfl, rfl⟩

set_option linter.unusedVariables false in
set_option linter.unusedSimpArgs false in
set_option maxRecDepth 100000 in
set_option maxHeartbeats 4000000 in
theorem over_seqB (base m m' PB XB N dd B0 : Nat) (q : Option Addr) (own0 : List Nat) (xss : List (List Int)) (a b c d k : Int) (Z : Nat → Prop) (w : World) (hN : xss.length = N) (hN2 : N ≤ 1000) (hv : affValidB [a, b, c, d] k = true) (hpw : ∀ x ∈ xss, ptW x)
    (hD : PtsD own0 B0 w (.slice q N dd) xss) (hB : w.heap[PB]? = some (.cells #[.slice q N dd] 44 (0, 0))) (hX : w.heap[XB]? = some (.cells #[.int .i64 a, .int .i64 b, .int .i64 c, .int .i64 d, .int .i64 k] 79 (0, 0)))
    (hZ : ∀ b, Z b → b < w.heap.size) (hZP : Z PB) (hZX : Z XB) (hZD : ∀ b ∈ own0, Z b) :
    SeqB base Fence.wide m m' Try.prog 72 #[.pointer (some ⟨PB, 0, none⟩), .pointer (some ⟨XB, 0, none⟩)] encW (fun _ _ => True) (fun _ => True) (fun _ => False) Z (xss.map (fun p => evalA p ([a, b, c, d], k))) w := by
  intro l J Jx own W hvW hJ hJx hown hY h0
  have hBW := hvW.heap hB (fun h => h)
  have hXW := hvW.heap hX (fun h => h)
  have hDW := hD.lv (hvW.mono (fun _ _ h => h.elim))
  have hZW : ∀ b, Z b → b < W.heap.size := fun b h => Nat.lt_of_lt_of_le (hZ b h) hvW.size
  have HB := Lib.hid hBW; have HX := Lib.hid hXW; have HDW := Lib.hid hDW; have HY := Lib.hid hY; have HOWN := Lib.hid hown; have HZW := Lib.hid hZW; have H0 := Lib.hid h0; have HZP := Lib.hid hZP; have HZX := Lib.hid hZX; have HZD := Lib.hid hZD; have HN := Lib.hid hN; have HPW := Lib.hid hpw; have HV := Lib.hid hv; have HJB := Lib.hid hJ
  obtain ⟨b0, -⟩ := blk1 hBW
  clear hvW hB hX hD hBW hXW hDW hZ hZW hY hown h0 hJ hJx hZP hZX hZD hN hpw hv
  have hdd : ∀ k : Nat, (Fence.wide.depth.isSome = true → 1 ≤ k) := fun k h => by cases h
  show CallsIn Fence.wide m Try.prog 72 #[.func (.yield l) #[] #[], .pointer (some ⟨PB, 0, none⟩), .pointer (some ⟨XB, 0, none⟩)] W _
  refine callsIn_of_wp Try.func72 rfl trivial ?_ rfl
  simp only [Try.ntmps72, List.size_toArray, List.length_cons, List.length_nil, Nat.reduceAdd, Nat.reduceSub, Array.replicate_succ, Array.replicate_zero, List.push_toArray, List.append_toArray, List.nil_append, List.cons_append]
  gi_wp2_with (fail)
  gi_loopw [8] (fun iv wr => ∃ (i : Nat) (own1 : List Nat), i ≤ N ∧ iv = .int .i64 i ∧ J ((xss.map (fun p => evalA p ([a, b, c, d], k))).take i) own1 wr ∧ Grew own own1 W wr) (fun iv _ => N - (intOf iv).toNat)
  case atStart => exact ⟨0, own, by omega, rfl, H0.out, Grew.refl own W (fun b hb => (HOWN.out b hb).1)⟩
  case round =>
    obtain ⟨i, own1, hi, rfl, hj, hg⟩ := hrel
    by_cases hlt : i < N
    · obtain ⟨x, hx⟩ := get_some (xs := xss) (k := i) (by rw [HN.out]; exact hlt)
      have hget : (xss.map (fun p => evalA p ([a, b, c, d], k)))[i]? = some (evalK [a, b, c, d] x k x.length) := by rw [List.getElem?_map, hx]; rfl
      have HTK : Hid ((xss.map (fun p => evalA p ([a, b, c, d], k))).take (i + 1) = (xss.map (fun p => evalA p ([a, b, c, d], k))).take i ++ [evalK [a, b, c, d] x k x.length]) := Lib.hid (take_next hget)
      have hpre : ((xss.map (fun p => evalA p ([a, b, c, d], k))).take i ++ [evalK [a, b, c, d] x k x.length]) <+: xss.map (fun p => evalA p ([a, b, c, d], k)) := by rw [← HTK.out]; exact List.take_prefix _ _
      have y0 := (blk1 (hg.1.heap HB.out (fun h => (HOWN.out _ h).2 HZP.out))).1
      have HXR := Lib.hid (hg.1.heap HX.out (fun h => (HOWN.out _ h).2 HZX.out))
      obtain ⟨x0, x1, x2, x3, x4, -⟩ := blk5 HXR.out
      have hDr := HDW.out.lv (hg.1.mono (fun b _ h h' => (HOWN.out b h).2 (HZD.out b h')))
      obtain ⟨o, g, cg, rfl, cx, hix, hcx⟩ := hDr.get hx
      have HIX := Lib.hid hix; have HPX := Lib.hid (HPW.out x (List.mem_of_getElem? hx))
      have HJ := Lib.hid hj; have HG1 := Lib.hid hg; have HPRE := Lib.hid hpre
      have hkI : (i : Int) < (N : Int) := by omega
      clear hj hg hget hpre hDr hix hx b0
      gi_wp2_with (fail)
      refine ⟨trivial, hdd _, ?_⟩
      refine (callsIn_wide.2 (at_W a b c d k _ x _ HIX.out HV.out HPX.out)).mono ?_
      rintro e w1 ⟨rfl, hE1⟩
      have HLE : Hid (Lv (fun _ => False) wr w1) := Lib.hid hE1.lv
      have hg2 : Grew own own1 W w1 := HG1.out.trans (Grew.same hE1.lv (fun b hb => ((HG1.out).2 b hb).2))
      obtain ⟨fn, tmps, assign, body, hy, hR⟩ := HY.out _ _ own1 _ (HJB.out _ _ _ _ HJ.out (HLE.out.mono (fun _ _ h => h.elim))) HPRE.out trivial (own_nextW HOWN.out hg2 HZW.out)
      dsimp only [encW] at hy
      have HG2 := Lib.hid hg2
      clear y0 x0 x1 x2 x3 x4 cx hg2 hE1
      gi_wp2_with (fail)
      refine ⟨hdd _, ?_⟩
      refine (round_wide hR).mono ?_
      clear hR
      rintro e V2 ⟨own3, hg3, (⟨rfl, hj3⟩ | ⟨rfl, hj3⟩)⟩
      · have HJ3 := Lib.hid hj3; have HG3 := Lib.hid (HG2.out.trans hg3)
        clear hg3 hj3 hy
        gi_wp2
        go_roundw
        case rel => exact ⟨i + 1, own3, by omega, by go_num, by rw [HTK.out]; exact HJ3.out, HG3.out⟩
        case measure => simp [intOf] <;> omega
      · have HJ3 := Lib.hid hj3; have HG3 := Lib.hid (HG2.out.trans hg3)
        clear hg3 hj3 hy
        gi_wp2
        first
          | refine bodyPost_ret (results_none rfl _ _ _) rfl ?_
          | refine ⟨_, results_none rfl _ _ _, ?_⟩
        exact ⟨⟨_, rfl⟩, own3, HG3.out.2, HG3.out.1.mono (fun _ _ h => .inl h), trivial, .inr ⟨_, HPRE.out, HJ3.out⟩⟩
    · obtain rfl : i = N := by omega
      have HJ1 : Hid (J (xss.map (fun p => evalA p ([a, b, c, d], k))) own1 wr) := Lib.hid (by have h := hj; rwa [List.take_of_length_le (by rw [List.length_map, HN.out]; exact Nat.le_refl _)] at h)
      have HG1 := Lib.hid hg
      clear hj hg
      gi_wp2_with (fail)
      exact bodyPost_end (results_none rfl _ _ _) rfl ⟨⟨_, rfl⟩, own1, HG1.out.2, HG1.out.1.mono (fun _ _ h => .inl h), trivial, .inl HJ1.out⟩

/-- What the consumer of numbers holds: the least, the greatest, whether there is any. -/
def ExI (wb : World) (LB : Nat) (s : List Int) (own : List Nat) (X : World) : Prop :=
  own = [LB, LB + 1, LB + 2] ∧ Lv (fun b => b ∈ [LB, LB + 1, LB + 2]) wb X ∧ X.heap[LB]? = some (.cells #[.int .i64 (extR s).1] 3 (0, 0)) ∧ X.heap[LB + 1]? = some (.cells #[.int .i64 (extR s).2.1] 3 (0, 0)) ∧ X.heap[LB + 2]? = some (.cells #[.bool (extR s).2.2] 4 (0, 0))
theorem ExI.stable (wb : World) (LB : Nat) : StableB wb.heap.size (ExI wb LB) := by
  rintro s own X X' ⟨rfl, h1, h2, h4, h5⟩ hv
  exact ⟨rfl, h1.trans hv (fun _ _ h => h) (fun b hb h => by omega), hv.heap h2 (fun h => h.1 (by simp)), hv.heap h4 (fun h => h.1 (by simp)), hv.heap h5 (fun h => h.1 (by simp))⟩
theorem extR_none {s : List Int} (h : (extR s).2.2 = false) : s = [] := by
  cases s with
  | nil => rfl
  | cons x l => simp [extR] at h

set_option linter.unusedVariables false in
set_option linter.unusedSimpArgs false in
set_option maxRecDepth 100000 in
set_option maxHeartbeats 4000000 in
theorem extremes_any (gf : Nat) (lb : Array Value) (L : List Int) (w : World) (eg : ∀ args w, (callFunc gf args).run Try.prog w = .ok (.enter gf args) w)
    (hseq : ∀ (m m' : Nat) (Z : Nat → Prop) (wb : World), Ext w wb → (∀ b, Z b → b < wb.heap.size) → (∀ b, b < w.heap.size → Z b) → SeqB wb.heap.size Fence.wide m m' Try.prog gf lb encW (fun _ _ => True) (fun _ => True) (fun _ => False) Z L wb) :
    Calls Try.prog 40 #[.func (.func gf) #[] lb] w fun e w' => e = .returned (.tuple #[.int .i64 (extR L).1, .int .i64 (extR L).2.1, .bool (extR L).2.2]) ∧ Ext w w' := by
  obtain ⟨lo1, hlo1⟩ : ∃ z, (extR L).1 = z := ⟨_, rfl⟩
  obtain ⟨hi1, hhi1⟩ : ∃ z, (extR L).2.1 = z := ⟨_, rfl⟩
  obtain ⟨so1, hso1⟩ : ∃ z, (extR L).2.2 = z := ⟨_, rfl⟩
  rw [hlo1, hhi1, hso1]
  have HLO1 := Lib.hid hlo1; have HHI1 := Lib.hid hhi1; have HSO1 := Lib.hid hso1
  clear hlo1 hhi1 hso1
  refine (callsIn_wide (n := 6)).1 ?_
  refine callsIn_of_wp_marks Try.func40 rfl trivial ?_ rfl
  simp only [Try.ntmps40, List.size_toArray, List.length_cons, List.length_nil, Nat.reduceAdd, Nat.reduceSub, Array.replicate_succ, Array.replicate_zero, List.push_toArray, List.append_toArray, List.nil_append, List.cons_append]
  have hdd : ∀ j : Nat, (Fence.wide.depth.isSome = true → 1 ≤ j) := fun j h => by cases h
  obtain ⟨LB, hLB⟩ : ∃ g, w.heap.size = g := ⟨_, rfl⟩
  obtain ⟨wb, hwb⟩ : ∃ W, ((w.alloc (.cells #[.int .i64 0] 3)).alloc (.cells #[.int .i64 0] 3)).alloc (.cells #[.bool false] 4) = W := ⟨_, rfl⟩
  have hbs : wb.heap.size = LB + 3 := by rw [← hwb]; simp [hLB]
  have EB : Ext w wb := by rw [← hwb]; exact (((Ext.refl w).alloc _).alloc _).alloc _
  have K0 : wb.heap[LB]? = some (.cells #[.int .i64 0] 3 (0, 0)) := by rw [← hwb]; exact blk_old (blk_old (blk_at hLB.symm))
  have K1 : wb.heap[LB + 1]? = some (.cells #[.int .i64 0] 3 (0, 0)) := by rw [← hwb]; exact blk_old (blk_at (by simp [hLB]))
  have K2 : wb.heap[LB + 2]? = some (.cells #[.bool false] 4 (0, 0)) := by rw [← hwb]; exact blk_at (by simp [hLB])
  have HEB := Lib.hid EB; have HK0 := Lib.hid K0; have HK1 := Lib.hid K1; have HK2 := Lib.hid K2; have HLB := Lib.hid hLB; have HWB := Lib.hid hwb
  have HSQ := Lib.hid (hseq 5 4 (fun b => b < LB) wb EB (fun b h => by omega) (fun b h => by omega))
  clear EB K0 K1 K2 hLB hwb hseq
  gi_wp2_with (fail)
  try rw [HLB.out]
  try rw [show LB + 1 + 1 = LB + 2 by omega]
  try rw [HWB.out]
  refine wpIn_rangeFunc_base (w := wb) rfl (hdd _) (gf := gf) (lb := lb) rfl trivial eg
    wb.heap.size (Nat.le_refl _) HSQ.out
    (fun b h => by omega) (fun b h => h.elim) (fun x Wa Wb _ _ => trivial) (fun Wa Wb _ _ => trivial) (fun _ => rfl)
    (ExI wb LB) (fun cd s own X => False) (ExI.stable wb LB) (fun cd s o X X' h _ => h)
    [LB, LB + 1, LB + 2] (fun b hb => by simp at hb; omega) ⟨rfl, Lv.refl _ _, HK0.out, HK1.out, HK2.out⟩ ?a1 ?assign ?body ?done ?stop
  case assign =>
    intro l2 y X K hK
    dsimp only [encW]
    gi_wp2
    exact hK
  case body =>
    rintro l2 pre0 y ow X ⟨rfl, hLV, h0, h1, h2⟩ hpx hrx hob
    have HOB := Lib.hid hob; have HLV := Lib.hid hLV; have HH0 := Lib.hid h0; have HH1 := Lib.hid h1; have HH2 := Lib.hid h2
    obtain ⟨c0, f0⟩ := blk1 h0
    obtain ⟨c1, f1⟩ := blk1 h1
    obtain ⟨c2, f2⟩ := blk1 h2
    have hXl := hLV.size
    clear hLV h0 h1 h2 hob hpx hrx
    have HFIN : Hid (∀ (W5 : World), Lv (fun b => b ∈ [LB, LB + 1, LB + 2]) X W5 → W5.heap[LB]? = some (.cells #[.int .i64 (extR (pre0 ++ [y])).1] 3 (0, 0)) → W5.heap[LB + 1]? = some (.cells #[.int .i64 (extR (pre0 ++ [y])).2.1] 3 (0, 0)) → W5.heap[LB + 2]? = some (.cells #[.bool (extR (pre0 ++ [y])).2.2] 4 (0, 0)) →
        ∃ own', Grew [LB, LB + 1, LB + 2] own' X W5 ∧ ExI wb LB (pre0 ++ [y]) own' W5) := Lib.hid (fun W5 hl k0 k1 k2 =>
      ⟨_, Grew.same hl (fun b hb => (HOB.out b hb).1), rfl, HLV.out.trans hl (fun _ _ h => h) (fun _ _ h => h), k0, k1, k2⟩)
    obtain ⟨lo0, hlo⟩ : ∃ z, (extR pre0).1 = z := ⟨_, rfl⟩
    obtain ⟨hi0, hhi⟩ : ∃ z, (extR pre0).2.1 = z := ⟨_, rfl⟩
    obtain ⟨so, hso⟩ : ∃ z, (extR pre0).2.2 = z := ⟨_, rfl⟩
    rw [hlo] at c0 HH0
    rw [hhi] at c1 HH1
    rw [hso] at c2 HH2
    cases so with
    | true =>
      have hne : pre0 ≠ [] := extR_some.1 hso
      have HNX : Hid (extR (pre0 ++ [y]) = ((if y < lo0 then y else lo0), (if hi0 < y then y else hi0), true)) := Lib.hid (by rw [extR_next hne, hlo, hhi, show min lo0 y = (if y < lo0 then y else lo0) by omega, show max hi0 y = (if hi0 < y then y else hi0) by omega])
      clear hlo hhi hso hne
      gi_wp2_with (fail)
      refine wpIn_round_last (S := (fun W => W.cell? ⟨LB + 1, 0, none⟩ = some (.int .i64 hi0))) (by kernel_rfl) (by kernel_rfl) (fun ⟨_, _, h⟩ => h) (show X.drew.cell? ⟨LB + 1, 0, none⟩ = _ from c1) (fun hHeld => ?_)
      refine tkL (some 16) 1 ?vs1 rfl (by kernel_rfl) (by kernel_rfl) (fun _ _ _ h => h) (Or.inl ⟨by rfl, ?hys1⟩) (by assumption) ?rs1
      case hys1 => intro w hSw; (try dsimp only at hSw); go_simp; first | done | with_reducible rfl
      case' rs1 => try simp only [Act.put, List.setIfInBounds_toArray, List.set_cons_zero, List.set_cons_succ]
      refine tkL (some 18) 3 ?vs2 rfl (by kernel_rfl) (by kernel_rfl) (fun _ _ _ h => h) (Or.inl ⟨by rfl, ?hys2⟩) (by assumption) ?rs2
      case hys2 => intro w hSw; (try dsimp only at hSw); go_simp; first | done | with_reducible rfl
      case' rs2 => try simp only [Act.put, List.setIfInBounds_toArray, List.set_cons_zero, List.set_cons_succ]
      refine tkL (some 19) 4 ?vs3 rfl (by kernel_rfl) (by kernel_rfl) (fun _ _ _ h => h) (Or.inl ⟨by rfl, ?hys3⟩) (by assumption) ?rs3
      case hys3 => intro w hSw; (try dsimp only at hSw); go_simp; first | done | with_reducible rfl
      case' rs3 => try simp only [Act.put, List.setIfInBounds_toArray, List.set_cons_zero, List.set_cons_succ]
      refine tkL (some 20) 5 ?vs4 rfl (by kernel_rfl) (by kernel_rfl) (fun _ _ _ h => h) (Or.inl ⟨by rfl, ?hys4⟩) (by assumption) ?rs4
      case hys4 => intro w hSw; (try dsimp only at hSw); go_simp; first | done | with_reducible rfl
      case' rs4 => try simp only [Act.put, List.setIfInBounds_toArray, List.set_cons_zero, List.set_cons_succ]
      refine oneL (i := 0) rfl (by kernel_rfl) (fun K9 hK => ?_)
      go_simp
      refine hK.out _ _ c1 (fun hHs5 => ?_)
      clear hK K9
      try simp only [Act.put, List.setIfInBounds_toArray, List.set_cons_zero, List.set_cons_succ]
      refine tkL (some 17) 2 ?vs6 rfl (by kernel_rfl) (by kernel_rfl) (fun _ _ _ h => h) (Or.inl ⟨by rfl, ?hys6⟩) (by assumption) ?rs6
      case hys6 => intro w hSw; (try dsimp only at hSw); go_simp; first | done | with_reducible rfl
      case' rs6 => try simp only [Act.put, List.setIfInBounds_toArray, List.set_cons_zero, List.set_cons_succ]
      refine oneL (i := 6) rfl (by kernel_rfl) (fun K9 hK => ?_)
      go_simp
      refine hK.out _ _ ((cell_setAt _ (by simp)).trans c1) (fun hHs7 => ?_)
      clear hK K9
      try simp only [Act.put, List.setIfInBounds_toArray, List.set_cons_zero, List.set_cons_succ]
      refine lastL (i := 7) rfl (by kernel_rfl) (by kernel_rfl) (fun K9 hK => ?_)
      go_simp
      refine hK.out _ _ ?_
      clear hK K9
      try simp only [Act.put, List.setIfInBounds_toArray, List.set_cons_zero, List.set_cons_succ]
      have hl2 : Lv (fun b => b ∈ [LB, LB + 1, LB + 2]) X (((X.setCell ⟨LB, 0, none⟩ (.int .i64 (if y < lo0 then y else lo0))).setCell ⟨LB + 1, 0, none⟩ (.int .i64 (if hi0 < y then y else hi0))).drew) := ((lv_set X LB 0 _).trans (lv_set _ (LB + 1) 0 _) (E := fun b => b ∈ [LB, LB + 1, LB + 2]) (fun b _ e => by simp [e]) (fun b _ e => by simp [e])).trans (Lv.drew0 (fun _ => False) _) (fun _ _ e => e) (fun b _ e => e.elim)
      have k0 : (((X.setCell ⟨LB, 0, none⟩ (.int .i64 (if y < lo0 then y else lo0))).setCell ⟨LB + 1, 0, none⟩ (.int .i64 (if hi0 < y then y else hi0))).drew).heap[LB]? = some (.cells #[.int .i64 (if y < lo0 then y else lo0)] 3 (0, 0)) := blk_off (blk1_set HH0.out) (by omega) _
      have k1 : (((X.setCell ⟨LB, 0, none⟩ (.int .i64 (if y < lo0 then y else lo0))).setCell ⟨LB + 1, 0, none⟩ (.int .i64 (if hi0 < y then y else hi0))).drew).heap[LB + 1]? = some (.cells #[.int .i64 (if hi0 < y then y else hi0)] 3 (0, 0)) := blk1_set (blk_off HH1.out (by omega) _)
      have k2 : (((X.setCell ⟨LB, 0, none⟩ (.int .i64 (if y < lo0 then y else lo0))).setCell ⟨LB + 1, 0, none⟩ (.int .i64 (if hi0 < y then y else hi0))).drew).heap[LB + 2]? = some (.cells #[.bool true] 4 (0, 0)) := blk_off (blk_off HH2.out (by omega) _) (by omega) _
      exact HFIN.out _ hl2 (by rw [HNX.out]; exact k0) (by rw [HNX.out]; exact k1) (by rw [HNX.out]; exact k2)
    | false =>
      obtain rfl := extR_none hso
      have HNX : Hid (extR ([] ++ [y]) = (y, y, true)) := Lib.hid rfl
      clear hlo hhi hso
      gi_wp2_with (fail)
      obtain ⟨X1, hX1⟩ : ∃ X1, ((X.setCell ⟨LB, 0, none⟩ (.int .i64 y)).setCell ⟨LB + 1, 0, none⟩ (.int .i64 y)).setCell ⟨LB + 2, 0, none⟩ (.bool true) = X1 := ⟨_, rfl⟩
      have hl1 : Lv (fun b => b ∈ [LB, LB + 1, LB + 2]) X X1 := by rw [← hX1]; exact ((lv_set X LB 0 (.int .i64 y)).trans (lv_set _ (LB + 1) 0 (.int .i64 y)) (E := fun b => b ∈ [LB, LB + 1, LB + 2]) (fun b _ e => by simp [e]) (fun b _ e => by simp [e])).trans (lv_set _ (LB + 2) 0 (.bool true)) (fun _ _ e => e) (fun b _ e => by simp [e])
      have k0 : X1.heap[LB]? = some (.cells #[.int .i64 y] 3 (0, 0)) := by rw [← hX1]; exact blk_off (blk_off (blk1_set HH0.out) (by omega) _) (by omega) _
      have k1 : X1.heap[LB + 1]? = some (.cells #[.int .i64 y] 3 (0, 0)) := by rw [← hX1]; exact blk_off (blk1_set (blk_off HH1.out (by omega) _)) (by omega) _
      have k2 : X1.heap[LB + 2]? = some (.cells #[.bool true] 4 (0, 0)) := by rw [← hX1]; exact blk1_set (blk_off (blk_off HH2.out (by omega) _) (by omega) _)
      replace HH0 := Lib.hid k0; replace HH1 := Lib.hid k1; replace HH2 := Lib.hid k2; have HL1 := Lib.hid hl1
      clear c0 c1 c2 f0 f1 f2 k0 k1 k2 hl1
      try rw [hX1]
      clear hX1
      obtain ⟨c0, f0⟩ := blk1 HH0.out
      obtain ⟨c1, f1⟩ := blk1 HH1.out
      refine wpIn_round_last (S := (fun W => W.cell? ⟨LB + 1, 0, none⟩ = some (.int .i64 y))) (by kernel_rfl) (by kernel_rfl) (fun ⟨_, _, h⟩ => h) (show X1.drew.cell? ⟨LB + 1, 0, none⟩ = _ from c1) (fun hHeld => ?_)
      refine tkL (some 16) 1 ?vu1 rfl (by kernel_rfl) (by kernel_rfl) (fun _ _ _ h => h) (Or.inl ⟨by rfl, ?hyu1⟩) (by assumption) ?ru1
      case hyu1 => intro w hSw; (try dsimp only at hSw); go_simp; first | done | with_reducible rfl
      case' ru1 => try simp only [Act.put, List.setIfInBounds_toArray, List.set_cons_zero, List.set_cons_succ]
      refine tkL (some 18) 3 ?vu2 rfl (by kernel_rfl) (by kernel_rfl) (fun _ _ _ h => h) (Or.inl ⟨by rfl, ?hyu2⟩) (by assumption) ?ru2
      case hyu2 => intro w hSw; (try dsimp only at hSw); go_simp; first | done | with_reducible rfl
      case' ru2 => try simp only [Act.put, List.setIfInBounds_toArray, List.set_cons_zero, List.set_cons_succ]
      refine tkL (some 19) 4 ?vu3 rfl (by kernel_rfl) (by kernel_rfl) (fun _ _ _ h => h) (Or.inl ⟨by rfl, ?hyu3⟩) (by assumption) ?ru3
      case hyu3 => intro w hSw; (try dsimp only at hSw); go_simp; first | done | with_reducible rfl
      case' ru3 => try simp only [Act.put, List.setIfInBounds_toArray, List.set_cons_zero, List.set_cons_succ]
      refine tkL (some 20) 5 ?vu4 rfl (by kernel_rfl) (by kernel_rfl) (fun _ _ _ h => h) (Or.inl ⟨by rfl, ?hyu4⟩) (by assumption) ?ru4
      case hyu4 => intro w hSw; (try dsimp only at hSw); go_simp; first | done | with_reducible rfl
      case' ru4 => try simp only [Act.put, List.setIfInBounds_toArray, List.set_cons_zero, List.set_cons_succ]
      refine oneL (i := 0) rfl (by kernel_rfl) (fun K9 hK => ?_)
      go_simp
      refine hK.out _ _ c1 (fun hHu5 => ?_)
      clear hK K9
      try simp only [Act.put, List.setIfInBounds_toArray, List.set_cons_zero, List.set_cons_succ]
      refine tkL (some 17) 2 ?vu6 rfl (by kernel_rfl) (by kernel_rfl) (fun _ _ _ h => h) (Or.inl ⟨by rfl, ?hyu6⟩) (by assumption) ?ru6
      case hyu6 => intro w hSw; (try dsimp only at hSw); go_simp; first | done | with_reducible rfl
      case' ru6 => try simp only [Act.put, List.setIfInBounds_toArray, List.set_cons_zero, List.set_cons_succ]
      refine oneL (i := 6) rfl (by kernel_rfl) (fun K9 hK => ?_)
      go_simp
      refine hK.out _ _ ((cell_setAt _ (by simp)).trans c1) (fun hHu7 => ?_)
      clear hK K9
      try simp only [Act.put, List.setIfInBounds_toArray, List.set_cons_zero, List.set_cons_succ]
      refine lastL (i := 7) rfl (by kernel_rfl) (by kernel_rfl) (fun K9 hK => ?_)
      go_simp
      refine hK.out _ _ ?_
      clear hK K9
      try simp only [Act.put, List.setIfInBounds_toArray, List.set_cons_zero, List.set_cons_succ]
      have hl2 : Lv (fun b => b ∈ [LB, LB + 1, LB + 2]) X1 (((X1.setCell ⟨LB, 0, none⟩ (.int .i64 y)).setCell ⟨LB + 1, 0, none⟩ (.int .i64 y)).drew) := ((lv_set X1 LB 0 _).trans (lv_set _ (LB + 1) 0 _) (E := fun b => b ∈ [LB, LB + 1, LB + 2]) (fun b _ e => by simp [e]) (fun b _ e => by simp [e])).trans (Lv.drew0 (fun _ => False) _) (fun _ _ e => e) (fun b _ e => e.elim)
      have k0 : (((X1.setCell ⟨LB, 0, none⟩ (.int .i64 y)).setCell ⟨LB + 1, 0, none⟩ (.int .i64 y)).drew).heap[LB]? = some (.cells #[.int .i64 y] 3 (0, 0)) := blk_off (blk1_set HH0.out) (by omega) _
      have k1 : (((X1.setCell ⟨LB, 0, none⟩ (.int .i64 y)).setCell ⟨LB + 1, 0, none⟩ (.int .i64 y)).drew).heap[LB + 1]? = some (.cells #[.int .i64 y] 3 (0, 0)) := blk1_set (blk_off HH1.out (by omega) _)
      have k2 : (((X1.setCell ⟨LB, 0, none⟩ (.int .i64 y)).setCell ⟨LB + 1, 0, none⟩ (.int .i64 y)).drew).heap[LB + 2]? = some (.cells #[.bool true] 4 (0, 0)) := blk_off (blk_off HH2.out (by omega) _) (by omega) _
      exact HFIN.out _ (HL1.out.trans hl2 (fun _ _ e => e) (fun _ _ e => e)) (by rw [HNX.out]; exact k0) (by rw [HNX.out]; exact k1) (by rw [HNX.out]; exact k2)
  case done =>
    rintro E ow X hE6 hEn ⟨rfl, hLV, h0, h1, h2⟩ hob hv6 hz hdf
    rw [HLO1.out] at h0
    rw [HHI1.out] at h1
    rw [HSO1.out] at h2
    have EX := Lib.hid (hLV.ext0 HEB.out (fun b hb h => by have := HLB.out; simp at h; omega))
    have XE := Lib.hid hdf
    have HEE : Hid (LB + 3 ≤ E) := Lib.hid (by omega)
    obtain ⟨c0, -⟩ := blk1 h0
    obtain ⟨c1, -⟩ := blk1 h1
    obtain ⟨c2, -⟩ := blk1 h2
    clear hLV hob hv6 hz hdf hE6 hEn h0 h1 h2
    gi_wp2_with (fail)
    refine wpIn_wide.2 ?_
    go_region_held3 (fun W => W.cell? ⟨LB, 0, none⟩ = some (.int .i64 lo1) ∧ W.cell? ⟨LB + 1, 0, none⟩ = some (.int .i64 hi1) ∧ W.cell? ⟨LB + 2, 0, none⟩ = some (.bool so1)) (first | exact ⟨c0, c1, c2⟩ | fail) (fail)
    gi_wp2_with (fail)
    refine leaves_marks2 [E] _ (fun E' h => by simp at h; subst h; exact XE.out) (by simp) (fun W' hW' => ?_)
    exact ⟨.tuple #[.int .i64 lo1, .int .i64 hi1, .bool so1], by simp [results, Try.results40, go_sem], rfl, hW'.ext0 EX.out.drew (fun b hb h => by have := HEE.out; have := HLB.out; simp at h; omega)⟩
  case stop =>
    rintro E cd qq ow X hE6 hEn hq h hob hv6 hz hdf
    exact h.elim

theorem npts_W {ls : List Lp} : ∀ x ∈ nptsL ls, ptW x := by
  intro x hx
  cases h : nptsB ls with
  | false => simp [nptsL, h] at hx
  | true =>
    have h1 := ((nptsL_iff h x).1 hx).1
    have h2 := (nestB_iff.1 (nptsB_nest h)).1
    exact ptW_PB (npts_PB hx) (by omega)
set_option linter.unusedVariables false in
set_option maxRecDepth 100000 in
set_option maxHeartbeats 4000000 in
theorem SubscriptRange_any (p : Option Addr) (n cp : Nat) (ls : List Lp) (s : Value) (xs : List Int) (k : Int) (w : World) (hn : ls.length = n) (hs : LoopsAt w (.slice p n cp) ls) (ha : IntsAt w s xs) :
    Calls Try.prog 16 #[.slice p n cp, .agg #[s, .int .i64 k]] w fun e w' => e = .returned (.tuple #[.int .i64 (srR ls (xs, k)).1, .int .i64 (srR ls (xs, k)).2.1, .bool (srR ls (xs, k)).2.2]) ∧ Ext w w' := by
  have HS := Lib.hid hs; have HN := Lib.hid hn; have HA := Lib.hid ha
  obtain ⟨qa, ca, rfl, hma, -⟩ := ha
  obtain ⟨na, hna⟩ : ∃ m, xs.length = m := ⟨_, rfl⟩
  rw [hna] at HA hma ⊢
  have HNA := Lib.hid hna
  clear hs hn hna
  obtain ⟨g0, hg0⟩ : ∃ g, w.heap.size = g := ⟨_, rfl⟩
  obtain ⟨W1, hW1⟩ : ∃ W1, w.alloc (.cells #[.slice qa na ca, .int .i64 k] 36) = W1 := ⟨_, rfl⟩
  have E1 : Hid (Ext w W1) := Lib.hid (by rw [← hW1]; exact (Ext.refl w).alloc _)
  have B1 : Hid (W1.heap[g0]? = some (.cells #[.slice qa na ca, .int .i64 k] 36 (0, 0))) := Lib.hid (by rw [← hW1]; exact blk_at hg0.symm)
  have HG0 := Lib.hid hg0; have HW1 := Lib.hid hW1
  clear hg0 hW1
  go_enter Try.func16, Try.ntmps16
  go_wp2_with (fail)
  try rw [HG0.out]
  try rw [HW1.out]
  refine (NestPoints_any p n cp ls W1 HN.out (HS.out.ext E1.out)).mono ?_
  rintro e w2 ⟨⟨v2, own2, rfl, hp2, hob2⟩, hE⟩
  have E2 := Lib.hid (E1.out.trans hE); have B2 := Lib.hid (hE.blk B1.out)
  obtain ⟨q2, d2, rfl⟩ := hp2.form
  obtain ⟨np, hnp⟩ : ∃ m, (nptsL ls).length = m := ⟨_, rfl⟩
  rw [hnp] at hp2 ⊢
  have hnp9 : np ≤ 120 := by rw [← hnp]; exact nptsL_len
  have HP2 := Lib.hid hp2; have HOB2 := Lib.hid hob2; have HNP := Lib.hid hnp
  obtain ⟨nb, hnb⟩ : ∃ b, nptsB ls = b := ⟨_, rfl⟩
  rw [hnb]
  clear hE hp2 hob2 hnp hnb
  obtain ⟨a0, a1, -, -⟩ := blk2 B2.out
  go_wp2_with (fail)
  refine (linearWithin_any (.slice qa na ca) xs k (n : Int) w2 (HA.out.ext E2.out)).mono ?_
  obtain ⟨bb, hbb⟩ : ∃ b, boundB (n : Int) (xs, k) = b := ⟨_, rfl⟩
  rw [hbb]
  rintro e w3 ⟨⟨a, b, c, d, m, rfl, hv⟩, hE⟩
  have HV := Lib.hid hv; have HBB := Lib.hid hbb
  have hlv : Lv (fun _ => False) w2 w3 := hE.lv
  have HP3 := Lib.hid (HP2.out.lv (hlv.mono (fun _ _ h => h.elim)))
  have E3 := Lib.hid (E2.out.trans hE)
  have hs23 := hlv.size
  clear hE hv hbb hlv a0 a1
  cases bb with
  | false =>
    have HR : Hid (srR ls (xs, k) = (0, 0, false)) := Lib.hid (by unfold srR; rw [HN.out, HBB.out]; rfl)
    go_wp2
    rw [HR.out]
    exact bodyPost_ret (v := .tuple #[.int .i64 0, .int .i64 0, .bool false]) (by simp [results, Try.results16, go_sem]) rfl ⟨rfl, E3.out.alloc _⟩
  | true =>
    have haf : affValidB xs k = true := by have h := HBB.out; unfold boundB at h; simp only [Bool.and_eq_true] at h; exact h.1
    obtain ⟨hx4, rfl⟩ := HV.out haf
    have HR : Hid (srR ls (xs, m) = extR ((nptsL ls).map (fun p => evalA p ([a, b, c, d], m)))) := Lib.hid (by unfold srR srL; rw [HN.out, HBB.out, hx4]; rfl)
    rw [hx4] at haf
    have HAF := Lib.hid haf
    clear haf hx4 HV
    go_wp2_with (fail)
    obtain ⟨g3, hg3⟩ : ∃ g, w3.heap.size = g := ⟨_, rfl⟩
    obtain ⟨W4, hW4⟩ : ∃ W4, w3.alloc (.cells #[.int .i64 a, .int .i64 b, .int .i64 c, .int .i64 d, .int .i64 m] 79) = W4 := ⟨_, rfl⟩
    have E34 : Hid (Ext w3 W4) := Lib.hid (by rw [← hW4]; exact (Ext.refl w3).alloc _)
    have B4 : Hid (W4.heap[g3]? = some (.cells #[.int .i64 a, .int .i64 b, .int .i64 c, .int .i64 d, .int .i64 m] 79 (0, 0))) := Lib.hid (by rw [← hW4]; exact blk_at hg3.symm)
    try rw [hg3]
    try rw [hW4]
    clear hg3 hW4
    obtain ⟨x0, x1, x2, x3, x4, -⟩ := blk5 B4.out
    go_wp2_with (fail)
    refine (over_call a b c d m (.slice q2 np d2) W4 ⟨_, _, _, rfl⟩).mono ?_
    rintro e w5 ⟨rfl, hw5⟩
    obtain ⟨g4, hg4⟩ : ∃ g, W4.heap.size = g := ⟨_, rfl⟩
    rw [hg4]
    have E45 : Ext W4 w5 := by rw [hw5]; exact ((Ext.refl W4).alloc _).alloc _
    have X5 : w5.heap[g4]? = some (.cells #[.int .i64 a, .int .i64 b, .int .i64 c, .int .i64 d, .int .i64 m] 79 (0, 0)) := by rw [hw5]; exact blk_old (blk_at hg4.symm)
    have P5 : w5.heap[g4 + 1]? = some (.cells #[.slice q2 np d2] 44 (0, 0)) := by rw [hw5]; exact blk_at (by simp [hg4])
    have HX5 := Lib.hid X5; have HP5 := Lib.hid P5
    have hl35 : Lv (fun _ => False) w3 w5 := (E34.out.trans E45).lv
    have HD5 := Lib.hid (HP3.out.lv (hl35.mono (fun _ _ h => h.elim)))
    have E5 := Lib.hid (E3.out.trans (E34.out.trans E45))
    have hs35 := hl35.size
    have HO5 : Hid (∀ b ∈ own2, b < w5.heap.size) := Lib.hid (fun b hb => by have := (HOB2.out b hb).2; omega)
    clear hw5 hg4 E45 X5 P5 hl35 x0 x1 x2 x3 x4
    go_wp2_with (fail)
    refine (extremes_any 72 #[.pointer (some ⟨g4 + 1, 0, none⟩), .pointer (some ⟨g4, 0, none⟩)] ((nptsL ls).map (fun p => evalA p ([a, b, c, d], m))) w5 (enters_of Try.func72 (by kernel_rfl) rfl) (fun m1 m2 Z wb hEb hZ hZ2 =>
      over_seqB wb.heap.size m1 m2 (g4 + 1) g4 np d2 _ q2 own2 (nptsL ls) a b c d m Z wb HNP.out (by omega) HAF.out npts_W (HD5.out.lv hEb.lv) (hEb.blk HP5.out) (hEb.blk HX5.out) hZ
        (hZ2 _ (lt_of_block HP5.out)) (hZ2 _ (lt_of_block HX5.out)) (fun b hb => hZ2 b (HO5.out b hb)))).mono ?_
    rw [← HR.out]
    obtain ⟨r0, r1, r2, hr⟩ : ∃ r0 r1 r2, srR ls (xs, m) = (r0, r1, r2) := ⟨_, _, _, rfl⟩
    rw [hr]
    rintro e w6 ⟨rfl, hE⟩
    have E6 := Lib.hid (E5.out.trans hE); have HRR := Lib.hid hr
    clear hE hr
    go_wp2
    exact bodyPost_ret (v := .tuple #[.int .i64 r0, .int .i64 r1, .bool r2]) (by simp [results, Try.results16, go_sem]) rfl ⟨by rw [HRR.out], E6.out⟩
end Go.Proofs.Ytccibfldadflkaa

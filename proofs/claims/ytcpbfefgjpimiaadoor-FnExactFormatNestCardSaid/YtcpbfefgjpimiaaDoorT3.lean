/- The program's text of a linear expression. No statement is proved here. -/
import Derived.Test.YtcpbfefgjpimiaaDoorT2
import Derived.Test.YtcpbfefgjpimiaaDoorA5
import Derived.Test.YtcpbfefgjpimiaaDoorShelf
import Derived.Lib.AppendIntMem
import Derived.Sort.Grow
namespace Go.Proofs.YtcpbfefgjpimiaaDoor
open Go.RowKit

/-- The table that strconv reads. -/
def Tab (w : World) : Prop := Lib.TabIs Tryd.prog w "internal/strconv.uint64pow10" .u64 Lib.pow10Tab
theorem Tab.ext {w w' : World} (h : Tab w) (hE : Ext w w') : Tab w' := Lib.tabBelow_of_tabIs h w' hE
theorem ext_grow (w : World) (k : Nat) (os : Array Obj) : Ext w (Sort.grow (w.drewN k) os) := by
  have h1 : Ext w (w.drewN k) := (Ext.refl w).drewN k
  refine h1.trans ?_
  exact ⟨rfl, rfl, rfl, by simp, fun b hb => Sort.heap_grow_old _ _ hb⟩

set_option maxHeartbeats 400000 in
theorem digits_any (n : Int) (w : World) (hn : -99 ≤ n ∧ n ≤ 99) (ht : Tab w) :
    Calls Tryd.prog 63 #[.int .i64 n] w fun e w' => e = .returned (.string ⟨(dg n.natAbs).toArray⟩) ∧ Ext w w' := by
  have HD := Lib.hid (digits_eq hn); have HT := Lib.hid ht; clear ht
  go_enter Tryd.func63, Tryd.ntmps63
  go_wp2_with (fail)
  refine (Tryd.strconv_Itoa n (by omega) (by omega) _ HT.out).mono ?_
  rintro e w1 ⟨rfl, k, os, hw⟩
  have E1 : Hid (Ext w w1) := Lib.hid (by rw [hw]; exact ext_grow w k os)
  clear hw
  obtain ⟨l, hl⟩ : ∃ l, Lib.itoa n = l := ⟨_, rfl⟩
  rw [hl]
  have HL := Lib.hid hl; clear hl
  go_wp2_with (fail)
  refine (Tryd.strings_TrimPrefix _ _ _).mono ?_
  rintro e w2 ⟨rfl, rfl⟩
  have HR : Hid (Lib.trimPrefix l [45] = dg n.natAbs) := Lib.hid (by rw [← HL.out]; exact HD.out)
  go_wp2
  go_ret
  exact ⟨by rw [← HR.out]; rfl, E1.out⟩

/-- The builder of the call's own at block b holds the bytes l. -/
def Bd (B b : Nat) (l : List UInt8) (w : World) : Prop := Lib.IsBuilder 87 5 B b (Lib.byteCells l) w
theorem Bd.ext {B b : Nat} {l : List UInt8} {w w' : World} (h : Bd B b l w) (hE : Ext w w') : Bd B b l w' := by
  rcases h with ⟨hB, v, hb, ho, hn⟩ | ⟨hB, v, hb, ho, hn⟩
  · exact .inl ⟨hB, v, hE.blk hb, ownsRow_ext ho hE, hn⟩
  · exact .inr ⟨hB, v, hE.blk hb, ownsRow_ext ho hE, hn⟩
theorem Bd.lt {B b : Nat} {l : List UInt8} {w : World} (h : Bd B b l w) : B ≤ b ∧ b < w.heap.size := by
  rcases h with h | h
  · exact ⟨h.1, h.lt⟩
  · exact ⟨h.1, h.lt⟩

set_option maxHeartbeats 400000 in
theorem wByte (B b : Nat) (l : List UInt8) (c : UInt8) (ci : Int) (w : World) (hc : ci = c.toNat) (h : Bd B b l w) (hl : l.length ≤ 1000000) :
    Calls Tryd.prog 64 #[.pointer (some ⟨b, 0, none⟩), .int .u8 ci] w fun e w' => e = .returned .nilIface ∧ Bd B b (l ++ [c]) w' ∧ Below B w w' := by
  have hlt := h.lt
  refine (WriteByte_any B b _ ci w h (by rw [Lib.byteCells_length]; omega) (by omega)).mono ?_
  rintro e w' ⟨rfl, h1, h2⟩
  refine ⟨rfl, .inr ?_, h2⟩
  rw [Lib.byteCells_append]
  subst hc
  exact h1
theorem wString (B b : Nat) (l t : List UInt8) (w : World) (h : Bd B b l w) (hl : l.length ≤ 1000000) (htl : t.length ≤ 1000000) :
    Calls Tryd.prog 56 #[.pointer (some ⟨b, 0, none⟩), .string ⟨t.toArray⟩] w fun e w' => e = .returned (.tuple #[.int .i64 t.length, .nilIface]) ∧ Bd B b (l ++ t) w' ∧ Below B w w' := by
  have hlt := h.lt
  have hsz : (ByteArray.mk t.toArray).size = t.length := by simp [ByteArray.size]
  refine (WriteString_any B b _ ⟨t.toArray⟩ w h (by rw [Lib.byteCells_length, hsz]; omega) (by omega)).mono ?_
  rintro e w' ⟨rfl, h1, h2⟩
  refine ⟨by rw [hsz], .inr ?_, h2⟩
  rw [Lib.byteCells_append]
  have : Lib.strCells ⟨t.toArray⟩ = Lib.byteCells t := by rw [Lib.strCells_eq]
  rw [this] at h1
  exact h1
theorem bLen (B b : Nat) (l : List UInt8) (w : World) (h : Bd B b l w) :
    Calls Tryd.prog 65 #[.pointer (some ⟨b, 0, none⟩)] w fun e w' => e = .returned (.int .i64 (l.length : Int)) ∧ w = w' := by
  refine (Tryd.Builder_Len B b _ w h).mono ?_
  rintro e w' ⟨rfl, rfl⟩
  exact ⟨by rw [Lib.byteCells_length], rfl⟩

set_option maxHeartbeats 800000 in
theorem writeSign_any (B b : Nat) (l : List UInt8) (n : Int) (w : World) (h : Bd B b l w) (hl : l.length ≤ 1000000) :
    Calls Tryd.prog 62 #[.pointer (some ⟨b, 0, none⟩), .int .i64 n] w fun e w' => e = .returned (.tuple #[]) ∧ Bd B b (ws l n) w' ∧ Below B w w' := by
  have HB := Lib.hid h; clear h
  by_cases hn : n < 0
  · have hd : decide (n < 0) = true := by simpa using hn
    have HW : Hid (ws l n = l ++ [45]) := Lib.hid (by unfold ws; rw [if_pos hn])
    clear hn
    go_enter Tryd.func62, Tryd.ntmps62
    go_wp2_with (fail)
    refine (wByte B b l 45 45 _ (by decide) HB.out hl).mono ?_
    rintro e w1 ⟨rfl, h1, b1⟩
    have H1 := Lib.hid h1; have B1 := Lib.hid b1; clear h1 b1
    go_wp2
    go_end0
    exact ⟨rfl, by rw [HW.out]; exact H1.out, B1.out⟩
  · have hd : decide (n < 0) = false := by simpa using hn
    by_cases h0 : l.length = 0
    · have HW : Hid (ws l n = l) := Lib.hid (by unfold ws; rw [if_neg hn, if_pos h0])
      have hd2 : ¬ 0 < l.length := by omega
      clear hn h0
      go_enter Tryd.func62, Tryd.ntmps62
      go_wp2_with (fail)
      refine (bLen B b l _ HB.out).mono ?_
      rintro e w1 ⟨rfl, rfl⟩
      go_wp2
      go_end0
      exact ⟨rfl, by rw [HW.out]; exact HB.out, Below.refl B w⟩
    · have HW : Hid (ws l n = l ++ [43]) := Lib.hid (by unfold ws; rw [if_neg hn, if_neg h0])
      have hd2 : 0 < l.length := by omega
      clear hn h0
      go_enter Tryd.func62, Tryd.ntmps62
      go_wp2_with (fail)
      refine (bLen B b l _ HB.out).mono ?_
      rintro e w1 ⟨rfl, rfl⟩
      go_wp2_with (fail)
      refine (wByte B b l 43 43 _ (by decide) HB.out hl).mono ?_
      rintro e w1 ⟨rfl, h1, b1⟩
      have H1 := Lib.hid h1; have B1 := Lib.hid b1; clear h1 b1
      go_wp2
      go_end0
      exact ⟨rfl, by rw [HW.out]; exact H1.out, B1.out⟩

theorem idx4_k (a0 a1 a2 a3 x : Int) (k : Nat) (h : [a0, a1, a2, a3][k]? = some x) (w : World) : (Instr.index 54 (.agg #[.int .i64 a0, .int .i64 a1, .int .i64 a2, .int .i64 a3]) (.int .i64 (k : Int))).run Tryd.prog w = .ok (.int .i64 x) w := by
  match k, h with
  | 0, h => simp at h; subst h; exact idx4_0 _ _ _ _ w
  | 1, h => simp at h; subst h; exact idx4_1 _ _ _ _ w
  | 2, h => simp at h; subst h; exact idx4_2 _ _ _ _ w
  | 3, h => simp at h; subst h; exact idx4_3 _ _ _ _ w
theorem idxName0 (w : World) : (Instr.index 9 (.string ⟨#[105, 106, 107, 108]⟩) (.int .i64 0)).run Tryd.prog w = .ok (.int .u8 105) w := by kernel_rfl
theorem idxName1 (w : World) : (Instr.index 9 (.string ⟨#[105, 106, 107, 108]⟩) (.int .i64 1)).run Tryd.prog w = .ok (.int .u8 106) w := by kernel_rfl
theorem idxName2 (w : World) : (Instr.index 9 (.string ⟨#[105, 106, 107, 108]⟩) (.int .i64 2)).run Tryd.prog w = .ok (.int .u8 107) w := by kernel_rfl
theorem idxName3 (w : World) : (Instr.index 9 (.string ⟨#[105, 106, 107, 108]⟩) (.int .i64 3)).run Tryd.prog w = .ok (.int .u8 108) w := by kernel_rfl
theorem idxName (k : Nat) (h : k < 4) (w : World) : (Instr.index 9 (.string ⟨#[105, 106, 107, 108]⟩) (.int .i64 (k : Int))).run Tryd.prog w = .ok (.int .u8 (105 + k)) w := by
  match k, h with
  | 0, _ => exact idxName0 w
  | 1, _ => exact idxName1 w
  | 2, _ => exact idxName2 w
  | 3, _ => exact idxName3 w
theorem name_byte (k : Nat) (h : k < 4) : (105 + k : Int) = ((UInt8.ofNat (105 + k)).toNat : Int) := by
  match k, h with
  | 0, _ => rfl
  | 1, _ => rfl
  | 2, _ => rfl
  | 3, _ => rfl

set_option maxRecDepth 100000 in
set_option maxHeartbeats 4000000 in
theorem text_any (a0 a1 a2 a3 k : Int) (w : World) (hv : affValidB [a0, a1, a2, a3] k = true) (ht : Tab w) :
    Calls Tryd.prog 31 #[.agg #[.int .i64 a0, .int .i64 a1, .int .i64 a2, .int .i64 a3, .int .i64 k]] w fun e w' => e = .returned (.string ⟨(txt [a0, a1, a2, a3] k).toArray⟩) ∧ Ext w w' := by
  obtain ⟨b0, b1, b2, b3, he, h0, h1, h2, h3, hk⟩ := valid_four hv
  simp only [List.cons.injEq, and_true] at he
  obtain ⟨rfl, rfl, rfl, rfl⟩ := he
  have HT := Lib.hid ht; clear ht hv
  have HXB : Hid (∀ (j : Nat) (x : Int), [a0, a1, a2, a3][j]? = some x → -9 ≤ x ∧ x ≤ 9) := Lib.hid (fun j x h => by
    match j, h with
    | 0, h => simp at h; subst h; exact h0
    | 1, h => simp at h; subst h; exact h1
    | 2, h => simp at h; subst h; exact h2
    | 3, h => simp at h; subst h; exact h3)
  clear h0 h1 h2 h3
  go_enter Tryd.func31, Tryd.ntmps31
  go_wp2
  obtain ⟨W0, hW0⟩ : ∃ W0, ((w.alloc (.cells #[.int .i64 a0, .int .i64 a1, .int .i64 a2, .int .i64 a3, .int .i64 k] 56)).alloc (.cells #[.pointer none, .slice none 0 0] 87)) = W0 := ⟨_, rfl⟩
  have E0 : Hid (Ext w W0) := Lib.hid (by rw [← hW0]; exact ((Ext.refl w).alloc _).alloc _)
  have B0 : Hid (W0.heap[w.heap.size]? = some (.cells #[.int .i64 a0, .int .i64 a1, .int .i64 a2, .int .i64 a3, .int .i64 k] 56 (0, 0))) := Lib.hid (by rw [← hW0]; exact blk_old (blk_at rfl))
  have D0 : Hid (Bd (w.heap.size + 1) (w.heap.size + 1) [] W0) := Lib.hid (by
    rw [← hW0]
    have := Lib.fresh_isBuilder 87 5 (w.alloc (.cells #[.int .i64 a0, .int .i64 a1, .int .i64 a2, .int .i64 a3, .int .i64 k] 56))
    rw [World.size_alloc] at this
    exact this)
  rw [hW0]
  clear hW0
  go_loopw [8] (fun i wr => ∃ j : Nat, j ≤ 4 ∧ i = .int .i64 j ∧ Bd (w.heap.size + 1) (w.heap.size + 1) (strip (rawC 0 ([a0, a1, a2, a3].take j))) wr ∧ Below (w.heap.size + 1) W0 wr) (fun i _ => 4 - (intOf i).toNat)
  case atStart => exact ⟨0, by omega, rfl, by simpa [rawC, strip] using D0.out, Below.refl _ _⟩
  case round =>
    obtain ⟨j, hj, rfl, hbd, hbel⟩ := hrel
    have HBD := Lib.hid hbd; have HBE := Lib.hid hbel
    have EW : Hid (Ext w wr) := Lib.hid (Below.trans E0.out (Below.mono hbel (by omega)))
    have hrl := rawC_len 0 ([a0, a1, a2, a3].take j)
    have hsl := strip_len (rawC 0 ([a0, a1, a2, a3].take j))
    have htl : ([a0, a1, a2, a3].take j).length ≤ 4 := by rw [List.length_take]; simp; omega
    have HSG := Lib.hid (rawC_sg 0 ([a0, a1, a2, a3].take j))
    obtain ⟨R, hR⟩ : ∃ R, rawC 0 ([a0, a1, a2, a3].take j) = R := ⟨_, rfl⟩
    rw [hR] at hrl hsl
    have hR20 : (strip R).length ≤ 20 := by omega
    have HR := Lib.hid hR
    clear hbd hbel hrl hsl htl hR
    by_cases hlt : j < 4
    · obtain ⟨x, hx⟩ := get_some (xs := [a0, a1, a2, a3]) (k := j) (by simpa using hlt)
      have hidx := idx4_k a0 a1 a2 a3 x j hx
      have hxb := HXB.out j x hx
      have HX := Lib.hid hx; clear hx
      by_cases hx0 : x = 0
      · have hz : (x == 0) = true := by simp [hx0]
        have HN : Hid (strip (rawC 0 ([a0, a1, a2, a3].take (j + 1))) = strip R) := Lib.hid (by rw [rawC_take HX.out, if_pos hx0, List.append_nil, HR.out])
        have HBD2 : Hid (Bd (w.heap.size + 1) (w.heap.size + 1) (strip (rawC 0 ([a0, a1, a2, a3].take (j + 1)))) wr) := Lib.hid (by rw [HN.out, ← HR.out]; exact HBD.out)
        clear hx0
        go_wp2
        go_roundw
        case rel => exact ⟨j + 1, by omega, by go_num, HBD2.out, HBE.out⟩
        case measure => simp [intOf]; omega
      · have hz : (x == 0) = false := by simp [hx0]
        have hstr := idxName j hlt
        have HN : Hid (∀ r, tm j x = sgn x :: r → strip (rawC 0 ([a0, a1, a2, a3].take (j + 1))) = ws (strip R) x ++ r) := Lib.hid (fun r hr => by
          rw [rawC_take HX.out, if_neg hx0, ← HR.out]; exact strip_app HSG.out hr)
        have hwl := ws_len (strip R) x
        clear hx0
        go_wp2_with (fail)
        refine (writeSign_any _ _ (strip R) x wr (by rw [← HR.out]; exact HBD.out) (by omega)).mono ?_
        rintro e w1 ⟨rfl, hb1, be1⟩
        have D1 := Lib.hid hb1; have F1 := Lib.hid (Below.trans HBE.out be1); have EW1 : Hid (Ext w w1) := Lib.hid (Below.trans EW.out (Below.mono be1 (by omega)))
        clear hb1 be1
        obtain ⟨l1, hl1⟩ : ∃ l1, ws (strip R) x = l1 := ⟨_, rfl⟩
        rw [hl1] at hwl
        have HL1 := Lib.hid hl1; clear hl1
        have D1' : Hid (Bd (w.heap.size + 1) (w.heap.size + 1) l1 w1) := Lib.hid (by rw [← HL1.out]; exact D1.out)
        clear D1
        by_cases h1 : x.natAbs = 1
        · have HF : Hid (strip (rawC 0 ([a0, a1, a2, a3].take (j + 1))) = l1 ++ [UInt8.ofNat (105 + j)]) := Lib.hid (by
            rw [HN.out [UInt8.ofNat (105 + j)] (by simp [tm, h1]), HL1.out])
          have hq : (x != 1) = false ∨ ((x != 1) = true ∧ (x != -1) = false) := by simp; omega
          clear h1 HN
          rcases hq with q1 | ⟨q1, q2⟩
          all_goals
            go_wp2_with (fail)
            refine (wByte _ _ l1 (UInt8.ofNat (105 + j)) _ w1 (name_byte j hlt) D1'.out (by omega)).mono ?_
            rintro e w2 ⟨rfl, hb2, be2⟩
            have D2 : Hid (Bd (w.heap.size + 1) (w.heap.size + 1) (strip (rawC 0 ([a0, a1, a2, a3].take (j + 1)))) w2) := Lib.hid (by rw [HF.out]; exact hb2)
            have F2 := Lib.hid (Below.trans F1.out be2)
            clear hb2 be2
            go_wp2
            go_roundw
            case rel => exact ⟨j + 1, by omega, by go_num, D2.out, F2.out⟩
            case measure => simp [intOf]; omega
        · have HF : Hid (strip (rawC 0 ([a0, a1, a2, a3].take (j + 1))) = l1 ++ dg x.natAbs ++ [42] ++ [UInt8.ofNat (105 + j)]) := Lib.hid (by
            rw [HN.out (dg x.natAbs ++ [42] ++ [UInt8.ofNat (105 + j)]) (by simp [tm, h1]), HL1.out]; simp)
          have q1 : (x != 1) = true := by simp; omega
          have q2 : (x != -1) = true := by simp; omega
          have hdl := dg_len x.natAbs
          clear h1 HN
          go_wp2_with (fail)
          refine (digits_any x w1 (by omega) (HT.out.ext EW1.out)).mono ?_
          rintro e w2 ⟨rfl, hE2⟩
          have D2 := Lib.hid (D1'.out.ext hE2)
          have hs1 := EW1.out.size_le
          have hbl := D1'.out.lt
          have F2 : Hid (Below (w.heap.size + 1) W0 w2) := Lib.hid (Below.trans F1.out (Below.mono hE2 (by omega)))
          clear hE2
          obtain ⟨t, ht⟩ : ∃ t, dg x.natAbs = t := ⟨_, rfl⟩
          rw [ht] at hdl ⊢
          have HTT := Lib.hid ht; clear ht
          go_wp2_with (fail)
          refine (wString _ _ l1 t w2 D2.out (by omega) (by omega)).mono ?_
          rintro e w3 ⟨rfl, hb3, be3⟩
          have D3 := Lib.hid hb3; have F3 := Lib.hid (Below.trans F2.out be3)
          clear hb3 be3
          go_wp2_with (fail)
          refine (wByte _ _ (l1 ++ t) 42 42 w3 (by decide) D3.out (by rw [List.length_append]; omega)).mono ?_
          rintro e w4 ⟨rfl, hb4, be4⟩
          have D4 := Lib.hid hb4; have F4 := Lib.hid (Below.trans F3.out be4)
          clear hb4 be4
          go_wp2_with (fail)
          refine (wByte _ _ (l1 ++ t ++ [42]) (UInt8.ofNat (105 + j)) _ w4 (name_byte j hlt) D4.out (by simp only [List.length_append, List.length_cons, List.length_nil]; omega)).mono ?_
          rintro e w5 ⟨rfl, hb5, be5⟩
          have D5 : Hid (Bd (w.heap.size + 1) (w.heap.size + 1) (strip (rawC 0 ([a0, a1, a2, a3].take (j + 1)))) w5) := Lib.hid (by rw [HF.out, HTT.out]; exact hb5)
          have F5 := Lib.hid (Below.trans F4.out be5)
          clear hb5 be5
          go_wp2
          go_roundw
          case rel => exact ⟨j + 1, by omega, by go_num, D5.out, F5.out⟩
          case measure => simp [intOf]; omega
    · obtain rfl : j = 4 := by omega
      have htk : [a0, a1, a2, a3].take 4 = [a0, a1, a2, a3] := rfl
      have HRX : Hid (rawC 0 [a0, a1, a2, a3] = R) := Lib.hid (by rw [← htk]; exact HR.out)
      have HBR : Hid (Bd (w.heap.size + 1) (w.heap.size + 1) (strip R) wr) := Lib.hid (by rw [← HR.out]; exact HBD.out)
      have HSR : Hid (Sg R) := Lib.hid (by rw [← HR.out]; exact HSG.out)
      have BX := Lib.hid ((HBE.out.block w.heap.size (by omega)).trans B0.out)
      obtain ⟨-, -, -, -, c4, -⟩ := blk5 BX.out
      have hbl := HBR.out.lt
      clear htk HSG HBD HXB hj hlt
      by_cases hk0 : k = 0
      · subst hk0
        have HRAW : Hid (raw [a0, a1, a2, a3] 0 = R) := Lib.hid (by unfold raw; rw [if_pos rfl, List.append_nil]; exact HRX.out)
        by_cases hn : R = []
        · have HX : Hid (txt [a0, a1, a2, a3] 0 = [48]) := Lib.hid (by unfold txt; rw [HRAW.out, if_pos hn])
          have hl0 : (strip R).length = 0 := (strip_nil HSR.out).2 hn
          have HL0 := Lib.hid hl0
          clear hn hR20 hl0
          go_wp2_with (fail)
          refine (bLen _ _ (strip R) wr HBR.out).mono ?_
          rw [HL0.out]
          rintro e w1 ⟨rfl, rfl⟩
          go_wp2
          go_ret
          exact ⟨by rw [HX.out]; rfl, EW.out⟩
        · have HX : Hid (txt [a0, a1, a2, a3] 0 = strip R) := Lib.hid (by unfold txt; rw [HRAW.out, if_neg hn])
          have hl0 : ¬ (strip R).length = 0 := fun h => hn ((strip_nil HSR.out).1 h)
          obtain ⟨n, hnl⟩ : ∃ n, (strip R).length = n := ⟨_, rfl⟩
          have hnb : ((n : Int) == 0) = false := beq_eq_false_iff_ne.2 (by omega)
          have HNL := Lib.hid hnl
          clear hn hl0 hnl
          go_wp2_with (fail)
          refine (bLen _ _ (strip R) wr HBR.out).mono ?_
          rw [HNL.out]
          rintro e w1 ⟨rfl, rfl⟩
          go_wp2_with (fail)
          refine (Tryd.Builder_String_any _ _ (strip R) _ HBR.out (by omega)).mono ?_
          rintro e w2 ⟨rfl, hb⟩
          have E2 : Hid (Ext w w2) := Lib.hid (Below.trans EW.out (Below.mono hb (by omega)))
          clear hb
          go_wp2
          go_ret
          exact ⟨by rw [HX.out]; rfl, E2.out⟩
      · have hkb : (k != 0) = true := by simp [hk0]
        have HRAW : Hid (raw [a0, a1, a2, a3] k = R ++ tc k) := Lib.hid (by unfold raw; rw [if_neg hk0, HRX.out])
        have HST : Hid (strip (R ++ tc k) = ws (strip R) k ++ dg k.natAbs) := Lib.hid (strip_app HSR.out rfl)
        have hne : R ++ tc k ≠ [] := by simp [tc]
        have HX : Hid (txt [a0, a1, a2, a3] k = ws (strip R) k ++ dg k.natAbs) := Lib.hid (by unfold txt; rw [HRAW.out, if_neg hne, HST.out])
        have hwl := ws_len (strip R) k
        have hdl := dg_len k.natAbs
        clear hk0 hne
        go_wp2_with (fail)
        refine (writeSign_any _ _ (strip R) k wr HBR.out (by omega)).mono ?_
        rintro e w1 ⟨rfl, hb1, be1⟩
        obtain ⟨l1, hl1⟩ : ∃ l1, ws (strip R) k = l1 := ⟨_, rfl⟩
        rw [hl1] at hwl hb1
        have D1 := Lib.hid hb1; have EW1 : Hid (Ext w w1) := Lib.hid (Below.trans EW.out (Below.mono be1 (by omega)))
        have BX1 := Lib.hid ((be1.block w.heap.size (by omega)).trans BX.out)
        have HL1 := Lib.hid hl1
        clear hb1 be1 hl1 c4
        obtain ⟨-, -, -, -, c4, -⟩ := blk5 BX1.out
        go_wp2_with (fail)
        refine (digits_any k w1 hk (HT.out.ext EW1.out)).mono ?_
        rintro e w2 ⟨rfl, hE2⟩
        obtain ⟨t, ht⟩ : ∃ t, dg k.natAbs = t := ⟨_, rfl⟩
        rw [ht] at hdl ⊢
        have HTT := Lib.hid ht
        have D2 := Lib.hid (D1.out.ext hE2)
        have EW2 : Hid (Ext w w2) := Lib.hid (EW1.out.trans hE2)
        have hbl2 := D2.out.lt
        clear hE2 ht c4
        go_wp2_with (fail)
        refine (wString _ _ l1 t w2 D2.out (by omega) (by omega)).mono ?_
        rintro e w3 ⟨rfl, hb3, be3⟩
        have D3 := Lib.hid hb3; have EW3 : Hid (Ext w w3) := Lib.hid (Below.trans EW2.out (Below.mono be3 (by omega)))
        clear hb3 be3
        have hnl : 0 < (l1 ++ t).length := by rw [List.length_append]; omega
        obtain ⟨m, hm⟩ : ∃ m, l1 ++ t = m := ⟨_, rfl⟩
        have HM := Lib.hid hm
        have D3' : Hid (Bd (w.heap.size + 1) (w.heap.size + 1) m w3) := Lib.hid (by rw [← hm]; exact D3.out)
        rw [hm] at hnl
        have hnb : ((m.length : Int) == 0) = false := beq_eq_false_iff_ne.2 (by omega)
        have hbl3 := D3'.out.lt
        clear hm D3
        go_wp2_with (fail)
        refine (bLen _ _ m w3 D3'.out).mono ?_
        rintro e w4 ⟨rfl, rfl⟩
        go_wp2_with (fail)
        refine (Tryd.Builder_String_any _ _ m _ D3'.out (by omega)).mono ?_
        rintro e w5 ⟨rfl, hb⟩
        have E5 : Hid (Ext w w5) := Lib.hid (Below.trans EW3.out (Below.mono hb (by omega)))
        clear hb
        have HFX : Hid (txt [a0, a1, a2, a3] k = m) := Lib.hid (by rw [HX.out, HL1.out, HTT.out, HM.out])
        go_wp2
        go_ret
        exact ⟨by rw [HFX.out]; rfl, E5.out⟩
end Go.Proofs.YtcpbfefgjpimiaaDoor

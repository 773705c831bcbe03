/- The text of a side of a loop: the program's. No statement is proved here. -/
import Derived.Test.YtcpbfefgjpimiaaDoorT10
import Derived.Test.YtcpbfefgjpimiaaDoorD4
import Derived.Test.YtcpbfefgjpimiaaDoorShelf
namespace Go.Proofs.YtcpbfefgjpimiaaDoor
open Go.RowKit

theorem infoStr : (Tryd.prog.info? 9).map (fun i => (i.zero, i.size, i.bytes)) = some (some (.string ⟨#[]⟩), 1, 16) := by kernel_rfl
def tv (a : Aff) : Value := .string ⟨(txt a.1 a.2).toArray⟩
theorem join_sj : ∀ (l : List (List UInt8)), Lib.join l [44] = sj l := by
  intro l
  unfold Lib.join
  match l with
  | [] => simp [sj]
  | [a] => simp [sj]
  | a :: b :: l =>
    have : ∀ (b : List UInt8) (l : List (List UInt8)), [44].intercalate (b :: l) = b ++ l.flatMap (fun u => 44 :: u) := by
      intro b l
      induction l generalizing b with
      | nil => simp
      | cons c l ih =>
        have h := ih c
        simp only [List.flatMap_cons]
        rw [show [44].intercalate (b :: c :: l) = b ++ [44] ++ [44].intercalate (c :: l) from by simp [List.intercalate, List.intersperse]]
        rw [h]
        simp
    exact this a (b :: l)

set_option maxRecDepth 100000 in
set_option maxHeartbeats 1000000 in
theorem formatBounds_any (v : Value) (zs : List Aff) (w : World) (hs : AffsAt w v zs) (hn1 : 1 ≤ zs.length) (hn : zs.length ≤ 100) (hv : ∀ a ∈ zs, affValidB a.1 a.2 = true) (ht : Tab w) :
    Calls Tryd.prog 75 #[v] w fun e w' => e = .returned (.string ⟨(sideT zs).toArray⟩) ∧ Ext w w' := by
  obtain ⟨i0, hi, hz0, hz1, hz2⟩ := info_parts infoStr
  obtain ⟨p, c, rfl, hm⟩ := hs.form
  obtain ⟨n, hxn⟩ : ∃ n, zs.length = n := ⟨_, rfl⟩
  rw [hxn] at hs hn hn1 hm ⊢
  have HS := Lib.hid hs; have HV := Lib.hid hv; have HN := Lib.hid hxn; have HT := Lib.hid ht; clear hs hv hxn ht
  go_enter Tryd.func75, Tryd.ntmps75
  go_wp2
  go_loopw [3, 8] (fun o i wr => ∃ j : Nat, j ≤ n ∧ i = .int .i64 j ∧ wr.ownsRow w.heap.size 9 1 o j ((zs.take j).map tv) ∧ (j ≠ 0 → o ≠ .slice none 0 0) ∧ Ext w wr) (fun _ i _ => n - (intOf i).toNat)
  case atStart => exact ⟨0, by omega, rfl, World.ownsRow_nil _ _ _ _, by simp, Ext.refl _⟩
  case round =>
    obtain ⟨j, hj, rfl, hown, hne, hE⟩ := hrel
    have HE := Lib.hid hE
    have HNE := Lib.hid hne; clear hne
    by_cases hlt : j < n
    · obtain ⟨a, ha⟩ := get_some (xs := zs) (k := j) (by rw [HN.out]; exact hlt)
      have hva := HV.out a (List.mem_of_getElem? ha)
      obtain ⟨b, off, q, m, rfl, c0, c1, hb, hr⟩ := (HS.out.ext hE).elem ha
      obtain ⟨x1, x2⟩ := a
      dsimp only at *
      obtain ⟨T, hT⟩ : ∃ T, txt x1 x2 = T := ⟨_, rfl⟩
      have HF : Hid (fmtA x1 x2 = T) := Lib.hid (by rw [← hT]; simp [fmtA, hva])
      have HM : Hid ((zs.take (j + 1)).map tv = (zs.take j).map tv ++ [.string ⟨T.toArray⟩]) := Lib.hid (by rw [take_next ha, List.map_append, ← hT]; rfl)
      have HO := Lib.hid hown; have HR := Lib.hid hr
      clear hown hr hE ha hva hT
      go_wp2_with (fail)
      refine (FormatAffine_any _ x1 x2 _ (HR.out.ext ((Ext.refl wr).alloc _)) (HT.out.ext (HE.out.alloc _))).mono ?_
      rw [HF.out]
      rintro e w3 ⟨rfl, hE3⟩
      have hE4 : Ext wr w3 := ((Ext.refl wr).alloc _).trans hE3
      have hown3 := ownsRow_ext HO.out hE4
      have HE3 := Lib.hid (HE.out.trans hE4)
      have hbs : w.heap.size ≤ w3.heap.size := HE3.out.size_le
      clear hE3 hE4
      go_wp2_with (at_builtin; refine wpList_append_own _ rfl (.tmp 12) (.tmp 15) 113 rfl w.heap.size 9 i0 (.string ⟨#[]⟩) 1 16 Tryd.underlying113 hi hz0 hz1 hz2 rfl (by decide) _ j _ rfl (hown3.alloc _) ⟨w3.heap.size, 0, none⟩ 1 1 [.string ⟨T.toArray⟩] rfl rfl ?c1 ?c2 ?c3 ?c4 ?c5 ?_)
      case c1 =>
        intro q u hq
        match q, hq with
        | 0, hq => simp at hq; subst hq; simp [Addr.add]
      case c2 => intro u hu; simp at hu; subst hu; rfl
      case c3 => unfold maxLen; omega
      case c4 => omega
      case c5 => simp; omega
      intro v' w5 hown' hgrow hnil
      have HE5 : Hid (Ext w w5) := Lib.hid ((HE3.out.alloc _).grown hgrow (fun b hb => (hown3.lt b hb).1))
      have HO5 : Hid (w5.ownsRow w.heap.size 9 1 v' (j + 1) ((zs.take (j + 1)).map tv)) := Lib.hid (by rw [HM.out, List.map_take]; exact hown')
      have HN5 := Lib.hid hnil
      clear hown' hgrow hown3 hnil
      go_wp2
      go_roundw
      case rel => exact ⟨j + 1, by omega, by go_num, HO5.out, fun _ => HN5.out, HE5.out⟩
      case measure => simp [intOf]; omega
    · have hjn : j = n := by omega
      subst hjn
      have hne := HNE.out (by omega)
      obtain ⟨bk, cc, rfl, hcc⟩ := own_form' hown hne
      have hbk := (hown.lt bk rfl).2
      have htk : zs.take j = zs := List.take_of_length_le (by rw [HN.out]; omega)
      rw [htk] at hown
      have hlen := sideT_len HV.out
      rw [HN.out] at hlen
      have hX : (zs.map fun a => (⟨(txt a.1 a.2).toArray⟩ : ByteArray)).length = j := by rw [List.length_map, HN.out]
      have hXT : Lib.join ((zs.map fun a => (⟨(txt a.1 a.2).toArray⟩ : ByteArray)).map (·.data.toList)) ((⟨#[44]⟩ : ByteArray).data.toList) = sideT zs := by
        rw [show ((⟨#[44]⟩ : ByteArray).data.toList) = [44] from rfl, join_sj, List.map_map]
        rfl
      have hcells : ∀ (i : Nat) x, (zs.map fun a => (⟨(txt a.1 a.2).toArray⟩ : ByteArray))[i]? = some x → wr.cell? ⟨bk, 0 + i, none⟩ = some (.string x) := by
        intro i x hx
        have hi : i < j := by rw [← hX]; exact (List.getElem?_eq_some_iff.1 hx).1
        have hc := hown.cellAt i (by omega)
        rw [List.getElem?_map] at hx hc
        rw [Nat.zero_add, hc]
        cases hz : zs[i]? with
        | none => rw [hz] at hx; cases hx
        | some a => rw [hz] at hx; cases hx; rfl
      have hJ := Tryd.strings_Join bk 0 cc _ ⟨#[44]⟩ wr hcells hbk (by rw [hX]; omega) (by rw [hX]; omega) (by rw [hXT]; omega)
      rw [hX, hXT] at hJ
      have HJ := Lib.hid hJ
      clear hJ hcells hXT hX hown htk hne
      go_wp2_with (fail)
      refine HJ.out.mono ?_
      rintro e w2 ⟨rfl, hE2⟩
      have HE2 := Lib.hid (HE.out.trans hE2)
      clear hE2
      go_wp2
      go_ret
      exact ⟨rfl, HE2.out⟩
end Go.Proofs.YtcpbfefgjpimiaaDoor

/- The text of a nest: the model's. No statement is proved here. -/
import Derived.Test.YtcpbfefgjpimiaaDoorT10
import Derived.Deep.RegionHeld3
import Derived.Deep.RegionWith
namespace Go.Proofs.YtcpbfefgjpimiaaDoor
open Go.RowKit

def SideV (zs : List Aff) : Prop := zs.length ≤ 2 ∧ ∀ a ∈ zs, affValidB a.1 a.2 = true
def lpT (l : Lp) : List UInt8 := [102, 111, 114, 32] ++ sideT l.1 ++ [32] ++ sideT l.2 ++ [10]
def nestT (ls : List Lp) : List UInt8 := ls.flatMap lpT
theorem nestT_next {ls : List Lp} {j : Nat} {l : Lp} (h : ls[j]? = some l) : nestT (ls.take (j + 1)) = nestT (ls.take j) ++ lpT l := by
  rw [take_next h]; simp [nestT]
theorem SideV.len {zs : List Aff} (h : SideV zs) : (sideT zs).length ≤ 50 := by
  have := sideT_len h.2
  have := h.1
  omega
theorem nestT_len {ls : List Lp} (h : ∀ l ∈ ls, SideV l.1 ∧ SideV l.2) : (nestT ls).length ≤ 106 * ls.length := by
  induction ls with
  | nil => simp [nestT]
  | cons l ls ih =>
    have h1 := (h l (by simp)).1.len
    have h2 := (h l (by simp)).2.len
    have h3 := ih (fun z hz => h z (by simp [hz]))
    have e : nestT (l :: ls) = lpT l ++ nestT ls := by simp [nestT]
    have e2 : (lpT l).length = (sideT l.1).length + (sideT l.2).length + 6 := by simp [lpT]; omega
    rw [e, List.length_append, e2, List.length_cons]
    omega

set_option maxRecDepth 100000 in
set_option maxHeartbeats 1000000 in
theorem l2Text_any (v : Value) (ls : List Lp) (w : World) (hs : LoopsAt w v ls) (hn : ls.length ≤ 100) (hv : ∀ l ∈ ls, SideV l.1 ∧ SideV l.2) :
    Calls Tryd.prog 53 #[v] w fun e w' => e = .returned (.string ⟨(nestT ls).toArray⟩) ∧ Ext w w' := by
  obtain ⟨p, c, rfl, hm⟩ := hs.form
  obtain ⟨n, hxn⟩ : ∃ n, ls.length = n := ⟨_, rfl⟩
  rw [hxn] at hs hn hm ⊢
  have HS := Lib.hid hs; have HV := Lib.hid hv; have HN := Lib.hid hxn; clear hs hv hxn
  go_enter Tryd.func53, Tryd.ntmps53
  go_wp2
  go_loopw [3, 4] (fun o i wr => ∃ j : Nat, j ≤ n ∧ i = .int .i64 j ∧ o = .string ⟨(nestT (ls.take j)).toArray⟩ ∧ Ext w wr) (fun _ i _ => n - (intOf i).toNat)
  case atStart => exact ⟨0, by omega, rfl, rfl, Ext.refl _⟩
  case round =>
    obtain ⟨j, hj, rfl, rfl, hE⟩ := hrel
    have HE := Lib.hid hE
    by_cases hlt : j < n
    · obtain ⟨l, hl⟩ := get_some (xs := ls) (k := j) (by rw [HN.out]; exact hlt)
      have hvl := HV.out l (List.mem_of_getElem? hl)
      obtain ⟨b, off, q, m, q', m', rfl, c0, c1, hb, hr, hr'⟩ := (HS.out.ext hE).elem hl
      have h1 := hvl.1.len
      have h2 := hvl.2.len
      have hlen := nestT_len (ls := ls.take j) (fun z hz => HV.out z (List.mem_of_mem_take hz))
      have hlt2 : (ls.take j).length = j := by rw [List.length_take, HN.out]; omega
      rw [hlt2] at hlen
      obtain ⟨R, hR⟩ : ∃ R, nestT (ls.take j) = R := ⟨_, rfl⟩
      rw [hR] at hlen ⊢
      have hR3 : R.length ≤ 10600 := by omega
      obtain ⟨S, hS⟩ : ∃ S, sideT l.1 = S := ⟨_, rfl⟩
      obtain ⟨T, hT⟩ : ∃ T, sideT l.2 = T := ⟨_, rfl⟩
      have HF : Hid (nestT (ls.take (j + 1)) = R ++ ([102, 111, 114, 32] ++ S ++ [32] ++ T ++ [10])) := Lib.hid (by rw [nestT_next hl, hR, lpT, hS, hT])
      rw [hS] at h1; rw [hT] at h2
      have HC0 : Hid (∀ W, Ext wr W → Calls Tryd.prog 71 #[.slice q l.1.length m] W fun e w' => e = .returned (.string ⟨S.toArray⟩) ∧ Ext W w') := Lib.hid (by rw [← hS]; exact fun W hW => l2SideText_any _ l.1 W (hr.ext hW) (by have := hvl.1.1; omega) hvl.1.2)
      have HC1 : Hid (∀ W, Ext wr W → Calls Tryd.prog 71 #[.slice q' l.2.length m'] W fun e w' => e = .returned (.string ⟨T.toArray⟩) ∧ Ext W w') := Lib.hid (by rw [← hT]; exact fun W hW => l2SideText_any _ l.2 W (hr'.ext hW) (by have := hvl.2.1; omega) hvl.2.2)
      clear hl hvl hr hr' hE hlen hlt2 hR hS hT
      go_wp2_with (fail)
      have n1 : ¬ 9223372036854775807 < R.length + 4 := by omega
      have n2 : ¬ 9223372036854775803 < R.length := by omega
      have n3 : ¬ 9223372036854775807 < R.length + 4 + S.length := by omega
      have n4 : ¬ 9223372036854775807 < R.length + 4 + S.length + 1 := by omega
      have n5 : ¬ 9223372036854775806 < R.length + 4 + S.length := by omega
      have n6 : ¬ 9223372036854775807 < R.length + 4 + S.length + 1 + T.length := by omega
      have n7 : ¬ 9223372036854775807 < R.length + 4 + S.length + 1 + T.length + 1 := by omega
      have n8 : ¬ 9223372036854775806 < R.length + 4 + S.length + 1 + T.length := by omega
      go_region_held3 (fun W' => W'.cell? ⟨b, off + j * 2, none⟩ = some (.slice q l.1.length m) ∧ W'.cell? ⟨b, off + j * 2 + 1, none⟩ = some (.slice q' l.2.length m'))
        (first | exact ⟨c0, c1⟩ | exact ⟨g1.keep c0, g1.keep c1⟩ | exact ⟨g2.keep c0, g2.keep c1⟩ | fail)
        (first
          | (go_at_call 71; (with_reducible refine (HC0.out _ (Ext.refl wr).drew).mono ?_); rintro e x1 ⟨rfl, hx1⟩; have g1 : Ext wr x1 := (Ext.refl wr).drew.trans hx1)
          | (go_at_call 71; (with_reducible refine (HC1.out _ g1).mono ?_); rintro e x2 ⟨rfl, hx2⟩; have g2 : Ext wr x2 := g1.trans hx2)
          | fail)
      have HE2 := Lib.hid (HE.out.trans g2)
      clear g1 g2 hx1 hx2 c0 c1 n1 n2 n3 n4 n5 n6 n7 n8
      go_wp2
      go_roundw
      case rel => exact ⟨j + 1, by omega, by go_num, by rw [HF.out]; simp only [str_app, List.append_assoc], HE2.out⟩
      case measure => simp [intOf]; omega
    · have hjn : j = n := by omega
      have HF : Hid (nestT (ls.take j) = nestT ls) := Lib.hid (by rw [List.take_of_length_le (by rw [HN.out]; omega)])
      clear hjn
      go_wp2
      go_ret
      exact ⟨by rw [HF.out]; rfl, HE.out⟩
end Go.Proofs.YtcpbfefgjpimiaaDoor

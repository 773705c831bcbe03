/- The texts E1 Shelf V7 E2, joined. No statement is proved here. -/
import Derived.Test.YtklehkkclojccaaGreatQL35
import Derived.Test.YtklehkkclojccaaGreatQL32
import Derived.Shelf.Sort.Plain
import Derived.Shelf.Slices.Equal
import Derived.Ground.Names2Prog
import Derived.Shelf.Slices.CompactI
import Derived.Shelf.Slices.SearchI
import Derived.Shelf.Slices.In.SortNone
import Derived.Shelf.Slices.Empties2
import Derived.Ground.SlsfProg
import Derived.Shelf.SlSortCmp.Insertion
import Derived.Shelf.SlSortCmp.SiftDown1
import Derived.Shelf.SlSortCmp.HeapSort1
import Derived.Shelf.SlSortCmp.Insertion1
import Derived.Shelf.SlSortCmp.Median1
import Derived.Shelf.SlSortCmp.Pivot1
import Derived.Shelf.SlSortCmp.ReverseRange1
import Derived.Shelf.SlSortCmp.PartialInsertion1
import Derived.Shelf.SlSortCmp.PartitionEqual1
import Derived.Shelf.SlSortCmp.Partition1
import Derived.Shelf.SlSortCmp.Pdq1
import Derived.Shelf.SlSortCmp.Whole1
import Derived.Shelf.SlSortCmp.NoneTotal
import Derived.Test.YtklehkkclojccaaGreatProg
import Derived.Test.YtklehkkclojccaaGreatQL27
import Derived.OrdersHeld
import Derived.Test.YtklehkkclojccaaGreatQL33
import Derived.Test.YtklehkkclojccaaGreatQL11
import Derived.Deep.RegionHeld3
set_option maxRecDepth 100000
set_option maxHeartbeats 8000000
set_option linter.unusedVariables false
set_option linter.unusedSimpArgs false
namespace Go.Proofs.YtklehkkclojccaaGreat
open Go.RowKit Go.Maps
end Go.Proofs.YtklehkkclojccaaGreat
namespace Go.Proofs
open Go.Shelf
def Tryz.lays189_ren : Go.Shelf.Ren := ⟨fun | 189 => 182 | 125 => 176 | 257 => 250 | 128 => 244 | 129 => 245 | 294 => 289 | 295 => 290 | 296 => 291 | 297 => 292 | 298 => 293 | 299 => 294 | 216 => 295 | 300 => 296 | 301 => 297 | 328 => 317 | 329 => 285 | 330 => 286 | 331 => 318 | 332 => 319 | 215 => 246 | 343 => 327 | n => n, fun | 28 => 39 | 3 => 3 | 46 => 274 | 0 => 0 | 51 => 221 | 53 => 218 | 4 => 4 | 183 => 349 | 182 => 348 | 131 => 140 | 5 => 5 | 9 => 9 | 218 => 397 | 222 => 400 | 228 => 418 | 229 => 237 | n => n, fun | n => n⟩
theorem Tryz.lays189 : Go.Proofs.Lays.n189 Tryz.prog Tryz.lays189_ren := {
 mixed := by kernel_rfl
 f125 := Tryz.func176.trans (congrArg some (by kernel_rfl))
 f128 := Tryz.func244.trans (congrArg some (by kernel_rfl))
 f129 := Tryz.func245.trans (congrArg some (by kernel_rfl))
 f189 := Tryz.func182.trans (congrArg some (by kernel_rfl))
 f215 := Tryz.func246.trans (congrArg some (by kernel_rfl))
 f216 := Tryz.func295.trans (congrArg some (by kernel_rfl))
 f257 := Tryz.func250.trans (congrArg some (by kernel_rfl))
 f294 := Tryz.func289.trans (congrArg some (by kernel_rfl))
 f295 := Tryz.func290.trans (congrArg some (by kernel_rfl))
 f296 := Tryz.func291.trans (congrArg some (by kernel_rfl))
 f297 := Tryz.func292.trans (congrArg some (by kernel_rfl))
 f298 := Tryz.func293.trans (congrArg some (by kernel_rfl))
 f299 := Tryz.func294.trans (congrArg some (by kernel_rfl))
 f300 := Tryz.func296.trans (congrArg some (by kernel_rfl))
 f301 := Tryz.func297.trans (congrArg some (by kernel_rfl))
 f328 := Tryz.func317.trans (congrArg some (by kernel_rfl))
 f329 := Tryz.func285.trans (congrArg some (by kernel_rfl))
 f330 := Tryz.func286.trans (congrArg some (by kernel_rfl))
 f331 := Tryz.func318.trans (congrArg some (by kernel_rfl))
 f332 := Tryz.func319.trans (congrArg some (by kernel_rfl))
 f343 := Tryz.func327.trans (congrArg some (by kernel_rfl))
 t0 := Tryz.underlying0
 a0 := Tryz.isAgg0
 z0 := Tryz.sizeOf0
 v0 := Tryz.zeroValue0
 t3 := Tryz.underlying3
 a3 := Tryz.isAgg3
 z3 := Tryz.sizeOf3
 v3 := Tryz.zeroValue3
 t4 := Tryz.underlying4
 a4 := Tryz.isAgg4
 z4 := Tryz.sizeOf4
 v4 := Tryz.zeroValue4
 t5 := Tryz.underlying5
 a5 := Tryz.isAgg5
 z5 := Tryz.sizeOf5
 v5 := Tryz.zeroValue5
 t9 := Tryz.underlying9
 a9 := Tryz.isAgg9
 z9 := Tryz.sizeOf9
 v9 := Tryz.zeroValue9
 t28 := Tryz.underlying39
 a28 := Tryz.isAgg39
 z28 := Tryz.sizeOf39
 v28 := Tryz.zeroValue39
 t46 := Tryz.underlying274
 a46 := Tryz.isAgg274
 z46 := Tryz.sizeOf274
 v46 := Tryz.zeroValue274
 t51 := Tryz.underlying221
 a51 := Tryz.isAgg221
 z51 := Tryz.sizeOf221
 v51 := Tryz.zeroValue221
 t53 := Tryz.underlying218
 a53 := Tryz.isAgg218
 z53 := Tryz.sizeOf218
 v53 := Tryz.zeroValue218
 t131 := Tryz.underlying140
 a131 := Tryz.isAgg140
 z131 := Tryz.sizeOf140
 v131 := Tryz.zeroValue140
 t182 := Tryz.underlying348
 a182 := Tryz.isAgg348
 z182 := Tryz.sizeOf348
 v182 := Tryz.zeroValue348
 t183 := Tryz.underlying349
 a183 := Tryz.isAgg349
 z183 := Tryz.sizeOf349
 v183 := Tryz.zeroValue349
 t218 := Tryz.underlying397
 a218 := Tryz.isAgg397
 z218 := Tryz.sizeOf397
 v218 := Tryz.zeroValue397
 t222 := Tryz.underlying400
 a222 := Tryz.isAgg400
 z222 := Tryz.sizeOf400
 v222 := Tryz.zeroValue400
 t228 := Tryz.underlying418
 a228 := Tryz.isAgg418
 z228 := Tryz.sizeOf418
 v228 := Tryz.zeroValue418
 t229 := Tryz.underlying237
 a229 := Tryz.isAgg237
 z229 := Tryz.sizeOf237
 v229 := Tryz.zeroValue237 }
open Go.Sort Go.RowKit in
theorem Tryz.slices_Sort_int (blk off cap : Nat) (zs : List Int) (w : World) (hH : Holds (Value.int .i64) w blk off zs.toArray) (hblk : blk < w.heap.size) (hsz : zs.length < 4611686018427387904) :
  Calls Tryz.prog 182 #[.slice (some ⟨blk, off, none⟩) zs.length cap] w fun e w' =>
   e = .returned (.tuple #[]) /\ ∃ n os, w' = grow (putRow (Value.int .i64) (Sort.ahead w n) blk off (zs.mergeSort fun x y => decide (x <= y)).toArray) os := Any.slices_Sort_int Tryz.lays189 blk off cap zs w hH hblk hsz
def Tryz.laysNm220_ren : Go.Shelf.Ren := ⟨fun | 20 => 183 | n => n, fun | 22 => 39 | 3 => 3 | 4 => 4 | 0 => 0 | n => n, fun | n => n⟩
theorem Tryz.laysNm220 : Go.Proofs.Lays2.n20 Tryz.prog Tryz.laysNm220_ren := {
 mixed := by kernel_rfl
 f20 := Tryz.func183.trans (congrArg some (by kernel_rfl))
 t0 := Tryz.underlying0
 a0 := Tryz.isAgg0
 z0 := Tryz.sizeOf0
 v0 := Tryz.zeroValue0
 t3 := Tryz.underlying3
 a3 := Tryz.isAgg3
 z3 := Tryz.sizeOf3
 v3 := Tryz.zeroValue3
 t4 := Tryz.underlying4
 a4 := Tryz.isAgg4
 z4 := Tryz.sizeOf4
 v4 := Tryz.zeroValue4
 t22 := Tryz.underlying39
 a22 := Tryz.isAgg39
 z22 := Tryz.sizeOf39
 v22 := Tryz.zeroValue39
 i3 := by kernel_rfl }
open Go.RowKit Go.Lib Go.Sort in
theorem Tryz.slices_Compact_int (blk off cap : Nat) (zs : List Int) (w : World) (hH : Holds (Value.int .i64) w blk off zs.toArray) (hsz : zs.length <= 9223372036854775807) (hcap : zs.length <= cap) :
  Calls Tryz.prog 183 #[.slice (some ⟨blk, off, none⟩) zs.length cap] w fun e w' => e = .returned (.slice (some ⟨blk, off, none⟩) (Lib.compact zs).length cap) /\ ∃ q, w' = putRow (Value.int .i64) (Sort.ahead w q) blk off (Lib.compact zs ++ List.replicate (zs.length - (Lib.compact zs).length) 0).toArray := Any.slices_Compact_int Tryz.laysNm220 blk off cap zs w hH hsz hcap
open Go.RowKit Go.Lib Go.Sort in
theorem Tryz.slices_Compact_int_empty (a : Option Addr) (cap : Nat) (w : World) :
  Calls Tryz.prog 183 #[.slice a 0 cap] w fun e w' => e = .returned (.slice a 0 cap) /\ w' = w := Any.slices_Compact_int_empty Tryz.laysNm220 a cap w
open Go.RowKit Go.Sort in
theorem Tryz.slices_Sort_int_none (p : Option Addr) (cap : Nat) (w : World) :
  Calls Tryz.prog 182 #[.slice p 0 cap] w fun e w' => e = .returned (.tuple #[]) /\ w' = w := Any.slices_Sort_int_none Tryz.lays189 p cap w
def Tryz.laysSlF6_f117_ren : Go.Shelf.Ren := ⟨fun | 6 => 117 | 15 => 176 | 14 => 175 | 28 => 244 | 29 => 245 | 20 => 236 | 21 => 237 | 22 => 238 | 23 => 239 | 24 => 240 | 25 => 241 | 26 => 242 | 27 => 243 | 46 => 284 | 47 => 285 | 48 => 286 | 49 => 287 | 50 => 288 | 57 => 316 | n => n, fun | 22 => 46 | 24 => 39 | 25 => 198 | 3 => 3 | 39 => 274 | 0 => 0 | 53 => 221 | 55 => 218 | 4 => 4 | 46 => 349 | 45 => 348 | 50 => 140 | 5 => 5 | 9 => 9 | 66 => 397 | 70 => 400 | 76 => 418 | 77 => 237 | n => n, fun | n => n⟩
theorem Tryz.laysSlF6_f117 : Go.Proofs.SlLaysF.n6 Tryz.prog Tryz.laysSlF6_f117_ren := {
 mixed := by kernel_rfl
 f6 := ⟨Tryz.f117.name, by decide, Tryz.func117.trans (congrArg some (by kernel_rfl))⟩
 f14 := ⟨Tryz.f175.name, by decide, Tryz.func175.trans (congrArg some (by kernel_rfl))⟩
 f15 := Tryz.func176.trans (congrArg some (by kernel_rfl))
 f20 := ⟨Tryz.f236.name, by decide, Tryz.func236.trans (congrArg some (by kernel_rfl))⟩
 f21 := ⟨Tryz.f237.name, by decide, Tryz.func237.trans (congrArg some (by kernel_rfl))⟩
 f22 := ⟨Tryz.f238.name, by decide, Tryz.func238.trans (congrArg some (by kernel_rfl))⟩
 f23 := ⟨Tryz.f239.name, by decide, Tryz.func239.trans (congrArg some (by kernel_rfl))⟩
 f24 := ⟨Tryz.f240.name, by decide, Tryz.func240.trans (congrArg some (by kernel_rfl))⟩
 f25 := ⟨Tryz.f241.name, by decide, Tryz.func241.trans (congrArg some (by kernel_rfl))⟩
 f26 := ⟨Tryz.f242.name, by decide, Tryz.func242.trans (congrArg some (by kernel_rfl))⟩
 f27 := ⟨Tryz.f243.name, by decide, Tryz.func243.trans (congrArg some (by kernel_rfl))⟩
 f28 := Tryz.func244.trans (congrArg some (by kernel_rfl))
 f29 := Tryz.func245.trans (congrArg some (by kernel_rfl))
 f46 := ⟨Tryz.f284.name, by decide, Tryz.func284.trans (congrArg some (by kernel_rfl))⟩
 f47 := Tryz.func285.trans (congrArg some (by kernel_rfl))
 f48 := Tryz.func286.trans (congrArg some (by kernel_rfl))
 f49 := ⟨Tryz.f287.name, by decide, Tryz.func287.trans (congrArg some (by kernel_rfl))⟩
 f50 := ⟨Tryz.f288.name, by decide, Tryz.func288.trans (congrArg some (by kernel_rfl))⟩
 f57 := ⟨Tryz.f316.name, by decide, Tryz.func316.trans (congrArg some (by kernel_rfl))⟩
 t0 := Tryz.underlying0
 a0 := Tryz.isAgg0
 z0 := Tryz.sizeOf0
 v0 := Tryz.zeroValue0
 t3 := Tryz.underlying3
 a3 := Tryz.isAgg3
 z3 := Tryz.sizeOf3
 v3 := Tryz.zeroValue3
 t4 := Tryz.underlying4
 a4 := Tryz.isAgg4
 z4 := Tryz.sizeOf4
 v4 := Tryz.zeroValue4
 t5 := Tryz.underlying5
 a5 := Tryz.isAgg5
 z5 := Tryz.sizeOf5
 v5 := Tryz.zeroValue5
 t9 := Tryz.underlying9
 a9 := Tryz.isAgg9
 z9 := Tryz.sizeOf9
 v9 := Tryz.zeroValue9
 t22 := Tryz.underlying46
 a22 := Tryz.isAgg46
 z22 := Tryz.sizeOf46
 v22 := Tryz.zeroValue46
 a24 := Tryz.isAgg39
 z24 := Tryz.sizeOf39
 t25 := Tryz.underlying198
 a25 := Tryz.isAgg198
 z25 := Tryz.sizeOf198
 v25 := Tryz.zeroValue198
 t39 := Tryz.underlying274
 a39 := Tryz.isAgg274
 z39 := Tryz.sizeOf274
 v39 := Tryz.zeroValue274
 t45 := Tryz.underlying348
 a45 := Tryz.isAgg348
 z45 := Tryz.sizeOf348
 v45 := Tryz.zeroValue348
 t46 := Tryz.underlying349
 a46 := Tryz.isAgg349
 z46 := Tryz.sizeOf349
 v46 := Tryz.zeroValue349
 t50 := Tryz.underlying140
 a50 := Tryz.isAgg140
 z50 := Tryz.sizeOf140
 v50 := Tryz.zeroValue140
 t53 := Tryz.underlying221
 a53 := Tryz.isAgg221
 z53 := Tryz.sizeOf221
 v53 := Tryz.zeroValue221
 t55 := Tryz.underlying218
 a55 := Tryz.isAgg218
 z55 := Tryz.sizeOf218
 v55 := Tryz.zeroValue218
 t66 := Tryz.underlying397
 a66 := Tryz.isAgg397
 z66 := Tryz.sizeOf397
 v66 := Tryz.zeroValue397
 t70 := Tryz.underlying400
 a70 := Tryz.isAgg400
 z70 := Tryz.sizeOf400
 v70 := Tryz.zeroValue400
 t76 := Tryz.underlying418
 a76 := Tryz.isAgg418
 z76 := Tryz.sizeOf418
 v76 := Tryz.zeroValue418
 t77 := Tryz.underlying237
 a77 := Tryz.isAgg237
 z77 := Tryz.sizeOf237
 v77 := Tryz.zeroValue237 }
end Go.Proofs
namespace Go.Proofs.YtklehkkclojccaaGreat
open Go.RowKit
end Go.Proofs.YtklehkkclojccaaGreat
namespace Go.Proofs.YtklehkkclojccaaGreat
open Go.RowKit Go.Maps
def opF (k : Int) : Nat := if k = 4 then 281 else if k = 5 then 282 else 283
inductive FnR (C : Nat -> Prop) (B : Nat) (w1 : World) (mo : Option Nat) (T : Int) (W : World) : Value -> Ex -> Prop
 | num (n : Int) (g : Nat) (c0 : C g) (hg : W.heap[g]? = some (.cells #[.int .i64 n] 340 (0, 0))) : FnR C B w1 mo T W (.func (.func 228) #[] #[.pointer (some ⟨g, 0, none⟩)]) (.mk 1 n ([], 0) ⟨#[]⟩ [] [])
 | idx (a b c d k : Int) (h : jZ5 [a, b, c, d] k = true) (g : Nat) (c0 : C g) (hg : W.heap[g]? = some (.cells #[.int .i64 a, .int .i64 b, .int .i64 c, .int .i64 d, .int .i64 k] 342 (0, 0))) : FnR C B w1 mo T W (.func (.func 229) #[] #[.pointer (some ⟨g, 0, none⟩)]) (.mk 2 0 ([a, b, c, d], k) ⟨#[]⟩ [] [])
 | read (arr : ByteArray) (s : Value) (subs : List Aff) (h : jZe B w1 s subs) (gl gr : Nat) (c0 : C gl) (c1 : C gr) (hl : W.heap[gl]? = some (.cells #[.map mo, .int .i64 T] 66 (0, 0))) (hr : W.heap[gr]? = some (.cells #[.string arr, s] 331 (0, 0))) : FnR C B w1 mo T W (.func (.func 231) #[] #[.pointer (some ⟨gl, 0, none⟩), .pointer (some ⟨gr, 0, none⟩)]) (.mk 3 0 ([], 0) arr subs [])
 | op (kind : Int) (fx fy : Value) (ex ey : Ex) (hk : kind = 4 \/ kind = 5 \/ kind = 6) (ga gx gy : Nat) (c0 : C ga) (c1 : C gx) (c2 : C gy) (ha : W.heap[ga]? = some (.cells #[.func (.func (opF kind)) #[] #[]] 275 (0, 0))) (hx : W.heap[gx]? = some (.cells #[fx] 264 (0, 0))) (hy : W.heap[gy]? = some (.cells #[fy] 264 (0, 0))) (ix : FnR C B w1 mo T W fx ex) (iy : FnR C B w1 mo T W fy ey) :
   FnR C B w1 mo T W (.func (.func 233) #[] #[.pointer (some ⟨ga, 0, none⟩), .pointer (some ⟨gx, 0, none⟩), .pointer (some ⟨gy, 0, none⟩)]) (.mk kind 0 ([], 0) ⟨#[]⟩ [] [ex, ey])
def KeepC (C : Nat -> Prop) (W W' : World) : Prop := ∀ g, C g -> g < W.heap.size -> W'.heap[g]? = W.heap[g]?
theorem KeepC.of_ext {C : Nat -> Prop} {W W' : World} (h : Ext W W') : KeepC C W W' := fun g _ hl => h.block g hl
theorem KeepC.blk {C : Nat -> Prop} {W W' : World} (h : KeepC C W W') {g : Nat} (hc : C g) {o : Obj} (hg : W.heap[g]? = some o) : W'.heap[g]? = some o := (h g hc (lt_of_block hg)).trans hg
theorem FnR.keep {C : Nat -> Prop} {B : Nat} {w1 : World} {mo : Option Nat} {T : Int} {W W' : World} {f : Value} {e : Ex} (h : FnR C B w1 mo T W f e) (hK : KeepC C W W') : FnR C B w1 mo T W' f e := by
 induction h with
 | num n g c0 hg => exact .num n g c0 (hK.blk c0 hg)
 | idx a b c d k h g c0 hg => exact .idx a b c d k h g c0 (hK.blk c0 hg)
 | read arr s subs h gl gr c0 c1 hl hr => exact .read arr s subs h gl gr c0 c1 (hK.blk c0 hl) (hK.blk c1 hr)
 | op kind fx fy ex ey hk ga gx gy c0 c1 c2 ha hx hy _ _ ihx ihy => exact .op kind fx fy ex ey hk ga gx gy c0 c1 c2 (hK.blk c0 ha) (hK.blk c1 hx) (hK.blk c2 hy) ihx ihy
theorem FnR.mono {C C' : Nat -> Prop} {B : Nat} {w1 : World} {mo : Option Nat} {T : Int} {W : World} {f : Value} {e : Ex} (h : FnR C B w1 mo T W f e) (hC : ∀ g, C g -> C' g) : FnR C' B w1 mo T W f e := by
 induction h with
 | num n g c0 hg => exact .num n g (hC _ c0) hg
 | idx a b c d k h g c0 hg => exact .idx a b c d k h g (hC _ c0) hg
 | read arr s subs h gl gr c0 c1 hl hr => exact .read arr s subs h gl gr (hC _ c0) (hC _ c1) hl hr
 | op kind fx fy ex ey hk ga gx gy c0 c1 c2 ha hx hy _ _ ihx ihy => exact .op kind fx fy ex ey hk ga gx gy (hC _ c0) (hC _ c1) (hC _ c2) ha hx hy ihx ihy
theorem FnR.ext {C : Nat -> Prop} {B : Nat} {w1 : World} {mo : Option Nat} {T : Int} {W W' : World} {f : Value} {e : Ex} (h : FnR C B w1 mo T W f e) (hE : Ext W W') : FnR C B w1 mo T W' f e := h.keep (KeepC.of_ext hE)
theorem FnR.form {C : Nat -> Prop} {B : Nat} {w1 : World} {mo : Option Nat} {T : Int} {W : World} {f : Value} {e : Ex} (h : FnR C B w1 mo T W f e) : ∃ k cap, f = .func (.func k) #[] cap := by cases h <;> exact ⟨_, _, rfl⟩
end Go.Proofs.YtklehkkclojccaaGreat

/- Codes that each way needs, as both programs list them, with what is asked of sets, of maps that are copied and of lists that are sorted. For lists that can be. -/
import Derived.Test.YtilnjlcljjpnmaaAskD
import Derived.Test.YtilnjlcljjpnmaaDead
import Derived.Shelf.Small.Bits
import Derived.Shelf.Strconv.Itoa0
import Derived.Shelf.Sort.Plain
import Derived.Shelf.Slices.CompactS
import Derived.Shelf.Slices.Cells
import Derived.Shelf.Slices.In.SortNone
import Derived.Ground.SlgnProg
import Derived.Shelf.SlicesE.Compact
import Derived.Ground.SlgfProg
import Derived.Shelf.SlicesE.IndexFunc
import Derived.Shelf.SlicesE.DeleteFunc
import Derived.Test.YtilnjlcljjpnmaaProg
import Derived.Shelf.SlGeneric
import Derived.Shelf.SlMaps.Clone
import Derived.Ground.SlmcProg
import Derived.Test.YtilnjlcljjpnmaaSs
import Derived.Test.YtilnjlcljjpnmaaStrs
import Derived.Sort.OwnSorted
import Derived.Sort.Grow
import Derived.Lib.OwnBridge
import Derived.Test.YtilnjlcljjpnmaaFa
import Derived.Test.YtilnjlcljjpnmaaPa
import Derived.Test.YtilnjlcljjpnmaaWk
import Derived.Sort.Walk0
import Derived.Deep.RegionLaw
import Derived.Deep.AppendSrc
import Derived.Test.YtilnjlcljjpnmaaQm
import Derived.Deep.DeepCutAuto
import Derived.Test.YtilnjlcljjpnmaaMz

namespace Go.Proofs
open Go.Shelf
def Try.lays128_ren : Go.Shelf.Ren := ⟨fun | 128 => 148 | n => n, fun | 51 => 152 | 3 => 3 | 4 => 4 | 46 => 133 | 5 => 5 | 9 => 9 | n => n, fun | n => n⟩
theorem Try.lays128 : Go.Proofs.Lays.n128 Try.prog Try.lays128_ren := {
  mixed := by kernel_rfl
  f128 := Try.func148.trans (congrArg some (by kernel_rfl))
  t3 := Try.underlying3
  a3 := Try.isAgg3
  z3 := Try.sizeOf3
  v3 := Try.zeroValue3
  t4 := Try.underlying4
  a4 := Try.isAgg4
  z4 := Try.sizeOf4
  v4 := Try.zeroValue4
  t5 := Try.underlying5
  a5 := Try.isAgg5
  z5 := Try.sizeOf5
  v5 := Try.zeroValue5
  t9 := Try.underlying9
  a9 := Try.isAgg9
  z9 := Try.sizeOf9
  v9 := Try.zeroValue9
  t46 := Try.underlying133
  a46 := Try.isAgg133
  z46 := Try.sizeOf133
  v46 := Try.zeroValue133
  t51 := Try.underlying152
  a51 := Try.isAgg152
  z51 := Try.sizeOf152
  v51 := Try.zeroValue152 }
theorem Try.bits_Len32 (x : Int) (w : World) (h0 : 0 ≤ x) (h1 : x ≤ 4294967295) :
    Calls Try.prog 148 #[.int .u32 x] w fun e w' => e = .returned (.int .i64 (Lib.bitLen x.toNat)) ∧ w' = w := Any.bits_Len32 Try.lays128 x w h0 h1
def Try.lays125_ren : Go.Shelf.Ren := ⟨fun | 125 => 123 | 128 => 148 | 129 => 149 | n => n, fun | 46 => 133 | 3 => 3 | 51 => 152 | 53 => 154 | 4 => 4 | 5 => 5 | 9 => 9 | n => n, fun | n => n⟩
theorem Try.lays125 : Go.Proofs.Lays.n125 Try.prog Try.lays125_ren := {
  mixed := by kernel_rfl
  f125 := Try.func123.trans (congrArg some (by kernel_rfl))
  f128 := Try.func148.trans (congrArg some (by kernel_rfl))
  f129 := Try.func149.trans (congrArg some (by kernel_rfl))
  t3 := Try.underlying3
  a3 := Try.isAgg3
  z3 := Try.sizeOf3
  v3 := Try.zeroValue3
  t4 := Try.underlying4
  a4 := Try.isAgg4
  z4 := Try.sizeOf4
  v4 := Try.zeroValue4
  t5 := Try.underlying5
  a5 := Try.isAgg5
  z5 := Try.sizeOf5
  v5 := Try.zeroValue5
  t9 := Try.underlying9
  a9 := Try.isAgg9
  z9 := Try.sizeOf9
  v9 := Try.zeroValue9
  t46 := Try.underlying133
  a46 := Try.isAgg133
  z46 := Try.sizeOf133
  v46 := Try.zeroValue133
  t51 := Try.underlying152
  a51 := Try.isAgg152
  z51 := Try.sizeOf152
  v51 := Try.zeroValue152
  t53 := Try.underlying154
  a53 := Try.isAgg154
  z53 := Try.sizeOf154
  v53 := Try.zeroValue154 }
theorem Try.bits_Len (x : Int) (w : World) (h0 : 0 ≤ x) (h1 : x ≤ 18446744073709551615) :
    Calls Try.prog 123 #[.int .u64 x] w fun e w' => e = .returned (.int .i64 (Lib.bitLen x.toNat)) ∧ w' = w := Any.bits_Len Try.lays125 x w h0 h1
def Try.lays129_ren : Go.Shelf.Ren := ⟨fun | 129 => 149 | n => n, fun | 53 => 154 | 3 => 3 | 4 => 4 | 46 => 133 | 5 => 5 | 9 => 9 | n => n, fun | n => n⟩
theorem Try.lays129 : Go.Proofs.Lays.n129 Try.prog Try.lays129_ren := {
  mixed := by kernel_rfl
  f129 := Try.func149.trans (congrArg some (by kernel_rfl))
  t3 := Try.underlying3
  a3 := Try.isAgg3
  z3 := Try.sizeOf3
  v3 := Try.zeroValue3
  t4 := Try.underlying4
  a4 := Try.isAgg4
  z4 := Try.sizeOf4
  v4 := Try.zeroValue4
  t5 := Try.underlying5
  a5 := Try.isAgg5
  z5 := Try.sizeOf5
  v5 := Try.zeroValue5
  t9 := Try.underlying9
  a9 := Try.isAgg9
  z9 := Try.sizeOf9
  v9 := Try.zeroValue9
  t46 := Try.underlying133
  a46 := Try.isAgg133
  z46 := Try.sizeOf133
  v46 := Try.zeroValue133
  t53 := Try.underlying154
  a53 := Try.isAgg154
  z53 := Try.sizeOf154
  v53 := Try.zeroValue154 }
theorem Try.bits_Len64 (x : Int) (w : World) (h0 : 0 ≤ x) (h1 : x ≤ 18446744073709551615) :
    Calls Try.prog 149 #[.int .u64 x] w fun e w' => e = .returned (.int .i64 (Lib.bitLen x.toNat)) ∧ w' = w := Any.bits_Len64 Try.lays129 x w h0 h1
def Try.lays190_ren : Go.Shelf.Ren := ⟨fun | 190 => 91 | 125 => 123 | 258 => 122 | 128 => 148 | 129 => 149 | 302 => 139 | 303 => 140 | 304 => 141 | 305 => 142 | 306 => 143 | 307 => 144 | 308 => 145 | 309 => 146 | 310 => 147 | 333 => 151 | 329 => 152 | 330 => 153 | 334 => 154 | 335 => 155 | 336 => 156 | 344 => 157 | n => n, fun | 31 => 24 | 9 => 9 | 3 => 3 | 46 => 133 | 0 => 0 | 51 => 152 | 53 => 154 | 4 => 4 | 183 => 146 | 182 => 145 | 131 => 33 | 5 => 5 | 218 => 155 | 222 => 159 | 228 => 161 | 229 => 124 | n => n, fun | n => n⟩
theorem Try.lays190 : Go.Proofs.Lays.n190 Try.prog Try.lays190_ren := {
  mixed := by kernel_rfl
  f125 := Try.func123.trans (congrArg some (by kernel_rfl))
  f128 := Try.func148.trans (congrArg some (by kernel_rfl))
  f129 := Try.func149.trans (congrArg some (by kernel_rfl))
  f190 := Try.func91.trans (congrArg some (by kernel_rfl))
  f258 := Try.func122.trans (congrArg some (by kernel_rfl))
  f302 := Try.func139.trans (congrArg some (by kernel_rfl))
  f303 := Try.func140.trans (congrArg some (by kernel_rfl))
  f304 := Try.func141.trans (congrArg some (by kernel_rfl))
  f305 := Try.func142.trans (congrArg some (by kernel_rfl))
  f306 := Try.func143.trans (congrArg some (by kernel_rfl))
  f307 := Try.func144.trans (congrArg some (by kernel_rfl))
  f308 := Try.func145.trans (congrArg some (by kernel_rfl))
  f309 := Try.func146.trans (congrArg some (by kernel_rfl))
  f310 := Try.func147.trans (congrArg some (by kernel_rfl))
  f329 := Try.func152.trans (congrArg some (by kernel_rfl))
  f330 := Try.func153.trans (congrArg some (by kernel_rfl))
  f333 := Try.func151.trans (congrArg some (by kernel_rfl))
  f334 := Try.func154.trans (congrArg some (by kernel_rfl))
  f335 := Try.func155.trans (congrArg some (by kernel_rfl))
  f336 := Try.func156.trans (congrArg some (by kernel_rfl))
  f344 := Try.func157.trans (congrArg some (by kernel_rfl))
  t0 := Try.underlying0
  a0 := Try.isAgg0
  z0 := Try.sizeOf0
  v0 := Try.zeroValue0
  t3 := Try.underlying3
  a3 := Try.isAgg3
  z3 := Try.sizeOf3
  v3 := Try.zeroValue3
  t4 := Try.underlying4
  a4 := Try.isAgg4
  z4 := Try.sizeOf4
  v4 := Try.zeroValue4
  t5 := Try.underlying5
  a5 := Try.isAgg5
  z5 := Try.sizeOf5
  v5 := Try.zeroValue5
  t9 := Try.underlying9
  a9 := Try.isAgg9
  z9 := Try.sizeOf9
  v9 := Try.zeroValue9
  t31 := Try.underlying24
  a31 := Try.isAgg24
  z31 := Try.sizeOf24
  v31 := Try.zeroValue24
  t46 := Try.underlying133
  a46 := Try.isAgg133
  z46 := Try.sizeOf133
  v46 := Try.zeroValue133
  t51 := Try.underlying152
  a51 := Try.isAgg152
  z51 := Try.sizeOf152
  v51 := Try.zeroValue152
  t53 := Try.underlying154
  a53 := Try.isAgg154
  z53 := Try.sizeOf154
  v53 := Try.zeroValue154
  t131 := Try.underlying33
  a131 := Try.isAgg33
  z131 := Try.sizeOf33
  v131 := Try.zeroValue33
  t182 := Try.underlying145
  a182 := Try.isAgg145
  z182 := Try.sizeOf145
  v182 := Try.zeroValue145
  t183 := Try.underlying146
  a183 := Try.isAgg146
  z183 := Try.sizeOf146
  v183 := Try.zeroValue146
  t218 := Try.underlying155
  a218 := Try.isAgg155
  z218 := Try.sizeOf155
  v218 := Try.zeroValue155
  t222 := Try.underlying159
  a222 := Try.isAgg159
  z222 := Try.sizeOf159
  v222 := Try.zeroValue159
  t228 := Try.underlying161
  a228 := Try.isAgg161
  z228 := Try.sizeOf161
  v228 := Try.zeroValue161
  t229 := Try.underlying124
  a229 := Try.isAgg124
  z229 := Try.sizeOf124
  v229 := Try.zeroValue124 }
open Go.Sort Go.RowKit in
theorem Try.slices_Sort_string (blk off cap : Nat) (ss : List (List UInt8)) (w : World) (hH : Holds encStr w blk off ss.toArray) (hblk : blk < w.heap.size) (hsz : ss.length < 4611686018427387904) :
    Calls Try.prog 91 #[.slice (some ⟨blk, off, none⟩) ss.length cap] w fun e w' =>
      e = .returned (.tuple #[]) ∧ ∃ n os, w' = grow (putRow encStr (Sort.ahead w n) blk off (ss.mergeSort fun x y => decide (x ≤ y)).toArray) os := Any.slices_Sort_string Try.lays190 blk off cap ss w hH hblk hsz
def Try.lays194_ren : Go.Shelf.Ren := ⟨fun | 194 => 132 | n => n, fun | 31 => 24 | 9 => 9 | 3 => 3 | 4 => 4 | 0 => 0 | n => n, fun | n => n⟩
theorem Try.lays194 : Go.Proofs.Lays.n194 Try.prog Try.lays194_ren := {
  mixed := by kernel_rfl
  f194 := Try.func132.trans (congrArg some (by kernel_rfl))
  t0 := Try.underlying0
  a0 := Try.isAgg0
  z0 := Try.sizeOf0
  v0 := Try.zeroValue0
  t3 := Try.underlying3
  a3 := Try.isAgg3
  z3 := Try.sizeOf3
  v3 := Try.zeroValue3
  t4 := Try.underlying4
  a4 := Try.isAgg4
  z4 := Try.sizeOf4
  v4 := Try.zeroValue4
  t9 := Try.underlying9
  a9 := Try.isAgg9
  z9 := Try.sizeOf9
  v9 := Try.zeroValue9
  t31 := Try.underlying24
  a31 := Try.isAgg24
  z31 := Try.sizeOf24
  v31 := Try.zeroValue24 }
open Go.RowKit Go.Lib Go.Sort in
theorem Try.slices_Compact_string_arr (blk off cap : Nat) (d : Array (List UInt8)) (w : World) (hH : Holds encStr w blk off d) (hsz : d.size ≤ 9223372036854775807) (hcap : d.size ≤ cap) :
    Calls Try.prog 132 #[.slice (some ⟨blk, off, none⟩) d.size cap] w fun e w' => e = .returned (.slice (some ⟨blk, off, none⟩) (compactUpTo d d.size).length cap) ∧ ∃ q, w' = putRow encStr (Sort.ahead w q) blk off (compactUpTo d d.size ++ List.replicate (d.size - (compactUpTo d d.size).length) []).toArray := Any.slices_Compact_string_arr Try.lays194 blk off cap d w hH hsz hcap
open Go.RowKit Go.Lib Go.Sort in
theorem Try.slices_Compact_string (blk off cap : Nat) (zs : List (List UInt8)) (w : World) (hH : Holds encStr w blk off zs.toArray) (hsz : zs.length ≤ 9223372036854775807) (hcap : zs.length ≤ cap) :
    Calls Try.prog 132 #[.slice (some ⟨blk, off, none⟩) zs.length cap] w fun e w' => e = .returned (.slice (some ⟨blk, off, none⟩) (Lib.compact zs).length cap) ∧ ∃ q, w' = putRow encStr (Sort.ahead w q) blk off (Lib.compact zs ++ List.replicate (zs.length - (Lib.compact zs).length) []).toArray := Any.slices_Compact_string Try.lays194 blk off cap zs w hH hsz hcap
open Go.RowKit Go.Lib Go.Sort in
theorem Try.slices_Compact_string_empty (a : Option Addr) (cap : Nat) (w : World) :
    Calls Try.prog 132 #[.slice a 0 cap] w fun e w' => e = .returned (.slice a 0 cap) ∧ w' = w := Any.slices_Compact_string_empty Try.lays194 a cap w
open Go.RowKit Go.Lib Go.Sort in
theorem Try.slices_Compact_string_cells (b off n c : Nat) (Sx : Nat → ByteArray) (w : World) (hbig : n ≤ 9223372036854775807) (hcap : n ≤ c) (hc : ∀ i, i < n → w.cell? ⟨b, off + i, none⟩ = some (.string (Sx i))) (hf : ∀ j, j < n → w.frozen? ⟨b, off + j, none⟩ = false) :
    Calls Try.prog 132 #[.slice (some ⟨b, off, none⟩) n c] w fun e w' => e = .returned (.slice (some ⟨b, off, none⟩) (Lib.compact (Lib.strsOf Sx n)).length c) ∧ ∃ q, w' = (w.drewN q).setCells b off ((Lib.compact (Lib.strsOf Sx n) ++ List.replicate (n - (Lib.compact (Lib.strsOf Sx n)).length) []).map encStr) := Any.slices_Compact_string_cells Try.lays194 b off n c Sx w hbig hcap hc hf
open Go.RowKit Go.Sort in
theorem Try.slices_Sort_string_none (p : Option Addr) (cap : Nat) (w : World) :
    Calls Try.prog 91 #[.slice p 0 cap] w fun e w' => e = .returned (.tuple #[]) ∧ w' = w := Any.slices_Sort_string_none Try.lays190 p cap w
def Try.laysSlE43_f132_ren : Go.Shelf.Ren := ⟨fun | 43 => 132 | n => n, fun | 22 => 24 | 23 => 9 | 3 => 3 | 4 => 4 | 0 => 0 | n => n, fun | n => n⟩
theorem Try.laysSlE43_f132 : Go.Proofs.SlLaysE.n43 Try.prog Try.laysSlE43_f132_ren := {
  mixed := by kernel_rfl
  f43 := ⟨Try.f132.name, by decide, Try.func132.trans (congrArg some (by kernel_rfl))⟩
  t0 := Try.underlying0
  a0 := Try.isAgg0
  z0 := Try.sizeOf0
  v0 := Try.zeroValue0
  t3 := Try.underlying3
  a3 := Try.isAgg3
  z3 := Try.sizeOf3
  v3 := Try.zeroValue3
  t4 := Try.underlying4
  a4 := Try.isAgg4
  z4 := Try.sizeOf4
  v4 := Try.zeroValue4
  t22 := Try.underlying24
  a22 := Try.isAgg24
  z22 := Try.sizeOf24
  v22 := Try.zeroValue24
  a23 := Try.isAgg9
  z23 := Try.sizeOf9 }
open Go.RowKit Go.Lib Go.Sort in
theorem Try.slices_Compact {α : Type} [Inhabited α] [DecidableEq α] (enc : α → Value) (hO : OneCell enc) (heq : EqlAt Try.prog 9 enc (fun x y => decide (x = y))) (hne : NeqAt Try.prog 9 enc (fun x y => decide (x = y))) (zr : α) (v23 : ∀ w, (zeroValue 9).run Try.prog w = .ok (enc zr) w) (blk off cap : Nat) (d : Array α) (w : World) (hH : Holds enc w blk off d) (hsz : d.size ≤ 9223372036854775807) (hcap : d.size ≤ cap) :
    Calls Try.prog 132 #[.slice (some ⟨blk, off, none⟩) d.size cap] w fun e w' => e = .returned (.slice (some ⟨blk, off, none⟩) (compactUpTo d d.size).length cap) ∧ ∃ q, w' = putRow enc (Sort.ahead w q) blk off (compactUpTo d d.size ++ List.replicate (d.size - (compactUpTo d d.size).length) zr).toArray := AnyE.slices_Compact Try.laysSlE43_f132 enc hO heq hne zr v23 blk off cap d w hH hsz hcap
def Try.laysSlH6_f133_ren : Go.Shelf.Ren := ⟨fun | 6 => 133 | n => n, fun | 22 => 24 | 23 => 9 | 25 => 60 | 3 => 3 | 0 => 0 | 4 => 4 | n => n, fun | n => n⟩
theorem Try.laysSlH6_f133 : Go.Proofs.SlLaysH.n6 Try.prog Try.laysSlH6_f133_ren := {
  mixed := by kernel_rfl
  f6 := ⟨Try.f133.name, by decide, Try.func133.trans (congrArg some (by kernel_rfl))⟩
  t0 := Try.underlying0
  a0 := Try.isAgg0
  z0 := Try.sizeOf0
  v0 := Try.zeroValue0
  t3 := Try.underlying3
  a3 := Try.isAgg3
  z3 := Try.sizeOf3
  v3 := Try.zeroValue3
  t4 := Try.underlying4
  a4 := Try.isAgg4
  z4 := Try.sizeOf4
  v4 := Try.zeroValue4
  t22 := Try.underlying24
  a22 := Try.isAgg24
  z22 := Try.sizeOf24
  v22 := Try.zeroValue24
  a23 := Try.isAgg9
  z23 := Try.sizeOf9
  t25 := Try.underlying60
  a25 := Try.isAgg60
  z25 := Try.sizeOf60
  v25 := Try.zeroValue60 }
open Go.RowKit Go.Lib in
theorem Try.slices_IndexFunc {α : Type} [Inhabited α] (enc : α → Value) (p : α → Bool) (g : Nat) (lb : Array Value) (eg : ∀ args w, (callFunc g args).run Try.prog w = .ok (.enter g args) w) (b off n c : Nat) (zs : List α) (w : World) (hp : PredAt Try.prog g lb enc p w) (hz : n ≤ zs.length) (hbig : n ≤ 9223372036854775807) (hc : ∀ j, j < zs.length → w.cell? ⟨b, off + j, none⟩ = some (enc zs[j]!)) :
    Calls Try.prog 133 #[.slice (some ⟨b, off, none⟩) n c, .func (.func g) #[] lb] w fun e w' => e = .returned (.int .i64 (Lib.idxBy (fun _ y => p y) (zs.take n) default)) ∧ ∃ q, w' = w.drewN q := AnyE.slices_IndexFunc Try.laysSlH6_f133 enc p g lb eg b off n c zs w hp hz hbig hc
open Go.RowKit Go.Lib in
theorem Try.slices_IndexFunc_empty {α : Type} [Inhabited α] (a : Option Addr) (c : Nat) (fv : Value) (w : World) :
    Calls Try.prog 133 #[.slice a 0 c, fv] w fun e w' => e = .returned (.int .i64 (-1)) ∧ w' = w := AnyE.slices_IndexFunc_empty Try.laysSlH6_f133 a c fv w
def Try.laysSlH10_f98_ren : Go.Shelf.Ren := ⟨fun | 10 => 98 | 6 => 133 | n => n, fun | 22 => 24 | 23 => 9 | 25 => 60 | 3 => 3 | 4 => 4 | 0 => 0 | n => n, fun | n => n⟩
theorem Try.laysSlH10_f98 : Go.Proofs.SlLaysH.n10 Try.prog Try.laysSlH10_f98_ren := {
  mixed := by kernel_rfl
  f6 := ⟨Try.f133.name, by decide, Try.func133.trans (congrArg some (by kernel_rfl))⟩
  f10 := ⟨Try.f98.name, by decide, Try.func98.trans (congrArg some (by kernel_rfl))⟩
  t0 := Try.underlying0
  a0 := Try.isAgg0
  z0 := Try.sizeOf0
  v0 := Try.zeroValue0
  t3 := Try.underlying3
  a3 := Try.isAgg3
  z3 := Try.sizeOf3
  v3 := Try.zeroValue3
  t4 := Try.underlying4
  a4 := Try.isAgg4
  z4 := Try.sizeOf4
  v4 := Try.zeroValue4
  t22 := Try.underlying24
  a22 := Try.isAgg24
  z22 := Try.sizeOf24
  v22 := Try.zeroValue24
  a23 := Try.isAgg9
  z23 := Try.sizeOf9
  t25 := Try.underlying60
  a25 := Try.isAgg60
  z25 := Try.sizeOf60
  v25 := Try.zeroValue60 }
open Go.RowKit Go.Lib Go.Sort in
theorem Try.slices_DeleteFunc {α : Type} [Inhabited α] (enc : α → Value) (hO : OneCell enc) (p : α → Bool) (g : Nat) (lb : Array Value) (eg : ∀ args w, (callFunc g args).run Try.prog w = .ok (.enter g args) w) (zr : α) (v23 : ∀ w, (zeroValue 9).run Try.prog w = .ok (enc zr) w) (blk off cap : Nat) (d : Array α) (w : World) (hp : PredAt Try.prog g lb enc p w) (hpo : PredOver Try.prog g lb enc p blk off d.size w) (hH : Holds enc w blk off d) (hsz : d.size ≤ 9223372036854775807) (hcap : d.size ≤ cap) :
    Calls Try.prog 98 #[.slice (some ⟨blk, off, none⟩) d.size cap, .func (.func g) #[] lb] w fun e w' => e = .returned (.slice (some ⟨blk, off, none⟩) (d.toList.filter fun x => !p x).length cap) ∧ ∃ q, w' = putRow enc (Sort.ahead w q) blk off ((d.toList.filter fun x => !p x) ++ List.replicate (d.size - (d.toList.filter fun x => !p x).length) zr).toArray := AnyE.slices_DeleteFunc Try.laysSlH10_f98 enc hO p g lb eg zr v23 blk off cap d w hp hpo hH hsz hcap
end Go.Proofs

namespace Go.Proofs
open Go.Shelf
def Try.cloneB_ren : Go.Shelf.Ren := ⟨fun | 5 => 121 | 7 => 138 | n => n, fun | 23 => 70 | 25 => 9 | 3 => 4 | 4 => 4 | 20 => 20 | n => n, fun | n => n⟩
theorem Try.cloneB : Go.Proofs.SlLaysW.n5 Try.prog Try.cloneB_ren := {
  mixed := by kernel_rfl
  f5 := ⟨Try.f121.name, by decide, Try.func121.trans (congrArg some (by kernel_rfl))⟩
  f7 := Try.func138.trans (congrArg some (by kernel_rfl))
  t4 := Try.underlying4
  a4 := Try.isAgg4
  z4 := Try.sizeOf4
  v4 := Try.zeroValue4
  t20 := Try.underlying20
  a20 := Try.isAgg20
  z20 := Try.sizeOf20
  v20 := Try.zeroValue20
  t23 := Try.underlying70
  a23 := Try.isAgg70
  z23 := Try.sizeOf70
  v23 := Try.zeroValue70 }
def Try.delS_ren : Go.Shelf.Ren := ⟨fun | 10 => 98 | 6 => 133 | n => n, fun | 22 => 24 | 23 => 9 | 25 => 60 | 3 => 3 | 4 => 4 | 0 => 0 | n => n, fun | n => n⟩
theorem Try.delS : Go.Proofs.SlLaysH.n10 Try.prog Try.delS_ren := {
  mixed := by kernel_rfl
  f6 := ⟨Try.f133.name, by decide, Try.func133.trans (congrArg some (by kernel_rfl))⟩
  f10 := ⟨Try.f98.name, by decide, Try.func98.trans (congrArg some (by kernel_rfl))⟩
  t0 := Try.underlying0
  a0 := Try.isAgg0
  z0 := Try.sizeOf0
  v0 := Try.zeroValue0
  t3 := Try.underlying3
  a3 := Try.isAgg3
  z3 := Try.sizeOf3
  v3 := Try.zeroValue3
  t4 := Try.underlying4
  a4 := Try.isAgg4
  z4 := Try.sizeOf4
  v4 := Try.zeroValue4
  t22 := Try.underlying24
  a22 := Try.isAgg24
  z22 := Try.sizeOf24
  v22 := Try.zeroValue24
  a23 := Try.isAgg9
  z23 := Try.sizeOf9
  t25 := Try.underlying60
  a25 := Try.isAgg60
  z25 := Try.sizeOf60
  v25 := Try.zeroValue60 }
end Go.Proofs

namespace Go.Proofs.Ytilnjlcljjpnmaa
open Go.ChangeShapes Go.WideShapes Go.ChangeAt Go.RowKit Go.Joins

theorem markX_any (g n c : Nat) (f : Nat → Value) (w : World) (hn : n ≤ 100000000) (hC : Cells w g n f) (hstr : ∀ j, j < n → ∃ s, f j = .string s) :
    Calls Try.prog 29 #[.slice (some ⟨g, 0, none⟩) n c, .int .i64 1] w fun e w' => e = .returned (.int .i64 (1 + (n : Int))) ∧ Cells w' g n smarkF ∧ w.heap.size ≤ w'.heap.size ∧ (∀ B, B ≤ g → Below B w w') ∧ ∀ g' m f', g' ≠ g → Cells w g' m f' → Cells w' g' m f' := by
  have HC := Lib.hid hC
  have HSTR := Lib.hid hstr
  clear hC hstr
  have hgw := HC.out.lt
  go_enter Try.func29, Try.ntmps29
  go_wp2_with fail
  go_loopw [1, 5] (fun m i wr => ∃ k : Nat, k ≤ n ∧ i = .int .i64 k ∧ m = .int .i64 (1 + (k : Int)) ∧ Cells wr g n (fun j => if j < k then smarkF j else f j) ∧ w.heap.size ≤ wr.heap.size ∧ (∀ B, B ≤ g → Below B w wr) ∧ ∀ g' m f', g' ≠ g → Cells w g' m f' → Cells wr g' m f') (fun _ i _ => n - (intOf i).toNat)
  case atStart => exact ⟨0, by omega, rfl, rfl, HC.out.congr (fun j _ => by simp), Nat.le_refl _, fun B _ => Below.refl _ _, fun _ _ _ _ h => h⟩
  case round =>
    obtain ⟨k, hk, rfl, rfl, hCr, hz, hB, hK⟩ := hrel
    have HR := Lib.hid hCr
    have HB := Lib.hid hB
    have HK := Lib.hid hK
    clear hCr hB hK
    by_cases hlt : k < n
    · have HMT := Lib.hid (markText_any (k + 1) wr (by omega) (by omega))
      have hk1 : ((k + 1 : Nat) : Int) = 1 + (k : Int) := by omega
      rw [hk1] at HMT
      clear hk1
      obtain ⟨s, hs⟩ := HSTR.out k hlt
      go_wp2_with (go_at_call 73; refine HMT.out.mono ?_; rintro e w1 ⟨rfl, hb1⟩; have H3 := Lib.hid (HR.out.call hb1); have p1 := H3.out.cell hlt; have p2 := H3.out.frozen hlt; rw [if_neg (by omega), hs] at p1)
      have HW : Hid (Cells (w1.setCell ⟨g, k, none⟩ (.string (markB (k + 1)))) g n (fun j => if j < k + 1 then smarkF j else f j)) := Lib.hid (by
        refine (H3.out.set_ hlt (.string (markB (k + 1)))).congr (fun j hj => ?_)
        by_cases e1 : j = k
        · subst e1; rw [if_pos rfl, if_pos (by omega)]; rfl
        · rw [if_neg e1]
          by_cases e2 : j < k
          · rw [if_pos e2, if_pos (by omega)]
          · rw [if_neg e2, if_neg (by omega)])
      go_roundw
      case rel => exact ⟨k + 1, by omega, by go_num, congrArg (Value.int .i64) (by omega), HW.out, by rw [size_setCell]; have := hb1.size; omega, fun B h => ((HB.out B h).trans (hb1.mono (by omega))).setCell h _, fun g' m f' h1 h2 => ((HK.out g' m f' h1 h2).call hb1).far (Ne.symm h1) _⟩
      case measure => simp [intOf]; omega
    · go_wp2_with fail
      go_ret
      exact ⟨ret_int (by omega), HR.out.congr (fun j hj => by rw [if_pos (by omega)]), hz, HB.out, HK.out⟩

/-- A list of texts in a block between two bounds, or an empty one. -/
def LS (w : World) (lo hi : Nat) (A : Option Addr) (ts : List ByteArray) : Prop :=
  ts.length ≤ 100000000 ∧ (ts.length = 0 ∨ ∃ g, A = some ⟨g, 0, none⟩ ∧ lo ≤ g ∧ g < hi ∧ Cells w g ts.length (strF ts))

/-- Its marks. -/
def LSM (w : World) (lo hi : Nat) (A : Option Addr) (ts : List ByteArray) : Prop :=
  ts.length ≤ 100000000 ∧ (ts.length = 0 ∨ ∃ g, A = some ⟨g, 0, none⟩ ∧ lo ≤ g ∧ g < hi ∧ Cells w g ts.length smarkF)

theorem LS.of_own {w : World} {B : Nat} {A : Option Addr} {ts : List ByteArray} (h : OwnS w B A ts.length ts) : LS w B w.heap.size A ts :=
  ⟨h.2.1, h.2.2.imp id fun ⟨g, e, hg, hC⟩ => ⟨g, e, hg, hC.lt, hC⟩⟩

theorem LS.own {w : World} {lo hi : Nat} {A : Option Addr} {ts : List ByteArray} (h : LS w lo hi A ts) : OwnS w lo A ts.length ts :=
  ⟨rfl, h.1, h.2.imp id fun ⟨g, e, hg, _, hC⟩ => ⟨g, e, hg, hC⟩⟩

theorem LS.call {w w' : World} {lo hi : Nat} {A : Option Addr} {ts : List ByteArray} (h : LS w lo hi A ts) (hb : Below w.heap.size w w') : LS w' lo hi A ts :=
  ⟨h.1, h.2.imp id fun ⟨g, e, h1, h2, hC⟩ => ⟨g, e, h1, h2, hC.call hb⟩⟩

theorem LSM.call {w w' : World} {lo hi : Nat} {A : Option Addr} {ts : List ByteArray} (h : LSM w lo hi A ts) (hb : Below w.heap.size w w') : LSM w' lo hi A ts :=
  ⟨h.1, h.2.imp id fun ⟨g, e, h1, h2, hC⟩ => ⟨g, e, h1, h2, hC.call hb⟩⟩

theorem LS.below {w w' : World} {lo hi B : Nat} {A : Option Addr} {ts : List ByteArray} (h : LS w lo hi A ts) (hb : Below B w w') (hB : hi ≤ B) : LS w' lo hi A ts :=
  ⟨h.1, h.2.imp id fun ⟨g, e, h1, h2, hC⟩ => ⟨g, e, h1, h2, hC.below hb (by omega)⟩⟩

theorem LS.keep {w w' : World} {lo hi g0 : Nat} {A : Option Addr} {ts : List ByteArray} (h : LS w lo hi A ts) (hd : hi ≤ g0 ∨ g0 < lo) (hk : ∀ g' m f', g' ≠ g0 → Cells w g' m f' → Cells w' g' m f') : LS w' lo hi A ts :=
  ⟨h.1, h.2.imp id fun ⟨g, e, h1, h2, hC⟩ => ⟨g, e, h1, h2, hk _ _ _ (by omega) hC⟩⟩

theorem eqLS_any (A1 A2 : Option Addr) (c1 c2 lo1 hi1 lo2 hi2 : Nat) (ts : List ByteArray) (w : World) (h1 : LS w lo1 hi1 A1 ts) (h2 : LS w lo2 hi2 A2 ts) :
    Calls Try.prog 23 #[.slice A1 ts.length c1, .slice A2 ts.length c2] w fun e w' => e = .returned (.bool true) ∧ Below w.heap.size w w' :=
  eqStringS_gen A1 A2 ts.length c1 c2 lo1 lo2 ts w h1.own h2.own

theorem markLS_any (A : Option Addr) (c lo hi : Nat) (ts : List ByteArray) (w : World) (h : LS w lo hi A ts) :
    Calls Try.prog 29 #[.slice A ts.length c, .int .i64 1] w fun e w' => e = .returned (.int .i64 (1 + (ts.length : Int))) ∧ LSM w' lo hi A ts ∧ w.heap.size ≤ w'.heap.size ∧ ∀ B, B ≤ lo → Below B w w' := by
  rcases h with ⟨h0, h | ⟨g, rfl, h1, h2, hC⟩⟩
  · rw [h]
    refine (smark_zero A c w).mono ?_
    rintro e w' ⟨rfl, rfl⟩
    exact ⟨rfl, ⟨h0, .inl h⟩, Nat.le_refl _, fun B _ => Below.refl _ _⟩
  · refine (markStringS_any g ts.length c _ w h0 hC (fun j _ => ⟨_, rfl⟩)).mono ?_
    rintro e w' ⟨rfl, hM, hz, hB⟩
    exact ⟨rfl, ⟨h0, .inr ⟨g, rfl, h1, h2, hM⟩⟩, hz, fun B hB' => hB B (by omega)⟩

theorem heldLS_any (A : Option Addr) (c lo hi : Nat) (ts : List ByteArray) (w : World) (h : LSM w lo hi A ts) :
    Calls Try.prog 48 #[.slice A ts.length c, .int .i64 1] w fun e w' => e = .returned (.int .i64 (1 + (ts.length : Int))) ∧ Below w.heap.size w w' := by
  rcases h with ⟨h0, h | ⟨g, rfl, h1, h2, hC⟩⟩
  · rw [h]
    refine (sheld_zero A c w).mono ?_
    rintro e w' ⟨rfl, rfl⟩
    exact ⟨rfl, Below.refl _ _⟩
  · exact heldStringS_any g ts.length c w h0 hC

end Go.Proofs.Ytilnjlcljjpnmaa

namespace Go.Proofs.Ytilnjlcljjpnmaa
open Go.ChangeShapes Go.WideShapes Go.ChangeAt Go.RowKit Go.Joins

/-- In order, each one once. -/
def Rising (l : List (List UInt8)) : Prop := l.Pairwise (· < ·)

theorem lt_irr (x : List UInt8) : ¬ x < x := List.lt_irrefl x

theorem lt_tr {x y z : List UInt8} (h : x < y) (g : y < z) : x < z := List.lt_trans h g

theorem lt_or {x y : List UInt8} (h : ¬ x < y) (g : x ≠ y) : y < x := by
  have h1 : y ≤ x := List.not_lt.1 h
  rcases Classical.em (y < x) with h2 | h2
  · exact h2
  · exact absurd (List.le_antisymm (List.not_lt.1 h2) h1) g

theorem rising_eq : ∀ (l m : List (List UInt8)), Rising l → Rising m → (∀ x, x ∈ l ↔ x ∈ m) → l = m
  | [], [], _, _, _ => rfl
  | [], y :: m, _, _, h => absurd ((h y).2 List.mem_cons_self) (by simp)
  | x :: l, [], _, _, h => absurd ((h x).1 List.mem_cons_self) (by simp)
  | x :: l, y :: m, hl, hm, h => by
    unfold Rising at hl hm
    rw [List.pairwise_cons] at hl hm
    have hxy : x = y := by
      rcases List.mem_cons.1 ((h x).1 List.mem_cons_self) with e | e
      · exact e
      · rcases List.mem_cons.1 ((h y).2 List.mem_cons_self) with f | f
        · exact f.symm
        · exact absurd (lt_tr (hm.1 x e) (hl.1 y f)) (lt_irr _)
    subst hxy
    rw [rising_eq l m hl.2 hm.2 (fun z => ?_)]
    constructor
    · intro hz
      rcases List.mem_cons.1 ((h z).1 (List.mem_cons_of_mem _ hz)) with e | e
      · subst e; exact absurd (hl.1 z hz) (lt_irr _)
      · exact e
    · intro hz
      rcases List.mem_cons.1 ((h z).2 (List.mem_cons_of_mem _ hz)) with e | e
      · subst e; exact absurd (hm.1 z hz) (lt_irr _)
      · exact e

theorem compact_part (zs : List (List UInt8)) (hs : zs.Pairwise (· ≤ ·)) : ∀ m, m ≤ zs.length →
    Rising (Lib.compactUpTo zs.toArray m) ∧ (∀ x, x ∈ Lib.compactUpTo zs.toArray m ↔ x ∈ zs.take m) ∧ (∀ x, x ∈ Lib.compactUpTo zs.toArray m → 0 < m ∧ x ≤ zs[m - 1]!)
  | 0, _ => by
    refine ⟨by simp [Rising, Lib.compactUpTo], by simp [Lib.compactUpTo], by simp [Lib.compactUpTo]⟩
  | m + 1, hm => by
    obtain ⟨h1, h2, h3⟩ := compact_part zs hs m (by omega)
    have hget : zs.toArray[m]! = zs[m] := by simp [getElem!_pos, show m < zs.length by omega]
    have hget' : zs[m]! = zs[m] := by simp [getElem!_pos, show m < zs.length by omega]
    have htk : zs.take (m + 1) = zs.take m ++ [zs[m]] := List.take_succ_eq_append_getElem (by omega)
    have hle : 0 < m → zs[m - 1]! ≤ zs[m] := fun h0 => by
      rw [getElem!_pos zs (m - 1) (by omega)]
      exact List.pairwise_iff_getElem.1 hs (m - 1) m (by omega) (by omega) (by omega)
    rw [Lib.compactUpTo_succ, hget, htk]
    by_cases hk : Lib.keeps zs.toArray m = true
    · rw [if_pos hk]
      have hlt : ∀ x, x ∈ Lib.compactUpTo zs.toArray m → x < zs[m] := fun x hx => by
        obtain ⟨h0, hx'⟩ := h3 x hx
        have hne : zs[m] ≠ zs[m - 1]! := by
          unfold Lib.keeps at hk
          have := of_decide_eq_true hk
          rcases this with e | e
          · omega
          · rw [hget] at e
            intro e2; apply e; rw [e2]; simp [getElem!_pos, show m - 1 < zs.length by omega]
        have h4 : zs[m - 1]! < zs[m] := lt_or (List.not_lt.2 (hle h0)) hne
        exact List.lt_of_le_of_lt hx' h4
      refine ⟨?_, ?_, ?_⟩
      · unfold Rising
        rw [List.pairwise_append]
        exact ⟨h1, List.pairwise_singleton _ _, fun x hx y hy => by rw [List.mem_singleton.1 hy]; exact hlt x hx⟩
      · intro x; rw [List.mem_append, List.mem_append, h2]
      · intro x hx
        refine ⟨by omega, ?_⟩
        rw [Nat.add_sub_cancel, hget']
        rcases List.mem_append.1 hx with h | h
        · exact List.le_of_lt (hlt x h)
        · rw [List.mem_singleton.1 h]; exact List.le_refl _
    · rw [if_neg hk, List.append_nil]
      have hm0 : 0 < m := by
        rcases Nat.eq_zero_or_pos m with h | h
        · subst h; exact absurd (by simp [Lib.keeps]) hk
        · exact h
      have he : zs[m] = zs[m - 1]! := by
        rcases Classical.em (zs[m] = zs[m - 1]!) with h | h
        · exact h
        · refine absurd ?_ hk
          unfold Lib.keeps
          refine decide_eq_true (.inr ?_)
          rw [hget]
          intro e2; apply h; rw [e2]; simp [getElem!_pos, show m - 1 < zs.length by omega]
      refine ⟨h1, fun x => ?_, fun x hx => ⟨by omega, ?_⟩⟩
      · rw [List.mem_append, h2, List.mem_singleton]
        refine ⟨.inl, fun h => h.elim id fun e => ?_⟩
        rw [e, he, getElem!_pos zs (m - 1) (by omega)]
        exact List.mem_take_iff_getElem.2 ⟨m - 1, by omega, rfl⟩
      · rw [Nat.add_sub_cancel, hget', he]
        exact (h3 x hx).2

/-- What sorting and compacting leave. -/
def tidy (ss : List (List UInt8)) : List (List UInt8) := Lib.compact (ss.mergeSort fun x y => decide (x ≤ y))

theorem tidy_rising (ss : List (List UInt8)) : Rising (tidy ss) := by
  have hs : (ss.mergeSort fun x y => decide (x ≤ y)).Pairwise (· ≤ ·) := by
    refine (List.pairwise_mergeSort (le := fun x y => decide (x ≤ y)) (fun x y z h1 h2 => ?_) (fun x y => ?_) ss).imp (fun h => of_decide_eq_true h)
    · exact decide_eq_true (List.le_trans (of_decide_eq_true h1) (of_decide_eq_true h2))
    · have := List.le_total x y
      simpa using this
  exact (compact_part _ hs _ (Nat.le_refl _)).1

theorem tidy_mem (ss : List (List UInt8)) (x : List UInt8) : x ∈ tidy ss ↔ x ∈ ss := by
  have hs : (ss.mergeSort fun x y => decide (x ≤ y)).Pairwise (· ≤ ·) := by
    refine (List.pairwise_mergeSort (le := fun x y => decide (x ≤ y)) (fun x y z h1 h2 => ?_) (fun x y => ?_) ss).imp (fun h => of_decide_eq_true h)
    · exact decide_eq_true (List.le_trans (of_decide_eq_true h1) (of_decide_eq_true h2))
    · have := List.le_total x y
      simpa using this
  rw [tidy, Lib.compact, (compact_part _ hs _ (Nat.le_refl _)).2.1, List.take_length]
  exact List.mem_mergeSort

theorem tidy_le (ss : List (List UInt8)) : (tidy ss).length ≤ ss.length := by
  have := Lib.compact_length_le (ss.mergeSort fun x y => decide (x ≤ y))
  rw [List.length_mergeSort] at this
  exact this

/-- Put in where it belongs. -/
theorem put_in {R : List (List UInt8)} {x : List UInt8} {k : Nat} (hR : Rising R) (hk : k ≤ R.length) (hlow : ∀ j (h : j < k), R[j] < x) (hhigh : ∀ h : k < R.length, ¬ R[k] < x ∧ R[k] ≠ x) :
    Rising (R.take k ++ [x] ++ R.drop k) ∧ ∀ y, y ∈ R.take k ++ [x] ++ R.drop k ↔ y ∈ R ∨ y = x := by
  unfold Rising at hR ⊢
  have hsp := List.take_append_drop k R
  have hp := hR
  rw [← hsp, List.pairwise_append] at hp
  have hlo : ∀ y, y ∈ R.take k → y < x := fun y hy => by
    obtain ⟨j, hj, rfl⟩ := List.mem_take_iff_getElem.1 hy
    exact hlow j (by omega)
  have hhi : ∀ y, y ∈ R.drop k → x < y := fun y hy => by
    obtain ⟨j, hj, rfl⟩ := List.mem_iff_getElem.1 hy
    rw [List.length_drop] at hj
    rw [List.getElem_drop]
    have hx : x < R[k] := lt_or (hhigh (by omega)).1 (hhigh (by omega)).2
    rcases Nat.eq_zero_or_pos j with h0 | h0
    · subst h0; exact hx
    · exact lt_tr hx (List.pairwise_iff_getElem.1 hR k (k + j) (by omega) (by omega) (by omega))
  refine ⟨?_, fun y => ?_⟩
  · rw [List.append_assoc, List.pairwise_append, List.pairwise_append]
    refine ⟨hp.1, ⟨List.pairwise_singleton _ _, hp.2.1, fun a ha b hb => by rw [List.mem_singleton.1 ha]; exact hhi b hb⟩, fun a ha b hb => ?_⟩
    rcases List.mem_append.1 hb with h | h
    · rw [List.mem_singleton.1 h]; exact hlo a ha
    · exact lt_tr (hlo a ha) (hhi b h)
  · have hm : y ∈ R ↔ y ∈ R.take k ∨ y ∈ R.drop k := by rw [← List.mem_append, hsp]
    rw [hm, List.mem_append, List.mem_append, List.mem_singleton]
    constructor
    · rintro ((h | h) | h)
      · exact .inl (.inl h)
      · exact .inr h
      · exact .inl (.inr h)
    · rintro ((h | h) | h)
      · exact .inl (.inl h)
      · exact .inr h
      · exact .inl (.inr h)

/-- The bytes of texts. -/
def keyL (ts : List ByteArray) : List (List UInt8) := ts.map (·.data.toList)

def ofKey (l : List (List UInt8)) : List ByteArray := l.map fun x => ⟨x.toArray⟩

theorem keyL_ofKey (l : List (List UInt8)) : keyL (ofKey l) = l := by
  unfold keyL ofKey
  rw [List.map_map]
  exact (List.map_congr_left (fun x _ => by simp)).trans (List.map_id l)

theorem ofKey_keyL (ts : List ByteArray) : ofKey (keyL ts) = ts := by
  unfold keyL ofKey
  rw [List.map_map]
  exact (List.map_congr_left (fun x _ => by simp)).trans (List.map_id ts)

theorem sv_key (ts : List ByteArray) : sv ts = (keyL ts).map encStr := (Lib.map_encStr ts).symm

theorem sv_ofKey (l : List (List UInt8)) : sv (ofKey l) = l.map encStr := by rw [sv_key, keyL_ofKey]

open Go.Sort in
/-- The end of the program's list: what the two contracts leave. -/
theorem tidied {B : Nat} {w0 w1 : World} {base g cap n nn q : Nat} {e : TypeId} {os : Array Obj} {ss : List (List UInt8)} (hown : w1.ownsRow base e 1 (.slice (some ⟨g, 0, none⟩) n cap) n (ss.map encStr)) (hbel : Below B w0 w1) (hB : B ≤ base) (hbg : base ≤ g) (hlen : ss.length = n) :
    (putRow encStr (Sort.ahead (Sort.grow (putRow encStr (Sort.ahead w1 nn) g 0 (ss.mergeSort fun x y => decide (x ≤ y)).toArray) os) q) g 0 (Lib.compact (ss.mergeSort fun x y => decide (x ≤ y)) ++ List.replicate (n - (Lib.compact (ss.mergeSort fun x y => decide (x ≤ y))).length) []).toArray).ownsRow base e 1 (.slice (some ⟨g, 0, none⟩) (tidy ss).length cap) (tidy ss).length ((tidy ss).map encStr) ∧
    Below B w0 (putRow encStr (Sort.ahead (Sort.grow (putRow encStr (Sort.ahead w1 nn) g 0 (ss.mergeSort fun x y => decide (x ≤ y)).toArray) os) q) g 0 (Lib.compact (ss.mergeSort fun x y => decide (x ≤ y)) ++ List.replicate (n - (Lib.compact (ss.mergeSort fun x y => decide (x ≤ y))).length) []).toArray) := by
  have hl2 : (ss.mergeSort fun x y => decide (x ≤ y)).length = ss.length := List.length_mergeSort ss
  have hle := Lib.compact_length_le (ss.mergeSort fun x y => decide (x ≤ y))
  subst hlen
  unfold tidy
  rcases hown.2 with ⟨h0, _⟩ | ⟨g', cap', cur, hv, hbase, hb, h1, h2, h3, h4⟩
  · cases h0
  cases hv
  have hs := ownsRow_sorted (n := nn) (os := os) (ts := ss.mergeSort fun x y => decide (x ≤ y)) hl2 hbase hb h1 h2 h3
  have hc := Lib.ownsRow_putRow (q := q) (k := (Lib.compact (ss.mergeSort fun x y => decide (x ≤ y))).length) (ys := Lib.compact (ss.mergeSort fun x y => decide (x ≤ y)) ++ List.replicate (ss.length - (Lib.compact (ss.mergeSort fun x y => decide (x ≤ y))).length) []) hs (by simp; omega) (by omega)
  rw [List.take_left] at hc
  exact ⟨hc, Lib.below_putRow (hbel.grown (grownBy_sorted _) (Nat.le_trans hB (Nat.le_trans hbase (Nat.le_of_lt (Array.getElem?_eq_some_iff.1 hb).1))) (fun j hj => by cases hj; exact Nat.le_trans hB hbase)) (Nat.le_trans hB hbg)⟩

end Go.Proofs.Ytilnjlcljjpnmaa

namespace Go.Proofs.Ytilnjlcljjpnmaa
open Go.ChangeShapes Go.WideShapes Go.ChangeAt Go.RowKit Go.Joins

theorem argS_non (w : World) : ArgS w none 0 [] := ⟨rfl, .inl rfl, fun k hk => by omega⟩

theorem mzB_non (a b : Int) (ts : List ByteArray) : mzB a b ts [] = areZ a b ts := by unfold mzB; simp

/-- The code behind so many steps. -/
def yW (b : Int) (s : ByteArray) (P : List Nat) : Nat → ByteArray
  | 0 => s
  | i + 1 => mvW b (yW b s P i) (P.getD i 0)

/-- The first way, and its codes. -/
structure Way (a b : Int) (ts : List ByteArray) (s t : ByteArray) (P : List Nat) (d : Nat) : Prop where
  len : P.length = d
  al_s : alB a b ts s = true
  al_t : alB a b ts t = true
  step : ∀ i, i < d → P.getD i 0 < 2 * a.toNat
  at_ : ∀ i, i ≤ d → askB a b (yW b s P i) = true ∧ 0 < wyA a b (alB a b ts) t (d - i) (yW b s P i)
  rest : ∀ i, i ≤ d → P.drop i = ptW a b (alB a b ts) t (d - i) (yW b s P i)

theorem way_of {a b : Int} {ts : List ByteArray} {s t : ByteArray} {d : Nat} (hs : alB a b ts s = true) (ht : alB a b ts t = true) (hd : 0 < wyA a b (alB a b ts) t d s) : Way a b ts s t (ptW a b (alB a b ts) t d s) d := by
  obtain ⟨P, hP⟩ : ∃ P, ptW a b (alB a b ts) t d s = P := ⟨_, rfl⟩
  have hl : P.length = d := by rw [← hP, ptW_length]
  have key : ∀ i, i ≤ d → (askB a b (yW b s P i) = true ∧ 0 < wyA a b (alB a b ts) t (d - i) (yW b s P i)) ∧ P.drop i = ptW a b (alB a b ts) t (d - i) (yW b s P i) ∧ ∀ j, j < i → P.getD j 0 < 2 * a.toNat := by
    intro i
    induction i with
    | zero => exact fun _ => ⟨⟨alB_ask hs, hd⟩, by rw [List.drop_zero, Nat.sub_zero]; exact hP.symm, fun j hj => by omega⟩
    | succ i ih =>
      intro hi
      obtain ⟨⟨h1, h2⟩, h3, h4⟩ := ih (by omega)
      obtain ⟨k, hk⟩ : ∃ k, d - i = k + 1 := ⟨d - i - 1, by omega⟩
      have hk2 : d - (i + 1) = k := by omega
      rw [hk] at h2 h3
      rw [ptW_succ] at h3
      obtain ⟨f1, f2, _⟩ := fsJ_yes h1 h2
      obtain ⟨_, r2, r3⟩ := drop_cons h3 0
      have e : yW b s P (i + 1) = mvW b (yW b s P i) (fsJ a b (alB a b ts) t k (yW b s P i)) := by
        show mvW b (yW b s P i) (P.getD i 0) = _
        rw [r2]
      rw [hk2, e]
      refine ⟨⟨mvW_ask h1 f1, f2⟩, r3, fun j hj => ?_⟩
      by_cases e2 : j = i
      · rw [e2, r2]; exact f1
      · exact h4 j (by omega)
  rw [hP]
  exact ⟨hl, hs, ht, (key d (Nat.le_refl _)).2.2, fun i hi => (key i hi).1, fun i hi => (key i hi).2.1⟩

theorem Way.alive {a b : Int} {ts : List ByteArray} {s t : ByteArray} {P : List Nat} {d : Nat} (h : Way a b ts s t P d) {i : Nat} (hi : i ≤ d) : alB a b ts (yW b s P i) = true := wy_alive h.al_t (h.at_ i hi).2

theorem Way.inj {a b : Int} {ts : List ByteArray} {s t : ByteArray} {P : List Nat} {d : Nat} (h : Way a b ts s t P d) {i j : Nat} (hi : i ≤ d) (hj : j ≤ d) (e : yW b s P i = yW b s P j) : i = j := by
  have h1 := (h.at_ i hi).2
  have h2 := (h.at_ j hj).2
  rw [e] at h1
  have := wy_one h1 h2
  omega

theorem Way.last {a b : Int} {ts : List ByteArray} {s t : ByteArray} {P : List Nat} {d : Nat} (h : Way a b ts s t P d) : yW b s P d = t := by
  have h1 := (h.at_ d (Nat.le_refl _)).2
  rw [Nat.sub_self] at h1
  change 0 < (if yW b s P d = t then 1 else 0) at h1
  by_cases e : yW b s P d = t
  · exact e
  · rw [if_neg e] at h1; omega

/-- Each way has the code. -/
def cutB (a b : Int) (ts : List ByteArray) (s t c : ByteArray) : Bool := !rcB a b (c :: ts) s t

def neB (a b : Int) (ts : List ByteArray) (s t c : ByteArray) : Bool := alB a b ts c && !decide (c = s) && !decide (c = t) && cutB a b ts s t c

theorem Way.cut {a b : Int} {ts : List ByteArray} {s t : ByteArray} {P : List Nat} {d : Nat} (h : Way a b ts s t P d) {c : ByteArray} (hc : ∀ i, i ≤ d → yW b s P i ≠ c) : cutB a b ts s t c = false := by
  have hal : ∀ i, i ≤ d → alB a b (c :: ts) (yW b s P i) = true := fun i hi => by
    rw [alB_cons, h.alive hi, decide_eq_false (hc i hi)]; rfl
  have hd : ∀ i, i ≤ d → Dst (mvW b) (2 * a.toNat) (alB a b (c :: ts)) s i (yW b s P i) := fun i => by
    induction i with
    | zero => exact fun _ => .here
    | succ i ih => exact fun hi => .step (ih (by omega)) (h.step i (by omega)) (hal (i + 1) hi)
  unfold cutB
  rw [Bool.not_eq_false']
  have h0 : alB a b (c :: ts) s = true := hal 0 (Nat.zero_le _)
  have := hd d (Nat.le_refl _)
  rw [h.last] at this
  exact (rcB_dst h0 (alB_ask h.al_t)).2 ⟨d, this⟩

/-- The needed codes are those of the way that cut. -/
theorem Way.needed {a b : Int} {ts : List ByteArray} {s t : ByteArray} {P : List Nat} {d : Nat} (h : Way a b ts s t P d) (c : ByteArray) : neB a b ts s t c = true ↔ ∃ i, 0 < i ∧ i < d ∧ yW b s P i = c ∧ cutB a b ts s t c = true := by
  unfold neB
  rw [Bool.and_eq_true, Bool.and_eq_true, Bool.and_eq_true, Bool.not_eq_true', Bool.not_eq_true', decide_eq_false_iff_not, decide_eq_false_iff_not]
  constructor
  · rintro ⟨⟨⟨h1, h2⟩, h3⟩, h4⟩
    by_cases e : ∃ i, i ≤ d ∧ yW b s P i = c
    · obtain ⟨i, hi, e⟩ := e
      refine ⟨i, ?_, ?_, e, h4⟩
      · rcases Nat.eq_zero_or_pos i with h0 | h0
        · subst h0; exact absurd e.symm h2
        · exact h0
      · rcases Nat.lt_or_ge i d with h0 | h0
        · exact h0
        · obtain rfl : i = d := by omega
          rw [h.last] at e
          exact absurd e.symm h3
    · have := h.cut (c := c) fun i hi h' => e ⟨i, hi, h'⟩
      rw [this] at h4; cases h4
  · rintro ⟨i, h0, hi, rfl, h4⟩
    refine ⟨⟨⟨h.alive (by omega), fun e => ?_⟩, fun e => ?_⟩, h4⟩
    · have := h.inj (i := i) (j := 0) (by omega) (by omega) e
      omega
    · have := h.inj (i := i) (j := d) (by omega) (by omega) (by rw [h.last]; exact e)
      omega

/-- The needed codes that the first steps meet. -/
def pgL (a b : Int) (ts : List ByteArray) (s t : ByteArray) (P : List Nat) (k : Nat) : List ByteArray := ((List.range k).filter fun i => decide (0 < i) && cutB a b ts s t (yW b s P i)).map (yW b s P)

theorem pgL_one (a b : Int) (ts : List ByteArray) (s t : ByteArray) (P : List Nat) : pgL a b ts s t P 1 = [] := by
  unfold pgL
  rw [List.map_eq_nil_iff, List.filter_eq_nil_iff]
  intro i hi
  have := List.mem_range.1 hi
  obtain rfl : i = 0 := by omega
  simp

theorem pgL_succ (a b : Int) (ts : List ByteArray) (s t : ByteArray) (P : List Nat) {k : Nat} (hk : 0 < k) : pgL a b ts s t P (k + 1) = pgL a b ts s t P k ++ if cutB a b ts s t (yW b s P k) then [yW b s P k] else [] := by
  unfold pgL
  rw [List.range_succ, List.filter_append, List.map_append]
  congr 1
  rw [List.filter_cons, decide_eq_true hk, Bool.true_and]
  cases cutB a b ts s t (yW b s P k) <;> rfl

theorem pgL_le (a b : Int) (ts : List ByteArray) (s t : ByteArray) (P : List Nat) (k : Nat) : (pgL a b ts s t P k).length ≤ k := by
  unfold pgL
  rw [List.length_map]
  have := List.length_filter_le (fun i => decide (0 < i) && cutB a b ts s t (yW b s P i)) (List.range k)
  rwa [List.length_range] at this

theorem Way.pg_mem {a b : Int} {ts : List ByteArray} {s t : ByteArray} {P : List Nat} {d : Nat} (h : Way a b ts s t P d) (c : ByteArray) : c ∈ pgL a b ts s t P d ↔ neB a b ts s t c = true := by
  rw [h.needed]
  unfold pgL
  rw [List.mem_map]
  constructor
  · rintro ⟨i, hi, rfl⟩
    rw [List.mem_filter, List.mem_range, Bool.and_eq_true, decide_eq_true_iff] at hi
    exact ⟨i, hi.2.1, hi.1, rfl, hi.2.2⟩
  · rintro ⟨i, h0, h1, rfl, h2⟩
    exact ⟨i, List.mem_filter.2 ⟨List.mem_range.2 h1, by rw [Bool.and_eq_true, decide_eq_true_iff]; exact ⟨h0, h2⟩⟩, rfl⟩

theorem Way.pg_nodup {a b : Int} {ts : List ByteArray} {s t : ByteArray} {P : List Nat} {d : Nat} (h : Way a b ts s t P d) : (pgL a b ts s t P d).Nodup := by
  unfold pgL
  refine nodup_on (List.nodup_range.filter _) fun x hx y hy e => h.inj ?_ ?_ e
  · have := List.mem_range.1 (List.mem_filter.1 hx).1; omega
  · have := List.mem_range.1 (List.mem_filter.1 hy).1; omega

/-- The needed codes, in order. -/
def neL (a b : Int) (ts : List ByteArray) (s t : ByteArray) : List ByteArray := if faB a b ts s t then ((List.range (cnN a b)).map (cdN a b)).filter (neB a b ts s t) else []

theorem neB_ask {a b : Int} {ts : List ByteArray} {s t c : ByteArray} (h : neB a b ts s t c = true) : askB a b c = true := by
  unfold neB at h
  rw [Bool.and_eq_true, Bool.and_eq_true, Bool.and_eq_true] at h
  exact alB_ask h.1.1.1

theorem neL_mem {a b : Int} {ts : List ByteArray} {s t : ByteArray} (h : faB a b ts s t = true) (c : ByteArray) : c ∈ neL a b ts s t ↔ neB a b ts s t c = true := by
  unfold neL
  rw [if_pos h, List.mem_filter, List.mem_map]
  refine ⟨fun h => h.2, fun h => ⟨⟨nuN a b c, List.mem_range.2 (nuN_lt (neB_ask h)), cd_nu (neB_ask h)⟩, h⟩⟩

theorem bytes_lt {x y : ByteArray} (h : Op.bytesLess x.toList y.toList = true) : x.data.toList < y.data.toList := by
  rw [ByteArray.toList_eq, ByteArray.toList_eq, bytesLess_eq] at h
  exact of_decide_eq_true h

theorem neL_rising {a b : Int} {ts : List ByteArray} {s t : ByteArray} (hg : goodB a b = true) : ((neL a b ts s t).map (·.data.toList)).Pairwise (· < ·) := by
  unfold neL
  split
  · rw [List.pairwise_map]
    refine List.Pairwise.filter _ ?_
    rw [List.pairwise_map]
    refine List.pairwise_iff_getElem.2 fun i j hi hj hij => ?_
    rw [List.length_range] at hi hj
    rw [List.getElem_range, List.getElem_range]
    refine bytes_lt ?_
    rw [less_nu (cd_ask hg) (cd_ask hg), nu_cd hg hi, nu_cd hg hj]
    exact decide_eq_true hij
  · exact List.Pairwise.nil

set_option maxRecDepth 100000 in
set_option maxHeartbeats 2000000 in
theorem walkA_any (a b : Int) (B : Nat) (al : ByteArray → Bool) (Y : Nat → ByteArray) (U : Option Addr) (m d : Nat) (us : List (Int × Int)) (w : World) (hL : LiveM w B al) (hm : m ≤ 1048576) (hU : ArgT w U m us) (hask : ∀ i, i ≤ m → askB a b (Y i) = true)
    (htw : ∀ i, i < m → twZ a b (Y i) [us.getD i (0, 0)] = Y (i + 1)) (hal : ∀ i, i < m → al (Y (i + 1)) = true) :
    Calls Try.prog 88 #[mzV a b (.map (some B)), .string (Y 0), .slice U m d] w fun e w' => e = .returned (.tuple #[.string (Y m), .int .i64 ((m : Nat) : Int)]) ∧ Below w.heap.size w w' := by
  have HL := Lib.hid hL
  have HASK := Lib.hid hask
  have HTWA := Lib.hid htw
  have HALA := Lib.hid hal
  have HU := Lib.hid hU
  have C0 := Lib.hid (show Cells (w.alloc (.cells #[.int .i64 a, .int .i64 b, .map (some B)] 72)) w.heap.size 3 (m3F a b (.map (some B))) from m3_new rfl)
  have X0 := Lib.hid (show Below w.heap.size w (w.alloc (.cells #[.int .i64 a, .int .i64 b, .map (some B)] 72)) from (Below.refl _ _).alloc (Nat.le_refl _) _)
  clear hL hask htw hal hU
  unfold mzV
  go_enter Try.func88, Try.ntmps88
  go_wp2_with fail
  go_loopw [8, 16] (fun v i wr => ∃ k : Nat, k ≤ m ∧ i = .int .i64 k ∧ v = .string (Y k) ∧ Cells wr w.heap.size 3 (m3F a b (.map (some B))) ∧ Below w.heap.size w wr) (fun _ i _ => m - (intOf i).toNat)
  case atStart => exact ⟨0, by omega, rfl, rfl, C0.out, X0.out⟩
  case round =>
    clear C0 X0
    obtain ⟨k, hk, rfl, rfl, hC, hB⟩ := hrel
    have HC := Lib.hid hC
    have HB := Lib.hid hB
    have HX := Lib.hid (HASK.out k hk)
    clear hC hB
    by_cases hlt : k < m
    · obtain ⟨D, off, rfl, hbD, hcD⟩ := HU.out.at_.resolve_left (by omega)
      have o1 : wr.cell? ⟨D, off + k * 2, none⟩ = some (.int .i64 (us.getD k (0, 0)).1) := (HB.out.cell (p := ⟨D, off + k * 2, none⟩) hbD).trans (hcD k hlt).1
      have o2 : wr.cell? ⟨D, off + k * 2 + 1, none⟩ = some (.int .i64 (us.getD k (0, 0)).2) := (HB.out.cell (p := ⟨D, off + k * 2 + 1, none⟩) hbD).trans (hcD k hlt).2
      have HY := Lib.hid (HASK.out (k + 1) (by omega))
      have HTW : Hid (twZ a b (Y k) [((us.getD k (0, 0)).1, (us.getD k (0, 0)).2)] = Y (k + 1)) := Lib.hid (HTWA.out k hlt)
      have HUU := Lib.hid (HALA.out k hlt)
      clear hcD
      generalize (us.getD k (0, 0)).1 = x at o1 HTW
      generalize (us.getD k (0, 0)).2 = y at o2 HTW
      generalize Y k = p at HX HTW
      obtain ⟨q, hq⟩ : ∃ q, Y (k + 1) = q := ⟨_, rfl⟩
      have HQ := Lib.hid hq
      rw [hq] at HY HTW HUU
      have CN := Lib.hid (HC.out.alloc (.cells #[.int .i64 x, .int .i64 y] 68))
      have XN := Lib.hid (HB.out.alloc HB.out.size (.cells #[.int .i64 x, .int .i64 y] 68))
      have l0 : (wr.alloc (.cells #[.int .i64 x, .int .i64 y] 68)).cell? ⟨w.heap.size, 0, none⟩ = some (.int .i64 a) := CN.out.cell (show 0 < 3 by omega)
      have l1 : (wr.alloc (.cells #[.int .i64 x, .int .i64 y] 68)).cell? ⟨w.heap.size, 1, none⟩ = some (.int .i64 b) := CN.out.cell (show 1 < 3 by omega)
      clear hq
      go_wp2_with (go_at_call 113; refine (turnWheel_any _ _ _ _ _ _ (askB_size HX.out)).mono ?_; rw [HTW.out]; rintro e w3 ⟨rfl, hb3⟩; have X3 := Lib.hid (bel_call XN.out hb3); have C3 := Lib.hid (CN.out.call hb3); have m2 : w3.cell? ⟨w.heap.size, 2, none⟩ = some (.map (some B)) := C3.out.cell (show 2 < 3 by omega); have HLK := (HL.out.call X3.out).look (askB_size HY.out) HUU.out; clear hb3)
      go_roundw
      case rel => exact ⟨k + 1, by omega, by go_num, by rw [HQ.out], C3.out, X3.out⟩
      case measure => simp [intOf]; omega
    · obtain rfl : k = m := by omega
      go_wp2_with fail
      go_ret2
      exact ⟨rfl, HB.out⟩

end Go.Proofs.Ytilnjlcljjpnmaa

namespace Go.Proofs.Ytilnjlcljjpnmaa
open Go.ChangeShapes Go.WideShapes Go.ChangeAt Go.RowKit Go.Joins

theorem sv_news {w : World} {b off n : Nat} {ts : List ByteArray} (hl : ts.length = n) (h : ∀ k, k < n → w.cell? ⟨b, off + k, none⟩ = some (.string (ts.getD k ByteArray.empty))) : ∀ j u, (sv ts)[j]? = some u → w.cell? ((⟨b, off, none⟩ : Addr).add j) = some u := by
  intro j u hu
  have hj : j < n := by
    have := (List.getElem?_eq_some_iff.1 hu).1
    simp [sv] at this; omega
  have ha : (⟨b, off, none⟩ : Addr).add j = ⟨b, off + j, none⟩ := by unfold Addr.add; split <;> simp_all
  rw [ha, h j hj, ← hu]
  simp [sv, List.getD, List.getElem?_eq_getElem (show j < ts.length by omega)]

theorem svOne (ts : List ByteArray) : ∀ u ∈ sv ts, u.oneCell' = true := by
  intro u hu
  obtain ⟨t, _, rfl⟩ := List.mem_map.1 hu
  rfl

theorem rowForm {w : World} {base : Nat} {e : TypeId} {v : Value} {n : Nat} {xs : List Value} (h : w.ownsRow base e 1 v n xs) (hv : v ≠ .slice none 0 0) : ∃ g c, v = .slice (some ⟨g, 0, none⟩) n c ∧ n ≤ c := by
  rcases h.2 with ⟨h0, _⟩ | ⟨g, cap, cur, rfl, _, _, hc, _⟩
  · exact absurd h0 hv
  · exact ⟨g, cap, rfl, hc⟩

theorem l1OwnS_any (A : Option Addr) (n c : Nat) (ts : List ByteArray) (w : World) (hn : n ≤ 1048576) (hA : ArgS w A n ts) :
    Calls Try.prog 120 #[.slice A n c] w fun e w' => ∃ g c', e = .returned (.slice (some ⟨g, 0, none⟩) n c') ∧ n ≤ c' ∧ w'.ownsRow w.heap.size 9 1 (.slice (some ⟨g, 0, none⟩) n c') n (sv ts) ∧ Below w.heap.size w w' := by
  obtain ⟨i0, hi, hy0, hy1, hy2⟩ := info_parts info_string
  have HL := Lib.hid hA.len
  have HO := Lib.hid (World.ownsRow_made (base := w.heap.size) (e := 9) (size := 1) w #[] 0 (Nat.le_refl _) (by unfold maxLen; omega) rfl)
  have HB0 := Lib.hid ((Below.refl w.heap.size w).alloc (Nat.le_refl _) (.cells #[] 9))
  rcases A with _ | ad
  · have h0 : n = 0 := by
      rcases hA.at_ with h | ⟨_, _, e, _⟩
      · exact h
      · cases e
    subst h0
    obtain rfl : ts = [] := List.eq_nil_of_length_eq_zero HL.out
    clear hA
    go_enter Try.func120, Try.ntmps120
    go_wp2_with fail
    go_ret
    exact ⟨w.heap.size, 0, rfl, Nat.le_refl _, HO.out, HB0.out⟩
  · have HN : Hid (∀ j u, (sv ts)[j]? = some u → (w.alloc (.cells #[] 9)).cell? (ad.add j) = some u) := Lib.hid (by
      rcases hA.at_ with h0 | ⟨b, off, e, hb, hc⟩
      · intro j u hu
        have : ts = [] := List.eq_nil_of_length_eq_zero (by rw [hA.len, h0])
        subst this
        simp [sv] at hu
      · cases e
        exact sv_news hA.len (fun k hk => by rw [World.cell?_alloc_lt _ _ _ hb]; exact hc k hk))
    clear hA
    go_enter Try.func120, Try.ntmps120
    go_wp2_with (at_builtin; refine wpList_append_own _ rfl _ _ 24 rfl w.heap.size 9 i0 (.string ByteArray.empty) 1 16 Try.underlying24 hi hy0 hy1 hy2 rfl (by decide) _ _ _ rfl HO.out ad n c (sv ts) rfl (by simp [sv]; have := HL.out; omega) HN.out (svOne _) (by unfold maxLen; omega) (by omega) (by simp) ?_; intro v' w1 hown' hgrow hiff)
    have hv : v' ≠ .slice none 0 0 := fun e => by have := (hiff.1 e).1; cases this
    have HB1 := Lib.hid (HB0.out.grown hgrow HB0.out.size (fun j hj => (HO.out.lt j hj).1))
    obtain ⟨g, c', rfl, hc⟩ := rowForm hown' hv
    go_ret
    refine ⟨g, c', by rw [Nat.zero_add]; rfl, by omega, ?_, HB1.out⟩
    rw [Nat.zero_add] at hown'
    simpa using hown'

/-- append onto a row of the call's own, as one step of a region that draws. -/
theorem stepOwn {P : Program} {ops : Array Oper} {o : Oper} {a : Act} {w : World} {K : Act → World → Prop} {Q : Exit → Act → World → Prop} {E : Prop}
    (hg : o.guard = none) (s x : Operand) (t : TypeId) (hop : o.op = Op.call { callee := Callee.builtin Builtin.append, args := #[s, x], argTypes := #[t, t] })
    (base : Nat) (e : TypeId) (i : TypeInfo) (z : Value) (size bytes : Nat) (h1 : P.underlying t = some (.slice e)) (h2 : P.info? e = some i) (h3 : i.zero = some z) (h4 : i.size = size) (h5 : i.bytes = bytes) (h6 : z.cells.size = size) (h7 : 0 < size)
    (v : Value) (n : Nat) (xs : List Value) (hs : a.eval s = v) (hown : w.ownsRow base e size v n xs)
    (ad : Addr) (m c : Nat) (news : List Value) (hx : a.eval x = .slice (some ad) m c) (hn : news.length = m * size) (hc : ∀ j u, news[j]? = some u → w.cell? (ad.add j) = some u) (h1c : ∀ u ∈ news, u.oneCell' = true)
    (b1 : n + m ≤ maxLen) (b2 : (n + m) * bytes ≤ 140737488355328) (hbase : base ≤ w.heap.size)
    (hK : ∀ v' w', w'.ownsRow base e size v' (n + m) (xs ++ news) → w.grownBy w' v.ownBlock → K (a.put o.dst v') w') :
    if Region.wanted o (yielded ops a.tmps) = true then Oper.wp P o a w K Q else E := by
  have hw : Region.wanted o (yielded ops a.tmps) = true := by simp [Region.wanted, hg]
  rw [if_pos hw]
  obtain ⟨v', w', hrun, r1, r2, _⟩ := run_append_own (P := P) w base t o.type e i z size bytes h1 h2 h3 h4 h5 h6 h7 v n xs hown ad m c news hn hc h1c b1 b2 hbase
  unfold Oper.wp
  simp [execOp, hop, resolve, invoke, builtin, hs, hx, hrun, Result.andThen]
  exact hK v' w' r1 r2

theorem addLit (g o j : Nat) : (⟨g, o, none⟩ : Addr).add j = ⟨g, o + j, none⟩ := by unfold Addr.add; split <;> simp_all

theorem cellsX {w : World} {x : ByteArray} {t : TypeId} {g : Nat} (hg : g = w.heap.size) : Cells (w.alloc (.cells #[.string x] t)) g 1 (fun _ => .string x) := by
  subst hg
  refine ⟨by simp, fun j hj => ?_⟩
  rw [World.cell?_alloc_new, World.frozen?_alloc_new]
  obtain rfl : j = 0 := by omega
  exact ⟨rfl, rfl⟩

theorem newsX {w : World} {x : ByteArray} {g : Nat} (h : Cells w g 1 (fun _ => .string x)) : ∀ j u, ([.string x] : List Value)[j]? = some u → w.cell? ((⟨g, 0, none⟩ : Addr).add j) = some u := by
  intro j u hu
  have hj : j < 1 := (List.getElem?_eq_some_iff.1 hu).1
  obtain rfl : j = 0 := by omega
  injection hu with hu
  subst hu
  have ha : (⟨g, 0, none⟩ : Addr).add 0 = ⟨g, 0, none⟩ := by unfold Addr.add; split <;> simp_all
  rw [ha, h.cell (by omega)]

theorem newsDrop {w : World} {g N j c : Nat} {R : List ByteArray} {A : Addr} (hN : R.length = N) (hj : j ≤ N) (hc : N ≤ c) (hA : (if c = j then some ⟨g, 0, none⟩ else some ⟨g, j, none⟩ : Option Addr) = some A) (h : Cells w g N (strF R)) : ∀ i u, (sv (R.drop j))[i]? = some u → w.cell? (A.add i) = some u := by
  intro i u hu
  unfold sv at hu
  rw [List.getElem?_map, List.getElem?_drop] at hu
  have hi : j + i < N := by
    rcases Nat.lt_or_ge (j + i) N with h | h
    · exact h
    · rw [List.getElem?_eq_none (by omega)] at hu; cases hu
  rw [if_neg (by omega)] at hA
  injection hA with hA
  subst hA
  rw [List.getElem?_eq_getElem (by omega)] at hu
  injection hu with hu
  subst hu
  rw [addLit, h.cell (by omega)]
  simp [strF, List.getD, List.getElem?_eq_getElem (show j + i < R.length by omega)]

theorem ArgS.take {w : World} {A : Option Addr} {n : Nat} {ts : List ByteArray} (h : ArgS w A n ts) {k : Nat} (hk : k ≤ n) : ArgS w A k (ts.take k) := by
  have hg : ∀ j, j < k → (ts.take k).getD j ByteArray.empty = ts.getD j ByteArray.empty := fun j hj => by
    simp [List.getD, hj]
  refine ⟨by rw [List.length_take, h.len]; omega, ?_, fun j hj => by rw [hg j hj]; exact h.sz j (by omega)⟩
  rcases h.at_ with h0 | ⟨b, off, e, hb, hc⟩
  · exact .inl (by omega)
  · exact .inr ⟨b, off, e, hb, fun j hj => by rw [hc j (by omega), hg j hj]⟩

theorem ArgS.cellAt {w : World} {g n : Nat} {ts : List ByteArray} (h : ArgS w (some ⟨g, 0, none⟩) n ts) {k : Nat} (hk : k < n) : g < w.heap.size ∧ w.cell? ⟨g, k, none⟩ = some (.string (ts.getD k ByteArray.empty)) := by
  rcases h.at_ with h0 | ⟨b, off, e, hb, hc⟩
  · omega
  · injection e with e; injection e with e1 e2; subst e1; subst e2
    have := hc k hk
    rw [Nat.zero_add] at this
    exact ⟨hb, this⟩

theorem newsT {w W : World} {g n c k : Nat} {ts : List ByteArray} {A : Addr} (hk : k ≤ n) (hc : n ≤ c) (hA' : (if c = k then some ⟨g, 0, none⟩ else some ⟨g, k, none⟩ : Option Addr) = some A) (hA : ArgS w (some ⟨g, 0, none⟩) n ts) (hb : Below w.heap.size w W) : ∀ i u, (sv (ts.drop k))[i]? = some u → W.cell? (A.add i) = some u := by
  intro i u hu
  have hN := hA.len
  unfold sv at hu
  rw [List.getElem?_map, List.getElem?_drop] at hu
  have hi : k + i < n := by
    rcases Nat.lt_or_ge (k + i) n with h | h
    · exact h
    · rw [List.getElem?_eq_none (by omega)] at hu; cases hu
  rw [if_neg (by omega)] at hA'
  injection hA' with hA'
  subst hA'
  rw [List.getElem?_eq_getElem (by omega)] at hu
  injection hu with hu
  subst hu
  obtain ⟨h1, h2⟩ := hA.cellAt hi
  rw [addLit, hb.cell (p := ⟨g, k + i, none⟩) h1, h2]
  simp [List.getD, List.getElem?_eq_getElem (show k + i < ts.length by omega)]

theorem withOut {W : World} {base n m k : Nat} {v : Value} {ts : List ByteArray} {x : ByteArray} (hl : ts.length = n) (hm : k + m = n) (hn : n ≤ 1000) (hx : x.size ≤ maxLen) (hz : ∀ j, j < n → (ts.getD j ByteArray.empty).size ≤ maxLen)
    (hr : W.ownsRow base 9 1 v (k + 1 + m) (sv (ts.take k) ++ [.string x] ++ sv (ts.drop k))) : ∃ us g' c', v = .slice (some ⟨g', 0, none⟩) (n + 1) c' ∧ (∀ t, t ∈ us ↔ t ∈ ts ∨ t = x) ∧ ArgS W (some ⟨g', 0, none⟩) (n + 1) us := by
  have hsv : sv (ts.take k) ++ [.string x] ++ sv (ts.drop k) = sv (ts.take k ++ [x] ++ ts.drop k) := by simp [sv]
  rw [hsv, show k + 1 + m = n + 1 by omega] at hr
  have hmem : ∀ t, t ∈ ts.take k ++ [x] ++ ts.drop k ↔ t ∈ ts ∨ t = x := fun t => by
    have : t ∈ ts ↔ t ∈ ts.take k ∨ t ∈ ts.drop k := by rw [← List.mem_append, List.take_append_drop]
    rw [List.mem_append, List.mem_append, List.mem_singleton, this]
    constructor
    · rintro ((h | h) | h)
      · exact .inl (.inl h)
      · exact .inr h
      · exact .inl (.inr h)
    · rintro ((h | h) | h)
      · exact .inl (.inl h)
      · exact .inr h
      · exact .inl (.inr h)
  have hlu : (ts.take k ++ [x] ++ ts.drop k).length = n + 1 := by simp; omega
  obtain ⟨A, c', rfl, h1, h2, h3⟩ := own_strs hr (by omega)
  rcases h3 with h3 | ⟨g', rfl, _, hC⟩
  · omega
  · refine ⟨_, g', c', rfl, hmem, hlu, .inr ⟨g', 0, rfl, hC.lt, fun j hj => by rw [Nat.zero_add]; exact hC.cell hj⟩, fun j hj => ?_⟩
    have hin : (ts.take k ++ [x] ++ ts.drop k).getD j ByteArray.empty ∈ ts.take k ++ [x] ++ ts.drop k := by
      rw [getD_eq (by omega)]
      exact List.getElem_mem _
    rcases (hmem _).1 hin with h | h
    · obtain ⟨q, hq, e⟩ := List.getElem_of_mem h
      rw [← e]
      have := hz q (by omega)
      rwa [getD_eq hq] at this
    · rw [h]; exact hx

set_option maxRecDepth 100000 in
set_option maxHeartbeats 4000000 in
theorem deWith_any (g n c : Nat) (ts : List ByteArray) (x : ByteArray) (w : World) (hn : n ≤ 1000) (hcap : n ≤ c) (hc9 : c ≤ 1048576) (hx : x.size ≤ maxLen) (hA : ArgS w (some ⟨g, 0, none⟩) n ts) :
    Calls Try.prog 87 #[.slice (some ⟨g, 0, none⟩) n c, .string x] w fun e w' => ∃ us g' c', e = .returned (.slice (some ⟨g', 0, none⟩) (n + 1) c') ∧ (∀ t, t ∈ us ↔ t ∈ ts ∨ t = x) ∧ ArgS w' (some ⟨g', 0, none⟩) (n + 1) us ∧ Below w.heap.size w w' := by
  obtain ⟨i0, hi, hy0, hy1, hy2⟩ := info_parts info_string
  have HL := Lib.hid hA.len
  have HA := Lib.hid hA
  have HC := Lib.hid (show ∀ k, k < n → w.cell? ⟨g, k, none⟩ = some (.string (ts.getD k ByteArray.empty)) from fun k hk => (hA.cellAt hk).2)
  clear hA
  go_enter Try.func87, Try.ntmps87
  go_wp2_with fail
  go_loop [5] (fun i => ∃ k : Nat, k ≤ n ∧ i = .int .i64 k) (fun i => n - (intOf i).toNat)
  case atStart => exact ⟨0, by omega, rfl⟩
  case round =>
    obtain ⟨k, hk, rfl⟩ := hrel
    have hcs : (k < n ∧ Op.bytesLess (ts.getD k ByteArray.empty).toList x.toList = true) ∨ (k < n ∧ Op.bytesLess (ts.getD k ByteArray.empty).toList x.toList = false) ∨ k = n := by
      rcases Nat.lt_or_ge k n with h | h
      · cases e : Op.bytesLess (ts.getD k ByteArray.empty).toList x.toList
        · exact .inr (.inl ⟨h, rfl⟩)
        · exact .inl ⟨h, rfl⟩
      · exact .inr (.inr (by omega))
    have o1 := HC.out k
    generalize ts.getD k ByteArray.empty = y at hcs o1
    rcases hcs with ⟨hlt, hless⟩ | ⟨hlt, hless⟩ | hkn
    · have o2 := o1 hlt
      clear o1
      go_wp2_with fail
      go_round
      case rel => exact ⟨k + 1, by omega, by go_num⟩
      case measure => simp [intOf]; omega
    all_goals
      have hkn2 : k ≤ n := by omega
      have hkc : k ≤ c := by omega
      have HAK := Lib.hid (HA.out.take hkn2)
      have B0 := Lib.hid (show Below w.heap.size w w.drew from bel_drew (Below.refl _ _))
      have B1 := Lib.hid (show Below w.heap.size w (w.drew.alloc (.cells #[.string x] 9)) from (bel_drew (Below.refl _ _)).alloc (Nat.le_refl _) _)
      have X1 := Lib.hid (cellsX (w := w.drew) (x := x) (t := 9) (g := w.heap.size) rfl)
      have SD : Hid ((sv (ts.drop k)).length = (n - k) * 1) := Lib.hid (by have := HL.out; simp [sv]; omega)
      have HND := Lib.hid (fun (W : World) (A : Addr) (hA : (if c = k then some ⟨g, 0, none⟩ else some ⟨g, k, none⟩ : Option Addr) = some A) (hb : Below w.heap.size w W) => newsT hkn2 hcap hA HA.out hb)
      have HOUT := Lib.hid (fun (W : World) (base : Nat) (v : Value) hr => withOut (W := W) (base := base) (v := v) (m := n - k) HL.out (show k + (n - k) = n by omega) hn hx HA.out.sz hr)
      obtain ⟨A', hA'⟩ : ∃ A, (if c = k then some ⟨g, 0, none⟩ else some ⟨g, k, none⟩ : Option Addr) = some A := by split <;> exact ⟨_, rfl⟩
      have HAA := Lib.hid hA'
      have hk9 : k ≤ 1000 := by omega
      try have o2 := o1 hlt
      clear o1
      try (obtain rfl := hkn)
      try simp only [Nat.sub_self] at SD HOUT
      go_wp2_with fail
      go_region_law (first
        | (go_simp; go_at_call 120; refine (l1OwnS_any _ _ _ (ts.take _) _ (by omega) (HAK.out.below B1.out)).mono ?_; rintro e w5 ⟨g5, c5, rfl, hc5, hrow5, hb5⟩
           have XX := Lib.hid (X1.out.call hb5)
           have HB5 := Lib.hid (bel_call B1.out hb5)
           obtain ⟨bs, hl5, hu5, ho5⟩ : ∃ bs, w.heap.size ≤ bs ∧ bs ≤ w5.heap.size ∧ w5.ownsRow bs 9 1 (.slice (some ⟨g5, 0, none⟩) k c5) k (sv (ts.take k)) := ⟨_, B1.out.size, hb5.size, hrow5⟩
           have HO5 := Lib.hid ho5
           clear hrow5 hb5 ho5)
        | (go_simp; go_at_call 120; refine (l1OwnS_any _ _ _ (ts.take _) _ (by omega) (HAK.out.below B0.out)).mono ?_; rintro e w5 ⟨g5, c5, rfl, hc5, hrow5, hb5⟩
           have XX := Lib.hid (cellsX (w := w5) (x := x) (t := 9) (g := w5.heap.size) rfl)
           have HB5 := Lib.hid ((bel_call B0.out hb5).alloc (bel_call B0.out hb5).size (.cells #[.string x] 9))
           obtain ⟨bs, hl5, hu5, ho5⟩ : ∃ bs, w.heap.size ≤ bs ∧ bs ≤ (w5.alloc (.cells #[.string x] 9)).heap.size ∧ (w5.alloc (.cells #[.string x] 9)).ownsRow bs 9 1 (.slice (some ⟨g5, 0, none⟩) k c5) k (sv (ts.take k)) := ⟨_, B0.out.size, by have := hb5.size; rw [World.size_alloc]; omega, hrow5.alloc _⟩
           have HO5 := Lib.hid ho5
           clear hrow5 hb5 ho5)
        | (refine stepOwn rfl (.tmp 23) (.tmp 25) 24 rfl _ 9 i0 (.string ByteArray.empty) 1 16 Try.underlying24 hi hy0 hy1 hy2 rfl (by decide) (.slice (some ⟨g5, 0, none⟩) _ c5) _ (sv (ts.take _)) rfl HO5.out ⟨_, 0, none⟩ 1 1 [.string x] rfl rfl (newsX XX.out) (by simp [Value.oneCell']) (by unfold maxLen; omega) (by omega) hu5 ?_; intro v7 w7 hown7 hgrow7
           have HO7 := Lib.hid hown7
           have HB7 := Lib.hid (HB5.out.grown hgrow7 HB5.out.size (fun k hk => Nat.le_trans hl5 (HO5.out.lt k hk).1))
           have hu7 := Nat.le_trans hu5 hgrow7.size
           clear hown7 hgrow7)
        | (refine stepOwn rfl (.tmp 26) (.tmp 29) 24 rfl _ 9 i0 (.string ByteArray.empty) 1 16 Try.underlying24 hi hy0 hy1 hy2 rfl (by decide) v7 _ (sv (ts.take _) ++ [.string x]) rfl HO7.out A' _ (c - _) (sv (ts.drop _)) rfl SD.out (HND.out _ _ HAA.out HB7.out) (svOne _) (by unfold maxLen; omega) (by omega) hu7 ?_; intro v8 w8 hown8 hgrow8
           have HO8 := Lib.hid hown8
           have HB8 := Lib.hid (HB7.out.grown hgrow8 HB7.out.size (fun k hk => Nat.le_trans hl5 (HO7.out.lt k hk).1))
           clear hown8 hgrow8))
      all_goals
        obtain ⟨us, g', c', rfl, hmem, harg⟩ := HOUT.out _ _ _ HO8.out
        go_wp2_with fail
        go_ret
        exact ⟨us, g', c', rfl, hmem, harg, HB8.out⟩

end Go.Proofs.Ytilnjlcljjpnmaa

namespace Go.Proofs.Ytilnjlcljjpnmaa
open Go.ChangeShapes Go.WideShapes Go.ChangeAt Go.RowKit Go.Joins

/-- A list of texts handed back, and whether it has been found. -/
def NeOut (w : World) (ts : List ByteArray) (ok : Bool) (e : Ending) (w' : World) : Prop :=
  ∃ A c, e = .returned (.tuple #[.slice A ts.length c, .bool ok]) ∧ LS w' w.heap.size w'.heap.size A ts ∧ Below w.heap.size w w'

theorem NeOut.ls {w w' : World} {ts : List ByteArray} {ok : Bool} {e : Ending} (h : NeOut w ts ok e w') :
    ∃ A c, e = .returned (.tuple #[.slice A ts.length c, .bool ok]) ∧ LS w' w.heap.size w'.heap.size A ts ∧ Below w.heap.size w w' := h

theorem ne_none {w w' : World} (hb : Below w.heap.size w w') : NeOut w [] false (.returned (.tuple #[.slice none 0 0, .bool false])) w' :=
  ⟨none, 0, rfl, ⟨by simp, .inl rfl⟩, hb⟩

theorem ne_some {w w' : World} {ts : List ByteArray} {t : TypeId} {v : Value} {base : Nat} {n : Nat} (hn : ts.length = n) (hs : n ≤ 1000) (hbs : w.heap.size ≤ base) (ho : w'.ownsRow base t 1 v n (sv ts)) (hb : Below w.heap.size w w') : NeOut w ts true (.returned (.tuple #[v, .bool true])) w' := by
  subst hn
  obtain ⟨A, c, rfl, hO⟩ := own_strs ho (by omega)
  have h := LS.of_own hO
  exact ⟨A, c, rfl, ⟨h.1, h.2.imp id fun ⟨g, e, h1, h2, hC⟩ => ⟨g, e, by omega, h2, hC⟩⟩, hb⟩

/-- The needed ones of the first codes. -/
def nuL (a b : Int) (ts : List ByteArray) (s t : ByteArray) (k : Nat) : List ByteArray := ((List.range k).map (cdN a b)).filter (neB a b ts s t)

theorem nuL_succ (a b : Int) (ts : List ByteArray) (s t : ByteArray) (k : Nat) : nuL a b ts s t (k + 1) = nuL a b ts s t k ++ if neB a b ts s t (cdN a b k) then [cdN a b k] else [] := by
  unfold nuL
  rw [List.range_succ, List.map_append, List.filter_append]
  congr 1
  generalize cdN a b = f
  simp only [List.map_cons, List.map_nil, List.filter_cons, List.filter_nil]

theorem nuL_le (a b : Int) (ts : List ByteArray) (s t : ByteArray) (k : Nat) : (nuL a b ts s t k).length ≤ k := by
  have := List.length_filter_le (neB a b ts s t) ((List.range k).map (cdN a b))
  rw [List.length_map, List.length_range] at this
  exact this

set_option maxRecDepth 100000 in
set_option maxHeartbeats 4000000 in
theorem specNeeded_any (a b : Int) (g n : Nat) (ts : List ByteArray) (s t : ByteArray) (w : World) (hn : n ≤ maxLen) (hs : s.size ≤ maxLen) (ht : t.size ≤ maxLen) (hA : ArgS w (some ⟨g, 0, none⟩) n ts) :
    Calls Try.prog 46 #[.agg #[.int .i64 a, .int .i64 b], .slice (some ⟨g, 0, none⟩) n n, .string s, .string t] w (NeOut w (neL a b ts s t) (faB a b ts s t)) := by
  have HA := Lib.hid hA
  have HN := Lib.hid hn
  have HS := Lib.hid hs
  have HT := Lib.hid ht
  have HLN := Lib.hid hA.len
  obtain ⟨i0, hi, hy0, hy1, hy2⟩ := info_parts info_string
  have C0 := Lib.hid (box_new (W := w) (a := a) (b := b) (t := 28) rfl)
  have X0 := Lib.hid (show Below w.heap.size w (w.alloc (.cells #[.int .i64 a, .int .i64 b] 28)) from (Below.refl _ _).alloc (Nat.le_refl _) _)
  clear hA hn hs ht
  by_cases hd : dtB a b ts s t = true
  · have HD := Lib.hid hd
    have HP := Lib.hid (dkB_parts (dtB_parts hd).1)
    have HQ := Lib.hid (dkB_parts (dtB_parts hd).2)
    have HFB : Hid (faB a b ts s t = decide (0 ≤ lvZ a b ts s t)) := Lib.hid (by unfold faB; rw [hd]; rfl)
    have hbd := lv_bd (a := a) (b := b) (ts := ts) (s := s) HQ.out.2.2.2.2.1
    have hM := HP.out.2.2.2.1
    have hn60 : n ≤ 60 := by
      have h := HP.out.2.1
      unfold deadB at h
      rw [Bool.and_eq_true, decide_eq_true_iff, HLN.out] at h
      exact h.1
    obtain ⟨an, hae⟩ : ∃ an : Nat, a = an := ⟨a.toNat, by have := good_yes HP.out.2.2.1; omega⟩
    subst hae
    have HPW : Hid (pw b an = ((cnN an b : Nat) : Int)) := Lib.hid (by rw [cnN_cast HP.out.2.2.1, Int.toNat_natCast])
    have HCD : Hid (∀ k : Nat, textOf (digL b (k : Int) an) = cdN an b k) := Lib.hid (fun k => by unfold cdN; rw [Int.toNat_natCast])
    obtain ⟨M, hMe⟩ : ∃ M, cnN an b = M := ⟨_, rfl⟩
    have HME := Lib.hid hMe
    have HNE : Hid (faB an b ts s t = true → neL an b ts s t = nuL an b ts s t M) := Lib.hid (fun h => by unfold neL nuL; rw [if_pos h, hMe])
    have HNN : Hid (faB an b ts s t = false → neL an b ts s t = []) := Lib.hid (fun h => by unfold neL; rw [h]; rfl)
    have HEV : Hid (∀ x, neB an b ts s t x = (alB an b ts x && !decide (x = s) && !decide (x = t) && cutB an b ts s t x)) := Lib.hid (fun _ => rfl)
    have HCUT : Hid (∀ x, cutB an b ts s t x = !decide (0 ≤ lvZ an b (x :: ts) s t)) := Lib.hid (fun _ => rfl)
    have HUP := Lib.hid (nuL_succ (an : Int) b ts s t)
    have HLE := Lib.hid (nuL_le (an : Int) b ts s t)
    have HNU0 : Hid (nuL an b ts s t 0 = []) := Lib.hid rfl
    rw [hMe] at hM hbd HPW
    clear hd hMe
    obtain ⟨l, hl⟩ : ∃ l, lvZ an b ts s t = l := ⟨_, rfl⟩
    rw [hl] at HFB hbd
    have HLV := Lib.hid hl
    clear hl
    generalize nuL (an : Int) b ts s t = nf at HUP HLE HNE HNU0
    by_cases hl0 : 0 ≤ l
    · have HV := Lib.hid (HFB.out.trans (decide_eq_true hl0))
      go_enter Try.func46, Try.ntmps46
      go_wp2_with (first
        | (go_at_call 63; refine (deTwo_any _ _ _ _ _ ts _ _ _ HN.out HS.out HT.out (HA.out.below X0.out)).mono ?_; rw [HD.out]; rintro e w1 ⟨rfl, hb1⟩; have X1 := Lib.hid (bel_call X0.out hb1); have C1 := Lib.hid (C0.out.call hb1); have k0 : w1.cell? ⟨w.heap.size, 0, none⟩ = some (.int .i64 (an : Int)) := C1.out.cell (show 0 < 2 by omega); have k1 : w1.cell? ⟨w.heap.size, 1, none⟩ = some (.int .i64 b) := C1.out.cell (show 1 < 2 by omega); clear hb1)
        | (go_at_call 64; refine (deFew_any _ _ _ _ _ ts _ _ _ HN.out (HA.out.below X1.out) HP.out.2.2.2.2.2.2 HQ.out.2.2.2.2.1 (by rw [HME.out]; exact hM)).mono ?_; rw [HLV.out]; rintro e w2 ⟨rfl, hb2⟩; have X2 := Lib.hid (bel_call X1.out hb2); have C2 := Lib.hid (C1.out.call hb2); clear hb2))
      obtain ⟨R, hR⟩ : ∃ R, w2.heap.size = R := ⟨_, rfl⟩
      have hwR : w.heap.size < R := by rw [← hR]; exact C2.out.lt
      have hRle := Nat.le_of_eq hR.symm
      clear hR k0 k1 C0 X0 X1 C1
      go_loopw [10, 11] (fun v i wr => ∃ (k m : Nat), k ≤ M ∧ i = .int .i64 k ∧ (nf k).length = m ∧ m ≤ k ∧ wr.ownsRow R 9 1 v m (sv (nf k)) ∧ Cells wr w.heap.size 2 (b2F an b) ∧ Below w.heap.size w wr ∧ R ≤ wr.heap.size) (fun _ i _ => M - (intOf i).toNat)
      case atStart => exact ⟨0, 0, by omega, rfl, by rw [HNU0.out]; rfl, Nat.le_refl _, by rw [HNU0.out]; exact World.ownsRow_nil _ _ _ _, C2.out, X2.out, hRle⟩
      case round =>
        clear X2 C2 hRle
        obtain ⟨k, m, hk, rfl, hm, hmk, hO, hC, hB, hRl⟩ := hrel
        have HO := Lib.hid hO
        have HC := Lib.hid hC
        have HB := Lib.hid hB
        have HMM := Lib.hid hm
        clear hO hC hB hm
        have l0 : wr.cell? ⟨w.heap.size, 0, none⟩ = some (.int .i64 (an : Int)) := HC.out.cell (show 0 < 2 by omega)
        have l1 : wr.cell? ⟨w.heap.size, 1, none⟩ = some (.int .i64 b) := HC.out.cell (show 1 < 2 by omega)
        by_cases hlt : k < M
        · have HTX := Lib.hid (HCD.out k)
          have HXA := Lib.hid (cd_ask (a := (an : Int)) (b := b) (i := k) HP.out.2.2.1)
          have HUK := Lib.hid (HUP.out k)
          generalize cdN an b k = x at HTX HXA HUK
          have HEX := Lib.hid (HEV.out x)
          have HCX := Lib.hid (HCUT.out x)
          have hxs : x.size ≤ maxLen := askB_size HXA.out
          have HSTEP : ∀ (wx : World), neB an b ts s t x = false → Below wr.heap.size wr wx → ∃ (k' m' : Nat), k' ≤ M ∧ Value.int .i64 ((k : Int) + 1) = .int .i64 k' ∧ (nf k').length = m' ∧ m' ≤ k' ∧ wx.ownsRow R 9 1 u10 m' (sv (nf k')) ∧ Cells wx w.heap.size 2 (b2F an b) ∧ Below w.heap.size w wx ∧ R ≤ wx.heap.size := fun wx h hb => by
            have e : nf (k + 1) = nf k := by rw [HUK.out, h]; simp
            exact ⟨k + 1, m, by omega, by go_num, by rw [e]; exact HMM.out, by omega, by rw [e]; exact own_keeps HO.out hb, HC.out.call hb, bel_call HB.out hb, Nat.le_trans hRl hb.size⟩
          have HSTP := Lib.hid HSTEP
          clear HSTEP
          by_cases hxs1 : x = s
          · have HF : Hid (neB an b ts s t x = false) := Lib.hid (by rw [HEX.out, decide_eq_true hxs1]; simp)
            subst hxs1
            go_wp2_with (first
              | (go_at_call 78; refine (whCount_any _ _ _ HP.out.2.2.1).mono ?_; rw [HPW.out]; rintro e w3 ⟨rfl, hb3⟩; have C3 := Lib.hid (HC.out.call hb3); have j0 : w3.cell? ⟨w.heap.size, 0, none⟩ = some (.int .i64 (an : Int)) := C3.out.cell (show 0 < 2 by omega); have j1 : w3.cell? ⟨w.heap.size, 1, none⟩ = some (.int .i64 b) := C3.out.cell (show 1 < 2 by omega))
              | (go_at_call 79; refine (whOf_any _ _ _ _ HP.out.2.2.1 (by omega) (by omega)).mono ?_; rw [HTX.out]; rintro e w4 ⟨rfl, hb4⟩; have B4 := Lib.hid (bel_call hb3 hb4)))
            go_roundw
            case rel => exact HSTP.out _ HF.out B4.out
            case measure => simp [intOf]; omega
          · by_cases hxt1 : x = t
            · have HF : Hid (neB an b ts s t x = false) := Lib.hid (by rw [HEX.out, decide_eq_true hxt1]; simp)
              have hxn := bytesN hxs1
              subst hxt1
              go_wp2_with (first
                | (go_at_call 78; refine (whCount_any _ _ _ HP.out.2.2.1).mono ?_; rw [HPW.out]; rintro e w3 ⟨rfl, hb3⟩; have C3 := Lib.hid (HC.out.call hb3); have j0 : w3.cell? ⟨w.heap.size, 0, none⟩ = some (.int .i64 (an : Int)) := C3.out.cell (show 0 < 2 by omega); have j1 : w3.cell? ⟨w.heap.size, 1, none⟩ = some (.int .i64 b) := C3.out.cell (show 1 < 2 by omega))
                | (go_at_call 79; refine (whOf_any _ _ _ _ HP.out.2.2.1 (by omega) (by omega)).mono ?_; rw [HTX.out]; rintro e w4 ⟨rfl, hb4⟩; have B4 := Lib.hid (bel_call hb3 hb4)))
              go_roundw
              case rel => exact HSTP.out _ HF.out B4.out
              case measure => simp [intOf]; omega
            · have hxn := bytesN hxs1
              have htn := bytesN hxt1
              obtain ⟨dd, hdd⟩ : ∃ dd, inS ts x = dd := ⟨_, rfl⟩
              have HDD := Lib.hid hdd
              have HAL : Hid (alB an b ts x = !dd) := Lib.hid (by rw [alB_of HXA.out, hdd])
              have HXS := Lib.hid hxs1
              have HXT := Lib.hid hxt1
              clear hdd hxs1 hxt1
              rcases dd with _ | _
              · have HALS : Hid (alB an b (x :: ts) s = true) := Lib.hid (by rw [alB_cons, HP.out.2.2.2.2.2.2, decide_eq_false (fun e => HXS.out e.symm)]; rfl)
                have HEQ : Hid (neB an b ts s t x = !decide (0 ≤ lvZ an b (x :: ts) s t)) := Lib.hid (by rw [HEX.out, HAL.out, decide_eq_false HXS.out, decide_eq_false HXT.out, HCX.out]; simp)
                obtain ⟨l2, hl2⟩ : ∃ l2, lvZ an b (x :: ts) s t = l2 := ⟨_, rfl⟩
                have HL2 := Lib.hid hl2
                have hbd2 := lv_bd (a := (an : Int)) (b := b) (ts := x :: ts) (s := s) HQ.out.2.2.2.2.1
                rw [hl2] at HEQ hbd2
                rw [HME.out] at hbd2
                clear hl2 HEX HCX
                go_wp2_with (first
                  | (go_at_call 78; refine (whCount_any _ _ _ HP.out.2.2.1).mono ?_; rw [HPW.out]; rintro e w3 ⟨rfl, hb3⟩; have C3 := Lib.hid (HC.out.call hb3); have j0 : w3.cell? ⟨w.heap.size, 0, none⟩ = some (.int .i64 (an : Int)) := C3.out.cell (show 0 < 2 by omega); have j1 : w3.cell? ⟨w.heap.size, 1, none⟩ = some (.int .i64 b) := C3.out.cell (show 1 < 2 by omega))
                  | (go_at_call 79; refine (whOf_any _ _ _ _ HP.out.2.2.1 (by omega) (by omega)).mono ?_; rw [HTX.out]; rintro e w4 ⟨rfl, hb4⟩; have B4 := Lib.hid (bel_call hb3 hb4); have C4 := Lib.hid (C3.out.call hb4); have X4 := Lib.hid (bel_call HB.out B4.out); have i0' : w4.cell? ⟨w.heap.size, 0, none⟩ = some (.int .i64 (an : Int)) := C4.out.cell (show 0 < 2 by omega); have i1' : w4.cell? ⟨w.heap.size, 1, none⟩ = some (.int .i64 b) := C4.out.cell (show 1 < 2 by omega))
                  | (go_at_call 80; refine (l1HasS_any _ _ _ ts _ _ HN.out (HA.out.below X4.out)).mono ?_; rw [HDD.out]; rintro e w5 ⟨rfl, rfl⟩))
                clear l0 l1 j0 j1 hb3 hb4 C3
                obtain ⟨r, hr⟩ : ∃ r, decide (0 ≤ l2) = r := ⟨_, rfl⟩
                have HR := Lib.hid hr
                rw [hr] at HEQ
                clear hr
                go_cut [56] from 49 to 56 (fun v56 wx => v56 = .bool (!r) ∧ Below wr.heap.size wr wx)
                case first =>
                  rcases r with _ | _
                  · have hl3 : ¬ 0 ≤ l2 := of_decide_eq_false HR.out
                    go_region_with (first
                      | (go_at_call 87; refine (deWith_any _ _ _ ts x _ (by omega) (Nat.le_refl _) (by omega) hxs (HA.out.below (bel_drew X4.out))).mono ?_; rintro e w6 ⟨us, g', c', rfl, hmem, harg, hb6⟩
                         have HB6 := Lib.hid (below_undrew hb6)
                         have HARG := Lib.hid harg
                         have HAM := Lib.hid (alB_more (a := (an : Int)) (b := b) hmem)
                         have HLL : Hid (lvZ an b us s t = l2) := Lib.hid (by rw [lvZ_al HAM.out]; exact HL2.out)
                         have C6 := Lib.hid (C4.out.call HB6.out)
                         have h0 : w6.cell? ⟨w.heap.size, 0, none⟩ = some (.int .i64 (an : Int)) := C6.out.cell (show 0 < 2 by omega)
                         have h1 : w6.cell? ⟨w.heap.size, 1, none⟩ = some (.int .i64 b) := C6.out.cell (show 1 < 2 by omega)
                         clear hb6 hmem harg)
                      | (go_at_call 64; refine (deFew_any _ _ _ _ _ us _ _ _ (by unfold maxLen; omega) HARG.out (by rw [HAM.out]; exact HALS.out) HQ.out.2.2.2.2.1 (by rw [HME.out]; exact hM)).mono ?_; rw [HLL.out]; rintro e w7 ⟨rfl, hb7⟩))
                    all_goals
                      have B7 := bel_call B4.out (bel_call HB6.out hb7)
                      go_wp2_with fail
                      go_meet
                      exact ⟨rfl, B7⟩
                  · have hl3 : 0 ≤ l2 := of_decide_eq_true HR.out
                    go_region_with (first
                      | (go_at_call 87; refine (deWith_any _ _ _ ts x _ (by omega) (Nat.le_refl _) (by omega) hxs (HA.out.below (bel_drew X4.out))).mono ?_; rintro e w6 ⟨us, g', c', rfl, hmem, harg, hb6⟩
                         have HB6 := Lib.hid (below_undrew hb6)
                         have HARG := Lib.hid harg
                         have HAM := Lib.hid (alB_more (a := (an : Int)) (b := b) hmem)
                         have HLL : Hid (lvZ an b us s t = l2) := Lib.hid (by rw [lvZ_al HAM.out]; exact HL2.out)
                         have C6 := Lib.hid (C4.out.call HB6.out)
                         have h0 : w6.cell? ⟨w.heap.size, 0, none⟩ = some (.int .i64 (an : Int)) := C6.out.cell (show 0 < 2 by omega)
                         have h1 : w6.cell? ⟨w.heap.size, 1, none⟩ = some (.int .i64 b) := C6.out.cell (show 1 < 2 by omega)
                         clear hb6 hmem harg)
                      | (go_at_call 64; refine (deFew_any _ _ _ _ _ us _ _ _ (by unfold maxLen; omega) HARG.out (by rw [HAM.out]; exact HALS.out) HQ.out.2.2.2.2.1 (by rw [HME.out]; exact hM)).mono ?_; rw [HLL.out]; rintro e w7 ⟨rfl, hb7⟩))
                    all_goals
                      have B7 := bel_call B4.out (bel_call HB6.out hb7)
                      go_wp2_with fail
                      go_meet
                      exact ⟨congrArg Value.bool (decide_eq_false (by omega)), B7⟩
                case rest =>
                  obtain ⟨rfl, hb7⟩ := hcut
                  have B7 := Lib.hid hb7
                  rcases r with _ | _
                  rotate_left
                  · have HF : Hid (neB an b ts s t x = false) := Lib.hid HEQ.out
                    clear hb7 i0' i1'
                    go_wp2_with fail
                    go_roundw
                    case rel => exact HSTP.out _ HF.out B7.out
                    case measure => simp [intOf]; omega
                  · have HNK : Hid (nf (k + 1) = nf k ++ [x]) := Lib.hid (by rw [HUK.out, HEQ.out]; rfl)
                    have HO7 := Lib.hid (own_keeps HO.out B7.out)
                    have HC7 := Lib.hid (HC.out.call B7.out)
                    have HB7 := Lib.hid (bel_call HB.out B7.out)
                    have R7 : R ≤ wc.heap.size := Nat.le_trans hRl hb7.size
                    clear hb7 i0' i1'
                    go_wp2_with (at_builtin; refine wpList_append_own _ rfl _ _ 24 rfl R 9 i0 (.string ByteArray.empty) 1 16 Try.underlying24 hi hy0 hy1 hy2 rfl (by decide) _ _ _ rfl (HO7.out.alloc _) ⟨wc.heap.size, 0, none⟩ 1 1 [.string x] rfl rfl (news_of rfl) (by simp [Value.oneCell']) (by unfold maxLen; omega) (by omega) (by rw [World.size_alloc]; omega) ?_; intro v' w8 hown' hgrow _)
                    have hOb := HO7.out.lt
                    have HB8 := Lib.hid ((HB7.out.alloc HB7.out.size (.cells #[.string x] 9)).grown hgrow (HB7.out.alloc HB7.out.size (.cells #[.string x] 9)).size (fun j hj => Nat.le_trans (Nat.le_of_lt hwR) (hOb j hj).1))
                    have HC8 := Lib.hid ((HC7.out.alloc (.cells #[.string x] 9)).grownC hgrow (fun e => by have := (hOb _ e.symm).1; omega))
                    have R8 : R ≤ w8.heap.size := by have := hgrow.size; rw [World.size_alloc] at this; omega
                    have HO8 : Hid (w8.ownsRow R 9 1 v' (m + 1) (sv (nf (k + 1)))) := Lib.hid (by rw [HNK.out, sv_snoc]; exact hown')
                    have HM8 : Hid ((nf (k + 1)).length = m + 1) := Lib.hid (by rw [HNK.out, List.length_append, HMM.out]; rfl)
                    clear hgrow hown' hOb
                    go_wp2_with fail
                    go_roundw
                    case rel => exact ⟨k + 1, m + 1, by omega, by go_num, HM8.out, by omega, HO8.out, HC8.out, HB8.out, R8⟩
                    case measure => simp [intOf]; omega
              · have HF : Hid (neB an b ts s t x = false) := Lib.hid (by rw [HEX.out, HAL.out]; rfl)
                go_wp2_with (first
                  | (go_at_call 78; refine (whCount_any _ _ _ HP.out.2.2.1).mono ?_; rw [HPW.out]; rintro e w3 ⟨rfl, hb3⟩; have C3 := Lib.hid (HC.out.call hb3); have j0 : w3.cell? ⟨w.heap.size, 0, none⟩ = some (.int .i64 (an : Int)) := C3.out.cell (show 0 < 2 by omega); have j1 : w3.cell? ⟨w.heap.size, 1, none⟩ = some (.int .i64 b) := C3.out.cell (show 1 < 2 by omega))
                  | (go_at_call 79; refine (whOf_any _ _ _ _ HP.out.2.2.1 (by omega) (by omega)).mono ?_; rw [HTX.out]; rintro e w4 ⟨rfl, hb4⟩; have B4 := Lib.hid (bel_call hb3 hb4); have X4 := Lib.hid (bel_call HB.out B4.out))
                  | (go_at_call 80; refine (l1HasS_any _ _ _ ts _ _ HN.out (HA.out.below X4.out)).mono ?_; rw [HDD.out]; rintro e w5 ⟨rfl, rfl⟩))
                go_roundw
                case rel => exact HSTP.out _ HF.out B4.out
                case measure => simp [intOf]; omega
        · obtain rfl : k = M := by omega
          go_wp2_with (go_at_call 78; refine (whCount_any _ _ _ HP.out.2.2.1).mono ?_; rw [HPW.out]; rintro e w3 ⟨rfl, hb3⟩; have B3 := Lib.hid hb3)
          go_ret2
          rw [HNE.out HV.out, HV.out]
          exact ne_some HMM.out (by omega) (Nat.le_of_lt hwR) (own_keeps HO.out B3.out) (bel_call HB.out B3.out)
    · have HV := Lib.hid (HFB.out.trans (decide_eq_false hl0))
      go_enter Try.func46, Try.ntmps46
      go_wp2_with (first
        | (go_at_call 63; refine (deTwo_any _ _ _ _ _ ts _ _ _ HN.out HS.out HT.out (HA.out.below X0.out)).mono ?_; rw [HD.out]; rintro e w1 ⟨rfl, hb1⟩; have X1 := Lib.hid (bel_call X0.out hb1); have C1 := Lib.hid (C0.out.call hb1); have k0 : w1.cell? ⟨w.heap.size, 0, none⟩ = some (.int .i64 (an : Int)) := C1.out.cell (show 0 < 2 by omega); have k1 : w1.cell? ⟨w.heap.size, 1, none⟩ = some (.int .i64 b) := C1.out.cell (show 1 < 2 by omega); clear hb1)
        | (go_at_call 64; refine (deFew_any _ _ _ _ _ ts _ _ _ HN.out (HA.out.below X1.out) HP.out.2.2.2.2.2.2 HQ.out.2.2.2.2.1 (by rw [HME.out]; exact hM)).mono ?_; rw [HLV.out]; rintro e w2 ⟨rfl, hb2⟩; have X2 := Lib.hid (bel_call X1.out hb2); clear hb2))
      go_ret2
      rw [HNN.out HV.out, HV.out]
      exact ne_none X2.out
  · have HD := Lib.hid (Bool.eq_false_iff.2 hd)
    have HV : Hid (faB a b ts s t = false) := Lib.hid (by unfold faB; rw [HD.out]; rfl)
    have HNN : Hid (neL a b ts s t = []) := Lib.hid (by unfold neL; rw [HV.out]; rfl)
    clear hd
    go_enter Try.func46, Try.ntmps46
    go_wp2_with (go_at_call 63; refine (deTwo_any _ _ _ _ _ ts _ _ _ HN.out HS.out HT.out (HA.out.below X0.out)).mono ?_; rw [HD.out]; rintro e w1 ⟨rfl, hb1⟩; have X1 := Lib.hid (bel_call X0.out hb1); clear hb1)
    go_ret2
    rw [HNN.out, HV.out]
    exact ne_none X1.out

end Go.Proofs.Ytilnjlcljjpnmaa

namespace Go.Proofs.Ytilnjlcljjpnmaa
open Go.ChangeShapes Go.WideShapes Go.ChangeAt Go.RowKit Go.Joins

theorem cloneB_any {w : World} {B : Nat} {L : List ByteArray} (h : MpS w RdB B L ltB) :
    Calls Try.prog 121 #[.map (some B)] w fun e w' => e = .returned (.map (some w.heap.size)) ∧ MpS w' RdB w.heap.size L ltB ∧ w.heap.size < w'.heap.size ∧ Below w.heap.size w w' := by
  obtain ⟨D, h1, h2⟩ := h
  refine (AnyW.maps_Clone_owns Try.cloneB 9 RdB B L.length D w h1).mono fun e w' ⟨he, h3, _, hb⟩ => ?_
  exact ⟨he, ⟨D, h3, h2⟩, h3.lt, hb⟩

/-- What stands when the map is cloned. -/
structure WoSt (w wr : World) (a b : Int) (gm gz : Nat) (L : List ByteArray) : Prop where
  mz : Cells wr gz 3 (m3F a b (.map (some gm)))
  res : Cells wr (w.heap.size + 1) 3 (m3F 0 0 (.map none))
  mp : MpS wr RdB gm L ltB
  bel : Below w.heap.size w wr
  gm1 : w.heap.size + 1 < gm
  gz1 : w.heap.size + 1 < gz
  ne : gm ≠ gz

theorem WoSt.z0 {w wr : World} {a b : Int} {gm gz : Nat} {L : List ByteArray} (h : WoSt w wr a b gm gz L) : wr.cell? ⟨gz, 0, none⟩ = some (.int .i64 a) := h.mz.cell (show 0 < 3 by omega)

theorem WoSt.z1 {w wr : World} {a b : Int} {gm gz : Nat} {L : List ByteArray} (h : WoSt w wr a b gm gz L) : wr.cell? ⟨gz, 1, none⟩ = some (.int .i64 b) := h.mz.cell (show 1 < 3 by omega)

theorem WoSt.z2 {w wr : World} {a b : Int} {gm gz : Nat} {L : List ByteArray} (h : WoSt w wr a b gm gz L) : wr.cell? ⟨gz, 2, none⟩ = some (.map (some gm)) := h.mz.cell (show 2 < 3 by omega)

theorem WoSt.r0 {w wr : World} {a b : Int} {gm gz : Nat} {L : List ByteArray} (h : WoSt w wr a b gm gz L) : wr.cell? ⟨w.heap.size + 1, 0, none⟩ = some (.int .i64 0) := h.res.cell (show 0 < 3 by omega)

theorem WoSt.r1 {w wr : World} {a b : Int} {gm gz : Nat} {L : List ByteArray} (h : WoSt w wr a b gm gz L) : wr.cell? ⟨w.heap.size + 1, 1, none⟩ = some (.int .i64 0) := h.res.cell (show 1 < 3 by omega)

theorem WoSt.r2 {w wr : World} {a b : Int} {gm gz : Nat} {L : List ByteArray} (h : WoSt w wr a b gm gz L) : wr.cell? ⟨w.heap.size + 1, 2, none⟩ = some (.map none) := h.res.cell (show 2 < 3 by omega)

theorem WoSt.turned {w wr w2 : World} {a b : Int} {gm gz : Nat} {L L' : List ByteArray} (h : WoSt w wr a b gm gz L) (hg : wr.grownBy w2 (some gm)) (hM : MpS w2 RdB gm L' ltB) : WoSt w w2 a b gm gz L' :=
  ⟨h.mz.grownM hg (fun e => by injection e with e; exact h.ne e.symm), h.res.grownM hg (fun e => by injection e with e; have := h.gm1; omega), hM, h.bel.grown hg h.bel.size (fun j hj => by injection hj with hj; have := h.gm1; omega), h.gm1, h.gz1, h.ne⟩

theorem WoSt.live {w wr : World} {a b : Int} {gm gz : Nat} {L : List ByteArray} {x : ByteArray} {al : ByteArray → Bool} {u0 u1 u2 : Value} (h : WoSt w wr a b gm gz (offS L x)) (hm : ∀ t, t ∈ L ↔ al t = true) :
    LiveM (((wr.setCell ⟨w.heap.size + 1, 0, none⟩ u0).setCell ⟨w.heap.size + 1, 1, none⟩ u1).setCell ⟨w.heap.size + 1, 2, none⟩ u2) gm (fun t => al t && !decide (t = x)) := by
  have := h.gm1
  refine ⟨offS L x, ((h.mp.setCell (by show gm ≠ w.heap.size + 1; omega) _).setCell (by show gm ≠ w.heap.size + 1; omega) _).setCell (by show gm ≠ w.heap.size + 1; omega) _, fun t => ?_⟩
  rw [mem_offS, hm]
  simp

theorem WoSt.q {w wr : World} {a b : Int} {gm gz : Nat} {L : List ByteArray} (h : WoSt w wr a b gm gz L) (u0 u1 u2 : Value) :
    (wr.setCell ⟨w.heap.size + 1, 0, none⟩ u0).cell? ⟨w.heap.size + 1, 0, none⟩ = some u0 ∧
    ((wr.setCell ⟨w.heap.size + 1, 0, none⟩ u0).setCell ⟨w.heap.size + 1, 1, none⟩ u1).cell? ⟨w.heap.size + 1, 1, none⟩ = some u1 ∧
    (((wr.setCell ⟨w.heap.size + 1, 0, none⟩ u0).setCell ⟨w.heap.size + 1, 1, none⟩ u1).setCell ⟨w.heap.size + 1, 2, none⟩ u2).cell? ⟨w.heap.size + 1, 2, none⟩ = some u2 := by
  have h0 := h.res.set_ (show 0 < 3 by omega) u0
  have h1 := h0.set_ (show 1 < 3 by omega) u1
  have h2 := h1.set_ (show 2 < 3 by omega) u2
  exact ⟨h0.cell (show 0 < 3 by omega), h1.cell (show 1 < 3 by omega), h2.cell (show 2 < 3 by omega)⟩

theorem WoSt.out {w wr : World} {a b : Int} {gm gz : Nat} {L : List ByteArray} {u0 u1 u2 : Value} (h : WoSt w wr a b gm gz L) :
    Below w.heap.size w (((wr.setCell ⟨w.heap.size + 1, 0, none⟩ u0).setCell ⟨w.heap.size + 1, 1, none⟩ u1).setCell ⟨w.heap.size + 1, 2, none⟩ u2) :=
  ((h.bel.setCell (by show w.heap.size ≤ w.heap.size + 1; omega) _).setCell (by show w.heap.size ≤ w.heap.size + 1; omega) _).setCell (by show w.heap.size ≤ w.heap.size + 1; omega) _

theorem wo_a {w w3 : World} {a b : Int} {v : Value} {L : List ByteArray} (hr : Cells ((w.alloc (.cells #[.int .i64 a, .int .i64 b, v] 72)).alloc (.cells #[.int .i64 0, .int .i64 0, .map none] 72)) (w.heap.size + 1) 3 (m3F 0 0 (.map none)))
    (hm : MpS w3 RdB ((w.alloc (.cells #[.int .i64 a, .int .i64 b, v] 72)).alloc (.cells #[.int .i64 0, .int .i64 0, .map none] 72)).drew.heap.size L ltB)
    (_ : ((w.alloc (.cells #[.int .i64 a, .int .i64 b, v] 72)).alloc (.cells #[.int .i64 0, .int .i64 0, .map none] 72)).drew.heap.size < w3.heap.size)
    (hb : Below ((w.alloc (.cells #[.int .i64 a, .int .i64 b, v] 72)).alloc (.cells #[.int .i64 0, .int .i64 0, .map none] 72)).drew.heap.size ((w.alloc (.cells #[.int .i64 a, .int .i64 b, v] 72)).alloc (.cells #[.int .i64 0, .int .i64 0, .map none] 72)).drew w3) :
    WoSt w (w3.alloc (.cells #[.int .i64 a, .int .i64 b, .map (some (w.heap.size + 1 + 1))] 72)) a b (w.heap.size + 1 + 1) w3.heap.size L := by
  have es : ((w.alloc (.cells #[.int .i64 a, .int .i64 b, v] 72)).alloc (.cells #[.int .i64 0, .int .i64 0, .map none] 72)).drew.heap.size = w.heap.size + 1 + 1 := by
    show ((w.alloc _).alloc _).heap.size = _
    rw [World.size_alloc, World.size_alloc]
  have hbel : Below w.heap.size w ((w.alloc (.cells #[.int .i64 a, .int .i64 b, v] 72)).alloc (.cells #[.int .i64 0, .int .i64 0, .map none] 72)).drew := bel_drew (((Below.refl _ _).alloc (Nat.le_refl _) _).alloc (by rw [World.size_alloc]; omega) _)
  rw [es] at hm
  exact ⟨m3_new rfl, (hr.drew.call hb).alloc _, hm.alloc _, (bel_call hbel hb).alloc (bel_call hbel hb).size _, by omega, by omega, by omega⟩

theorem wo_b {w w3 : World} {a b : Int} {v : Value} {L : List ByteArray} (hr : Cells ((w.alloc (.cells #[.int .i64 a, .int .i64 b, v] 72)).alloc (.cells #[.int .i64 0, .int .i64 0, .map none] 72)) (w.heap.size + 1) 3 (m3F 0 0 (.map none)))
    (hm : MpS w3 RdB (((w.alloc (.cells #[.int .i64 a, .int .i64 b, v] 72)).alloc (.cells #[.int .i64 0, .int .i64 0, .map none] 72)).drew.alloc (.cells #[.int .i64 0, .int .i64 0, .map none] 72)).heap.size L ltB)
    (_ : (((w.alloc (.cells #[.int .i64 a, .int .i64 b, v] 72)).alloc (.cells #[.int .i64 0, .int .i64 0, .map none] 72)).drew.alloc (.cells #[.int .i64 0, .int .i64 0, .map none] 72)).heap.size < w3.heap.size)
    (hb : Below (((w.alloc (.cells #[.int .i64 a, .int .i64 b, v] 72)).alloc (.cells #[.int .i64 0, .int .i64 0, .map none] 72)).drew.alloc (.cells #[.int .i64 0, .int .i64 0, .map none] 72)).heap.size (((w.alloc (.cells #[.int .i64 a, .int .i64 b, v] 72)).alloc (.cells #[.int .i64 0, .int .i64 0, .map none] 72)).drew.alloc (.cells #[.int .i64 0, .int .i64 0, .map none] 72)) w3)
    (hz : Cells w3 (w.heap.size + 1 + 1) 3 (m3F 0 0 (.map none))) :
    WoSt w (((w3.setCell ⟨w.heap.size + 1 + 1, 0, none⟩ (.int .i64 a)).setCell ⟨w.heap.size + 1 + 1, 1, none⟩ (.int .i64 b)).setCell ⟨w.heap.size + 1 + 1, 2, none⟩ (.map (some (w.heap.size + 1 + 1 + 1)))) a b (w.heap.size + 1 + 1 + 1) (w.heap.size + 1 + 1) L := by
  have es : (((w.alloc (.cells #[.int .i64 a, .int .i64 b, v] 72)).alloc (.cells #[.int .i64 0, .int .i64 0, .map none] 72)).drew.alloc (.cells #[.int .i64 0, .int .i64 0, .map none] 72)).heap.size = w.heap.size + 1 + 1 + 1 := by
    rw [World.size_alloc]
    show ((w.alloc _).alloc _).heap.size + 1 = _
    rw [World.size_alloc, World.size_alloc]
  have hbel : Below w.heap.size w (((w.alloc (.cells #[.int .i64 a, .int .i64 b, v] 72)).alloc (.cells #[.int .i64 0, .int .i64 0, .map none] 72)).drew.alloc (.cells #[.int .i64 0, .int .i64 0, .map none] 72)) :=
    (bel_drew (((Below.refl _ _).alloc (Nat.le_refl _) _).alloc (by rw [World.size_alloc]; omega) _)).alloc (bel_drew (((Below.refl _ _).alloc (Nat.le_refl _) _).alloc (by rw [World.size_alloc]; omega) _)).size _
  have hB := bel_call hbel hb
  rw [es] at hm
  refine ⟨(((hz.set_ (show 0 < 3 by omega) (.int .i64 a)).set_ (show 1 < 3 by omega) (.int .i64 b)).set_ (show 2 < 3 by omega) (.map (some (w.heap.size + 1 + 1 + 1)))).congr fun j hj => ?_,
    ((((hr.drew.alloc _).call hb).far (show w.heap.size + 1 + 1 ≠ w.heap.size + 1 by omega) _).far (show w.heap.size + 1 + 1 ≠ w.heap.size + 1 by omega) _).far (show w.heap.size + 1 + 1 ≠ w.heap.size + 1 by omega) _,
    ((hm.setCell (by show w.heap.size + 1 + 1 + 1 ≠ w.heap.size + 1 + 1; omega) _).setCell (by show w.heap.size + 1 + 1 + 1 ≠ w.heap.size + 1 + 1; omega) _).setCell (by show w.heap.size + 1 + 1 + 1 ≠ w.heap.size + 1 + 1; omega) _,
    ((hB.setCell (by show w.heap.size ≤ w.heap.size + 1 + 1; omega) _).setCell (by show w.heap.size ≤ w.heap.size + 1 + 1; omega) _).setCell (by show w.heap.size ≤ w.heap.size + 1 + 1; omega) _, by omega, by omega, by omega⟩
  have : j = 0 ∨ j = 1 ∨ j = 2 := by omega
  rcases this with rfl | rfl | rfl <;> rfl

set_option maxRecDepth 100000 in
set_option maxHeartbeats 4000000 in
theorem without_any (a b : Int) (B : Nat) (al : ByteArray → Bool) (x : ByteArray) (w : World) (hL : LiveM w B al) (hx : x.size ≤ maxLen) :
    Calls Try.prog 89 #[mzV a b (.map (some B)), .string x] w fun e w' => ∃ B', e = .returned (mzV a b (.map (some B'))) ∧ w.heap.size ≤ B' ∧ LiveM w' B' (fun t => al t && !decide (t = x)) ∧ Below w.heap.size w w' := by
  obtain ⟨L, hM, hm⟩ := hL
  have HM := Lib.hid hM
  have HX := Lib.hid hx
  have HMEM := Lib.hid hm
  have C0 := Lib.hid ((m3_new (W := w) (a := a) (b := b) (v := .map (some B)) (t := 72) rfl).alloc (.cells #[.int .i64 0, .int .i64 0, .map none] 72))
  have R0 := Lib.hid (m3_new (W := w.alloc (.cells #[.int .i64 a, .int .i64 b, .map (some B)] 72)) (a := 0) (b := 0) (v := .map none) (t := 72) (g := w.heap.size + 1) (by simp))
  have CZ := Lib.hid (show Cells ((((w.alloc (.cells #[.int .i64 a, .int .i64 b, .map (some B)] 72)).alloc (.cells #[.int .i64 0, .int .i64 0, .map none] 72)).drew).alloc (.cells #[.int .i64 0, .int .i64 0, .map none] 72)) (w.heap.size + 1 + 1) 3 (m3F 0 0 (.map none)) from m3_new (by simp))
  clear hM hx hm
  unfold mzV
  go_enter Try.func89, Try.ntmps89
  go_wp2_with fail
  go_region_with (go_at_call 121; first
    | (refine (cloneB_any (((HM.out.alloc _).alloc _).drew)).mono ?_; rintro e w3 ⟨rfl, hm3, hlt3, hb3⟩; have C3 := Lib.hid (C0.out.drew.call hb3); have k0 : w3.cell? ⟨w.heap.size, 0, none⟩ = some (.int .i64 a) := C3.out.cell (show 0 < 3 by omega); have k1 : w3.cell? ⟨w.heap.size, 1, none⟩ = some (.int .i64 b) := C3.out.cell (show 1 < 3 by omega); have k2 : w3.cell? ⟨w.heap.size, 2, none⟩ = some (.map (some B)) := C3.out.cell (show 2 < 3 by omega); have A3 := Lib.hid (C3.out.alloc (.cells #[.int .i64 0, .int .i64 0, .map none] 72)); have j0 : (w3.alloc (.cells #[.int .i64 0, .int .i64 0, .map none] 72)).cell? ⟨w.heap.size, 0, none⟩ = some (.int .i64 a) := A3.out.cell (show 0 < 3 by omega); have j1 : (w3.alloc (.cells #[.int .i64 0, .int .i64 0, .map none] 72)).cell? ⟨w.heap.size, 1, none⟩ = some (.int .i64 b) := A3.out.cell (show 1 < 3 by omega); have j2 : (w3.alloc (.cells #[.int .i64 0, .int .i64 0, .map none] 72)).cell? ⟨w.heap.size, 2, none⟩ = some (.map (some B)) := A3.out.cell (show 2 < 3 by omega))
    | (refine (cloneB_any ((((HM.out.alloc _).alloc _).drew).alloc _)).mono ?_; rintro e w3 ⟨rfl, hm3, hlt3, hb3⟩; have C3 := Lib.hid ((C0.out.drew.alloc _).call hb3); have k0 : w3.cell? ⟨w.heap.size, 0, none⟩ = some (.int .i64 a) := C3.out.cell (show 0 < 3 by omega); have k1 : w3.cell? ⟨w.heap.size, 1, none⟩ = some (.int .i64 b) := C3.out.cell (show 1 < 3 by omega); have k2 : w3.cell? ⟨w.heap.size, 2, none⟩ = some (.map (some B)) := C3.out.cell (show 2 < 3 by omega); have Z3 := Lib.hid (CZ.out.call hb3); have p0 : w3.cell? ⟨w.heap.size + 1 + 1, 0, none⟩ = some (.int .i64 0) := Z3.out.cell (show 0 < 3 by omega); have p1 : w3.cell? ⟨w.heap.size + 1 + 1, 1, none⟩ = some (.int .i64 0) := Z3.out.cell (show 1 < 3 by omega); have p2 : w3.cell? ⟨w.heap.size + 1 + 1, 2, none⟩ = some (.map none) := Z3.out.cell (show 2 < 3 by omega); have q0 := Z3.out.frozen (show 0 < 3 by omega); have q1 := Z3.out.frozen (show 1 < 3 by omega); have q2 := Z3.out.frozen (show 2 < 3 by omega)))
  all_goals first
    | (have ST := Lib.hid (show WoSt w (w3.alloc (.cells #[.int .i64 a, .int .i64 b, .map (some (w.heap.size + 1 + 1))] 72)) a b (w.heap.size + 1 + 1) w3.heap.size L from wo_a R0.out hm3 hlt3 hb3)
       have HQ := Lib.hid (fun (w4 : World) L4 (h : WoSt w w4 a b (w.heap.size + 1 + 1) w3.heap.size L4) => h.q (.int .i64 a) (.int .i64 b) (.map (some (w.heap.size + 1 + 1)))))
    | (have ST := Lib.hid (show WoSt w (((w3.setCell ⟨w.heap.size + 1 + 1, 0, none⟩ (.int .i64 a)).setCell ⟨w.heap.size + 1 + 1, 1, none⟩ (.int .i64 b)).setCell ⟨w.heap.size + 1 + 1, 2, none⟩ (.map (some (w.heap.size + 1 + 1 + 1)))) a b (w.heap.size + 1 + 1 + 1) (w.heap.size + 1 + 1) L from wo_b R0.out hm3 hlt3 hb3 Z3.out)
       have HQ := Lib.hid (fun (w4 : World) L4 (h : WoSt w w4 a b (w.heap.size + 1 + 1 + 1) (w.heap.size + 1 + 1) L4) => h.q (.int .i64 a) (.int .i64 b) (.map (some (w.heap.size + 1 + 1 + 1)))))
  all_goals
    have z2 := ST.out.z2
    have HG3 := Lib.hid ST.out.gm1
    try clear p0 p1 p2 q0 q1 q2
    try clear j0 j1 j2
    clear k0 k1 k2 hm3 hlt3 hb3
    go_wp2_with (at_delete; refine wpList_drop_S rfl _ _ _ _ rfl Try.underlying70 ST.out.mp x HX.out rfl rfl ?_; intro w4 hL4 hg4 hs4; have S4 := Lib.hid (ST.out.turned hg4 hL4); have y0 := S4.out.z0; have y1 := S4.out.z1; have y2 := S4.out.z2; have r0 := S4.out.r0; have r1 := S4.out.r1; have r2 := S4.out.r2; have f0 := S4.out.res.frozen (show 0 < 3 by omega); have f1 := S4.out.res.frozen (show 1 < 3 by omega); have f2 := S4.out.res.frozen (show 2 < 3 by omega); clear hL4 hg4 hs4)
    obtain ⟨q0, q1, q2⟩ := HQ.out _ _ S4.out
    refine bodyPost_ret (v := .agg #[.int .i64 a, .int .i64 b, .map (some _)]) (by simp [results, Try.results89, go_sem, q0, q1, q2]; rfl) rfl ?_
    exact ⟨_, rfl, by have := HG3.out; omega, S4.out.live HMEM.out, S4.out.out⟩

end Go.Proofs.Ytilnjlcljjpnmaa

namespace Go.Proofs.Ytilnjlcljjpnmaa
open Go.ChangeShapes Go.WideShapes Go.ChangeAt Go.RowKit Go.Joins

set_option maxRecDepth 100000 in
set_option maxHeartbeats 2000000 in
theorem isCutOff_any (a b : Int) (B : Nat) (us : List ByteArray) (s t : ByteArray) (w : World) (hL : LiveM w B (alB a b us)) (hs : alB a b us s = true) (ht : askB a b t = true) (hg : goodB a b = true) (hc : cnN a b ≤ 1000) :
    Calls Try.prog 90 #[mzV a b (.map (some B)), .string s, .string t] w fun e w' => e = .returned (.bool (!rcB a b us s t)) ∧ w.grownBy w' (some B) := by
  have HS := Lib.hid hs
  have HT := Lib.hid ht
  have HG := Lib.hid hg
  have HC := Lib.hid hc
  have hBw : B < w.heap.size := hL.lt
  have X0 := Lib.hid ((grown_none (show Below w.heap.size w (w.alloc (.cells #[.int .i64 a, .int .i64 b, .map (some B)] 72)) from (Below.refl _ _).alloc (Nat.le_refl _) _)).but (some B))
  have M0 := Lib.hid (m3_new (W := w) (a := a) (b := b) (v := .map (some B)) (t := 72) rfl)
  have L0 := Lib.hid (hL.call ((Below.refl _ _).alloc (Nat.le_refl _) (.cells #[.int .i64 a, .int .i64 b, .map (some B)] 72)))
  have k0 : (w.alloc (.cells #[.int .i64 a, .int .i64 b, .map (some B)] 72)).cell? ⟨w.heap.size, 0, none⟩ = some (.int .i64 a) := M0.out.cell (show 0 < 3 by omega)
  have k1 : (w.alloc (.cells #[.int .i64 a, .int .i64 b, .map (some B)] 72)).cell? ⟨w.heap.size, 1, none⟩ = some (.int .i64 b) := M0.out.cell (show 1 < 3 by omega)
  have k2 : (w.alloc (.cells #[.int .i64 a, .int .i64 b, .map (some B)] 72)).cell? ⟨w.heap.size, 2, none⟩ = some (.map (some B)) := M0.out.cell (show 2 < 3 by omega)
  have HRC : Hid (rcB a b us s t = decide (0 ≤ lvZ a b us s t)) := Lib.hid rfl
  have hbd := lv_bd (a := a) (b := b) (ts := us) (s := s) ht
  clear hL hs ht hg
  unfold mzV
  go_enter Try.func90, Try.ntmps90
  go_wp2_with fail
  refine (layersFrom_any _ _ _ (alB a b us) _ _ L0.out (fun t h => alB_ask h) HS.out HG.out HC.out).mono ?_
  rintro e w3 ⟨v, N, G, rfl, hN0, hN1, hrow, hly, hne, hend, hlv3, hgr3, hsh3⟩
  obtain ⟨g, cc, rfl, hgl, hcell⟩ := lays_cells hrow hN0
  have HLC := Lib.hid (show LysC w3 a b (alB a b us) s g N G from ⟨hcell, hgl, fun i hi => (hly i hi).2⟩)
  have HEND := Lib.hid hend
  have X3 := Lib.hid (X0.out.andThen hgr3 (fun j hj => .inr hj))
  clear hrow hly hne hend hlv3 hgr3 hsh3 hcell k0 k1 k2 X0 M0 L0
  go_wp2_with fail
  refine (layerWith_any _ _ _ _ _ _ _ _ G _ HLC.out hN1 (askB_size HT.out)).mono ?_
  rw [lwZ_lv HT.out HEND.out]
  rintro e w4 ⟨rfl, hb4⟩
  have X4 := Lib.hid (X3.out.andThen (grown_none hb4) (fun j hj => by cases hj))
  clear hb4
  generalize lvZ a b us s t = y at HRC hbd ⊢
  by_cases hy : 0 ≤ y
  · go_wp2_with fail
    go_ret
    exact ⟨ret_bool (by rw [HRC.out, decide_eq_true hy]; first | rfl | exact decide_eq_false (by omega)), X4.out⟩
  · go_wp2_with fail
    go_ret
    exact ⟨ret_bool (by rw [HRC.out, decide_eq_false (by omega)]; first | rfl | exact decide_eq_true (by omega)), X4.out⟩

open Go.Sort in
theorem sortedRow {B : Nat} {w0 w1 : World} {base g cap n nn : Nat} {e : TypeId} {os : Array Obj} {ss : List (List UInt8)} (hown : w1.ownsRow base e 1 (.slice (some ⟨g, 0, none⟩) n cap) n (ss.map encStr)) (hbel : Below B w0 w1) (hB : B ≤ base) (hlen : ss.length = n) :
    (Sort.grow (Sort.putRow encStr (Sort.ahead w1 nn) g 0 (ss.mergeSort fun x y => decide (x ≤ y)).toArray) os).ownsRow base e 1 (.slice (some ⟨g, 0, none⟩) n cap) n ((ss.mergeSort fun x y => decide (x ≤ y)).map encStr) ∧
    Below B w0 (Sort.grow (Sort.putRow encStr (Sort.ahead w1 nn) g 0 (ss.mergeSort fun x y => decide (x ≤ y)).toArray) os) := by
  have hl2 : (ss.mergeSort fun x y => decide (x ≤ y)).length = ss.length := List.length_mergeSort ss
  subst hlen
  rcases hown.2 with ⟨h0, _⟩ | ⟨g', cap', cur, hv, hbase, hb, h1, h2, h3, h4⟩
  · cases h0
  cases hv
  exact ⟨ownsRow_sorted (n := nn) (os := os) (ts := ss.mergeSort fun x y => decide (x ≤ y)) hl2 hbase hb h1 h2 h3,
    hbel.grown (grownBy_sorted _) (Nat.le_trans hB (Nat.le_trans hbase (Nat.le_of_lt (Array.getElem?_eq_some_iff.1 hb).1))) (fun j hj => by cases hj; exact Nat.le_trans hB hbase)⟩

theorem keyL_inj {x y : List ByteArray} (h : keyL x = keyL y) : x = y := by rw [← ofKey_keyL x, h, ofKey_keyL]

theorem sorted_needed {a b : Int} {ts : List ByteArray} {s t : ByteArray} {P : List Nat} {d : Nat} (h : Way a b ts s t P d) (hf : faB a b ts s t = true) (hg : goodB a b = true) :
    ((keyL (pgL a b ts s t P d)).mergeSort fun x y => decide (x ≤ y)) = keyL (neL a b ts s t) := by
  refine rising_eq _ _ ?_ (neL_rising hg) fun x => ?_
  · have hs : ((keyL (pgL a b ts s t P d)).mergeSort fun x y => decide (x ≤ y)).Pairwise (· ≤ ·) := by
      refine (List.pairwise_mergeSort (le := fun x y => decide (x ≤ y)) (fun x y z h1 h2 => ?_) (fun x y => ?_) _).imp (fun h => of_decide_eq_true h)
      · exact decide_eq_true (List.le_trans (of_decide_eq_true h1) (of_decide_eq_true h2))
      · have := List.le_total x y
        simpa using this
    have hn : ((keyL (pgL a b ts s t P d)).mergeSort fun x y => decide (x ≤ y)).Nodup := by
      refine (List.mergeSort_perm _ _).nodup_iff.2 ?_
      exact nodup_on h.pg_nodup fun x _ y _ e => bytesJ e
    refine List.pairwise_iff_getElem.2 fun i j hi hj hij => ?_
    have h1 := List.pairwise_iff_getElem.1 hs i j hi hj hij
    have h2 := List.pairwise_iff_getElem.1 hn i j hi hj hij
    exact lt_or (List.not_lt.2 h1) (fun e => h2 e.symm)
  · rw [List.mem_mergeSort]
    unfold keyL
    rw [List.mem_map, List.mem_map]
    constructor
    · rintro ⟨c, hc, rfl⟩
      exact ⟨c, (neL_mem hf c).2 ((h.pg_mem c).1 hc), rfl⟩
    · rintro ⟨c, hc, rfl⟩
      exact ⟨c, (h.pg_mem c).2 ((neL_mem hf c).1 hc), rfl⟩

theorem turnF_take {us : List (Int × Int)} {i j : Nat} (hj : j < i * 2) : turnF (us.take i) j = turnF us j := by
  unfold turnF
  have : (us.take i).getD (j / 2) (0, 0) = us.getD (j / 2) (0, 0) := by
    simp [List.getD, show j / 2 < i by omega]
  rw [this]

theorem takeD {us : List (Int × Int)} {i k : Nat} (hi : i < k) : (us.take k).getD i (0, 0) = us.getD i (0, 0) := by simp [List.getD, hi]

theorem Cells.less {w : World} {g n m : Nat} {f : Nat → Value} (h : Cells w g n f) (hm : m ≤ n) : Cells w g m f := ⟨h.lt, fun j hj => h.at_ j (by omega)⟩

/-- The way's turns, in a block below a place. -/
def TuA (w : World) (R : Nat) (A : Option Addr) (d : Nat) (us : List (Int × Int)) : Prop := d = 0 ∨ ∃ g, A = some ⟨g, 0, none⟩ ∧ g < R ∧ Cells w g (d * 2) (turnF us)

theorem TuA.call {w w' : World} {R : Nat} {A : Option Addr} {d : Nat} {us : List (Int × Int)} (h : TuA w R A d us) (hb : Below w.heap.size w w') : TuA w' R A d us := h.imp id fun ⟨g, e, h1, h2⟩ => ⟨g, e, h1, h2.call hb⟩

theorem TuA.grown {w w' : World} {R : Nat} {A : Option Addr} {d : Nat} {us : List (Int × Int)} {row : Option Nat} (h : TuA w R A d us) (hg : w.grownBy w' row) (hne : ∀ g, g < R → some g ≠ row) : TuA w' R A d us := h.imp id fun ⟨g, e, h1, h2⟩ => ⟨g, e, h1, h2.grownM hg (hne g h1)⟩

theorem pgL_first (a b : Int) (ts : List ByteArray) (s t : ByteArray) (P : List Nat) {k d : Nat} (h : k = d ∨ d = 0 ∧ k = 1) : pgL a b ts s t P k = pgL a b ts s t P d := by
  rcases h with rfl | ⟨rfl, rfl⟩
  · rfl
  · rw [pgL_one]; rfl

set_option maxRecDepth 100000 in
set_option maxHeartbeats 4000000 in
theorem needed_any (a b : Int) (A : Option Addr) (n c : Nat) (ts : List ByteArray) (s t : ByteArray) (w : World) (hn : n ≤ maxLen) (hs : s.size ≤ maxLen) (ht : t.size ≤ maxLen) (hA : ArgS w A n ts) :
    Calls Try.prog 47 #[.agg #[.int .i64 a, .int .i64 b], .slice A n c, .string s, .string t] w (NeOut w (neL a b ts s t) (faB a b ts s t)) := by
  have HA := Lib.hid hA
  have HN := Lib.hid hn
  have HS := Lib.hid hs
  have HT := Lib.hid ht
  obtain ⟨i0, hi, hy0, hy1, hy2⟩ := info_parts info_string
  have C0 := Lib.hid (box_new (W := w) (a := a) (b := b) (t := 28) rfl)
  have X0 := Lib.hid (show Below w.heap.size w (w.alloc (.cells #[.int .i64 a, .int .i64 b] 28)) from (Below.refl _ _).alloc (Nat.le_refl _) _)
  clear hA hn hs ht
  by_cases hf : faB a b ts s t = true
  · have HF := Lib.hid hf
    have hdt : dtB a b ts s t = true := by unfold faB at hf; rw [Bool.and_eq_true] at hf; exact hf.1
    have HP := Lib.hid (dkB_parts (dtB_parts hdt).1)
    have HQ := Lib.hid (dkB_parts (dtB_parts hdt).2)
    have HAR : Hid (areZ a b ts = true) := Lib.hid (by have := (dtB_parts hdt).1; unfold dkB at this; rw [Bool.and_eq_true] at this; exact this.1)
    obtain ⟨d, hd0, hdl⟩ : ∃ d : Nat, 0 < wyZ a b ts t d s ∧ lvZ a b ts t s = d := by
      rcases lvZ_cases (ts := ts) (s := t) HP.out.2.2.2.2.1 with h | ⟨_, e⟩
      · exact h
      · unfold faB rcB at hf
        rw [hdt, lvZ_sym HP.out.2.2.2.2.2.2 HQ.out.2.2.2.2.2.2, e] at hf
        cases hf
    have hd9 : d < 1000 := by have := wyZ_lt HP.out.2.2.2.2.1 hd0; have := HP.out.2.2.2.1; omega
    have HFT : Hid (faT a b ts s t = tuW (ptW a b (alB a b ts) t d s)) := Lib.hid (by unfold faT; rw [hf, if_pos rfl, hdl, Int.toNat_natCast])
    obtain ⟨P, hP⟩ : ∃ P, ptW a b (alB a b ts) t d s = P := ⟨_, rfl⟩
    have HW := Lib.hid (way_of (a := a) (b := b) HP.out.2.2.2.2.2.2 HQ.out.2.2.2.2.2.2 hd0)
    rw [hP] at HW HFT
    have HUL : Hid ((tuW P).length = d) := Lib.hid (by rw [tuW_length, HW.out.len])
    have HUA : Hid (∀ i, i < d → twZ a b (yW b s P i) [(tuW P).getD i (0, 0)] = yW b s P (i + 1)) := Lib.hid (fun i hi => by
      rw [tuW_at (by rw [HW.out.len]; exact hi)]
      exact twW_one (HW.out.at_ i (by omega)).1 (byW_turn (HW.out.step i hi)))
    have HPS := Lib.hid (fun k (hk : 0 < k) => pgL_succ a b ts s t P hk)
    have HPL := Lib.hid (pgL_le a b ts s t P)
    have HP1 := Lib.hid (pgL_one a b ts s t P)
    have HEND := Lib.hid (fun k h => (pgL_first a b ts s t P (k := k) (d := d) h))
    have HSRT := Lib.hid (sorted_needed HW.out hf HP.out.2.2.1)
    have HNIL : Hid (pgL a b ts s t P d = [] → neL a b ts s t = []) := Lib.hid (fun h => keyL_inj (by rw [← HSRT.out, h]; simp [keyL]))
    clear hf hdt hdl hP hd0
    generalize pgL a b ts s t P = pf at HPS HPL HP1 HEND HSRT HNIL
    go_enter Try.func47, Try.ntmps47
    go_wp2_with fail
    refine (firstAround_any _ _ _ _ _ ts _ _ _ HN.out HS.out HT.out (HA.out.below X0.out)).mono ?_
    rintro e w1 ⟨A1, c1, rfl, hO, hb1, hcap⟩
    rw [HFT.out, HUL.out] at hO hcap ⊢
    rw [HF.out]
    have X1 := Lib.hid (bel_call X0.out hb1)
    have C1 := Lib.hid (C0.out.call hb1)
    have HO1 := Lib.hid (show OwnT w1 0 A1 d (tuW P) from ⟨hO.1, hO.2.1, hO.2.2.imp id fun ⟨g, e, _, hC⟩ => ⟨g, e, Nat.zero_le _, hC⟩⟩)
    have k0 : w1.cell? ⟨w.heap.size, 0, none⟩ = some (.int .i64 a) := C1.out.cell (show 0 < 2 by omega)
    have k1 : w1.cell? ⟨w.heap.size, 1, none⟩ = some (.int .i64 b) := C1.out.cell (show 1 < 2 by omega)
    clear hO hb1 X0 C0 HFT
    go_wp2_with fail
    refine (mazeOf_any _ _ _ _ _ ts none 0 _ [] _ HN.out (HA.out.below X1.out) (by unfold maxLen; omega) (argS_non _)).mono ?_
    rintro e w2 h2
    rcases h2 with ⟨_, B, rfl, hB, hlv, hb2⟩ | ⟨hd2, rfl, _⟩
    · unfold mzV
      have hBw2 : B < w2.heap.size := hlv.lt
      have X2 := Lib.hid ((bel_call X1.out hb2).alloc (bel_call X1.out hb2).size (.cells #[.int .i64 a, .int .i64 b, .map (some B)] 72))
      have M2 := Lib.hid (m3_new (W := w2) (a := a) (b := b) (v := .map (some B)) (t := 72) rfl)
      have L2 := Lib.hid (hlv.call ((Below.refl _ _).alloc (Nat.le_refl _) (.cells #[.int .i64 a, .int .i64 b, .map (some B)] 72)))
      have O2 := Lib.hid ((HO1.out.keep hb2).keep ((Below.refl _ _).alloc (Nat.le_refl _) (.cells #[.int .i64 a, .int .i64 b, .map (some B)] 72)))
      have hwB : w.heap.size ≤ B := Nat.le_trans X1.out.size hB
      clear hb2 hlv hB k0 k1 HO1
      go_wp2_with fail
      obtain ⟨gm, hgm⟩ : ∃ gm, w2.heap.size = gm := ⟨_, rfl⟩
      obtain ⟨R, hR⟩ : ∃ R, (w2.alloc (.cells #[.int .i64 a, .int .i64 b, .map (some B)] 72)).heap.size = R := ⟨_, rfl⟩
      have hRle := Nat.le_of_eq hR.symm
      have hgmR : gm < R := by rw [← hR, World.size_alloc]; omega
      have hwR : w.heap.size ≤ R := by rw [← hR]; exact X2.out.size
      have T2 := Lib.hid (show TuA (w2.alloc (.cells #[.int .i64 a, .int .i64 b, .map (some B)] 72)) R A1 d (tuW P) from O2.out.2.2.imp id fun ⟨g, e, _, hC⟩ => ⟨g, e, by rw [← hR]; exact hC.lt, hC⟩)
      rw [hgm] at M2 hBw2 ⊢
      clear hgm hR O2
      go_loopw [14, 15] (fun v i wr => ∃ (k m : Nat), 1 ≤ k ∧ (k ≤ d ∨ d = 0 ∧ k = 1) ∧ i = .int .i64 k ∧ (pf k).length = m ∧ m ≤ k ∧ wr.ownsRow R 9 1 v m (sv (pf k)) ∧ Cells wr gm 3 (m3F a b (.map (some B))) ∧ LiveM wr B (alB a b ts) ∧ TuA wr R A1 d (tuW P) ∧ Below w.heap.size w wr ∧ R ≤ wr.heap.size) (fun _ i _ => d - (intOf i).toNat)
      case atStart => exact ⟨1, 0, by omega, by omega, rfl, by rw [HP1.out]; rfl, by omega, by rw [HP1.out]; exact World.ownsRow_nil _ _ _ _, M2.out, L2.out, T2.out, X2.out, hRle⟩
      case round =>
        clear M2 L2 T2 X2 hRle
        obtain ⟨k, m, hk1, hkd, rfl, hm, hmk, hO, hM, hL, hT, hB, hRl⟩ := hrel
        have HO := Lib.hid hO
        have HM := Lib.hid hM
        have HL := Lib.hid hL
        have HTT := Lib.hid hT
        have HB := Lib.hid hB
        have HMM := Lib.hid hm
        clear hO hM hL hT hB hm
        by_cases hlt : k < d
        · obtain ⟨gT, rfl, _, hTC⟩ := HTT.out.resolve_left (by omega)
          have HTC := Lib.hid hTC
          have k0 : wr.cell? ⟨gm, 0, none⟩ = some (.int .i64 a) := HM.out.cell (show 0 < 3 by omega)
          have k1 : wr.cell? ⟨gm, 1, none⟩ = some (.int .i64 b) := HM.out.cell (show 1 < 3 by omega)
          have k2 : wr.cell? ⟨gm, 2, none⟩ = some (.map (some B)) := HM.out.cell (show 2 < 3 by omega)
          have hkc : k ≤ c1 := by omega
          have HPSK := Lib.hid (HPS.out k (by omega))
          obtain ⟨y, hy⟩ : ∃ y, yW b s P k = y := ⟨_, rfl⟩
          have HY := Lib.hid hy
          have HYA : Hid (askB a b y = true) := Lib.hid (by rw [← hy]; exact (HW.out.at_ k (by omega)).1)
          have HALS : Hid (alB a b (y :: ts) s = true) := Lib.hid (by
            rw [alB_cons, HP.out.2.2.2.2.2.2, decide_eq_false (fun e => by
              have := HW.out.inj (i := 0) (j := k) (by omega) (by omega) (e.trans hy.symm)
              omega)]
            rfl)
          have HTK := Lib.hid (fun (W : World) (hb : Below wr.heap.size wr W) => argT_own (n := k) (us := (tuW P).take k) (by rw [List.length_take, HUL.out]; omega) (((HTC.out.call hb).less (show k * 2 ≤ d * 2 by omega)).congr fun j hj => (turnF_take hj).symm))
          have HUK : Hid (∀ i, i < k → twZ a b (yW b s P i) [((tuW P).take k).getD i (0, 0)] = yW b s P (i + 1)) := Lib.hid (fun i hi => by rw [takeD hi]; exact HUA.out i (by omega))
          rw [hy] at HPSK
          clear hTC hy
          go_wp2_with fail
          go_region_with (go_at_call 88; refine (walkA_any a b B (alB a b ts) (yW b s P) _ k _ ((tuW P).take k) _ (HL.out.call (bel_drew (Below.refl _ _))) (by omega) (HTK.out _ (bel_drew (Below.refl _ _))) (fun i hi => (HW.out.at_ i (by omega)).1) HUK.out (fun i hi => HW.out.alive (by omega))).mono ?_; rw [HY.out]; rintro e w3 ⟨rfl, hb3⟩; have HB3 : Hid (Below wr.heap.size wr w3) := Lib.hid (below_undrew hb3); clear hb3)
          all_goals
            have M3 := Lib.hid (HM.out.call HB3.out)
            have L3 := Lib.hid (HL.out.call HB3.out)
            have j0 : w3.cell? ⟨gm, 0, none⟩ = some (.int .i64 a) := M3.out.cell (show 0 < 3 by omega)
            have j1 : w3.cell? ⟨gm, 1, none⟩ = some (.int .i64 b) := M3.out.cell (show 1 < 3 by omega)
            have j2 : w3.cell? ⟨gm, 2, none⟩ = some (.map (some B)) := M3.out.cell (show 2 < 3 by omega)
            clear k0 k1 k2
            go_wp2_with fail
            refine (without_any _ _ _ _ _ _ L3.out (askB_size HYA.out)).mono ?_
            rintro e w4 ⟨B', rfl, hB', hlv4, hb4⟩
            have V4 := Lib.hid (hlv4.congr (al' := alB a b (y :: ts)) (fun t => (alB_cons t).symm))
            clear hlv4 j0 j1 j2
            unfold mzV
            go_wp2_with fail
            refine (isCutOff_any _ _ _ (y :: ts) _ _ _ V4.out HALS.out HQ.out.2.2.2.2.1 HP.out.2.2.1 HP.out.2.2.2.1).mono ?_
            rintro e w5 ⟨rfl, hgr5⟩
            have HB5 := Lib.hid (bel_call HB3.out (below_grown hb4 hB' hgr5))
            have HO5 := Lib.hid (own_keeps HO.out HB5.out)
            have HM5 := Lib.hid (HM.out.call HB5.out)
            have HL5 := Lib.hid (HL.out.call HB5.out)
            have HT5 := Lib.hid (HTT.out.call HB5.out)
            have HX5 := Lib.hid (bel_call HB.out HB5.out)
            have R5 : R ≤ w5.heap.size := Nat.le_trans hRl HB5.out.size
            have HCB : Hid (cutB a b ts s t y = !rcB a b (y :: ts) s t) := Lib.hid rfl
            clear hgr5 hb4 V4 M3 L3
            obtain ⟨r, hr⟩ : ∃ r, rcB a b (y :: ts) s t = r := ⟨_, rfl⟩
            rw [hr] at HCB ⊢
            clear hr
            rcases r with _ | _
            · have HNK : Hid (pf (k + 1) = pf k ++ [y]) := Lib.hid (by rw [HPSK.out, HCB.out]; rfl)
              go_wp2_with (at_builtin; refine wpList_append_own _ rfl _ _ 24 rfl R 9 i0 (.string ByteArray.empty) 1 16 Try.underlying24 hi hy0 hy1 hy2 rfl (by decide) _ _ _ rfl (HO5.out.alloc _) ⟨w5.heap.size, 0, none⟩ 1 1 [.string y] rfl rfl (news_of rfl) (by simp [Value.oneCell']) (by unfold maxLen; omega) (by omega) (by rw [World.size_alloc]; omega) ?_; intro v' w8 hown' hgrow _)
              have hOb := HO5.out.lt
              have hne : ∀ q, q < R → some q ≠ (u14).ownBlock := fun q hq e => by have := (hOb q e.symm).1; omega
              have HX8 := Lib.hid ((HX5.out.alloc HX5.out.size (.cells #[.string y] 9)).grown hgrow (HX5.out.alloc HX5.out.size (.cells #[.string y] 9)).size (fun j hj => Nat.le_trans hwR (hOb j hj).1))
              have HM8 := Lib.hid ((HM5.out.alloc (.cells #[.string y] 9)).grownM hgrow (hne _ hgmR))
              have HL8 := Lib.hid ((HL5.out.call ((Below.refl _ _).alloc (Nat.le_refl _) (.cells #[.string y] 9))).kept hgrow (hne _ (by omega)))
              have R8 : R ≤ w8.heap.size := by have := hgrow.size; rw [World.size_alloc] at this; omega
              have HO8 : Hid (w8.ownsRow R 9 1 v' (m + 1) (sv (pf (k + 1)))) := Lib.hid (by rw [HNK.out, sv_snoc]; exact hown')
              have HMM8 : Hid ((pf (k + 1)).length = m + 1) := Lib.hid (by rw [HNK.out, List.length_append, HMM.out]; rfl)
              have HT8 := Lib.hid ((HT5.out.call ((Below.refl _ _).alloc (Nat.le_refl _) (.cells #[.string y] 9))).grown hgrow hne)
              clear hgrow hown' hOb hne
              go_wp2_with fail
              go_roundw
              case rel => exact ⟨k + 1, m + 1, by omega, by omega, by go_num, HMM8.out, by omega, HO8.out, HM8.out, HL8.out, HT8.out, HX8.out, R8⟩
              case measure => simp [intOf]; omega
            · have HNK : Hid (pf (k + 1) = pf k) := Lib.hid (by rw [HPSK.out, HCB.out]; simp)
              go_wp2_with fail
              go_roundw
              case rel => exact ⟨k + 1, m, by omega, by omega, by go_num, by rw [HNK.out]; exact HMM.out, by omega, by rw [HNK.out]; exact HO5.out, HM5.out, HL5.out, HT5.out, HX5.out, R5⟩
              case measure => simp [intOf]; omega
        · have hpe : Hid (pf k = pf d) := Lib.hid (HEND.out k (by omega))
          have hm9 : m ≤ 1000 := by omega
          rcases Nat.eq_zero_or_pos m with h0 | h0
          · subst h0
            have HE : Hid (neL a b ts s t = []) := Lib.hid (HNIL.out (by rw [← hpe.out]; exact List.eq_nil_of_length_eq_zero HMM.out))
            obtain ⟨A5, c5, rfl⟩ := ownO_any HO.out
            have hsort := Go.Proofs.Try.slices_Sort_string_none A5 c5 wr
            go_wp2_with (go_at_call 91; refine hsort.mono ?_; rintro e w6 ⟨rfl, rfl⟩)
            go_ret2
            rw [HE.out, HF.out]
            exact ⟨A5, c5, rfl, ⟨by simp, .inl rfl⟩, HB.out⟩
          · obtain ⟨ss, hss⟩ : ∃ ss, keyL (pf k) = ss := ⟨_, rfl⟩
            have how := HO.out
            rw [sv_key, hss] at how
            have hnn : u14 ≠ .slice none 0 0 := fun e => by
              obtain ⟨g, c', e', _⟩ := how.form h0
              rw [e'] at e; cases e
            obtain ⟨g, cap, rfl, hbg, hgl, hncap, hcm, hlen, hH⟩ := Lib.holds_of_ownsRow how hnn
            have hsort := Go.Proofs.Try.slices_Sort_string g 0 cap ss wr hH hgl (by omega)
            rw [hlen] at hsort
            have HHW := Lib.hid how
            have HSS := Lib.hid hss
            have HLEN := Lib.hid hlen
            clear how hH hnn hss hlen
            go_wp2_with (go_at_call 91; refine hsort.mono ?_; rintro e w6 ⟨rfl, nn, os, rfl⟩)
            go_ret2
            obtain ⟨h1, h2⟩ := sortedRow (nn := nn) (os := os) HHW.out HB.out hwR HLEN.out
            have hS : (ss.mergeSort fun x y => decide (x ≤ y)) = keyL (neL a b ts s t) := by rw [← HSS.out, hpe.out, HSRT.out]
            have hl9 : (neL a b ts s t).length = m := by
              have h3 := List.length_mergeSort (le := fun x y => decide (x ≤ y)) ss
              rw [hS, HLEN.out] at h3
              simpa [keyL] using h3
            have hsv : sv (neL a b ts s t) = (ss.mergeSort fun x y => decide (x ≤ y)).map encStr := by rw [sv_key, hS]
            rw [HF.out]
            exact ne_some hl9 hm9 hwR (by rw [hsv]; exact h1) h2
    · exfalso
      rw [mzB_non, HAR.out] at hd2
      cases hd2
  · have HF := Lib.hid (Bool.eq_false_iff.2 hf)
    have HFT := Lib.hid (faT_no HF.out)
    have HNN : Hid (neL a b ts s t = []) := Lib.hid (by unfold neL; rw [HF.out]; rfl)
    clear hf
    go_enter Try.func47, Try.ntmps47
    go_wp2_with fail
    refine (firstAround_any _ _ _ _ _ ts _ _ _ HN.out HS.out HT.out (HA.out.below X0.out)).mono ?_
    rintro e w1 ⟨A1, c1, rfl, hO, hb1, hcap⟩
    rw [HF.out]
    have X1 := Lib.hid (bel_call X0.out hb1)
    clear hO hb1 hcap
    go_wp2_with fail
    go_ret2
    rw [HNN.out, HF.out]
    exact ne_none X1.out

end Go.Proofs.Ytilnjlcljjpnmaa

import Derived.Shelf.Strings.Search1
import Derived.Shelf.Bytes.SlIndexSmall
import Derived.Shelf.Bytes.SlIndexAt
import Derived.Shelf.Bytes.SlSearch0
import Derived.Shelf.Bytes.SlSearch1
import Derived.Shelf.Bytes.SlSearch2
import Derived.Shelf.Bytes.SlIndexWhole
import Derived.Shelf.LaysM
import Derived.Ground.SlbCloneProg
import Derived.Shelf.Bytes.SlClone
import Derived.Shelf.Bytes.SlEqualAll
import Derived.Ground.SlbtProg
import Derived.Shelf.Bytes.SlCut
import Derived.Shelf.Bytes.Small
import Derived.Shelf.Bytes.IndexByte
import Derived.Test.YtdagnkdonlfobaaGreatProg
import Derived.Test.YtdagnkdonlfobaaGreatRows
import Derived.WalkKit
import Derived.WalkSpells
import Derived.WalkLawsBesides
import Derived.BigQuiet
import Derived.Deep.QuietTactic
import Derived.Lib.Hide
import Derived.IntWalk
import Derived.OneCell
import Derived.Laws.Rows
import Derived.Laws.BytesArg
/-
  DERIVED: THE SHELF's CONTRACTS AT THIS DUMP, IN PLAIN WORDS (tools/lay-plain.mjs out of 'TryzShelf.lean', which tools/lay-shelf.mjs wrote): THE SAME DECLARATIONS UNDER THE SAME NAMES: 'import', 'namespace', 'open', 'def', 'theorem' AND NOTHING ELSE: no command of the shelf's: FOR A HAND-IN. Each laying: the table of numbers ('.._ren') and one theorem, a field a fact of the dump's own or the kernel's comparison; each contract: ONE APPLICATION.
-/
namespace Go.Proofs
open Go.Shelf
def Tryz.lays224_ren : Go.Shelf.Ren := ⟨fun | 224 => 219 | n => n, fun | 3 => 3 | n => n, fun | n => n⟩
theorem Tryz.lays224 : Go.Proofs.Lays.n224 Tryz.prog Tryz.lays224_ren := {
  mixed := by kernel_rfl
  f224 := Tryz.func219.trans (congrArg some (by kernel_rfl))
  t3 := Tryz.underlying3
  a3 := Tryz.isAgg3
  z3 := Tryz.sizeOf3
  v3 := Tryz.zeroValue3 }
open Go.RowKit Go.Lib in
/-- internal/bytealg.Cutover: "Cutover reports the number of failures of IndexByte we should tolerate before switching over to Index. n is the number of bytes processed so far.": on amd64: (n + 16) / 8. (LAID: no walk: one application.) -/
theorem Tryz.bytealg_Cutover (n : Int) (h0 : 0 ≤ n) (h1 : n < 4611686018427387904) (w : World) :
    Calls Tryz.prog 219 #[.int .i64 n] w fun e w' => e = .returned (.int .i64 ((n + 16) / 8)) ∧ w' = w := Any.bytealg_Cutover Tryz.lays224 n h0 h1 w
def Tryz.lays185_ren : Go.Shelf.Ren := ⟨fun | 185 => 214 | 187 => 215 | 115 => 217 | 253 => 218 | 224 => 219 | 254 => 220 | 255 => 221 | 291 => 222 | n => n, fun | 37 => 31 | 3 => 3 | 4 => 4 | 0 => 0 | 5 => 5 | 46 => 151 | 9 => 9 | 146 => 297 | 51 => 35 | n => n, fun | 1 => 0 | n => n⟩
theorem Tryz.lays185 : Go.Proofs.Lays.n185 Tryz.prog Tryz.lays185_ren := {
  mixed := by kernel_rfl
  f115 := Tryz.func217.trans (congrArg some (by kernel_rfl))
  f185 := Tryz.func214.trans (congrArg some (by kernel_rfl))
  f187 := Tryz.func215.trans (congrArg some (by kernel_rfl))
  f224 := Tryz.func219.trans (congrArg some (by kernel_rfl))
  f253 := Tryz.func218.trans (congrArg some (by kernel_rfl))
  f254 := Tryz.func220.trans (congrArg some (by kernel_rfl))
  f255 := Tryz.func221.trans (congrArg some (by kernel_rfl))
  f291 := Tryz.func222.trans (congrArg some (by kernel_rfl))
  t0 := Tryz.underlying0
  a0 := Tryz.isAgg0
  z0 := Tryz.sizeOf0
  v0 := Tryz.zeroValue0
  t3 := Tryz.underlying3
  a3 := Tryz.isAgg3
  z3 := Tryz.sizeOf3
  v3 := Tryz.zeroValue3
  t4 := Tryz.underlying4
  a4 := Tryz.isAgg4
  z4 := Tryz.sizeOf4
  v4 := Tryz.zeroValue4
  t5 := Tryz.underlying5
  a5 := Tryz.isAgg5
  z5 := Tryz.sizeOf5
  v5 := Tryz.zeroValue5
  t9 := Tryz.underlying9
  a9 := Tryz.isAgg9
  z9 := Tryz.sizeOf9
  v9 := Tryz.zeroValue9
  t37 := Tryz.underlying31
  a37 := Tryz.isAgg31
  z37 := Tryz.sizeOf31
  v37 := Tryz.zeroValue31
  t46 := Tryz.underlying151
  a46 := Tryz.isAgg151
  z46 := Tryz.sizeOf151
  v46 := Tryz.zeroValue151
  t51 := Tryz.underlying35
  a51 := Tryz.isAgg35
  z51 := Tryz.sizeOf35
  v51 := Tryz.zeroValue35
  t146 := Tryz.underlying297
  a146 := Tryz.isAgg297
  z146 := Tryz.sizeOf297
  v146 := Tryz.zeroValue297
  g1 := by kernel_rfl }
open Go.RowKit Go.Lib in
/-- bytes.Index at a separator of one byte: "Index returns the index of the first instance of sep in s, or -1 if sep is not present in s.": 'Lib.indexByte' of s's bytes and that byte; the world is as it was. 'xs': s's elements; 'cv': the separator's one byte. (LAID: no walk: one application.) -/
theorem Tryz.bytes_Index_one (b o n c b2 o2 d : Nat) (xs : List Int) (cv : Int) (w : World) (hx : xs.length = n) (hc : ∀ i, i < n → w.cell? ⟨b, o + i, none⟩ = some (.int .u8 (xs.getD i 0))) (hc2 : w.cell? ⟨b2, o2, none⟩ = some (.int .u8 cv)) :
    Calls Tryz.prog 214 #[.slice (some ⟨b, o, none⟩) n c, .slice (some ⟨b2, o2, none⟩) 1 d] w fun e w' => e = .returned (.int .i64 (Lib.indexByte (Lib.bytesOf xs) cv.toNat.toUInt8)) ∧ w' = w := Any.bytes_Index_one Tryz.lays185 b o n c b2 o2 d xs cv w hx hc hc2
open Go.RowKit Go.Lib in
/-- The same where s is nil: -1. (LAID: no walk: one application.) -/
theorem Tryz.bytes_Index_one_nil (b2 o2 d : Nat) (cv : Int) (w : World) (hc2 : w.cell? ⟨b2, o2, none⟩ = some (.int .u8 cv)) :
    Calls Tryz.prog 214 #[.slice none 0 0, .slice (some ⟨b2, o2, none⟩) 1 d] w fun e w' => e = .returned (.int .i64 (-1)) ∧ w' = w := Any.bytes_Index_one_nil Tryz.lays185 b2 o2 d cv w hc2
open Go.RowKit Go.Lib in
/-- bytes.Index at a separator of no byte (nil too): 0, whatever s. (LAID: no walk: one application.) -/
theorem Tryz.bytes_Index_none (p q : Option Addr) (n c d : Nat) (w : World) :
    Calls Tryz.prog 214 #[.slice p n c, .slice q 0 d] w fun e w' => e = .returned (.int .i64 0) ∧ w' = w := Any.bytes_Index_none Tryz.lays185 p q n c d w
open Go.RowKit Go.Lib in
/-- bytes.Index at a separator of two bytes or more that is longer than s: -1; no cell is read. (LAID: no walk: one application.) -/
theorem Tryz.bytes_Index_longer (p q : Option Addr) (n c m d : Nat) (w : World) (h2 : 2 ≤ m) (hnm : n < m) (hm : m ≤ 9223372036854775807) :
    Calls Tryz.prog 214 #[.slice p n c, .slice q m d] w fun e w' => e = .returned (.int .i64 (-1)) ∧ w' = w := Any.bytes_Index_longer Tryz.lays185 p q n c m d w h2 hnm hm
open Go.RowKit Go.Lib in
/-- bytes.Index at a separator of two bytes or more that is JUST AS LONG as s: 0 where the two hold the same bytes, else -1. (LAID: no walk: one application.) -/
theorem Tryz.bytes_Index_same (b o c b2 o2 d n : Nat) (xs ys : List Int) (w : World) (h2 : 2 ≤ n) (hm : n ≤ 9223372036854775807) (hx : xs.length = n) (hy : ys.length = n) (hc : ∀ i, i < n → w.cell? ⟨b, o + i, none⟩ = some (.int .u8 (xs.getD i 0))) (hc2 : ∀ i, i < n → w.cell? ⟨b2, o2 + i, none⟩ = some (.int .u8 (ys.getD i 0))) :
    Calls Tryz.prog 214 #[.slice (some ⟨b, o, none⟩) n c, .slice (some ⟨b2, o2, none⟩) n d] w fun e w' => e = .returned (.int .i64 (if Lib.bytesOf ys == Lib.bytesOf xs then 0 else -1)) ∧ w' = w := Any.bytes_Index_same Tryz.lays185 b o c b2 o2 d n xs ys w h2 hm hx hy hc hc2
def Tryz.lays187_ren : Go.Shelf.Ren := ⟨fun | 187 => 215 | 255 => 221 | n => n, fun | 37 => 31 | 5 => 5 | 3 => 3 | n => n, fun | n => n⟩
theorem Tryz.lays187 : Go.Proofs.Lays.n187 Tryz.prog Tryz.lays187_ren := {
  mixed := by kernel_rfl
  f187 := Tryz.func215.trans (congrArg some (by kernel_rfl))
  f255 := Tryz.func221.trans (congrArg some (by kernel_rfl))
  t3 := Tryz.underlying3
  a3 := Tryz.isAgg3
  z3 := Tryz.sizeOf3
  v3 := Tryz.zeroValue3
  t5 := Tryz.underlying5
  a5 := Tryz.isAgg5
  z5 := Tryz.sizeOf5
  v5 := Tryz.zeroValue5
  t37 := Tryz.underlying31
  a37 := Tryz.isAgg31
  z37 := Tryz.sizeOf31
  v37 := Tryz.zeroValue31 }
open Go.RowKit Go.Lib in
/-- bytes.IndexByte, b at whatever address: "IndexByte returns the index of the first instance of c in b, or -1 if c is not present in b." (LAID: no walk: one application.) -/
theorem Tryz.bytes_IndexByte_at (a : Addr) (n c : Nat) (xs : List Int) (cv : Int) (w : World) (hx : xs.length = n) (hc : ∀ i, i < n → w.cell? (a.add i) = some (.int .u8 (xs.getD i 0))) :
    Calls Tryz.prog 215 #[.slice (some a) n c, .int .u8 cv] w fun e w' => e = .returned (.int .i64 (Lib.indexByte (Lib.bytesOf xs) cv.toNat.toUInt8)) ∧ w' = w := Any.bytes_IndexByte_at Tryz.lays187 a n c xs cv w hx hc
open Go.RowKit Go.Lib in
/-- bytes.Index at a separator of one byte, s at whatever address. (LAID: no walk: one application.) -/
theorem Tryz.bytes_Index_one_at (a : Addr) (n c b2 o2 d : Nat) (xs : List Int) (cv : Int) (w : World) (hx : xs.length = n) (hc : ∀ i, i < n → w.cell? (a.add i) = some (.int .u8 (xs.getD i 0))) (hc2 : w.cell? ⟨b2, o2, none⟩ = some (.int .u8 cv)) :
    Calls Tryz.prog 214 #[.slice (some a) n c, .slice (some ⟨b2, o2, none⟩) 1 d] w fun e w' => e = .returned (.int .i64 (Lib.indexByte (Lib.bytesOf xs) cv.toNat.toUInt8)) ∧ w' = w := Any.bytes_Index_one_at Tryz.lays185 a n c b2 o2 d xs cv w hx hc hc2
open Go.Proofs Go.RowKit Go.Lib in
/-- bytes.IndexByte, the slice's bytes told by a ByteArray. (LAID: no walk: one application.) -/
theorem Tryz.bytes_IndexByte_bytes (b o cap : Nat) (t : ByteArray) (cv : Int) (w : World) (hc : Lib.Bytes w b o t) :
    Calls Tryz.prog 215 #[.slice (some ⟨b, o, none⟩) t.size cap, .int .u8 cv] w fun e w' => e = .returned (.int .i64 (Lib.indexByte t.data.toList cv.toNat.toUInt8)) ∧ w' = w := Any.bytes_IndexByte_bytes Tryz.lays187 b o cap t cv w hc
def Tryz.lays115_ren : Go.Shelf.Ren := ⟨fun | 115 => 217 | n => n, fun | 37 => 31 | 4 => 4 | 9 => 9 | 5 => 5 | n => n, fun | n => n⟩
theorem Tryz.lays115 : Go.Proofs.Lays.n115 Tryz.prog Tryz.lays115_ren := {
  mixed := by kernel_rfl
  f115 := Tryz.func217.trans (congrArg some (by kernel_rfl))
  t4 := Tryz.underlying4
  a4 := Tryz.isAgg4
  z4 := Tryz.sizeOf4
  v4 := Tryz.zeroValue4
  t9 := Tryz.underlying9
  a9 := Tryz.isAgg9
  z9 := Tryz.sizeOf9
  v9 := Tryz.zeroValue9
  t37 := Tryz.underlying31
  a37 := Tryz.isAgg31
  z37 := Tryz.sizeOf31
  v37 := Tryz.zeroValue31 }
open Go.Proofs Go.RowKit Go.Lib in
/-- bytes.Equal, each argument with what 'string(..)' of it gives. (LAID: no walk: one application.) -/
theorem Tryz.bytes_Equal_strs (v1 v2 : Value) (t1 t2 : ByteArray) (w : World) (h1 : (convert 31 9 v1).run Tryz.prog w = .ok (.string t1) w) (h2 : (convert 31 9 v2).run Tryz.prog w = .ok (.string t2) w) :
    Calls Tryz.prog 217 #[v1, v2] w fun e w' => e = .returned (.bool (t1.toList == t2.toList)) ∧ w' = w := Any.bytes_Equal_strs Tryz.lays115 v1 v2 t1 t2 w h1 h2
def Tryz.lays291_ren : Go.Shelf.Ren := ⟨fun | 291 => 222 | n => n, fun | 37 => 31 | 51 => 35 | 3 => 3 | 4 => 4 | 0 => 0 | 5 => 5 | 46 => 151 | n => n, fun | n => n⟩
theorem Tryz.lays291 : Go.Proofs.Lays.n291 Tryz.prog Tryz.lays291_ren := {
  mixed := by kernel_rfl
  f291 := Tryz.func222.trans (congrArg some (by kernel_rfl))
  t0 := Tryz.underlying0
  a0 := Tryz.isAgg0
  z0 := Tryz.sizeOf0
  v0 := Tryz.zeroValue0
  t3 := Tryz.underlying3
  a3 := Tryz.isAgg3
  z3 := Tryz.sizeOf3
  v3 := Tryz.zeroValue3
  t4 := Tryz.underlying4
  a4 := Tryz.isAgg4
  z4 := Tryz.sizeOf4
  v4 := Tryz.zeroValue4
  t5 := Tryz.underlying5
  a5 := Tryz.isAgg5
  z5 := Tryz.sizeOf5
  v5 := Tryz.zeroValue5
  t37 := Tryz.underlying31
  a37 := Tryz.isAgg31
  z37 := Tryz.sizeOf31
  v37 := Tryz.zeroValue31
  t46 := Tryz.underlying151
  a46 := Tryz.isAgg151
  z46 := Tryz.sizeOf151
  v46 := Tryz.zeroValue151
  t51 := Tryz.underlying35
  a51 := Tryz.isAgg35
  z51 := Tryz.sizeOf35
  v51 := Tryz.zeroValue35 }
open Go.RowKit Go.Lib in
/-- hashStr at []byte: "returns the hash and the appropriate multiplicative factor for use in Rabin-Karp algorithm": THE HASH OF ALL OF sep, AND 16777619 ^ len(sep), both in uint32. THE SLICE's BYTES ARE TOLD BY A ByteArray: cell i holds 'sep[i]': so the laws that were typed for strings (Derived/Lib/RabinKarpLaws.lean) serve as they lie. (LAID: no walk: one application.) -/
theorem Tryz.bytealg_hashStr_bytes (b o c : Nat) (sep : ByteArray) (hs : sep.size < 4294967281) (w : World) (hc : Lib.Bytes w b o sep) :
    Calls Tryz.prog 222 #[.slice (some ⟨b, o, none⟩) sep.size c] w fun e w' => e = .returned (.tuple #[.int .u32 (RK.H sep.data.toList % 4294967296), .int .u32 (16777619 ^ sep.size % 4294967296)]) ∧ w' = w := Any.bytealg_hashStr_bytes Tryz.lays291 b o c sep hs w hc
def Tryz.lays254_ren : Go.Shelf.Ren := ⟨fun | 254 => 220 | 291 => 222 | n => n, fun | 37 => 31 | 3 => 3 | 146 => 297 | 51 => 35 | 4 => 4 | 0 => 0 | 5 => 5 | 9 => 9 | 46 => 151 | n => n, fun | n => n⟩
theorem Tryz.lays254 : Go.Proofs.Lays.n254 Tryz.prog Tryz.lays254_ren := {
  mixed := by kernel_rfl
  f254 := Tryz.func220.trans (congrArg some (by kernel_rfl))
  f291 := Tryz.func222.trans (congrArg some (by kernel_rfl))
  t0 := Tryz.underlying0
  a0 := Tryz.isAgg0
  z0 := Tryz.sizeOf0
  v0 := Tryz.zeroValue0
  t3 := Tryz.underlying3
  a3 := Tryz.isAgg3
  z3 := Tryz.sizeOf3
  v3 := Tryz.zeroValue3
  t4 := Tryz.underlying4
  a4 := Tryz.isAgg4
  z4 := Tryz.sizeOf4
  v4 := Tryz.zeroValue4
  t5 := Tryz.underlying5
  a5 := Tryz.isAgg5
  z5 := Tryz.sizeOf5
  v5 := Tryz.zeroValue5
  t9 := Tryz.underlying9
  a9 := Tryz.isAgg9
  z9 := Tryz.sizeOf9
  v9 := Tryz.zeroValue9
  t37 := Tryz.underlying31
  a37 := Tryz.isAgg31
  z37 := Tryz.sizeOf31
  v37 := Tryz.zeroValue31
  t46 := Tryz.underlying151
  a46 := Tryz.isAgg151
  z46 := Tryz.sizeOf151
  v46 := Tryz.zeroValue151
  t51 := Tryz.underlying35
  a51 := Tryz.isAgg35
  z51 := Tryz.sizeOf35
  v51 := Tryz.zeroValue35
  t146 := Tryz.underlying297
  a146 := Tryz.isAgg297
  z146 := Tryz.sizeOf297
  v146 := Tryz.zeroValue297 }
open Go.RowKit Go.Lib in
/-- IndexRabinKarp at []byte: "IndexRabinKarp uses the Rabin-Karp search algorithm to return the index of the first occurrence of sep in s, or -1 if not present.": 'Lib.index' of the two lists of bytes; the world is as it was but for the count of draws (the test 'h == hashss && string(..) == string(sep)' draws its order). After a hand of the authors' house's 'Any.bytealg_IndexRabinKarp' (Derived/Shelf/Strings/Search1.lean): the invariants and the closings are that text's. (LAID: no walk: one application.) -/
theorem Tryz.bytealg_IndexRabinKarp_bytes (b1 o1 c1 b2 o2 c2 : Nat) (s sep : ByteArray) (h1 : 1 ≤ sep.size) (h2 : sep.size ≤ s.size) (hs : s.size < 4294967281) (w : World) (hc1 : Lib.Bytes w b1 o1 s) (hc2 : Lib.Bytes w b2 o2 sep) (hcap : s.size ≤ c1) :
    Calls Tryz.prog 220 #[.slice (some ⟨b1, o1, none⟩) s.size c1, .slice (some ⟨b2, o2, none⟩) sep.size c2] w fun e w' => e = .returned (.int .i64 (Lib.index s.data.toList sep.data.toList)) ∧ ∃ q, w' = w.drewN q := Any.bytealg_IndexRabinKarp_bytes Tryz.lays254 b1 o1 c1 b2 o2 c2 s sep h1 h2 hs w hc1 hc2 hcap
open Go.RowKit Go.Lib in
/-- bytes.Index: "Index returns the index of the first instance of sep in s, or -1 if sep is not present in s.": 'Lib.index' of the two lists of bytes. (LAID: no walk: one application.) -/
theorem Tryz.bytes_Index_search (b1 o1 c1 b2 o2 c2 : Nat) (s sub : ByteArray) (m : Int) (w : World) (hs : s.size < 4294967281) (hm : w.cell? ⟨0, 0, none⟩ = some (.int .i64 m)) (hc1 : Lib.Bytes w b1 o1 s) (hc2 : Lib.Bytes w b2 o2 sub) (hcap : s.size ≤ c1) (hn2 : 2 ≤ sub.size) (hls : sub.size < s.size) :
    Calls Tryz.prog 214 #[.slice (some ⟨b1, o1, none⟩) s.size c1, .slice (some ⟨b2, o2, none⟩) sub.size c2] w fun e w' => e = .returned (.int .i64 (Lib.index s.data.toList sub.data.toList)) ∧ ∃ q, w' = w.drewN q := Any.bytes_Index_search Tryz.lays185 b1 o1 c1 b2 o2 c2 s sub m w hs hm hc1 hc2 hcap hn2 hls
open Go.Proofs Go.RowKit Go.Lib in
/-- bytes.Index, WHOLE: "Index returns the index of the first instance of sep in s, or -1 if sep is not present in s.": 'Lib.index' of the two lists of bytes. (LAID: no walk: one application.) -/
theorem Tryz.bytes_Index_at (a1 a2 : Addr) (n c1 k c2 : Nat) (xs ys : List Int) (m : Int) (w : World) (hx : xs.length = n) (hy : ys.length = k) (hr1 : ∀ x ∈ xs, 0 ≤ x ∧ x < 256) (hr2 : ∀ y ∈ ys, 0 ≤ y ∧ y < 256) (hc1 : ∀ i, i < n → w.cell? (a1.add i) = some (.int .u8 (xs.getD i 0))) (hc2 : ∀ i, i < k → w.cell? (a2.add i) = some (.int .u8 (ys.getD i 0))) (hcap : n ≤ c1) (hs : n < 4294967281) (hk : k ≤ 9223372036854775807) (hm : w.cell? ⟨0, 0, none⟩ = some (.int .i64 m)) :
    Calls Tryz.prog 214 #[.slice (some a1) n c1, .slice (some a2) k c2] w fun e w' => e = .returned (.int .i64 (Lib.index (Lib.bytesOf xs) (Lib.bytesOf ys))) ∧ ∃ q, w' = w.drewN q := Any.bytes_Index_at Tryz.lays185 a1 a2 n c1 k c2 xs ys m w hx hy hr1 hr2 hc1 hc2 hcap hs hk hm
open Go.Proofs Go.RowKit Go.Lib in
/-- bytes.Index where s is nil: 0 at a separator of no byte, else -1. (LAID: no walk: one application.) -/
theorem Tryz.bytes_Index_nil (p2 : Option Addr) (k c2 : Nat) (w : World) (hk : k ≤ 9223372036854775807) (h1 : k = 1 → ∃ b2 o2 cv, p2 = some ⟨b2, o2, none⟩ ∧ w.cell? ⟨b2, o2, none⟩ = some (.int .u8 cv)) :
    Calls Tryz.prog 214 #[.slice none 0 0, .slice p2 k c2] w fun e w' => e = .returned (.int .i64 (if k = 0 then 0 else -1)) ∧ w' = w := Any.bytes_Index_nil Tryz.lays185 p2 k c2 w hk h1
def Tryz.laysM185_ren : Go.Shelf.Ren := ⟨fun | 185 => 214 | 187 => 215 | 115 => 217 | 253 => 218 | 224 => 219 | 254 => 220 | 255 => 221 | 291 => 222 | n => n, fun | 37 => 31 | 3 => 3 | 4 => 4 | 0 => 0 | 5 => 5 | 46 => 151 | 9 => 9 | 146 => 297 | 51 => 35 | n => n, fun | 1 => 0 | n => n⟩
theorem Tryz.laysM185 : Go.Proofs.LaysM.n185 Tryz.prog Tryz.laysM185_ren := {
  mixed := by kernel_rfl
  f115 := Tryz.func217.trans (congrArg some (by kernel_rfl))
  f185 := Tryz.func214.trans (congrArg some (by kernel_rfl))
  f187 := Tryz.func215.trans (congrArg some (by kernel_rfl))
  f224 := Tryz.func219.trans (congrArg some (by kernel_rfl))
  f253 := Tryz.func218.trans (congrArg some (by kernel_rfl))
  f254 := Tryz.func220.trans (congrArg some (by kernel_rfl))
  f255 := Tryz.func221.trans (congrArg some (by kernel_rfl))
  f291 := Tryz.func222.trans (congrArg some (by kernel_rfl))
  t0 := Tryz.underlying0
  a0 := Tryz.isAgg0
  z0 := Tryz.sizeOf0
  v0 := Tryz.zeroValue0
  t3 := Tryz.underlying3
  a3 := Tryz.isAgg3
  z3 := Tryz.sizeOf3
  v3 := Tryz.zeroValue3
  t4 := Tryz.underlying4
  a4 := Tryz.isAgg4
  z4 := Tryz.sizeOf4
  v4 := Tryz.zeroValue4
  t5 := Tryz.underlying5
  a5 := Tryz.isAgg5
  z5 := Tryz.sizeOf5
  v5 := Tryz.zeroValue5
  t9 := Tryz.underlying9
  a9 := Tryz.isAgg9
  z9 := Tryz.sizeOf9
  v9 := Tryz.zeroValue9
  t37 := Tryz.underlying31
  a37 := Tryz.isAgg31
  z37 := Tryz.sizeOf31
  v37 := Tryz.zeroValue31
  t46 := Tryz.underlying151
  a46 := Tryz.isAgg151
  z46 := Tryz.sizeOf151
  v46 := Tryz.zeroValue151
  t51 := Tryz.underlying35
  a51 := Tryz.isAgg35
  z51 := Tryz.sizeOf35
  v51 := Tryz.zeroValue35
  t146 := Tryz.underlying297
  a146 := Tryz.isAgg297
  z146 := Tryz.sizeOf297
  v146 := Tryz.zeroValue297
  g1 := by kernel_rfl
  i0 := by kernel_rfl
  i3 := by kernel_rfl
  i4 := by kernel_rfl
  i5 := by kernel_rfl
  i9 := by kernel_rfl
  i37 := by kernel_rfl
  i46 := by kernel_rfl
  i51 := by kernel_rfl
  i146 := by kernel_rfl
  m1 := by kernel_rfl
  s1_3 := fun w h => Go.Proofs.cell_of_shapedOpen_int (zero := #[.int .i64 0]) (t := 3) h (of_decide_eq_true (by kernel_rfl)) (by kernel_rfl) rfl (by kernel_rfl) (by kernel_rfl) Tryz.underlying3 }
open Go.Proofs Go.RowKit Go.Lib in
/-- .. AT A ROW's OWN FIRST WORLD: 'World.ShapedOpen P' in the place of the word on internal/bytealg.MaxLen's cell (after a hand of the authors' house's Derived/Shelf/Strings/Shaped.lean). ✋ BEHIND AN ALLOCATION (a separator typed as '[]byte("..")') the world is the first no more: take 'let ⟨m, hm⟩ := L.s1_3 W h' at the first world and carry the cell over ('Lib.cell?_alloc_marked'), then the form above. (LAID: no walk: one application.) -/
theorem Tryz.bytes_Index_at_shaped (a1 a2 : Addr) (n c1 k c2 : Nat) (xs ys : List Int) (w : World) (hx : xs.length = n) (hy : ys.length = k) (hr1 : ∀ x ∈ xs, 0 ≤ x ∧ x < 256) (hr2 : ∀ y ∈ ys, 0 ≤ y ∧ y < 256) (hc1 : ∀ i, i < n → w.cell? (a1.add i) = some (.int .u8 (xs.getD i 0))) (hc2 : ∀ i, i < k → w.cell? (a2.add i) = some (.int .u8 (ys.getD i 0))) (hcap : n ≤ c1) (hs : n < 4294967281) (hk : k ≤ 9223372036854775807) (h : w.ShapedOpen Tryz.prog) :
    Calls Tryz.prog 214 #[.slice (some a1) n c1, .slice (some a2) k c2] w fun e w' => e = .returned (.int .i64 (Lib.index (Lib.bytesOf xs) (Lib.bytesOf ys))) ∧ ∃ q, w' = w.drewN q := Any.bytes_Index_at_shaped Tryz.laysM185 a1 a2 n c1 k c2 xs ys w hx hy hr1 hr2 hc1 hc2 hcap hs hk h
def Tryz.laysSlK4_ren : Go.Shelf.Ren := ⟨fun | 4 => 60 | n => n, fun | 22 => 31 | 4 => 4 | 5 => 5 | n => n, fun | n => n⟩
theorem Tryz.laysSlK4 : Go.Proofs.SlLaysK.n4 Tryz.prog Tryz.laysSlK4_ren := {
  mixed := by kernel_rfl
  f4 := Tryz.func60.trans (congrArg some (by kernel_rfl))
  t4 := Tryz.underlying4
  a4 := Tryz.isAgg4
  z4 := Tryz.sizeOf4
  v4 := Tryz.zeroValue4
  t22 := Tryz.underlying31
  a22 := Tryz.isAgg31
  z22 := Tryz.sizeOf31
  v22 := Tryz.zeroValue31
  t5 := Tryz.underlying5
  i5 := by kernel_rfl }
open Go.RowKit Go.Lib in
/-- bytes.Clone: "Clone returns a copy of b[:len(b)]. The result may have additional unused capacity.": OF A SLICE THAT IS NOT nil IT RETURNS A SLICE THAT IS NOT nil, OF THE SAME BYTES, IN MEMORY OF THE CALL's OWN: in the how-to's words (6f): 'w'.ownsRow B e 1 v' n cells' · 'Below B w w'', B the heap's size at the call. b AT WHATEVER ADDRESS, its cells as 'open_ints' hands them ('a.add i'; the numbers 'xs'). No byte: no cell is asked for. (LAID: no walk: one application.) -/
theorem Tryz.bytes_Clone_at (a : Addr) (n c : Nat) (xs : List Int) (w : World) (hx : xs.length = n) (hbig : n ≤ 140737488355328) (hc : ∀ i, i < n → w.cell? (a.add i) = some (.int .u8 (xs.getD i 0))) :
    Calls Tryz.prog 60 #[.slice (some a) n c] w fun e w' => ∃ v', e = .returned v' ∧ w'.ownsRow w.heap.size 5 1 v' n (xs.map (Value.int .u8)) ∧ v' ≠ .slice none 0 0 ∧ Below w.heap.size w w' := Any.bytes_Clone_at Tryz.laysSlK4 a n c xs w hx hbig hc
open Go.RowKit Go.Lib in
/-- "Clone(nil) returns nil.": the world is as it was. (LAID: no walk: one application.) -/
theorem Tryz.bytes_Clone_nil (n c : Nat) (w : World) :
    Calls Tryz.prog 60 #[.slice none n c] w fun e w' => e = .returned (.slice none 0 0) ∧ w' = w := Any.bytes_Clone_nil Tryz.laysSlK4 n c w
def Tryz.laysnb115_ren : Go.Shelf.Ren := ⟨fun | 115 => 217 | n => n, fun | 37 => 31 | 4 => 4 | 9 => 9 | 5 => 5 | n => n, fun | n => n⟩
theorem Tryz.laysnb115 : Go.Proofs.Lays.nb115 Tryz.prog Tryz.laysnb115_ren := {
  mixed := by kernel_rfl
  f115 := Tryz.func217.trans (congrArg some (by kernel_rfl))
  t4 := Tryz.underlying4
  a4 := Tryz.isAgg4
  z4 := Tryz.sizeOf4
  v4 := Tryz.zeroValue4
  t9 := Tryz.underlying9
  a9 := Tryz.isAgg9
  z9 := Tryz.sizeOf9
  v9 := Tryz.zeroValue9
  t37 := Tryz.underlying31
  a37 := Tryz.isAgg31
  z37 := Tryz.sizeOf31
  v37 := Tryz.zeroValue31
  t5 := Tryz.underlying5
  a5 := Tryz.isAgg5
  z5 := Tryz.sizeOf5
  v5 := Tryz.zeroValue5 }
/-- bytes.Equal: WHOLE. (LAID: no walk: one application.) -/
theorem Tryz.bytes_Equal_all (p1 p2 : Option Addr) (n c m d : Nat) (xs ys : List Int) (w : World) (hx : xs.length = n) (hy : ys.length = m) (h1 : Lib.BytesIn w p1 n xs) (h2 : Lib.BytesIn w p2 m ys) :
    Calls Tryz.prog 217 #[.slice p1 n c, .slice p2 m d] w fun e w' => e = .returned (.bool (Lib.bytesOf xs == Lib.bytesOf ys)) ∧ w' = w := Any.bytes_Equal_all Tryz.laysnb115 p1 p2 n c m d xs ys w hx hy h1 h2
def Tryz.laysSlT4_ren : Go.Shelf.Ren := ⟨fun | 4 => 206 | 5 => 214 | 6 => 215 | 7 => 217 | 8 => 218 | 9 => 219 | 10 => 220 | 11 => 221 | 12 => 222 | n => n, fun | 22 => 31 | 4 => 4 | 3 => 3 | 0 => 0 | 5 => 5 | 29 => 151 | 9 => 9 | 31 => 297 | 30 => 35 | n => n, fun | 0 => 0 | n => n⟩
theorem Tryz.laysSlT4 : Go.Proofs.SlLaysT.n4 Tryz.prog Tryz.laysSlT4_ren := {
  mixed := by kernel_rfl
  f4 := Tryz.func206.trans (congrArg some (by kernel_rfl))
  f5 := Tryz.func214.trans (congrArg some (by kernel_rfl))
  f6 := Tryz.func215.trans (congrArg some (by kernel_rfl))
  f7 := Tryz.func217.trans (congrArg some (by kernel_rfl))
  f8 := Tryz.func218.trans (congrArg some (by kernel_rfl))
  f9 := Tryz.func219.trans (congrArg some (by kernel_rfl))
  f10 := Tryz.func220.trans (congrArg some (by kernel_rfl))
  f11 := Tryz.func221.trans (congrArg some (by kernel_rfl))
  f12 := Tryz.func222.trans (congrArg some (by kernel_rfl))
  t0 := Tryz.underlying0
  a0 := Tryz.isAgg0
  z0 := Tryz.sizeOf0
  v0 := Tryz.zeroValue0
  t3 := Tryz.underlying3
  a3 := Tryz.isAgg3
  z3 := Tryz.sizeOf3
  v3 := Tryz.zeroValue3
  t4 := Tryz.underlying4
  a4 := Tryz.isAgg4
  z4 := Tryz.sizeOf4
  v4 := Tryz.zeroValue4
  t5 := Tryz.underlying5
  a5 := Tryz.isAgg5
  z5 := Tryz.sizeOf5
  v5 := Tryz.zeroValue5
  t9 := Tryz.underlying9
  a9 := Tryz.isAgg9
  z9 := Tryz.sizeOf9
  v9 := Tryz.zeroValue9
  t22 := Tryz.underlying31
  a22 := Tryz.isAgg31
  z22 := Tryz.sizeOf31
  v22 := Tryz.zeroValue31
  t29 := Tryz.underlying151
  a29 := Tryz.isAgg151
  z29 := Tryz.sizeOf151
  v29 := Tryz.zeroValue151
  t30 := Tryz.underlying35
  a30 := Tryz.isAgg35
  z30 := Tryz.sizeOf35
  v30 := Tryz.zeroValue35
  t31 := Tryz.underlying297
  a31 := Tryz.isAgg297
  z31 := Tryz.sizeOf297
  v31 := Tryz.zeroValue297
  g0 := by kernel_rfl }
/-- THE WALK, bytes.Index's answer a premise: whatever the two slices' addresses. (LAID: no walk: one application.) -/
theorem Tryz.bytes_Cut_of (p1 p2 : Option Addr) (n c1 k c2 : Nat) (i : Int) (w : World) (hcap : n ≤ c1) (hlo : -1 ≤ i) (hroom : 0 ≤ i → i + k ≤ n) (hn : n ≤ 4611686018427387904) (hidx : Calls Tryz.prog 214 #[.slice p1 n c1, .slice p2 k c2] w fun e w' => e = .returned (.int .i64 i) ∧ ∃ q, w' = w.drewN q) :
    Calls Tryz.prog 206 #[.slice p1 n c1, .slice p2 k c2] w fun e w' => e = .returned (Lib.cutV p1 n c1 k i) ∧ ∃ q, w' = w.drewN q := Any.bytes_Cut_of Tryz.laysSlT4 p1 p2 n c1 k c2 i w hcap hlo hroom hn hidx
/-- **bytes.Cut, WHOLE UP TO THE MODEL's BOUND** ('hs': s shorter than 4294967281 bytes: bytes.Index's): each argument nil, or of no byte at whatever address, or at an address with its cells ('Lib.BytesIn': Derived/Shelf/Bytes/SlSmallAll.lean). 'hr1', 'hr2': each number a byte's (what '(Lit.int .u8 x).wf' says) · 'hm': internal/bytealg.MaxLen's cell holds some int, whatever · 'hp1': a nil slice has no capacity. (LAID: no walk: one application.) -/
theorem Tryz.bytes_Cut_all (p1 p2 : Option Addr) (n c1 k c2 : Nat) (xs ys : List Int) (m : Int) (w : World) (hx : xs.length = n) (hy : ys.length = k) (hr1 : ∀ x ∈ xs, 0 ≤ x ∧ x < 256) (hr2 : ∀ y ∈ ys, 0 ≤ y ∧ y < 256) (h1 : Lib.BytesIn w p1 n xs) (h2 : Lib.BytesIn w p2 k ys) (hp1 : p1 = none → c1 = 0) (hcap : n ≤ c1) (hs : n < 4294967281) (hk : k ≤ 9223372036854775807) (hm : w.cell? ⟨0, 0, none⟩ = some (.int .i64 m)) :
    Calls Tryz.prog 206 #[.slice p1 n c1, .slice p2 k c2] w fun e w' => e = .returned (Lib.cutV p1 n c1 k (Lib.index (Lib.bytesOf xs) (Lib.bytesOf ys))) ∧ ∃ q, w' = w.drewN q := Any.bytes_Cut_all Tryz.laysSlT4 p1 p2 n c1 k c2 xs ys m w hx hy hr1 hr2 h1 h2 hp1 hcap hs hk hm
/-- bytes.Equal: "Equal reports whether a and b are the same length and contain the same bytes. A nil argument is equivalent to an empty slice.": IT RETURNS 'the bytes of the one == the bytes of the other'; the world is as it was. THE TWO ARGUMENTS COME AS WHATEVER VALUES, each with the one fact that the walk wants of it: what 'string(..)' of it gives: for a slice whose cells you know: 'run_convert_bytes_arg' (Derived/Laws/BytesArg.lean) hands that fact; for a nil one: 'run_convert_bytes_nil' (with xs := []). (LAID: no walk: one application.) -/
theorem Tryz.bytes_Equal (v1 v2 : Value) (xs ys : List Int) (w : World) (h1 : (convert 31 9 v1).run Tryz.prog w = .ok (.string (strOfNums xs)) w) (h2 : (convert 31 9 v2).run Tryz.prog w = .ok (.string (strOfNums ys)) w) :
    Calls Tryz.prog 217 #[v1, v2] w fun e w' => e = .returned (.bool (Lib.bytesOf xs == Lib.bytesOf ys)) ∧ w' = w := Any.bytes_Equal Tryz.lays115 v1 v2 xs ys w h1 h2
/-- bytes.IndexByte: "IndexByte returns the index of the first instance of c in b, or -1 if c is not present in b.": IT RETURNS 'Lib.indexByte (the bytes of b) c'; the world is as it was. 'xs': the numbers that the slice's cells hold. (LAID: no walk: one application.) -/
theorem Tryz.bytes_IndexByte (b o n c : Nat) (xs : List Int) (cv : Int) (w : World) (hx : xs.length = n) (hc : ∀ i, i < n → w.cell? ⟨b, o + i, none⟩ = some (.int .u8 (xs.getD i 0))) :
    Calls Tryz.prog 215 #[.slice (some ⟨b, o, none⟩) n c, .int .u8 cv] w fun e w' => e = .returned (.int .i64 (Lib.indexByte (Lib.bytesOf xs) cv.toNat.toUInt8)) ∧ w' = w := Any.bytes_IndexByte Tryz.lays187 b o n c xs cv w hx hc
/-- bytes.IndexByte AT nil: -1. (LAID: no walk: one application.) -/
theorem Tryz.bytes_IndexByte_nil (cv : Int) (w : World) :
    Calls Tryz.prog 215 #[.slice none 0 0, .int .u8 cv] w fun e w' => e = .returned (.int .i64 (-1)) ∧ w' = w := Any.bytes_IndexByte_nil Tryz.lays187 cv w
end Go.Proofs

/- A cursor in memory: its block of four cells, and the row of bytes that it owns; what keeps it, and what a store turns. No condition. -/
namespace Go.Proofs.YtdagnkdonlfobaaGreat
open Go.RowKit

/-- A value that is a slice of these bytes (of the capacity c), wherever they lie; nil too. -/
def IsBytes (w : World) (p : Option Addr) (c : Nat) (ys : List Int) : Prop :=
  (p = none → c = 0) ∧ (0 < ys.length → ∃ b o, p = some ⟨b, o, none⟩ ∧ ∀ i, i < ys.length → w.cell? ⟨b, o + i, none⟩ = some (.int .u8 (ys.getD i 0)))

structure Cur (w : World) (base a : Nat) (q : Option Addr) (c : Nat) (xs : List Int) (p : Nat) (big bad : Bool) : Prop where
  blk : w.heap[a]? = some (.cells #[.slice q xs.length c, .int .i64 p, .bool big, .bool bad] 265 (0, 0))
  own : w.ownsRow base 5 1 (.slice q xs.length c) xs.length (xs.map (Value.int .u8))
  le : p ≤ xs.length
  ne : (Value.slice q xs.length c).ownBlock ≠ some a
  big : xs.length ≤ 140737488355328
  bytes : ∀ x ∈ xs, 0 ≤ x ∧ x < 256

variable {w w' : World} {base a : Nat} {q : Option Addr} {c : Nat} {xs : List Int} {p : Nat} {big bad : Bool}

theorem cell_of {w : World} {a i : Nat} {cs : Array Value} {t : TypeId} (h : w.heap[a]? = some (.cells cs t (0, 0))) : w.cell? ⟨a, i, none⟩ = cs[i]? := by simp [World.cell?, h]
theorem free_of {w : World} {a i : Nat} {cs : Array Value} {t : TypeId} (h : w.heap[a]? = some (.cells cs t (0, 0))) : w.frozen? ⟨a, i, none⟩ = false := by simp [World.frozen?, h]

theorem Cur.c0 (h : Cur w base a q c xs p big bad) : w.cell? ⟨a, 0, none⟩ = some (.slice q xs.length c) := by rw [cell_of h.blk]; rfl
theorem Cur.c1 (h : Cur w base a q c xs p big bad) : w.cell? ⟨a, 1, none⟩ = some (.int .i64 p) := by rw [cell_of h.blk]; rfl
theorem Cur.c2 (h : Cur w base a q c xs p big bad) : w.cell? ⟨a, 2, none⟩ = some (.bool big) := by rw [cell_of h.blk]; rfl
theorem Cur.c3 (h : Cur w base a q c xs p big bad) : w.cell? ⟨a, 3, none⟩ = some (.bool bad) := by rw [cell_of h.blk]; rfl
theorem Cur.f1 (h : Cur w base a q c xs p big bad) : w.frozen? ⟨a, 1, none⟩ = false := free_of h.blk
theorem Cur.f3 (h : Cur w base a q c xs p big bad) : w.frozen? ⟨a, 3, none⟩ = false := free_of h.blk

theorem Cur.kept {row : Option Nat} (h : Cur w base a q c xs p big bad) (hg : w.grownBy w' row) (h1 : row ≠ some a) (h2 : (Value.slice q xs.length c).ownBlock = none ∨ (Value.slice q xs.length c).ownBlock ≠ row) : Cur w' base a q c xs p big bad :=
  ⟨(hg.block a (lt_of_block h.blk) (fun e => h1 e.symm)).trans h.blk, h.own.kept hg h2, h.le, h.ne, h.big, h.bytes⟩
theorem Cur.drewN (h : Cur w base a q c xs p big bad) (n : Nat) : Cur (w.drewN n) base a q c xs p big bad := ⟨h.blk, h.own, h.le, h.ne, h.big, h.bytes⟩
theorem Cur.setAt (h : Cur w base a q c xs p big bad) {k : Nat} (hk : k ≤ xs.length) : Cur (w.setCell ⟨a, 1, none⟩ (.int .i64 k)) base a q c xs k big bad :=
  ⟨by rw [heap_setCell_same w a 1 _ _ _ h.blk]; rfl, ownsRow_setCell_other h.own h.ne _, hk, h.ne, h.big, h.bytes⟩
theorem Cur.setBad (h : Cur w base a q c xs p big bad) : Cur (w.setCell ⟨a, 3, none⟩ (.bool true)) base a q c xs p big true :=
  ⟨by rw [heap_setCell_same w a 3 _ _ _ h.blk]; rfl, ownsRow_setCell_other h.own h.ne _, h.le, h.ne, h.big, h.bytes⟩
theorem Cur.lt (h : Cur w base a q c xs p big bad) : a < w.heap.size := lt_of_block h.blk

/-- Nil, of no byte; or a row of its own. -/
theorem Cur.form (h : Cur w base a q c xs p big bad) : (q = none ∧ xs = [] ∧ c = 0) ∨ ∃ g, q = some ⟨g, 0, none⟩ ∧ xs.length ≤ c ∧ c ≤ 9223372036854775807 ∧ ∀ i, i < xs.length → w.cell? ⟨g, i, none⟩ = some (.int .u8 (xs.getD i 0)) := by
  obtain ⟨_, hn | ⟨g, cap, cur, hv, _, hg, hle, hm, hs, ht⟩⟩ := h.own
  · obtain ⟨e, h0⟩ := hn
    injection e with e1 e2 e3
    exact .inl ⟨e1, List.eq_nil_of_length_eq_zero h0, e3⟩
  · injection hv with e1 e2 e3
    subst e1 e3
    refine .inr ⟨g, rfl, hle, by unfold maxLen at hm; omega, fun i hi => ?_⟩
    have hc := h.own.cells (g := g) rfl i (.int .u8 (xs.getD i 0)) (by simp [hi])
    rw [show ((⟨g, 0, none⟩ : Addr).add i) = ⟨g, i, none⟩ from by unfold Addr.add; split <;> simp_all] at hc
    exact hc

theorem add_flat (b o i : Nat) : ((⟨b, o, none⟩ : Addr).add i) = ⟨b, o + i, none⟩ := by unfold Addr.add; split <;> simp_all
theorem IsBytes.mk_at {b o c : Nat} {ys : List Int} (hc : ∀ i, i < ys.length → w.cell? ⟨b, o + i, none⟩ = some (.int .u8 (ys.getD i 0))) : IsBytes w (some ⟨b, o, none⟩) c ys :=
  ⟨fun h => (by cases h), fun _ => ⟨b, o, rfl, hc⟩⟩
theorem IsBytes.nil : IsBytes w none 0 [] := ⟨fun _ => rfl, fun h => (by simp at h)⟩
theorem IsBytes.empty {x : Addr} {c : Nat} : IsBytes w (some x) c [] := ⟨fun h => (by cases h), fun h => (by simp at h)⟩
/-- Nil; or at an address, with its cells. -/
theorem IsBytes.ways {q : Option Addr} {c : Nat} {ys : List Int} (h : IsBytes w q c ys) : (q = none ∧ ys = [] ∧ c = 0) ∨ ∃ x : Addr, q = some x ∧ ∀ i, i < ys.length → w.cell? (x.add i) = some (.int .u8 (ys.getD i 0)) := by
  cases q with
  | none =>
    refine .inl ⟨rfl, ?_, h.1 rfl⟩
    rcases Nat.eq_zero_or_pos ys.length with h0 | h0
    · exact List.eq_nil_of_length_eq_zero h0
    · obtain ⟨_, _, e, _⟩ := h.2 h0
      cases e
  | some x =>
    refine .inr ⟨x, rfl, fun i hi => ?_⟩
    obtain ⟨b, o, e, hc⟩ := h.2 (by omega)
    injection e with e
    subst e
    rw [add_flat]
    exact hc i hi
theorem IsBytes.cut {g : Nat} (hc : ∀ i, i < xs.length → w.cell? ⟨g, i, none⟩ = some (.int .u8 (xs.getD i 0))) (k n c : Nat) : IsBytes w (some ⟨g, k, none⟩) c ((xs.drop k).take n) :=
  IsBytes.mk_at fun i hi => by
    simp only [List.length_take, List.length_drop] at hi
    rw [hc (k + i) (by omega)]
    simp [List.getD, List.getElem?_drop, show i < n by omega]
theorem IsBytes.drop {g : Nat} (hc : ∀ i, i < xs.length → w.cell? ⟨g, i, none⟩ = some (.int .u8 (xs.getD i 0))) (k c : Nat) : IsBytes w (some ⟨g, k, none⟩) c (xs.drop k) := by
  have := IsBytes.cut (w := w) hc k (xs.length - k) c
  rwa [List.take_of_length_le (by simp)] at this
theorem IsBytes.take {q : Option Addr} {c c' : Nat} {ys : List Int} (h : IsBytes w q c ys) (k : Nat) (hc : q = none → c' = 0) : IsBytes w q c' (ys.take k) := by
  refine ⟨hc, fun hl => ?_⟩
  obtain ⟨b, o, rfl, hx⟩ := h.2 (by simp at hl; omega)
  refine ⟨b, o, rfl, fun i hi => ?_⟩
  simp only [List.length_take] at hi
  rw [hx i (by omega)]
  simp [List.getD, show i < k by omega]
theorem IsBytes.kept {row : Option Nat} {q : Option Addr} {c : Nat} {ys : List Int} (h : IsBytes w q c ys) (hg : w.grownBy w' row) (hr : ∀ b, q = some b → row ≠ some b.block) : IsBytes w' q c ys := by
  refine ⟨h.1, fun hl => ?_⟩
  obtain ⟨b, o, rfl, hc⟩ := h.2 hl
  exact ⟨b, o, rfl, fun i hi => hg.cell (hc i hi) (fun e => hr _ rfl e.symm)⟩
theorem IsBytes.drewN {q : Option Addr} {c : Nat} {ys : List Int} (h : IsBytes w q c ys) (n : Nat) : IsBytes (w.drewN n) q c ys := h

theorem grown_refl (w : World) (row : Option Nat) : w.grownBy w row := ⟨rfl, rfl, rfl, Nat.le_refl _, fun _ _ _ => rfl⟩
theorem grown_drewN {w w' : World} {row : Option Nat} (h : w.grownBy w' row) (n : Nat) : w.grownBy (w'.drewN n) row := ⟨h.os, h.tape, h.output, h.size, h.block⟩
theorem grown_trans {a b c : World} {row : Option Nat} (h : a.grownBy b row) (k : b.grownBy c row) : a.grownBy c row :=
  ⟨k.os.trans h.os, k.tape.trans h.tape, k.output.trans h.output, Nat.le_trans h.size k.size, fun i hi hr => (k.block i (Nat.lt_of_lt_of_le hi h.size) hr).trans (h.block i hi hr)⟩
theorem grown_setCell {w w' : World} {a i : Nat} (h : w.grownBy w' (some a)) (v : Value) : w.grownBy (w'.setCell ⟨a, i, none⟩ v) (some a) :=
  ⟨h.os, h.tape, h.output, by simpa using h.size, fun k hk hr => (heap_setCell_other w' _ k v (fun e => hr (by rw [e]))).trans (h.block k hk hr)⟩
theorem grown_alloc {w w' : World} {row : Option Nat} (h : w.grownBy w' row) (o : Obj) : w.grownBy (w'.alloc o) row :=
  grown_trans h (World.grownBy_alloc w' o row)
theorem grown_below {w w' : World} (h : Below w.heap.size w w') (row : Option Nat) : w.grownBy w' row := ⟨h.os, h.tape, h.output, h.size, fun k hk _ => h.block k hk⟩
theorem below_grown {w w' : World} {row : Option Nat} {B : Nat} (h : w.grownBy w' row) (hB : B ≤ w.heap.size) (hr : ∀ k, row = some k → B ≤ k) : Below B w w' :=
  ⟨h.os, h.tape, h.output, h.size, fun k hk => h.block k (Nat.lt_of_lt_of_le hk hB) (fun e => by have := hr k e.symm; omega)⟩
theorem below_drewN {B : Nat} {w w' : World} (h : Below B w w') (n : Nat) : Below B w (w'.drewN n) := ⟨h.os, h.tape, h.output, h.size, h.block⟩
theorem grown_any {w w' : World} (h : w.grownBy w' none) (row : Option Nat) : w.grownBy w' row := ⟨h.os, h.tape, h.output, h.size, fun k hk _ => h.block k hk (by simp)⟩
end Go.Proofs.YtdagnkdonlfobaaGreat

/- A Bool, or a number, that is answered under another spelling. No condition. -/
namespace Go.Proofs.YtdagnkdonlfobaaGreat

theorem ret_bool {a b : Bool} (h : a = b) : Ending.returned (.bool a) = .returned (.bool b) := by rw [h]
theorem ret_int {k : IntKind} {a b : Int} (h : a = b) : Ending.returned (.int k a) = .returned (.int k b) := by rw [h]
end Go.Proofs.YtdagnkdonlfobaaGreat

/- The calls of layer 1 (cursor), one contract each: what is answered, and what the cursor is then. No condition but that there is such a cursor in memory. -/
namespace Go.Proofs.YtdagnkdonlfobaaGreat
open Go.RowKit
variable {w : World} {base a : Nat} {q : Option Addr} {c : Nat} {xs : List Int} {p : Nat} {big bad : Bool}

theorem err_any (h : Cur w base a q c xs p big bad) :
    Calls Tryz.prog 162 #[.pointer (some ⟨a, 0, none⟩)] w fun e w' => e = .returned (.int .i64 (if bad then 3 else 0)) ∧ w = w' := by
  have h3 := h.c3
  cases bad
  all_goals
    go_enter Tryz.func162, Tryz.ntmps162
    go_wp2
    go_ret
    exact ⟨rfl, rfl⟩

theorem at_any (h : Cur w base a q c xs p big bad) :
    Calls Tryz.prog 188 #[.pointer (some ⟨a, 0, none⟩)] w fun e w' => e = .returned (.int .i64 p) ∧ w = w' := by
  have h1 := h.c1
  go_enter Tryz.func188, Tryz.ntmps188
  go_wp2
  go_ret
  exact ⟨rfl, rfl⟩

theorem fail_any (h : Cur w base a q c xs p big bad) :
    Calls Tryz.prog 186 #[.pointer (some ⟨a, 0, none⟩)] w fun e w' => e = .returned (.tuple #[]) ∧ Cur w' base a q c xs p big true ∧ w.grownBy w' (some a) := by
  have h3 := h.c3
  have f3 := h.f3
  have hfin := h.setBad
  have hg := grown_setCell (i := 3) (grown_refl w (some a)) (.bool true)
  go_enter Tryz.func186, Tryz.ntmps186
  go_wp2
  go_end0
  exact ⟨rfl, hfin, hg⟩

theorem rest_any (h : Cur w base a q c xs p big bad) :
    Calls Tryz.prog 207 #[.pointer (some ⟨a, 0, none⟩)] w fun e w' => (∃ q', e = .returned (.slice q' (xs.length - p) (c - p)) ∧ IsBytes w q' (c - p) (xs.drop p)) ∧ ∃ n, w.drewN n = w' := by
  have h0 := h.c0
  have h1 := h.c1
  have hle := h.le
  have hbig := h.big
  rcases h.form with ⟨rfl, rfl, rfl⟩ | ⟨g, rfl, hc1, hc2, hcell⟩
  · obtain rfl : p = 0 := by simpa using hle
    go_enter Tryz.func207, Tryz.ntmps207
    go_wp2
    go_quiet (fail)
    go_wp2
    go_ret
    exact ⟨⟨_, rfl, IsBytes.nil⟩, _, rfl⟩
  · have hcut := IsBytes.drop (w := w) hcell p (c - p)
    have hcp : c = p → xs.drop p = [] := fun e => List.drop_eq_nil_of_le (by omega)
    have H1 := Lib.hid hcut
    have H2 := Lib.hid hcp
    have H3 := Lib.hid hcell
    clear hcut hcp hcell
    go_enter Tryz.func207, Tryz.ntmps207
    go_wp2
    go_quiet (fail)
    go_wp2
    · have hcp : c = p := by assumption
      go_ret
      exact ⟨⟨_, rfl, (by rw [H2.out hcp]; exact IsBytes.empty)⟩, _, rfl⟩
    · go_ret
      exact ⟨⟨_, rfl, H1.out⟩, _, rfl⟩

theorem left_any (h : Cur w base a q c xs p big bad) :
    Calls Tryz.prog 180 #[.pointer (some ⟨a, 0, none⟩)] w fun e w' => e = .returned (.int .i64 ((xs.length : Int) - p)) ∧ ∃ n, w.drewN n = w' := by
  have hle := h.le
  have hbig := h.big
  go_enter Tryz.func180, Tryz.ntmps180
  go_wp2_with fail
  refine (rest_any h).mono ?_
  rintro e w' ⟨⟨q', rfl, _⟩, n, rfl⟩
  go_wp2
  go_ret
  exact ⟨ret_int (by omega), n, rfl⟩

/-- What can't be taken: nothing, and it has failed. -/
theorem take_no (h : Cur w base a q c xs p big bad) (n : Int) (hn : bad = true ∨ n < 0 ∨ (xs.length : Int) - p < n) :
    Calls Tryz.prog 187 #[.pointer (some ⟨a, 0, none⟩), .int .i64 n] w fun e w' => e = .returned (.slice none 0 0) ∧ Cur w' base a q c xs p big true ∧ w.grownBy w' (some a) := by
  have h3 := h.c3
  cases bad
  · have hb : n < 0 ∨ (xs.length : Int) - p < n := by simpa using hn
    have f3 := h.f3
    clear hn
    by_cases hneg : n < 0
    · have hfin := h.setBad
      have hg := grown_setCell (i := 3) (grown_refl w (some a)) (.bool true)
      go_enter Tryz.func187, Tryz.ntmps187
      go_wp2
      go_ret
      exact ⟨rfl, hfin, hg⟩
    · have hlt : (xs.length : Int) - p < n := by omega
      clear hb
      have hfin := fun k : Nat => (h.drewN k).setBad
      have hg := fun k : Nat => grown_setCell (i := 3) (grown_drewN (grown_refl w (some a)) k) (.bool true)
      have F := Lib.hid hfin
      have G := Lib.hid hg
      clear hfin hg
      go_enter Tryz.func187, Tryz.ntmps187
      go_wp2_with fail
      refine (left_any h).mono ?_
      rintro e w' ⟨rfl, k, rfl⟩
      go_wp2
      go_ret
      exact ⟨rfl, F.out k, G.out k⟩
  · go_enter Tryz.func187, Tryz.ntmps187
    go_wp2
    go_ret
    exact ⟨rfl, h, grown_refl _ _⟩

/-- What can be taken: these bytes, in the cursor's own memory; it stands behind them. -/
theorem take_ok (h : Cur w base a q c xs p big false) (n : Nat) (hn : p + n ≤ xs.length) :
    Calls Tryz.prog 187 #[.pointer (some ⟨a, 0, none⟩), .int .i64 n] w fun e w' =>
      (∃ q', e = .returned (.slice q' n n) ∧ IsBytes w' q' n ((xs.drop p).take n) ∧ (q' = none ↔ q = none)) ∧ Cur w' base a q c xs (p + n) big false ∧ w.grownBy w' (some a) := by
  have h0 := h.c0
  have h1 := h.c1
  have h3 := h.c3
  have f1 := h.f1
  have hbig := h.big
  have hfin := fun k : Nat => (h.drewN k).setAt hn
  have hg := fun k : Nat => grown_setCell (i := 1) (grown_drewN (grown_refl w (some a)) k) (.int .i64 ((p + n : Nat) : Int))
  rw [show ((p + n : Nat) : Int) = (p : Int) + n by omega] at hfin hg
  rcases h.form with ⟨rfl, rfl, rfl⟩ | ⟨g, rfl, hc1, hc2, hcell⟩
  · have F := Lib.hid hfin
    have G := Lib.hid hg
    clear hfin hg
    obtain rfl : n = 0 := by simp at hn; omega
    obtain rfl : p = 0 := by simpa using hn
    go_enter Tryz.func187, Tryz.ntmps187
    go_wp2_with fail
    refine (left_any h).mono ?_
    rintro e w' ⟨rfl, k, rfl⟩
    go_wp2
    go_quiet (fail)
    go_wp2
    go_ret
    refine ⟨⟨_, rfl, by simpa using IsBytes.nil, by simp⟩, ?_, ?_⟩
    · exact F.out _
    · exact G.out _
  · have hne : g ≠ a := fun e => h.ne (by simp [Value.ownBlock, e])
    have hcut : ∀ k : Nat, IsBytes ((w.drewN k).setCell ⟨a, 1, none⟩ (.int .i64 ((p : Int) + n))) (some ⟨g, p, none⟩) n ((xs.drop p).take n) := fun k =>
      (IsBytes.cut (w := w) hcell p n n).kept (hg k) (fun b hb => by simp at hb; subst hb; simpa using fun e => hne e.symm)
    have H1 := Lib.hid hcut
    have H3 := Lib.hid hcell
    have F := Lib.hid hfin
    have G := Lib.hid hg
    clear hcut hcell hfin hg
    go_enter Tryz.func187, Tryz.ntmps187
    go_wp2_with fail
    refine (left_any h).mono ?_
    rintro e w' ⟨rfl, k, rfl⟩
    go_wp2
    go_quiet (fail)
    go_wp2
    all_goals
      go_ret
      first
        | exact ⟨⟨_, rfl, H1.out _, by simp⟩, F.out _, G.out _⟩
        | (obtain rfl : n = 0 := by omega
           exact ⟨⟨_, rfl, IsBytes.empty, by simp⟩, F.out _, G.out _⟩)
end Go.Proofs.YtdagnkdonlfobaaGreat

/- Bytes that are turned into a text. No condition. -/
namespace Go.Proofs.YtdagnkdonlfobaaGreat
open Go.RowKit
variable {w : World}

theorem IsBytes.text {q : Option Addr} {c : Nat} {ys : List Int} (h : IsBytes w q c ys) {n : Nat} (hn : ys.length = n) :
    (convert 31 9 (.slice q n c)).run Tryz.prog w = .ok (.string (strOfNums ys)) w := by
  subst hn
  exact Lib.BytesIn.convert (fun hl => h.2 hl) rfl c _ _ _ Tryz.underlying31 Tryz.underlying5 Tryz.underlying9

end Go.Proofs.YtdagnkdonlfobaaGreat

/- A text of layer 1 (cursor): what stands up to the next 0; and the calls that take one. No condition. -/
namespace Go.Proofs.YtdagnkdonlfobaaGreat
open Go.RowKit
variable {w : World} {base a : Nat} {q : Option Addr} {c : Nat} {xs : List Int} {p : Nat} {big bad : Bool}

/-- What stands ahead of the first 0. -/
def pre : List Int → List Int
  | [] => []
  | x :: l => if x = 0 then [] else x :: pre l
theorem pre_le (l : List Int) : (pre l).length ≤ l.length := by
  induction l with
  | nil => simp [pre]
  | cons x l ih => simp only [pre]; split <;> simp; omega
theorem pre_take (l : List Int) : pre l = l.take (pre l).length := by
  induction l with
  | nil => simp [pre]
  | cons x l ih =>
    simp only [pre]
    split
    · simp
    · rw [List.length_cons, List.take_succ_cons, ← ih]
/-- How many bytes the next text has; below 0: none stands that may be taken. -/
def textLen (l : List Int) (m : Int) : Int := if (pre l).length < l.length ∧ ((pre l).length : Int) ≤ m then (pre l).length else -1
theorem index_pre (l : List Int) (h : ∀ x ∈ l, 0 ≤ x ∧ x < 256) : Lib.indexByte (Lib.bytesOf l) (0 : Int).toNat.toUInt8 = if (pre l).length < l.length then ((pre l).length : Int) else -1 := by
  induction l with
  | nil => simp [pre, Lib.bytesOf, Lib.indexByte]
  | cons x l ih =>
    have h1 := ih (fun y hy => h y (List.mem_cons_of_mem _ hy))
    have h2 := h x (List.mem_cons_self ..)
    have e : Lib.bytesOf (x :: l) = UInt8.ofNat x.toNat :: Lib.bytesOf l := rfl
    rw [e]
    unfold Lib.indexByte
    rw [h1]
    by_cases hx : x = 0
    · subst hx; simp [pre]
    · have hb : (UInt8.ofNat x.toNat == (0 : Int).toNat.toUInt8) = false := by
        rw [beq_eq_false_iff_ne]
        intro e
        have := congrArg UInt8.toNat e
        simp at this
        omega
      rw [hb]
      simp only [pre, if_neg hx, List.length_cons, Bool.false_eq_true, if_false, Nat.add_lt_add_iff_right]
      by_cases hl : (pre l).length < l.length
      · rw [if_pos hl, if_pos hl]
        rw [if_neg (by simp)]
        omega
      · rw [if_neg hl, if_neg hl]; rfl
theorem textLen_take (l : List Int) : ∀ m : Nat, (if (pre (l.take (m + 1))).length < (l.take (m + 1)).length then ((pre (l.take (m + 1))).length : Int) else -1) = textLen l m := by
  induction l with
  | nil => intro m; simp [pre, textLen]
  | cons x l ih =>
    intro m
    simp only [List.take_succ_cons, textLen, pre]
    by_cases hx : x = 0
    · simp [hx]
    · simp only [if_neg hx, List.length_cons, Nat.add_lt_add_iff_right]
      cases m with
      | zero => simp [pre]; omega
      | succ m =>
        have h := ih m
        simp only [textLen] at h
        by_cases h1 : (pre (l.take (m + 1))).length < (l.take (m + 1)).length
        · rw [if_pos h1] at h ⊢
          by_cases h2 : (pre l).length < l.length ∧ ((pre l).length : Int) ≤ m
          · rw [if_pos h2] at h
            rw [if_pos (by omega)]
            omega
          · rw [if_neg h2] at h; omega
        · rw [if_neg h1] at h ⊢
          by_cases h2 : (pre l).length < l.length ∧ ((pre l).length : Int) ≤ m
          · rw [if_pos h2] at h; omega
          · rw [if_neg (by omega)]
theorem textLen_all (l : List Int) (m : Int) (h : l.length ≤ m) : (if (pre l).length < l.length then ((pre l).length : Int) else -1) = textLen l m := by
  have := pre_le l
  unfold textLen
  by_cases h1 : (pre l).length < l.length
  · rw [if_pos h1, if_pos (by omega)]
  · rw [if_neg h1, if_neg (by omega)]

theorem IsBytes.index {q : Option Addr} {c : Nat} {ys : List Int} (h : IsBytes w q c ys) (hr : ∀ x ∈ ys, 0 ≤ x ∧ x < 256) :
    Calls Tryz.prog 215 #[.slice q ys.length c, .int .u8 0] w fun e w' => e = .returned (.int .i64 (if (pre ys).length < ys.length then ((pre ys).length : Int) else -1)) ∧ w = w' := by
  rw [← index_pre ys hr]
  rcases h.ways with ⟨rfl, rfl, rfl⟩ | ⟨x, rfl, hc⟩
  · exact (Tryz.bytes_IndexByte_nil 0 w).mono fun e w' ⟨h1, h2⟩ => ⟨h1, h2.symm⟩
  · exact (Tryz.bytes_IndexByte_at x ys.length c ys 0 w rfl hc).mono fun e w' ⟨h1, h2⟩ => ⟨h1, h2.symm⟩

theorem textSize_any (h : Cur w base a q c xs p big bad) (m : Int) :
    Calls Tryz.prog 208 #[.pointer (some ⟨a, 0, none⟩), .int .i64 m] w fun e w' =>
      e = .returned (.int .i64 (textLen (xs.drop p) m)) ∧ ∃ n, w.drewN n = w' := by
  have hle := h.le
  have hbig := h.big
  have hlen : (xs.drop p).length = xs.length - p := by simp
  have hr : ∀ x ∈ xs.drop p, 0 ≤ x ∧ x < 256 := fun x hx => h.bytes x (List.mem_of_mem_drop hx)
  by_cases hneg : m < 0
  · have e : textLen (xs.drop p) m = -1 := by unfold textLen; rw [if_neg (by omega)]
    rw [e]
    clear e hr hlen
    go_enter Tryz.func208, Tryz.ntmps208
    go_wp2
    go_ret
    exact ⟨rfl, 0, rfl⟩
  · have hrest := rest_any h
    rw [← hlen] at hrest
    by_cases hlt : m < (xs.drop p).length
    · obtain ⟨k, rfl⟩ := Int.eq_ofNat_of_zero_le (Int.not_lt.1 hneg)
      have hlt' : k < xs.length - p := by omega
      have hk := textLen_take (xs.drop p) k
      have hl2 : ((xs.drop p).take (k + 1)).length = k + 1 := by simp; omega
      have hr2 : ∀ x ∈ (xs.drop p).take (k + 1), 0 ≤ x ∧ x < 256 := fun x hx => hr x (List.mem_of_mem_take hx)
      rw [hl2] at hk
      have K := Lib.hid hk
      have R := Lib.hid hr2
      have L := Lib.hid hl2
      have LL := Lib.hid hlen
      rw [hlen] at hlt
      clear hk hr2 hl2 hr
      go_enter Tryz.func208, Tryz.ntmps208
      go_wp2_with fail
      refine hrest.mono ?_
      rintro e w' ⟨⟨q', rfl, hb⟩, n, rfl⟩
      have hcap : k + 1 ≤ c - p := by
        rcases h.form with ⟨_, h2, _⟩ | ⟨_, _, h3, _⟩
        · subst h2; simp at hlt'
        · omega
      have hb2 := hb.take (k + 1) (c' := c - p) (fun hq => by
        rcases hb.ways with ⟨_, h2, _⟩ | ⟨_, h3, _⟩
        · rw [h2] at hlen; simp at hlen; omega
        · rw [h3] at hq; cases hq)
      have I := (hb2.drewN n).index R.out
      rw [L.out] at I
      have IH := Lib.hid I
      clear I hb2
      rw [hlen]
      clear hlen
      go_wp2_with fail
      refine IH.out.mono ?_
      rintro e w' ⟨rfl, rfl⟩
      rw [K.out]
      clear hrest
      go_wp2
      go_ret
      exact ⟨rfl, n, rfl⟩
    · have hall := textLen_all (xs.drop p) m (by omega)
      rw [hlen] at hall
      have K := Lib.hid hall
      have R := Lib.hid hr
      clear hall hr
      go_enter Tryz.func208, Tryz.ntmps208
      go_wp2_with fail
      refine hrest.mono ?_
      rintro e w' ⟨⟨q', rfl, hb⟩, n, rfl⟩
      have I := (hb.drewN n).index R.out
      rw [hlen] at I hlt
      rw [hlen]
      have IH := Lib.hid I
      clear I hlen
      go_wp2_with fail
      refine IH.out.mono ?_
      rintro e w' ⟨rfl, rfl⟩
      rw [K.out]
      clear hrest
      go_wp2
      go_ret
      exact ⟨rfl, n, rfl⟩

/-- No text that may be taken: nothing, and the cursor has failed. -/
theorem text_no (h : Cur w base a q c xs p big bad) (m : Int) (hn : bad = true ∨ textLen (xs.drop p) m = -1) :
    Calls Tryz.prog 183 #[.pointer (some ⟨a, 0, none⟩), .int .i64 m] w fun e w' =>
      e = .returned (.string ByteArray.empty) ∧ Cur w' base a q c xs p big true ∧ w.grownBy w' (some a) := by
  have hb : bad = true ∨ textLen (xs.drop p) m < 0 ∨ (xs.length : Int) - p < textLen (xs.drop p) m := by
    rcases hn with h1 | h1
    · exact .inl h1
    · exact .inr (.inl (by omega))
  have B := Lib.hid hb
  have T := Lib.hid (textSize_any h m)
  generalize textLen (xs.drop p) m = t at *
  clear hn hb
  go_enter Tryz.func183, Tryz.ntmps183
  go_wp2_with fail
  refine T.out.mono ?_
  rintro e w1 ⟨rfl, n, rfl⟩
  go_wp2_with fail
  refine (take_no (h.drewN n) t B.out).mono ?_
  rintro e w2 ⟨rfl, hc2, hg2⟩
  have cv := run_convert_bytes_nil (P := Tryz.prog) w2 _ _ Tryz.underlying31 Tryz.underlying5 0 0 _ Tryz.underlying9
  go_wp2_with fail
  refine (take_no hc2 1 (.inl rfl)).mono ?_
  rintro e w3 ⟨rfl, hc3, hg3⟩
  have hg := grown_trans (grown_trans (grown_drewN (grown_refl w (some a)) n) hg2) hg3
  clear cv
  go_wp2
  go_ret
  exact ⟨rfl, hc3, hg⟩

/-- A text that may be taken, and the 0 behind it. -/
theorem text_ok (h : Cur w base a q c xs p big false) (m : Int) (hn : (pre (xs.drop p)).length < (xs.drop p).length ∧ ((pre (xs.drop p)).length : Int) ≤ m) :
    Calls Tryz.prog 183 #[.pointer (some ⟨a, 0, none⟩), .int .i64 m] w fun e w' =>
      e = .returned (.string (strOfNums (pre (xs.drop p)))) ∧ Cur w' base a q c xs (p + (pre (xs.drop p)).length + 1) big false ∧ w.grownBy w' (some a) := by
  have ht : textLen (xs.drop p) m = (pre (xs.drop p)).length := by unfold textLen; rw [if_pos hn]
  have hs := textSize_any h m
  rw [ht] at hs
  have hl : (xs.drop p).length = xs.length - p := by simp
  have hle := h.le
  have h1 : p + (pre (xs.drop p)).length ≤ xs.length := by omega
  have h2 : p + (pre (xs.drop p)).length + 1 ≤ xs.length := by omega
  have hpt := pre_take (xs.drop p)
  have htk := fun n => take_ok (h.drewN n) _ h1
  rw [← hpt] at htk
  generalize pre (xs.drop p) = t at *
  have T := Lib.hid hs
  have K := Lib.hid htk
  clear ht hs hl hpt htk hn
  go_enter Tryz.func183, Tryz.ntmps183
  go_wp2_with fail
  refine T.out.mono ?_
  rintro e w1 ⟨rfl, n, rfl⟩
  go_wp2_with fail
  refine (K.out n).mono ?_
  rintro e w2 ⟨⟨q', rfl, hb, _⟩, hc2, hg2⟩
  have cv := hb.text rfl
  go_wp2_with fail
  refine (take_ok hc2 1 h2).mono ?_
  rintro e w3 ⟨⟨q3, rfl, _, _⟩, hc3, hg3⟩
  have hg := grown_trans (grown_trans (grown_drewN (grown_refl w (some a)) n) hg2) hg3
  clear cv
  go_wp2
  go_ret
  exact ⟨rfl, hc3, hg⟩
end Go.Proofs.YtdagnkdonlfobaaGreat

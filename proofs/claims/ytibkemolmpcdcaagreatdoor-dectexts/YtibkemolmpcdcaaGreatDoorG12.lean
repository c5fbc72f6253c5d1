/- Shelf contracts laid at this seat, in plain words. -/
import Derived.Test.YtibkemolmpcdcaaGreatDoorProg
import Derived.Shelf.Small.Wraps
import Derived.Shelf.Strings.Search2
import Derived.Shelf.Strings.Repeat
import Derived.Shelf.Strconv.Itoa2
import Derived.Shelf.Strconv.Itoa1
import Derived.Lib.AppendIntMem
import Derived.Lib.CutLaws
import Derived.Test.YtibkemolmpcdcaaGreatDoorG01
import Derived.Shelf.RegionOpenPlain
import Derived.BigCall
import Derived.BigGuard
import Derived.Test.YtibkemolmpcdcaaGreatDoorG02
namespace Go.Proofs.YtibkemolmpcdcaaGreatDoor
open Go.Proofs Go.Shelf
def Tryz.lays103_ren : Go.Shelf.Ren := ⟨fun | 103 => 8 | 210 => 25 | 206 => 51 | n => n, fun | 9 => 9 | 4 => 4 | 24 => 30 | 3 => 3 | n => n, fun | n => n⟩
theorem Tryz.lays103 : Go.Proofs.Lays.n103 Tryz.prog Tryz.lays103_ren := {
  mixed := by kernel_rfl
  f103 := Tryz.func8.trans (congrArg some (by kernel_rfl))
  f206 := Tryz.func51.trans (congrArg some (by kernel_rfl))
  f210 := Tryz.func25.trans (congrArg some (by kernel_rfl))
  t3 := Tryz.underlying3
  a3 := Tryz.isAgg3
  z3 := Tryz.sizeOf3
  v3 := Tryz.zeroValue3
  t4 := Tryz.underlying4
  a4 := Tryz.isAgg4
  z4 := Tryz.sizeOf4
  v4 := Tryz.zeroValue4
  t9 := Tryz.underlying9
  a9 := Tryz.isAgg9
  z9 := Tryz.sizeOf9
  v9 := Tryz.zeroValue9
  t24 := Tryz.underlying30
  a24 := Tryz.isAgg30
  z24 := Tryz.sizeOf30
  v24 := Tryz.zeroValue30 }
def Tryz.lays219_ren : Go.Shelf.Ren := ⟨fun | 219 => 52 | 217 => 79 | 225 => 80 | 224 => 81 | 267 => 82 | 266 => 100 | 314 => 101 | n => n, fun | 9 => 9 | 3 => 3 | 4 => 4 | 5 => 5 | 46 => 69 | 146 => 105 | 51 => 104 | n => n, fun | 1 => 0 | n => n⟩
theorem Tryz.lays219 : Go.Proofs.Lays.n219 Tryz.prog Tryz.lays219_ren := {
  mixed := by kernel_rfl
  f217 := Tryz.func79.trans (congrArg some (by kernel_rfl))
  f219 := Tryz.func52.trans (congrArg some (by kernel_rfl))
  f224 := Tryz.func81.trans (congrArg some (by kernel_rfl))
  f225 := Tryz.func80.trans (congrArg some (by kernel_rfl))
  f266 := Tryz.func100.trans (congrArg some (by kernel_rfl))
  f267 := Tryz.func82.trans (congrArg some (by kernel_rfl))
  f314 := Tryz.func101.trans (congrArg some (by kernel_rfl))
  t3 := Tryz.underlying3
  a3 := Tryz.isAgg3
  z3 := Tryz.sizeOf3
  v3 := Tryz.zeroValue3
  t4 := Tryz.underlying4
  a4 := Tryz.isAgg4
  z4 := Tryz.sizeOf4
  v4 := Tryz.zeroValue4
  t5 := Tryz.underlying5
  a5 := Tryz.isAgg5
  z5 := Tryz.sizeOf5
  v5 := Tryz.zeroValue5
  t9 := Tryz.underlying9
  a9 := Tryz.isAgg9
  z9 := Tryz.sizeOf9
  v9 := Tryz.zeroValue9
  t46 := Tryz.underlying69
  a46 := Tryz.isAgg69
  z46 := Tryz.sizeOf69
  v46 := Tryz.zeroValue69
  t51 := Tryz.underlying104
  a51 := Tryz.isAgg104
  z51 := Tryz.sizeOf104
  v51 := Tryz.zeroValue104
  t146 := Tryz.underlying105
  a146 := Tryz.isAgg105
  z146 := Tryz.sizeOf105
  v146 := Tryz.zeroValue105
  g1 := by kernel_rfl }
def Tryz.lays105_ren : Go.Shelf.Ren := ⟨fun | 105 => 22 | 212 => 45 | 99 => 46 | 165 => 47 | 166 => 48 | 170 => 49 | 169 => 50 | 263 => 75 | 264 => 76 | 206 => 51 | 240 => 77 | 241 => 78 | 276 => 98 | 277 => 99 | n => n, fun | 9 => 9 | 3 => 3 | 4 => 4 | 20 => 20 | 0 => 0 | 46 => 69 | 109 => 70 | 5 => 5 | 72 => 75 | 76 => 79 | 51 => 104 | 146 => 105 | 53 => 52 | 148 => 107 | 70 => 73 | 37 => 35 | 75 => 78 | 127 => 109 | 164 => 120 | 80 => 81 | n => n, fun | n => n⟩
theorem Tryz.lays105 : Go.Proofs.Lays.n105 Tryz.prog Tryz.lays105_ren := {
  mixed := by kernel_rfl
  f99 := Tryz.func46.trans (congrArg some (by kernel_rfl))
  f105 := Tryz.func22.trans (congrArg some (by kernel_rfl))
  f165 := Tryz.func47.trans (congrArg some (by kernel_rfl))
  f166 := Tryz.func48.trans (congrArg some (by kernel_rfl))
  f169 := Tryz.func50.trans (congrArg some (by kernel_rfl))
  f170 := Tryz.func49.trans (congrArg some (by kernel_rfl))
  f206 := Tryz.func51.trans (congrArg some (by kernel_rfl))
  f212 := Tryz.func45.trans (congrArg some (by kernel_rfl))
  f240 := Tryz.func77.trans (congrArg some (by kernel_rfl))
  f241 := Tryz.func78.trans (congrArg some (by kernel_rfl))
  f263 := Tryz.func75.trans (congrArg some (by kernel_rfl))
  f264 := Tryz.func76.trans (congrArg some (by kernel_rfl))
  f276 := Tryz.func98.trans (congrArg some (by kernel_rfl))
  f277 := Tryz.func99.trans (congrArg some (by kernel_rfl))
  t0 := Tryz.underlying0
  a0 := Tryz.isAgg0
  z0 := Tryz.sizeOf0
  v0 := Tryz.zeroValue0
  t3 := Tryz.underlying3
  a3 := Tryz.isAgg3
  z3 := Tryz.sizeOf3
  v3 := Tryz.zeroValue3
  t4 := Tryz.underlying4
  a4 := Tryz.isAgg4
  z4 := Tryz.sizeOf4
  v4 := Tryz.zeroValue4
  t5 := Tryz.underlying5
  a5 := Tryz.isAgg5
  z5 := Tryz.sizeOf5
  v5 := Tryz.zeroValue5
  t9 := Tryz.underlying9
  a9 := Tryz.isAgg9
  z9 := Tryz.sizeOf9
  v9 := Tryz.zeroValue9
  t20 := Tryz.underlying20
  a20 := Tryz.isAgg20
  z20 := Tryz.sizeOf20
  v20 := Tryz.zeroValue20
  t37 := Tryz.underlying35
  a37 := Tryz.isAgg35
  z37 := Tryz.sizeOf35
  v37 := Tryz.zeroValue35
  t46 := Tryz.underlying69
  a46 := Tryz.isAgg69
  z46 := Tryz.sizeOf69
  v46 := Tryz.zeroValue69
  t51 := Tryz.underlying104
  a51 := Tryz.isAgg104
  z51 := Tryz.sizeOf104
  v51 := Tryz.zeroValue104
  t53 := Tryz.underlying52
  a53 := Tryz.isAgg52
  z53 := Tryz.sizeOf52
  v53 := Tryz.zeroValue52
  t70 := Tryz.underlying73
  a70 := Tryz.isAgg73
  z70 := Tryz.sizeOf73
  v70 := Tryz.zeroValue73
  t72 := Tryz.underlying75
  a72 := Tryz.isAgg75
  z72 := Tryz.sizeOf75
  v72 := Tryz.zeroValue75
  t75 := Tryz.underlying78
  a75 := Tryz.isAgg78
  z75 := Tryz.sizeOf78
  v75 := Tryz.zeroValue78
  t76 := Tryz.underlying79
  a76 := Tryz.isAgg79
  z76 := Tryz.sizeOf79
  v76 := Tryz.zeroValue79
  t109 := Tryz.underlying70
  a109 := Tryz.isAgg70
  z109 := Tryz.sizeOf70
  v109 := Tryz.zeroValue70
  t127 := Tryz.underlying109
  a127 := Tryz.isAgg109
  z127 := Tryz.sizeOf109
  v127 := Tryz.zeroValue109
  t146 := Tryz.underlying105
  a146 := Tryz.isAgg105
  z146 := Tryz.sizeOf105
  v146 := Tryz.zeroValue105
  t148 := Tryz.underlying107
  a148 := Tryz.isAgg107
  z148 := Tryz.sizeOf107
  v148 := Tryz.zeroValue107
  t164 := Tryz.underlying120
  a164 := Tryz.isAgg120
  z164 := Tryz.sizeOf120
  v164 := Tryz.zeroValue120 }
theorem Tryz.lays105X : Builder.Extra Tryz.prog Tryz.lays105_ren := {
  sizeBuilder := by kernel_rfl
  liesBuilder := by kernel_rfl
  t5 := Tryz.underlying5
  a5 := Tryz.isAgg5
  z5 := Tryz.sizeOf5
  v5 := Tryz.zeroValue5
  infoByte := by kernel_rfl
  cellsByte := by kernel_rfl
  sizeByte := by kernel_rfl
  neB5 := by decide }
def Tryz.lays283_ren : Go.Shelf.Ren := ⟨fun | 283 => 71 | n => n, fun | 3 => 3 | 9 => 9 | 4 => 4 | n => n, fun | n => n⟩
theorem Tryz.lays283 : Go.Proofs.Lays.n283 Tryz.prog Tryz.lays283_ren := {
  mixed := by kernel_rfl
  f283 := Tryz.func71.trans (congrArg some (by kernel_rfl))
  t3 := Tryz.underlying3
  a3 := Tryz.isAgg3
  z3 := Tryz.sizeOf3
  v3 := Tryz.zeroValue3
  t4 := Tryz.underlying4
  a4 := Tryz.isAgg4
  z4 := Tryz.sizeOf4
  v4 := Tryz.zeroValue4
  t9 := Tryz.underlying9
  a9 := Tryz.isAgg9
  z9 := Tryz.sizeOf9
  v9 := Tryz.zeroValue9 }
def Tryz.lays284_ren : Go.Shelf.Ren := ⟨fun | 284 => 72 | 129 => 94 | 317 => 93 | 318 => 95 | n => n, fun | 53 => 52 | 3 => 3 | 212 => 116 | 0 => 0 | 4 => 4 | 46 => 69 | 5 => 5 | 9 => 9 | n => n, fun | 17 => 1 | n => n⟩
theorem Tryz.lays284 : Go.Proofs.LaysM.n284 Tryz.prog Tryz.lays284_ren := {
  mixed := by kernel_rfl
  f129 := Tryz.func94.trans (congrArg some (by kernel_rfl))
  f284 := Tryz.func72.trans (congrArg some (by kernel_rfl))
  f317 := Tryz.func93.trans (congrArg some (by kernel_rfl))
  f318 := Tryz.func95.trans (congrArg some (by kernel_rfl))
  t0 := Tryz.underlying0
  a0 := Tryz.isAgg0
  z0 := Tryz.sizeOf0
  v0 := Tryz.zeroValue0
  t3 := Tryz.underlying3
  a3 := Tryz.isAgg3
  z3 := Tryz.sizeOf3
  v3 := Tryz.zeroValue3
  t4 := Tryz.underlying4
  a4 := Tryz.isAgg4
  z4 := Tryz.sizeOf4
  v4 := Tryz.zeroValue4
  t5 := Tryz.underlying5
  a5 := Tryz.isAgg5
  z5 := Tryz.sizeOf5
  v5 := Tryz.zeroValue5
  t9 := Tryz.underlying9
  a9 := Tryz.isAgg9
  z9 := Tryz.sizeOf9
  v9 := Tryz.zeroValue9
  t46 := Tryz.underlying69
  a46 := Tryz.isAgg69
  z46 := Tryz.sizeOf69
  v46 := Tryz.zeroValue69
  t53 := Tryz.underlying52
  a53 := Tryz.isAgg52
  z53 := Tryz.sizeOf52
  v53 := Tryz.zeroValue52
  t212 := Tryz.underlying116
  a212 := Tryz.isAgg116
  z212 := Tryz.sizeOf116
  v212 := Tryz.zeroValue116
  g17 := by kernel_rfl
  i0 := by kernel_rfl
  i3 := by kernel_rfl
  i4 := by kernel_rfl
  i5 := by kernel_rfl
  i9 := by kernel_rfl
  i46 := by kernel_rfl
  i53 := by kernel_rfl
  i212 := by kernel_rfl
  m17 := by kernel_rfl }
def Tryz.lays285_ren : Go.Shelf.Ren := ⟨fun | 285 => 73 | n => n, fun | 37 => 35 | 53 => 52 | 3 => 3 | 4 => 4 | 51 => 104 | 9 => 9 | 5 => 5 | 0 => 0 | n => n, fun | n => n⟩
theorem Tryz.lays285 : Go.Proofs.Lays.n285 Tryz.prog Tryz.lays285_ren := {
  mixed := by kernel_rfl
  f285 := Tryz.func73.trans (congrArg some (by kernel_rfl))
  t0 := Tryz.underlying0
  a0 := Tryz.isAgg0
  z0 := Tryz.sizeOf0
  v0 := Tryz.zeroValue0
  t3 := Tryz.underlying3
  a3 := Tryz.isAgg3
  z3 := Tryz.sizeOf3
  v3 := Tryz.zeroValue3
  t4 := Tryz.underlying4
  a4 := Tryz.isAgg4
  z4 := Tryz.sizeOf4
  v4 := Tryz.zeroValue4
  t5 := Tryz.underlying5
  a5 := Tryz.isAgg5
  z5 := Tryz.sizeOf5
  v5 := Tryz.zeroValue5
  t9 := Tryz.underlying9
  a9 := Tryz.isAgg9
  z9 := Tryz.sizeOf9
  v9 := Tryz.zeroValue9
  t37 := Tryz.underlying35
  a37 := Tryz.isAgg35
  z37 := Tryz.sizeOf35
  v37 := Tryz.zeroValue35
  t51 := Tryz.underlying104
  a51 := Tryz.isAgg104
  z51 := Tryz.sizeOf104
  v51 := Tryz.zeroValue104
  t53 := Tryz.underlying52
  a53 := Tryz.isAgg52
  z53 := Tryz.sizeOf52
  v53 := Tryz.zeroValue52 }
end Go.Proofs.YtibkemolmpcdcaaGreatDoor

/- Walks: strings.CutPrefix at a minus, strings.Cut at a point. -/
namespace Go.Proofs.YtibkemolmpcdcaaGreatDoor
open Go.RowKit

theorem cutPrefix_any (s p : ByteArray) (w : World) :
    Calls Tryz.prog 8 #[.string s, .string p] w fun e w' => e = .returned (.tuple #[.string ⟨(Lib.trimPrefix s.data.toList p.data.toList).toArray⟩, .bool (Lib.hasPrefix s.data.toList p.data.toList)]) ∧ w' = w :=
  Any.strings_CutPrefix Tryz.lays103 s p w
theorem index1_any (s : ByteArray) (c : UInt8) (w : World) :
    Calls Tryz.prog 52 #[.string s, .string ⟨#[c]⟩] w fun e w' => e = .returned (.int .i64 (Lib.indexByte s.data.toList c)) ∧ w' = w :=
  Any.stringslite_Index_one Tryz.lays219 s c w

/-- what stands ahead of the first c, what behind it, and whether there is one -/
def cut1 (l : List UInt8) (c : UInt8) : List UInt8 × List UInt8 × Bool :=
  if 0 ≤ Lib.indexByte l c then (l.take (Lib.indexByte l c).toNat, l.drop ((Lib.indexByte l c).toNat + 1), true) else (l, [], false)
theorem indexByte_bd : ∀ (l : List UInt8) (c : UInt8), -1 ≤ Lib.indexByte l c ∧ Lib.indexByte l c < l.length
  | [], c => by simp [Lib.indexByte]
  | b :: l, c => by
    have h := indexByte_bd l c
    rw [Lib.indexByte]
    split
    · simp <;> omega
    · split
      · simp <;> omega
      · simp only [List.length_cons]; omega
theorem cut1_hit {l : List UInt8} {c : UInt8} {i : Nat} (h : Lib.indexByte l c = (i : Int)) : cut1 l c = (l.take i, l.drop (i + 1), true) := by
  unfold cut1; rw [h, if_pos (by omega)]; simp
theorem cut1_miss {l : List UInt8} {c : UInt8} (h : ¬ 0 ≤ Lib.indexByte l c) : cut1 l c = (l, [], false) := by
  unfold cut1; rw [if_neg h]
theorem ext_take (s : ByteArray) (i : Nat) : s.extract 0 i = ⟨(s.data.toList.take i).toArray⟩ := by
  rw [Lib.extract_eq]; simp
theorem ext_drop (s : ByteArray) (i : Nat) : s.extract i s.size = ⟨(s.data.toList.drop i).toArray⟩ := by
  rw [Lib.extract_eq, List.take_of_length_le (by rw [List.length_drop, ← Lib.size_eq]; exact Nat.le_refl _)]

set_option maxHeartbeats 1000000 in
theorem cutIn_any (s : ByteArray) (c : UInt8) (w : World) (hs : s.size ≤ 9223372036854775000) :
    Calls Tryz.prog 26 #[.string s, .string ⟨#[c]⟩] w fun e w' => e = .returned (.tuple #[.string ⟨(cut1 s.data.toList c).1.toArray⟩, .string ⟨(cut1 s.data.toList c).2.1.toArray⟩, .bool (cut1 s.data.toList c).2.2]) ∧ Below w.heap.size w w' := by
  have hb := indexByte_bd s.data.toList c
  rw [← Lib.size_eq] at hb
  have C := fun wx => index1_any s c wx
  by_cases h : 0 ≤ Lib.indexByte s.data.toList c
  · obtain ⟨i, hi⟩ : ∃ i : Nat, Lib.indexByte s.data.toList c = (i : Int) := ⟨(Lib.indexByte s.data.toList c).toNat, by omega⟩
    rw [cut1_hit hi]
    rw [hi] at C hb
    replace C := hide C
    have E1 := hide (ext_take s i)
    have E2 := hide (ext_drop s (i + 1))
    have c2 : (i : Int) ≤ (s.size : Int) := by omega
    have c4 : (i : Int) + 1 ≤ (s.size : Int) := by omega
    have c1 : (0 : Int) ≤ (i : Int) := by omega
    have c3 : (0 : Int) ≤ (i : Int) + 1 := by omega
    clear h hi hb
    go_enter Tryz.func26, Tryz.ntmps26
    go_wp2_with (go_at_call 52; refine (unhide C _).mono ?_; rintro e w' ⟨rfl, rfl⟩)
    go_region
    go_wp2
    go_ret3
    refine ⟨?_, (Below.refl _ _).drew⟩
    rw [← unhide E1, ← unhide E2]
    rfl
  · have hm : Lib.indexByte s.data.toList c = -1 := by omega
    rw [cut1_miss h]
    rw [hm] at C
    replace C := hide C
    clear h hm hb
    go_enter Tryz.func26, Tryz.ntmps26
    go_wp2_with (go_at_call 52; refine (unhide C _).mono ?_; rintro e w' ⟨rfl, rfl⟩)
    go_ret3
    refine ⟨?_, Below.refl _ _⟩
    rw [Lib.mk_data s]
    rfl

set_option maxHeartbeats 1000000 in
theorem cut_any (s : ByteArray) (c : UInt8) (w : World) (hs : s.size ≤ 9223372036854775000) :
    Calls Tryz.prog 9 #[.string s, .string ⟨#[c]⟩] w fun e w' => e = .returned (.tuple #[.string ⟨(cut1 s.data.toList c).1.toArray⟩, .string ⟨(cut1 s.data.toList c).2.1.toArray⟩, .bool (cut1 s.data.toList c).2.2]) ∧ Below w.heap.size w w' := by
  have C := hide (fun wx => cutIn_any s c wx hs)
  generalize cut1 s.data.toList c = q at *
  go_enter Tryz.func9, Tryz.ntmps9
  go_wp2_with (go_at_call 26; refine (unhide C _).mono ?_; rintro e w' ⟨rfl, hb⟩)
  go_ret3
  exact ⟨rfl, hb⟩
end Go.Proofs.YtibkemolmpcdcaaGreatDoor

/- Walks: strconv.FormatUint at base 10, strings.Repeat. -/
namespace Go.Proofs.YtibkemolmpcdcaaGreatDoor
open Go.RowKit Go.Sort

theorem repeat_any (s : ByteArray) (c : Nat) (w : World) (hc : c ≤ 9223372036854775807) (hlen : s.size * c ≤ 140737488355328) :
    Calls Tryz.prog 22 #[.string s, .int .i64 c] w fun e w' => e = .returned (.string ⟨(Lib.repeatL s.data.toList c).toArray⟩) ∧ Below w.heap.size w w' :=
  Any.strings_Repeat Tryz.lays105 Tryz.lays105X s c w hc hlen
theorem esmall_any (i : Nat) (h : i < 100) (w : World) :
    Calls Tryz.prog 71 #[.int .i64 i] w fun e w' => e = .returned (.string ⟨(Lib.decDigits i).toArray⟩) ∧ w' = w :=
  Any.internal_strconv_small Tryz.lays283 i h w
theorem numDigits_any (u : Nat) (h1 : 1 ≤ u) (h2 : u < 18446744073709551616) (w : World) (htab : Lib.TabIs Tryz.prog w "internal/strconv.uint64pow10" .u64 Lib.pow10Tab) :
    Calls Tryz.prog 72 #[.int .u64 u] w fun e w' => e = .returned (.int .i64 (Lib.nDigits u)) ∧ w' = w :=
  Any.internal_strconv_numDigits Tryz.lays284 u h1 h2 w htab
theorem formatBase10_any (blk off cap : Nat) (u : Nat) (d : Array UInt8) (w : World) (hH : Holds (fun (b : UInt8) => Value.int .u8 (b.toNat : Int)) w blk off d) (hu : u < 10 ^ d.size) (hu64 : u < 18446744073709551616) (hsz : d.size < 4611686018427387904) :
    Calls Tryz.prog 73 #[.slice (some ⟨blk, off, none⟩) d.size cap, .int .u64 u] w fun e w' =>
      e = .returned (.tuple #[]) ∧ ∃ (n v' : Nat) (dk : Array UInt8), w' = (putRow (fun (b : UInt8) => Value.int .u8 (b.toNat : Int)) w blk off dk).drewN n ∧ Lib.FmtInv d.size u 0 v' dk :=
  Any.internal_strconv_formatBase10 Tryz.lays285 blk off cap u d w hH hu hu64 hsz

set_option maxHeartbeats 2000000 in
set_option maxRecDepth 100000 in
theorem formatUint_in (u : Nat) (hu64 : u < 18446744073709551616) (w : World) (htab : Lib.TabIs Tryz.prog w "internal/strconv.uint64pow10" .u64 Lib.pow10Tab) :
    Calls Tryz.prog 44 #[.int .u64 (u : Int), .int .i64 10] w fun e w' => e = .returned (.string ⟨(Lib.decDigits u).toArray⟩) ∧ Below w.heap.size w w' := by
  by_cases hs : u < 100
  · have hs' : (u : Int) < 100 := by omega
    have C := hide (fun wx => esmall_any u hs wx)
    go_enter Tryz.func44, Tryz.ntmps44
    go_wp2_with (go_at_call 71; refine (unhide C _).mono ?_; rintro e w' ⟨rfl, rfl⟩)
    go_ret
    exact ⟨rfl, Below.refl _ _⟩
  · have hs' : ¬ (u : Int) < 100 := by omega
    have hu1 : 1 ≤ u := by omega
    have hnd20 : Lib.nDigits u ≤ 20 := by have := Lib.numDigits_eq u hu1 hu64; split at this <;> omega
    have hal : Tryz.prog.arrayLen 99 = 24 := by kernel_rfl
    have hsl : ∀ W, (Instr.sliceAt 99 (.pointer (some ⟨w.heap.size, 0, none⟩)) none (some (.int .i64 (Lib.nDigits u : Int))) none).run Tryz.prog W = .ok (.slice (some ⟨w.heap.size, 0, none⟩) (Lib.nDigits u) 24) W := fun W => by
      rw [run_sliceAt_array_h W 99 ⟨w.heap.size, 0, none⟩ (by kernel_rfl) .i64 (Lib.nDigits u : Int) (by omega) (by rw [hal]; omega)]
      go_simp
    have hH0 := Lib.holds_zero0 w 99 (Lib.nDigits u) (by omega)
    have hfmt := formatBase10_any w.heap.size 0 24 u (Array.replicate (Lib.nDigits u) 0) (w.alloc (.cells Lib.zeros24 99)) hH0 (by rw [Array.size_replicate]; exact Lib.lt_pow_nDigits u) hu64 (by rw [Array.size_replicate]; omega)
    rw [Array.size_replicate] at hfmt
    have HH0 := Lib.hid hH0
    have ND := hide (fun wx (ht : Lib.TabIs Tryz.prog wx "internal/strconv.uint64pow10" .u64 Lib.pow10Tab) => numDigits_any u hu1 hu64 wx ht)
    have HT := hide htab
    clear hH0 hal htab
    go_enter Tryz.func44, Tryz.ntmps44
    go_wp2_with (go_at_call 72; refine (unhide ND _ (Lib.tabIs_alloc (unhide HT) _)).mono ?_; rintro e w' ⟨rfl, rfl⟩)
    refine hfmt.mono ?_
    rintro e w' ⟨rfl, k, v', dk, rfl, hF⟩
    have hcv : (convert 35 9 (.slice (some ⟨w.heap.size, 0, none⟩) (Lib.nDigits u) 24)).run Tryz.prog ((putRow (fun (b : UInt8) => Value.int .u8 (b.toNat : Int)) (w.alloc (.cells Lib.zeros24 99)) w.heap.size 0 dk).drewN k) = .ok (.string ⟨(Lib.decDigits u).toArray⟩) ((putRow (fun (b : UInt8) => Value.int .u8 (b.toNat : Int)) (w.alloc (.cells Lib.zeros24 99)) w.heap.size 0 dk).drewN k) := by
      have h := run_convert_bytes_back (P := Tryz.prog) ((putRow (fun (b : UInt8) => Value.int .u8 (b.toNat : Int)) (w.alloc (.cells Lib.zeros24 99)) w.heap.size 0 dk).drewN k) 35 9 5 ⟨w.heap.size, 0, none⟩ 24 (Lib.decDigits u) Tryz.underlying35 Tryz.underlying5 Tryz.underlying9 (fun j hj => by
        rw [Lib.row_is_numeral hF j hj, Lib.add_plain, World.cell?_drewN]
        exact cell?_putRow (fun (b : UInt8) => Value.int .u8 (b.toNat : Int)) _ w.heap.size 0 _ dk HH0.out (by rw [hF.size, Array.size_replicate]) j (by rw [hF.size]; rw [Lib.decDigits_length] at hj; exact hj))
      rw [Lib.decDigits_length] at h
      exact h
    obtain ⟨os, eo⟩ := Lib.fin_at w (.cells Lib.zeros24 99) dk k 0
    have HE := hide eo
    clear eo hfmt ND HT HH0
    go_wp2
    go_ret
    refine ⟨rfl, ?_⟩
    rw [unhide HE]
    exact Lib.below_grow _ w (Nat.le_refl _) k os

set_option maxHeartbeats 400000 in
theorem formatUint_any (u : Nat) (hu64 : u < 18446744073709551616) (w : World) (htab : Lib.TabIs Tryz.prog w "internal/strconv.uint64pow10" .u64 Lib.pow10Tab) :
    Calls Tryz.prog 20 #[.int .u64 (u : Int), .int .i64 10] w fun e w' => e = .returned (.string ⟨(Lib.decDigits u).toArray⟩) ∧ Below w.heap.size w w' := by
  have C := hide (formatUint_in u hu64 w htab)
  clear htab
  go_enter Tryz.func20, Tryz.ntmps20
  go_wp2_with (go_at_call 44; refine (unhide C).mono ?_; rintro e w' ⟨rfl, hb⟩)
  go_ret
  exact ⟨rfl, hb⟩
end Go.Proofs.YtibkemolmpcdcaaGreatDoor

/- Walks: Parse. -/
namespace Go.Proofs.YtibkemolmpcdcaaGreatDoor
open Go.RowKit

/-- a text's sign is taken off -/
def pU (l : List UInt8) : List UInt8 := Lib.trimPrefix l [45]
def pB (l : List UInt8) : Bool := Lib.hasPrefix l [45]
/-- a nought ahead of further digits -/
def lead0 (a : List UInt8) : Bool := decide (1 < a.length) && decide (a.head? = some 48)
/-- is it written as a number must be? -/
def pOk (a h : List UInt8) (p : Bool) : Bool := dgs a && !lead0 a && (!p || dgs h)
def nC (B : Bool) (N : Nat) (x : Int) : Int := Dm.fC (Dm.sg B (Dm.nQ N x false)) (Dm.nE N x)
def nX (B : Bool) (N : Nat) (x : Int) : Int := Dm.fE (Dm.sg B (Dm.nQ N x false)) (Dm.nE N x)
def nR (B : Bool) (N : Nat) (x : Int) : Int := Dm.fR (Dm.sg B (Dm.nQ N x false)) (Dm.nE N x)
def vL (l : List UInt8) : Nat := Dm.val (dOf l) l.length
/-- what Parse tells of a text -/
def parseF (l : List UInt8) : Int × Int × Int :=
  if 100 < l.length then (0, 0, 4)
  else if pOk (cut1 (pU l) 46).1 (cut1 (pU l) 46).2.1 (cut1 (pU l) 46).2.2 = true then
    (nC (pB l) (vL ((cut1 (pU l) 46).1 ++ (cut1 (pU l) 46).2.1)) (-((cut1 (pU l) 46).2.1.length : Int)), nX (pB l) (vL ((cut1 (pU l) 46).1 ++ (cut1 (pU l) 46).2.1)) (-((cut1 (pU l) 46).2.1.length : Int)), nR (pB l) (vL ((cut1 (pU l) 46).1 ++ (cut1 (pU l) 46).2.1)) (-((cut1 (pU l) 46).2.1.length : Int)))
  else (0, 0, 2)
def pRet (q : Int × Int × Int) : Ending := .returned (.tuple #[.agg #[.int .i64 q.1, .int .i64 q.2.1], .int .i64 q.2.2])

theorem trim_le (l p : List UInt8) : (Lib.trimPrefix l p).length ≤ l.length := by
  unfold Lib.trimPrefix; split
  · simp
  · exact Nat.le_refl _
theorem cut1_le (l : List UInt8) (c : UInt8) : (cut1 l c).1.length + (cut1 l c).2.1.length ≤ l.length := by
  unfold cut1; split
  · simp; omega
  · simp

set_option maxHeartbeats 400000 in
theorem parse_much (s : ByteArray) (w : World) (h : 100 < s.size) :
    Calls Tryz.prog 4 #[.string s] w fun e w' => e = .returned (.tuple #[.agg #[.int .i64 0, .int .i64 0], .int .i64 4]) ∧ Below w.heap.size w w' := by
  go_enter Tryz.func4, Tryz.ntmps4
  go_wp2
  exact bodyPost_ret (v := .tuple #[.agg #[.int .i64 0, .int .i64 0], .int .i64 4]) (by simp [results, Tryz.results4, go_sem]) rfl ⟨rfl, (Below.refl _ _).alloc (Nat.le_refl _) _⟩

theorem one_cell {w w3 : World} (hb : Below (w.alloc (.cells #[.int .i64 0, .int .i64 0] 23)).heap.size (w.alloc (.cells #[.int .i64 0, .int .i64 0] 23)) w3) :
    w3.cell? ⟨w.heap.size, 0, none⟩ = some (.int .i64 0) ∧ w3.cell? ⟨w.heap.size, 1, none⟩ = some (.int .i64 0) ∧ w3.frozen? ⟨w.heap.size, 0, none⟩ = false ∧ w3.frozen? ⟨w.heap.size, 1, none⟩ = false ∧ w.heap.size + 1 ≤ w3.heap.size ∧ Below w.heap.size w w3 := by
  obtain ⟨hc, hf⟩ := bcell hb
  have s := hb.size
  simp at s
  have hw : Below w.heap.size w (w.alloc (.cells #[.int .i64 0, .int .i64 0] 23)) := (Below.refl w.heap.size w).alloc (Nat.le_refl _) _
  refine ⟨?_, ?_, ?_, ?_, by omega, hw.trans (hb.mono (by simp))⟩
  all_goals first | (rw [hc _ _ (by simp)]; simp [go_sem]; done) | (rw [hf _ _ (by simp)]; simp [go_sem]; done)

theorem isDigitsL (a : ByteArray) (l : List UInt8) (h : a.data.toList = l) (w : World) (hs : a.size ≤ 1000) :
    Calls Tryz.prog 10 #[.string a] w fun e w' => e = .returned (.bool (dgs l)) ∧ w' = w := by
  subst h; exact isDigits_any a w hs

theorem head_at {A : ByteArray} {a : List UInt8} (h : A.data.toList = a) (h0 : 0 < A.size) : a.head? = some A[0] := by
  subst h
  rw [List.head?_eq_getElem?]
  exact toList_at A 0 h0

set_option maxHeartbeats 1000000 in
theorem parse_form (s U A H : ByteArray) (a h : List UInt8) (b p : Bool) (w : World) (hs : s.size ≤ 100) (hA : A.data.toList = a) (hH : H.data.toList = h) (lA : A.size + H.size ≤ 100)
    (cp : ∀ wx, Calls Tryz.prog 8 #[.string s, .string ⟨#[45]⟩] wx fun e w' => e = .returned (.tuple #[.string U, .bool b]) ∧ w' = wx)
    (cc : ∀ wx, Calls Tryz.prog 9 #[.string U, .string ⟨#[46]⟩] wx fun e w' => e = .returned (.tuple #[.string A, .string H, .bool p]) ∧ Below wx.heap.size wx w')
    (no : pOk a h p = false) :
    Calls Tryz.prog 4 #[.string s] w fun e w' => e = .returned (.tuple #[.agg #[.int .i64 0, .int .i64 0], .int .i64 2]) ∧ Below w.heap.size w w' := by
  have CP := hide cp
  have CC := hide cc
  have dA := fun wx => isDigitsL A a hA wx (by omega)
  have dH := fun wx => isDigitsL H h hH wx (by omega)
  have hs' : ¬ 100 < (s.size : Int) := by omega
  have hl : a.length = A.size := by rw [← hA]; simp
  clear cp cc
  cases qa : dgs a
  · rw [qa] at dA
    replace dA := hide dA
    replace dH := hide dH
    clear no qa
    go_enter Tryz.func4, Tryz.ntmps4
    go_wp2_with fail
    refine (unhide CP _).mono ?_
    rintro e w1 ⟨rfl, rfl⟩
    go_wp2_with fail
    refine (unhide CC _).mono ?_
    rintro e w2 ⟨rfl, hb⟩
    obtain ⟨t0, t1, f0, f1, hz, hw⟩ := one_cell hb
    clear hb
    go_wp2_with fail
    refine (unhide dA _).mono ?_
    rintro e w3 ⟨rfl, rfl⟩
    go_wp2
    exact bodyPost_ret (v := .tuple #[.agg #[.int .i64 0, .int .i64 0], .int .i64 2]) (by simp [results, Tryz.results4, go_sem, t0, t1]) rfl ⟨rfl, (hw.setCell (by simp) _).setCell (by simp) _⟩
  · rw [qa] at dA
    have hA0 : 0 < A.size := by
      rcases Nat.eq_zero_or_pos A.size with z | z
      · rw [← hl] at z
        rw [List.length_eq_zero_iff.1 z] at qa
        exact absurd qa (by decide)
      · exact z
    have hhd := head_at hA hA0
    replace dA := hide dA
    cases q0 : lead0 a
    · have p1 : p = true := by
        unfold pOk at no
        rw [qa, q0] at no
        cases p
        · simp at no
        · rfl
      have p2 : dgs h = false := by
        unfold pOk at no
        rw [qa, q0, p1] at no
        simpa using no
      rw [p2] at dH
      subst p1
      replace dH := hide dH
      have q1 : ¬ (1 < (A.size : Int)) ∨ (1 < (A.size : Int) ∧ ((A[0].toNat : Int) == 48) = false) := by
        unfold lead0 at q0
        rw [hhd, hl] at q0
        by_cases g : 1 < A.size
        · right
          refine ⟨by omega, ?_⟩
          rw [decide_eq_true g] at q0
          simp only [Bool.true_and, decide_eq_false_iff_not, Option.some.injEq] at q0
          rw [beq_eq_false_iff_ne]
          intro e
          apply q0
          apply UInt8.toNat_inj.1
          have : A[0].toNat = 48 := by omega
          rw [this]; rfl
        · left; omega
      clear no q0 qa hhd p2 hl
      rcases q1 with q1 | ⟨q1, q2⟩
      all_goals
        go_enter Tryz.func4, Tryz.ntmps4
        go_wp2_with fail
        refine (unhide CP _).mono ?_
        rintro e w1 ⟨rfl, rfl⟩
        go_wp2_with fail
        refine (unhide CC _).mono ?_
        rintro e w2 ⟨rfl, hb⟩
        obtain ⟨t0, t1, f0, f1, hz, hw⟩ := one_cell hb
        clear hb
        go_wp2_with fail
        refine (unhide dA _).mono ?_
        rintro e w3 ⟨rfl, rfl⟩
        go_wp2_with fail
        refine (unhide dH _).mono ?_
        rintro e w3 ⟨rfl, rfl⟩
        go_wp2
        exact bodyPost_ret (v := .tuple #[.agg #[.int .i64 0, .int .i64 0], .int .i64 2]) (by simp [results, Tryz.results4, go_sem, t0, t1]) rfl ⟨rfl, (hw.setCell (by simp) _).setCell (by simp) _⟩
    · have q1 : 1 < (A.size : Int) ∧ ((A[0].toNat : Int) == 48) = true := by
        unfold lead0 at q0
        rw [hhd, hl] at q0
        simp at q0
        refine ⟨by omega, ?_⟩
        rw [q0.2]
        rfl
      obtain ⟨q1, q2⟩ := q1
      clear no q0 qa hhd hl
      go_enter Tryz.func4, Tryz.ntmps4
      go_wp2_with fail
      refine (unhide CP _).mono ?_
      rintro e w1 ⟨rfl, rfl⟩
      go_wp2_with fail
      refine (unhide CC _).mono ?_
      rintro e w2 ⟨rfl, hb⟩
      obtain ⟨t0, t1, f0, f1, hz, hw⟩ := one_cell hb
      clear hb
      go_wp2_with fail
      refine (unhide dA _).mono ?_
      rintro e w3 ⟨rfl, rfl⟩
      go_wp2
      exact bodyPost_ret (v := .tuple #[.agg #[.int .i64 0, .int .i64 0], .int .i64 2]) (by simp [results, Tryz.results4, go_sem, t0, t1]) rfl ⟨rfl, (hw.setCell (by simp) _).setCell (by simp) _⟩
end Go.Proofs.YtibkemolmpcdcaaGreatDoor

/- Walks: Parse, whole. -/
namespace Go.Proofs.YtibkemolmpcdcaaGreatDoor
open Go.RowKit

theorem app_data (A H : ByteArray) : (A ++ H).data.toList = A.data.toList ++ H.data.toList := by simp
theorem ok_parts {a h : List UInt8} {p : Bool} (hp : p = false → h = []) (ok : pOk a h p = true) : dgs a = true ∧ lead0 a = false ∧ (p = true → dgs h = true) ∧ (a ++ h).all isDg = true := by
  unfold pOk at ok
  simp only [Bool.and_eq_true, Bool.not_eq_true', Bool.or_eq_true] at ok
  obtain ⟨⟨o1, o2⟩, o3⟩ := ok
  refine ⟨o1, o2, fun e => ?_, ?_⟩
  · rcases o3 with g | g
    · rw [e] at g; cases g
    · exact g
  · rw [List.all_append, Bool.and_eq_true]
    refine ⟨?_, ?_⟩
    · unfold dgs at o1; rw [Bool.and_eq_true] at o1; exact o1.1
    · cases p
      · rw [hp rfl]; rfl
      · rcases o3 with g | g
        · cases g
        · unfold dgs at g; rw [Bool.and_eq_true] at g; exact g.1

set_option maxHeartbeats 2000000 in
theorem parse_ok (s U A H : ByteArray) (a h : List UInt8) (b p : Bool) (w : World) (hs : s.size ≤ 100) (hA : A.data.toList = a) (hH : H.data.toList = h) (lA : A.size + H.size ≤ 100) (hp : p = false → h = [])
    (cp : ∀ wx, Calls Tryz.prog 8 #[.string s, .string ⟨#[45]⟩] wx fun e w' => e = .returned (.tuple #[.string U, .bool b]) ∧ w' = wx)
    (cc : ∀ wx, Calls Tryz.prog 9 #[.string U, .string ⟨#[46]⟩] wx fun e w' => e = .returned (.tuple #[.string A, .string H, .bool p]) ∧ Below wx.heap.size wx w')
    (ok : pOk a h p = true) :
    Calls Tryz.prog 4 #[.string s] w fun e w' => e = pRet (nC b (vL (a ++ h)) (-(h.length : Int)), nX b (vL (a ++ h)) (-(h.length : Int)), nR b (vL (a ++ h)) (-(h.length : Int))) ∧ Below w.heap.size w w' := by
  obtain ⟨o1, o2, o3, o4⟩ := ok_parts hp ok
  have CP := hide cp
  have CC := hide cc
  have hs' : ¬ 100 < (s.size : Int) := by omega
  have hl : a.length = A.size := by rw [← hA]; simp
  have hlh : h.length = H.size := by rw [← hH]; simp
  have happ : (A ++ H).data.toList = a ++ h := by rw [app_data, hA, hH]
  have hsz : (A ++ H).size = A.size + H.size := by simp
  have DG := hide (fun wx => digitsOf_any (A ++ H) wx (by omega) (by rw [happ]; exact o4))
  have NE := hide (fun (wx : World) (g : Nat) (hD : DS wx g 0 (A ++ H).size (dOf (A ++ H).data.toList)) => dnearest_any b false g 0 (A ++ H).size (A ++ H).size (-(H.size : Int)) (dOf (A ++ H).data.toList) wx hD (Nat.le_refl _) (by omega) (by omega) (by omega))
  have HV : Hid (Dm.val (dOf (A ++ H).data.toList) (A ++ H).size = vL (a ++ h)) := by
    refine hide ?_
    unfold vL
    rw [happ, hsz, List.length_append, hl, hlh]
  rw [unhide HV] at NE
  have dA := fun wx => isDigitsL A a hA wx (by omega)
  have dH := fun wx => isDigitsL H h hH wx (by omega)
  rw [o1] at dA
  replace dA := hide dA
  have hA0 : 0 < A.size := by
    rcases Nat.eq_zero_or_pos A.size with z | z
    · rw [← hl] at z
      rw [List.length_eq_zero_iff.1 z] at o1
      exact absurd o1 (by decide)
    · exact z
  have hhd := head_at hA hA0
  have q1 : ¬ (1 < (A.size : Int)) ∨ (1 < (A.size : Int) ∧ ((A[0].toNat : Int) == 48) = false) := by
    unfold lead0 at o2
    rw [hhd, hl] at o2
    by_cases g : 1 < A.size
    · right
      refine ⟨by omega, ?_⟩
      rw [decide_eq_true g] at o2
      simp only [Bool.true_and, decide_eq_false_iff_not, Option.some.injEq] at o2
      rw [beq_eq_false_iff_ne]
      intro e
      apply o2
      apply UInt8.toNat_inj.1
      have : A[0].toNat = 48 := by omega
      rw [this]; rfl
    · left; omega
  have HL : Hid ((h.length : Int) = (H.size : Int)) := hide (by omega)
  have hHs : H.size ≤ 100 := by omega
  generalize hK : (A ++ H) = K at *
  have HK := hide hK
  have hKs : K.size ≤ 100 := by omega
  clear cp cc ok hp o1 o2 o4 hhd hlh hl happ hsz hA hH hK
  generalize vL (a ++ h) = N at *
  cases p
  · clear o3 dH
    rcases q1 with q1 | ⟨q1, q2⟩
    all_goals
      go_enter Tryz.func4, Tryz.ntmps4
      go_wp2_with fail
      refine (unhide CP _).mono ?_
      rintro e w1 ⟨rfl, rfl⟩
      go_wp2_with fail
      refine (unhide CC _).mono ?_
      rintro e w2 ⟨rfl, hb⟩
      go_wp2_with fail
      refine (unhide dA _).mono ?_
      rintro e w3 ⟨rfl, rfl⟩
      go_wp2_with fail
      rw [unhide HK]
      refine (unhide DG _).mono ?_
      rintro e w4 ⟨rfl, hD, hb2⟩
      have HD := hide hD
      have HB := hide (hb.trans (hb2.mono hb.size))
      clear hD hb hb2
      go_wp2_with fail
      refine (unhide NE _ _ (unhide HD)).mono ?_
      rintro e w5 ⟨rfl, hb3⟩
      obtain ⟨t0, t1, f0, f1, hz, hw⟩ := one_cell ((unhide HB).trans (hb3.mono (unhide HB).size))
      clear hb3 HB HD
      go_wp2
      refine bodyPost_ret (v := .tuple #[.agg #[.int .i64 (nC b N (-(H.size : Int))), .int .i64 (nX b N (-(H.size : Int)))], .int .i64 (nR b N (-(H.size : Int)))]) (by simp [results, Tryz.results4, go_sem, t0, t1, nC, nX, nR]) rfl ⟨?_, (hw.setCell (by simp) _).setCell (by simp) _⟩
      rw [unhide HL]
      rfl
  · rw [o3 rfl] at dH
    replace dH := hide dH
    clear o3
    rcases q1 with q1 | ⟨q1, q2⟩
    all_goals
      go_enter Tryz.func4, Tryz.ntmps4
      go_wp2_with fail
      refine (unhide CP _).mono ?_
      rintro e w1 ⟨rfl, rfl⟩
      go_wp2_with fail
      refine (unhide CC _).mono ?_
      rintro e w2 ⟨rfl, hb⟩
      go_wp2_with fail
      refine (unhide dA _).mono ?_
      rintro e w3 ⟨rfl, rfl⟩
      go_wp2_with fail
      refine (unhide dH _).mono ?_
      rintro e w3 ⟨rfl, rfl⟩
      go_wp2_with fail
      rw [unhide HK]
      refine (unhide DG _).mono ?_
      rintro e w4 ⟨rfl, hD, hb2⟩
      have HD := hide hD
      have HB := hide (hb.trans (hb2.mono hb.size))
      clear hD hb hb2
      go_wp2_with fail
      refine (unhide NE _ _ (unhide HD)).mono ?_
      rintro e w5 ⟨rfl, hb3⟩
      obtain ⟨t0, t1, f0, f1, hz, hw⟩ := one_cell ((unhide HB).trans (hb3.mono (unhide HB).size))
      clear hb3 HB HD
      go_wp2
      refine bodyPost_ret (v := .tuple #[.agg #[.int .i64 (nC b N (-(H.size : Int))), .int .i64 (nX b N (-(H.size : Int)))], .int .i64 (nR b N (-(H.size : Int)))]) (by simp [results, Tryz.results4, go_sem, t0, t1, nC, nX, nR]) rfl ⟨?_, (hw.setCell (by simp) _).setCell (by simp) _⟩
      rw [unhide HL]
      rfl

theorem cut1_none (l : List UInt8) (c : UInt8) : (cut1 l c).2.2 = false → (cut1 l c).2.1 = [] := by
  unfold cut1; split
  · intro h; cases h
  · intro _; rfl

theorem parse_any (s : ByteArray) (w : World) (hs : s.size ≤ 9223372036854775807) :
    Calls Tryz.prog 4 #[.string s] w fun e w' => e = pRet (parseF s.data.toList) ∧ Below w.heap.size w w' := by
  have hl : s.data.toList.length = s.size := by simp
  by_cases h : 100 < s.size
  · refine (parse_much s w h).mono ?_
    rintro e w' ⟨rfl, hb⟩
    refine ⟨?_, hb⟩
    unfold parseF
    rw [if_pos (by omega)]
    rfl
  · have hU := trim_le s.data.toList [45]
    have hc := cut1_le (pU s.data.toList) 46
    have hUs : (⟨(pU s.data.toList).toArray⟩ : ByteArray).size = (pU s.data.toList).length := by simp [ByteArray.size]
    have cp : ∀ wx, Calls Tryz.prog 8 #[.string s, .string ⟨#[45]⟩] wx fun e w' => e = .returned (.tuple #[.string ⟨(pU s.data.toList).toArray⟩, .bool (pB s.data.toList)]) ∧ w' = wx := fun wx => cutPrefix_any s ⟨#[45]⟩ wx
    have cc : ∀ wx, Calls Tryz.prog 9 #[.string ⟨(pU s.data.toList).toArray⟩, .string ⟨#[46]⟩] wx fun e w' => e = .returned (.tuple #[.string ⟨(cut1 (pU s.data.toList) 46).1.toArray⟩, .string ⟨(cut1 (pU s.data.toList) 46).2.1.toArray⟩, .bool (cut1 (pU s.data.toList) 46).2.2]) ∧ Below wx.heap.size wx w' :=
      fun wx => cut_any ⟨(pU s.data.toList).toArray⟩ 46 wx (by have : (pU s.data.toList).length ≤ s.data.toList.length := hU; omega)
    have la : (⟨(cut1 (pU s.data.toList) 46).1.toArray⟩ : ByteArray).size + (⟨(cut1 (pU s.data.toList) 46).2.1.toArray⟩ : ByteArray).size ≤ 100 := by
      have : (pU s.data.toList).length ≤ s.data.toList.length := hU
      simp [ByteArray.size] at hc ⊢
      omega
    unfold parseF
    rw [if_neg (by omega)]
    cases ok : pOk (cut1 (pU s.data.toList) 46).1 (cut1 (pU s.data.toList) 46).2.1 (cut1 (pU s.data.toList) 46).2.2
    · rw [if_neg (by decide)]
      exact parse_form s _ _ _ _ _ _ _ w (by omega) rfl rfl la cp cc ok
    · rw [if_pos rfl]
      exact parse_ok s _ _ _ _ _ _ _ w (by omega) rfl rfl la (cut1_none _ _) cp cc ok
end Go.Proofs.YtibkemolmpcdcaaGreatDoor

/- Walks: pointed, Print. -/
namespace Go.Proofs.YtibkemolmpcdcaaGreatDoor
open Go.RowKit

/-- a point ahead of the last p digits, noughts ahead where there are too few -/
def zL (l : List UInt8) (p : Nat) : List UInt8 := Lib.repeatL [48] (p + 1 - l.length) ++ l
def ptL (l : List UInt8) (p : Nat) : List UInt8 := (zL l p).take ((zL l p).length - p) ++ 46 :: (zL l p).drop ((zL l p).length - p)
def signL (b : Bool) (l : List UInt8) : List UInt8 := if b = true then 45 :: l else l
def magL (n : Nat) (x : Int) : List UInt8 := if 0 ≤ x then Lib.decDigits n ++ Lib.repeatL [48] x.toNat else ptL (Lib.decDigits n) (-x).toNat
def printL (c x : Int) : List UInt8 := signL (decide (c < 0)) (magL c.natAbs x)

theorem ba_ext {a b : ByteArray} (h : a.data.toList = b.data.toList) : a = b := by
  cases a with | mk x => cases b with | mk y => simpa using h
theorem mk_list (l : List UInt8) : (⟨l.toArray⟩ : ByteArray).data.toList = l := by simp
theorem mk_size (l : List UInt8) : (⟨l.toArray⟩ : ByteArray).size = l.length := by simp [ByteArray.size]

theorem pt_eq (l : List UInt8) (p : Nat) (K : ByteArray) (hK : K.data.toList = zL l p) (at' : Nat) (ha : at' = (zL l p).length - p) :
    K.extract 0 at' ++ ⟨#[46]⟩ ++ K.extract at' K.size = ⟨(ptL l p).toArray⟩ := by
  apply ba_ext
  rw [app_data, app_data, ext_take, ext_drop, mk_list, mk_list, mk_list, hK, ha]
  unfold ptL
  simp

set_option maxHeartbeats 1000000 in
theorem pointed_any (D : ByteArray) (p : Nat) (w : World) (hD : D.size ≤ 100) (hp1 : 1 ≤ p) (hp2 : p ≤ 100) :
    Calls Tryz.prog 23 #[.string D, .int .i64 (p : Int)] w fun e w' => e = .returned (.string ⟨(ptL D.data.toList p).toArray⟩) ∧ Below w.heap.size w w' := by
  obtain ⟨z, hz⟩ : ∃ z : Nat, z = p + 1 - D.size := ⟨_, rfl⟩
  have hz1 : max 0 ((p : Int) + 1 - (D.size : Int)) = (z : Int) := by omega
  have R := fun wx => repeat_any ⟨#[48]⟩ z wx (by omega) (by simp [ByteArray.size]; omega)
  obtain ⟨Z, hZ⟩ : ∃ Z : ByteArray, Z = ⟨(Lib.repeatL (⟨#[48]⟩ : ByteArray).data.toList z).toArray⟩ := ⟨_, rfl⟩
  rw [← hZ] at R
  have hZs : Z.size = z := by rw [hZ, mk_size, Lib.repeatL_length]; simp
  obtain ⟨K, hK⟩ : ∃ K : ByteArray, K = Z ++ D := ⟨_, rfl⟩
  have hKs : K.size = z + D.size := by rw [hK, ByteArray.size_append, hZs]
  have hKl : K.data.toList = zL D.data.toList p := by
    rw [hK, app_data, hZ, mk_list, hz]
    unfold zL
    rw [← Lib.size_eq]
  have HE := hide (pt_eq D.data.toList p K hKl (K.size - p) (by rw [← hKl, ← Lib.size_eq]))
  have HK := hide hK.symm
  have HZ1 := hide hz1
  replace R := hide R
  obtain ⟨m, hm⟩ : ∃ m : Nat, m = K.size - p := ⟨_, rfl⟩
  have HM : Hid ((Z.size : Int) + (D.size : Int) - (p : Int) = (m : Int)) := hide (by omega)
  rw [← hm] at HE
  have c1 : (0 : Int) ≤ (m : Int) := by omega
  have c2 : (m : Int) ≤ (K.size : Int) := by omega
  have hKb : K.size ≤ 300 := by omega
  have hZD : Z.size + D.size ≤ 300 := by omega
  clear hz hz1 hZ hZs hK hKs hKl hm
  go_enter Tryz.func23, Tryz.ntmps23
  go_wp2_with fail
  rw [unhide HZ1]
  refine (unhide R _).mono ?_
  rintro e w1 ⟨rfl, hb⟩
  have HB := hide hb
  clear hb
  go_wp2_with fail
  rw [unhide HK]
  go_wp2_with fail
  rw [unhide HM]
  go_region
  go_wp2
  go_ret
  refine ⟨?_, (unhide HB).drew⟩
  rw [← unhide HE]
  rfl

theorem two_cells {w w3 : World} {c x : Int} (hb : Below (w.alloc (.cells #[.int .i64 c, .int .i64 x] 23)).heap.size (w.alloc (.cells #[.int .i64 c, .int .i64 x] 23)) w3) :
    w3.cell? ⟨w.heap.size, 0, none⟩ = some (.int .i64 c) ∧ w3.cell? ⟨w.heap.size, 1, none⟩ = some (.int .i64 x) ∧ w.heap.size + 1 ≤ w3.heap.size ∧ Below w.heap.size w w3 := by
  obtain ⟨hc, hf⟩ := bcell hb
  have s := hb.size
  simp at s
  have hw : Below w.heap.size w (w.alloc (.cells #[.int .i64 c, .int .i64 x] 23)) := (Below.refl w.heap.size w).alloc (Nat.le_refl _) _
  refine ⟨?_, ?_, by omega, hw.trans (hb.mono (by simp))⟩
  all_goals (rw [hc _ _ (by simp)]; simp [go_sem])

set_option maxHeartbeats 400000 in
theorem print_no (c x : Int) (w : World) (h : (Dm.wrongN c x != 0) = true) :
    Calls Tryz.prog 6 #[.agg #[.int .i64 c, .int .i64 x]] w fun e w' => e = .returned (.tuple #[.string ⟨#[]⟩, .int .i64 (Dm.wrongN c x)]) ∧ Below w.heap.size w w' := by
  go_enter Tryz.func6, Tryz.ntmps6
  go_wp2_with fail
  refine (wrong_any c x _).mono ?_
  rintro e w1 ⟨rfl, hb⟩
  obtain ⟨t0, t1, hz, hw⟩ := two_cells hb
  clear hb
  go_wp2
  go_ret2
  exact ⟨rfl, hw⟩

theorem sign_eq (b : Bool) (l : List UInt8) (T : ByteArray) (hT : T.data.toList = l) : (b = true → (⟨#[45]⟩ : ByteArray) ++ T = ⟨(signL b l).toArray⟩) ∧ (b = false → T = ⟨(signL b l).toArray⟩) := by
  refine ⟨fun h => ?_, fun h => ?_⟩
  · apply ba_ext
    rw [app_data, mk_list, hT, h]
    rfl
  · apply ba_ext
    rw [mk_list, hT, h]
    rfl

theorem nDigits_le : ∀ (k n : Nat), n < 10 ^ (k + 1) → Lib.nDigits n ≤ k + 1
  | 0, n, h => by rw [Lib.nDigits_small (by simpa using h)]; omega
  | k + 1, n, h => by
    by_cases g : n < 10
    · rw [Lib.nDigits_small g]; omega
    · rw [Lib.nDigits_big g]
      have := nDigits_le k (n / 10) (by rw [Nat.pow_succ] at h; omega)
      omega
theorem nDigits_18 {n : Nat} (h : n < 1000000000000000000) : (Lib.decDigits n).length ≤ 18 := by
  rw [Lib.decDigits_length]
  exact nDigits_le 17 n (by simpa using h)

theorem keep2 {w wa wb : World} {c x : Int} (hb : Below wa.heap.size wa wb) (k : wa.cell? ⟨w.heap.size, 0, none⟩ = some (.int .i64 c) ∧ wa.cell? ⟨w.heap.size, 1, none⟩ = some (.int .i64 x) ∧ w.heap.size + 1 ≤ wa.heap.size ∧ Below w.heap.size w wa) :
    wb.cell? ⟨w.heap.size, 0, none⟩ = some (.int .i64 c) ∧ wb.cell? ⟨w.heap.size, 1, none⟩ = some (.int .i64 x) ∧ w.heap.size + 1 ≤ wb.heap.size ∧ Below w.heap.size w wb :=
  ⟨(hb.cell (p := ⟨w.heap.size, 0, none⟩) (by show w.heap.size < _; omega)).trans k.1, (hb.cell (p := ⟨w.heap.size, 1, none⟩) (by show w.heap.size < _; omega)).trans k.2.1, by have := hb.size; omega, k.2.2.2.trans (hb.mono (by omega))⟩

theorem size_45 (K : ByteArray) (h : K.size ≤ 100) : (⟨#[45]⟩ : ByteArray).size + K.size ≤ 200 := by
  have : (⟨#[45]⟩ : ByteArray).size = 1 := rfl
  omega

set_option maxHeartbeats 1000000 in
theorem print_ok (c x : Int) (w : World) (h : Dm.wrongN c x = 0) (htab : Lib.TabIs Tryz.prog w "internal/strconv.uint64pow10" .u64 Lib.pow10Tab) :
    Calls Tryz.prog 6 #[.agg #[.int .i64 c, .int .i64 x]] w fun e w' => e = .returned (.tuple #[.string ⟨(printL c x).toArray⟩, .int .i64 0]) ∧ Below w.heap.size w w' := by
  obtain ⟨p1, p2, p3, p4, _⟩ := Dm.wrong_ok h
  have H := hide h
  have hn : c.natAbs < 1000000000000000000 := by omega
  have hdl := nDigits_18 hn
  have TB := hide (Lib.tabBelow_of_tabIs htab)
  clear h htab
  have SZ := hide (fun wx => size_any c x wx p1 p2)
  have FU := hide (fun wx (hw : Below w.heap.size w wx) => formatUint_any c.natAbs (by omega) wx (unhide TB wx hw))
  obtain ⟨F, hF⟩ : ∃ F : ByteArray, F = ⟨(Lib.decDigits c.natAbs).toArray⟩ := ⟨_, rfl⟩
  rw [← hF] at FU
  have hFl : F.data.toList = Lib.decDigits c.natAbs := by rw [hF]
  have hFs : F.size ≤ 18 := by rw [Lib.size_eq, hFl]; exact hdl
  by_cases hx : 0 ≤ x
  · obtain ⟨z, hz⟩ : ∃ z : Nat, x = (z : Int) := ⟨x.toNat, by omega⟩
    subst hz
    have R := hide (fun wx => repeat_any ⟨#[48]⟩ z wx (by omega) (by simp [ByteArray.size]; omega))
    obtain ⟨Z, hZ⟩ : ∃ Z : ByteArray, Z = ⟨(Lib.repeatL (⟨#[48]⟩ : ByteArray).data.toList z).toArray⟩ := ⟨_, rfl⟩
    rw [← hZ] at R
    have hZs : Z.size = z := by rw [hZ, mk_size, Lib.repeatL_length]; simp
    obtain ⟨K, hK⟩ : ∃ K : ByteArray, K = F ++ Z := ⟨_, rfl⟩
    have hKl : K.data.toList = magL c.natAbs (z : Int) := by
      rw [hK, app_data, hFl, hZ, mk_list]
      unfold magL
      rw [if_pos hx, Int.toNat_natCast]
    have hKs : K.size ≤ 100 := by rw [hK, ByteArray.size_append]; omega
    have HK := hide hK.symm
    have hb0 : F.size + Z.size ≤ 100 := by omega
    have SG := hide (sign_eq (decide (c < 0)) _ K hKl)
    have hb1 := size_45 K hKs
    clear hF hFl hdl hn hZ hZs hK hKl
    by_cases hc : c < 0
    · have E := hide ((unhide SG).1 (by simpa using hc))
      rw [← unhide HK] at E
      clear SG
      go_enter Tryz.func6, Tryz.ntmps6
      go_wp2_with fail
      refine (wrong_any c (z : Int) _).mono ?_
      rintro e w1 ⟨rfl, hb⟩
      have k1 := two_cells hb
      rw [unhide H]
      clear hb
      have K1 := hide k1
      obtain ⟨t0, t1, hz1, hw⟩ := k1
      go_wp2_with fail
      refine (unhide SZ _).mono ?_
      rintro e w2 ⟨rfl, hb⟩
      replace K1 := keep2 hb (unhide K1)
      clear hb t0 t1 hz1 hw
      have k2 := K1
      clear K1
      have K1 := hide k2
      obtain ⟨t0, t1, hz1, hw⟩ := k2
      go_wp2_with fail
      refine (unhide FU _ hw).mono ?_
      rintro e w3 ⟨rfl, hb⟩
      replace K1 := keep2 hb (unhide K1)
      clear hb t0 t1 hz1 hw
      have k3 := K1
      clear K1
      have K1 := hide k3
      obtain ⟨t0, t1, hz1, hw⟩ := k3
      go_wp2_with fail
      refine (unhide R _).mono ?_
      rintro e w4 ⟨rfl, hb⟩
      replace K1 := keep2 hb (unhide K1)
      clear hb t0 t1 hz1 hw
      have k4 := K1
      clear K1
      obtain ⟨t0, t1, hz1, hw⟩ := k4
      go_wp2
      go_ret2
      refine ⟨?_, hw⟩
      rw [show printL c (z : Int) = signL (decide (c < 0)) (magL c.natAbs (z : Int)) from rfl, ← unhide E]
      rfl
    · have E := hide ((unhide SG).2 (by simpa using hc))
      rw [← unhide HK] at E
      clear SG
      go_enter Tryz.func6, Tryz.ntmps6
      go_wp2_with fail
      refine (wrong_any c (z : Int) _).mono ?_
      rintro e w1 ⟨rfl, hb⟩
      have k1 := two_cells hb
      rw [unhide H]
      clear hb
      have K1 := hide k1
      obtain ⟨t0, t1, hz1, hw⟩ := k1
      go_wp2_with fail
      refine (unhide SZ _).mono ?_
      rintro e w2 ⟨rfl, hb⟩
      replace K1 := keep2 hb (unhide K1)
      clear hb t0 t1 hz1 hw
      have k2 := K1
      clear K1
      have K1 := hide k2
      obtain ⟨t0, t1, hz1, hw⟩ := k2
      go_wp2_with fail
      refine (unhide FU _ hw).mono ?_
      rintro e w3 ⟨rfl, hb⟩
      replace K1 := keep2 hb (unhide K1)
      clear hb t0 t1 hz1 hw
      have k3 := K1
      clear K1
      have K1 := hide k3
      obtain ⟨t0, t1, hz1, hw⟩ := k3
      go_wp2_with fail
      refine (unhide R _).mono ?_
      rintro e w4 ⟨rfl, hb⟩
      replace K1 := keep2 hb (unhide K1)
      clear hb t0 t1 hz1 hw
      have k4 := K1
      clear K1
      obtain ⟨t0, t1, hz1, hw⟩ := k4
      go_wp2
      go_ret2
      refine ⟨?_, hw⟩
      rw [show printL c (z : Int) = signL (decide (c < 0)) (magL c.natAbs (z : Int)) from rfl, ← unhide E]
      rfl
  · obtain ⟨p, hp⟩ : ∃ p : Nat, x = -(p : Int) := ⟨(-x).toNat, by omega⟩
    subst hp
    have R := hide (fun wx => pointed_any F p wx (by omega) (by omega) (by omega))
    obtain ⟨K, hK⟩ : ∃ K : ByteArray, K = ⟨(ptL F.data.toList p).toArray⟩ := ⟨_, rfl⟩
    rw [← hK] at R
    have hKl : K.data.toList = magL c.natAbs (-(p : Int)) := by
      rw [hK, mk_list, hFl]
      unfold magL
      rw [if_neg hx, show (- -(p : Int)).toNat = p by omega]
    have hKs : K.size ≤ 100 := by
      rw [hK, mk_size]
      unfold ptL zL
      simp [Lib.repeatL_length]
      omega
    have SG := hide (sign_eq (decide (c < 0)) _ K hKl)
    have hb1 := size_45 K hKs
    clear hF hFl hdl hn hK hKl
    by_cases hc : c < 0
    · have E := hide ((unhide SG).1 (by simpa using hc))
      clear SG
      go_enter Tryz.func6, Tryz.ntmps6
      go_wp2_with fail
      refine (wrong_any c (-(p : Int)) _).mono ?_
      rintro e w1 ⟨rfl, hb⟩
      have k1 := two_cells hb
      rw [unhide H]
      clear hb
      have K1 := hide k1
      obtain ⟨t0, t1, hz1, hw⟩ := k1
      go_wp2_with fail
      refine (unhide SZ _).mono ?_
      rintro e w2 ⟨rfl, hb⟩
      replace K1 := keep2 hb (unhide K1)
      clear hb t0 t1 hz1 hw
      have k2 := K1
      clear K1
      have K1 := hide k2
      obtain ⟨t0, t1, hz1, hw⟩ := k2
      go_wp2_with fail
      refine (unhide FU _ hw).mono ?_
      rintro e w3 ⟨rfl, hb⟩
      replace K1 := keep2 hb (unhide K1)
      clear hb t0 t1 hz1 hw
      have k3 := K1
      clear K1
      have K1 := hide k3
      obtain ⟨t0, t1, hz1, hw⟩ := k3
      go_wp2_with fail
      refine (unhide R _).mono ?_
      rintro e w4 ⟨rfl, hb⟩
      replace K1 := keep2 hb (unhide K1)
      clear hb t0 t1 hz1 hw
      have k4 := K1
      clear K1
      obtain ⟨t0, t1, hz1, hw⟩ := k4
      go_wp2
      go_ret2
      refine ⟨?_, hw⟩
      rw [show printL c (-(p : Int)) = signL (decide (c < 0)) (magL c.natAbs (-(p : Int))) from rfl, ← unhide E]
      rfl
    · have E := hide ((unhide SG).2 (by simpa using hc))
      clear SG
      go_enter Tryz.func6, Tryz.ntmps6
      go_wp2_with fail
      refine (wrong_any c (-(p : Int)) _).mono ?_
      rintro e w1 ⟨rfl, hb⟩
      have k1 := two_cells hb
      rw [unhide H]
      clear hb
      have K1 := hide k1
      obtain ⟨t0, t1, hz1, hw⟩ := k1
      go_wp2_with fail
      refine (unhide SZ _).mono ?_
      rintro e w2 ⟨rfl, hb⟩
      replace K1 := keep2 hb (unhide K1)
      clear hb t0 t1 hz1 hw
      have k2 := K1
      clear K1
      have K1 := hide k2
      obtain ⟨t0, t1, hz1, hw⟩ := k2
      go_wp2_with fail
      refine (unhide FU _ hw).mono ?_
      rintro e w3 ⟨rfl, hb⟩
      replace K1 := keep2 hb (unhide K1)
      clear hb t0 t1 hz1 hw
      have k3 := K1
      clear K1
      have K1 := hide k3
      obtain ⟨t0, t1, hz1, hw⟩ := k3
      go_wp2_with fail
      refine (unhide R _).mono ?_
      rintro e w4 ⟨rfl, hb⟩
      replace K1 := keep2 hb (unhide K1)
      clear hb t0 t1 hz1 hw
      have k4 := K1
      clear K1
      obtain ⟨t0, t1, hz1, hw⟩ := k4
      go_wp2
      go_ret2
      refine ⟨?_, hw⟩
      rw [show printL c (-(p : Int)) = signL (decide (c < 0)) (magL c.natAbs (-(p : Int))) from rfl, ← unhide E]
      rfl
end Go.Proofs.YtibkemolmpcdcaaGreatDoor

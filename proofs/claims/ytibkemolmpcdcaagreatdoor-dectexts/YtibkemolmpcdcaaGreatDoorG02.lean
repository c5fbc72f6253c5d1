/- Shelf contracts laid at this seat, in plain words. -/
import Derived.Test.YtibkemolmpcdcaaGreatDoorProg
import Derived.Shelf.Small.Wraps
import Derived.Shelf.Strings.Search2
import Derived.Shelf.Strings.Repeat
import Derived.Shelf.Strconv.Itoa2
import Derived.Shelf.Strconv.Itoa1
import Derived.Lib.AppendIntMem
import Derived.Lib.CutLaws
import Derived.Test.YtibkemolmpcdcaaGreatDoorG01
import Derived.Shelf.RegionOpenPlain
import Derived.BigCall
import Derived.BigGuard
namespace Go.Proofs.YtibkemolmpcdcaaGreatDoor
open Go.Proofs Go.Shelf
def Tryz.lays103_ren : Go.Shelf.Ren := ⟨fun | 103 => 8 | 210 => 25 | 206 => 51 | n => n, fun | 9 => 9 | 4 => 4 | 24 => 30 | 3 => 3 | n => n, fun | n => n⟩
theorem Tryz.lays103 : Go.Proofs.Lays.n103 Tryz.prog Tryz.lays103_ren := {
  mixed := by kernel_rfl
  f103 := Tryz.func8.trans (congrArg some (by kernel_rfl))
  f206 := Tryz.func51.trans (congrArg some (by kernel_rfl))
  f210 := Tryz.func25.trans (congrArg some (by kernel_rfl))
  t3 := Tryz.underlying3
  a3 := Tryz.isAgg3
  z3 := Tryz.sizeOf3
  v3 := Tryz.zeroValue3
  t4 := Tryz.underlying4
  a4 := Tryz.isAgg4
  z4 := Tryz.sizeOf4
  v4 := Tryz.zeroValue4
  t9 := Tryz.underlying9
  a9 := Tryz.isAgg9
  z9 := Tryz.sizeOf9
  v9 := Tryz.zeroValue9
  t24 := Tryz.underlying30
  a24 := Tryz.isAgg30
  z24 := Tryz.sizeOf30
  v24 := Tryz.zeroValue30 }
def Tryz.lays219_ren : Go.Shelf.Ren := ⟨fun | 219 => 52 | 217 => 79 | 225 => 80 | 224 => 81 | 267 => 82 | 266 => 100 | 314 => 101 | n => n, fun | 9 => 9 | 3 => 3 | 4 => 4 | 5 => 5 | 46 => 69 | 146 => 105 | 51 => 104 | n => n, fun | 1 => 0 | n => n⟩
theorem Tryz.lays219 : Go.Proofs.Lays.n219 Tryz.prog Tryz.lays219_ren := {
  mixed := by kernel_rfl
  f217 := Tryz.func79.trans (congrArg some (by kernel_rfl))
  f219 := Tryz.func52.trans (congrArg some (by kernel_rfl))
  f224 := Tryz.func81.trans (congrArg some (by kernel_rfl))
  f225 := Tryz.func80.trans (congrArg some (by kernel_rfl))
  f266 := Tryz.func100.trans (congrArg some (by kernel_rfl))
  f267 := Tryz.func82.trans (congrArg some (by kernel_rfl))
  f314 := Tryz.func101.trans (congrArg some (by kernel_rfl))
  t3 := Tryz.underlying3
  a3 := Tryz.isAgg3
  z3 := Tryz.sizeOf3
  v3 := Tryz.zeroValue3
  t4 := Tryz.underlying4
  a4 := Tryz.isAgg4
  z4 := Tryz.sizeOf4
  v4 := Tryz.zeroValue4
  t5 := Tryz.underlying5
  a5 := Tryz.isAgg5
  z5 := Tryz.sizeOf5
  v5 := Tryz.zeroValue5
  t9 := Tryz.underlying9
  a9 := Tryz.isAgg9
  z9 := Tryz.sizeOf9
  v9 := Tryz.zeroValue9
  t46 := Tryz.underlying69
  a46 := Tryz.isAgg69
  z46 := Tryz.sizeOf69
  v46 := Tryz.zeroValue69
  t51 := Tryz.underlying104
  a51 := Tryz.isAgg104
  z51 := Tryz.sizeOf104
  v51 := Tryz.zeroValue104
  t146 := Tryz.underlying105
  a146 := Tryz.isAgg105
  z146 := Tryz.sizeOf105
  v146 := Tryz.zeroValue105
  g1 := by kernel_rfl }
def Tryz.lays105_ren : Go.Shelf.Ren := ⟨fun | 105 => 22 | 212 => 45 | 99 => 46 | 165 => 47 | 166 => 48 | 170 => 49 | 169 => 50 | 263 => 75 | 264 => 76 | 206 => 51 | 240 => 77 | 241 => 78 | 276 => 98 | 277 => 99 | n => n, fun | 9 => 9 | 3 => 3 | 4 => 4 | 20 => 20 | 0 => 0 | 46 => 69 | 109 => 70 | 5 => 5 | 72 => 75 | 76 => 79 | 51 => 104 | 146 => 105 | 53 => 52 | 148 => 107 | 70 => 73 | 37 => 35 | 75 => 78 | 127 => 109 | 164 => 120 | 80 => 81 | n => n, fun | n => n⟩
theorem Tryz.lays105 : Go.Proofs.Lays.n105 Tryz.prog Tryz.lays105_ren := {
  mixed := by kernel_rfl
  f99 := Tryz.func46.trans (congrArg some (by kernel_rfl))
  f105 := Tryz.func22.trans (congrArg some (by kernel_rfl))
  f165 := Tryz.func47.trans (congrArg some (by kernel_rfl))
  f166 := Tryz.func48.trans (congrArg some (by kernel_rfl))
  f169 := Tryz.func50.trans (congrArg some (by kernel_rfl))
  f170 := Tryz.func49.trans (congrArg some (by kernel_rfl))
  f206 := Tryz.func51.trans (congrArg some (by kernel_rfl))
  f212 := Tryz.func45.trans (congrArg some (by kernel_rfl))
  f240 := Tryz.func77.trans (congrArg some (by kernel_rfl))
  f241 := Tryz.func78.trans (congrArg some (by kernel_rfl))
  f263 := Tryz.func75.trans (congrArg some (by kernel_rfl))
  f264 := Tryz.func76.trans (congrArg some (by kernel_rfl))
  f276 := Tryz.func98.trans (congrArg some (by kernel_rfl))
  f277 := Tryz.func99.trans (congrArg some (by kernel_rfl))
  t0 := Tryz.underlying0
  a0 := Tryz.isAgg0
  z0 := Tryz.sizeOf0
  v0 := Tryz.zeroValue0
  t3 := Tryz.underlying3
  a3 := Tryz.isAgg3
  z3 := Tryz.sizeOf3
  v3 := Tryz.zeroValue3
  t4 := Tryz.underlying4
  a4 := Tryz.isAgg4
  z4 := Tryz.sizeOf4
  v4 := Tryz.zeroValue4
  t5 := Tryz.underlying5
  a5 := Tryz.isAgg5
  z5 := Tryz.sizeOf5
  v5 := Tryz.zeroValue5
  t9 := Tryz.underlying9
  a9 := Tryz.isAgg9
  z9 := Tryz.sizeOf9
  v9 := Tryz.zeroValue9
  t20 := Tryz.underlying20
  a20 := Tryz.isAgg20
  z20 := Tryz.sizeOf20
  v20 := Tryz.zeroValue20
  t37 := Tryz.underlying35
  a37 := Tryz.isAgg35
  z37 := Tryz.sizeOf35
  v37 := Tryz.zeroValue35
  t46 := Tryz.underlying69
  a46 := Tryz.isAgg69
  z46 := Tryz.sizeOf69
  v46 := Tryz.zeroValue69
  t51 := Tryz.underlying104
  a51 := Tryz.isAgg104
  z51 := Tryz.sizeOf104
  v51 := Tryz.zeroValue104
  t53 := Tryz.underlying52
  a53 := Tryz.isAgg52
  z53 := Tryz.sizeOf52
  v53 := Tryz.zeroValue52
  t70 := Tryz.underlying73
  a70 := Tryz.isAgg73
  z70 := Tryz.sizeOf73
  v70 := Tryz.zeroValue73
  t72 := Tryz.underlying75
  a72 := Tryz.isAgg75
  z72 := Tryz.sizeOf75
  v72 := Tryz.zeroValue75
  t75 := Tryz.underlying78
  a75 := Tryz.isAgg78
  z75 := Tryz.sizeOf78
  v75 := Tryz.zeroValue78
  t76 := Tryz.underlying79
  a76 := Tryz.isAgg79
  z76 := Tryz.sizeOf79
  v76 := Tryz.zeroValue79
  t109 := Tryz.underlying70
  a109 := Tryz.isAgg70
  z109 := Tryz.sizeOf70
  v109 := Tryz.zeroValue70
  t127 := Tryz.underlying109
  a127 := Tryz.isAgg109
  z127 := Tryz.sizeOf109
  v127 := Tryz.zeroValue109
  t146 := Tryz.underlying105
  a146 := Tryz.isAgg105
  z146 := Tryz.sizeOf105
  v146 := Tryz.zeroValue105
  t148 := Tryz.underlying107
  a148 := Tryz.isAgg107
  z148 := Tryz.sizeOf107
  v148 := Tryz.zeroValue107
  t164 := Tryz.underlying120
  a164 := Tryz.isAgg120
  z164 := Tryz.sizeOf120
  v164 := Tryz.zeroValue120 }
theorem Tryz.lays105X : Builder.Extra Tryz.prog Tryz.lays105_ren := {
  sizeBuilder := by kernel_rfl
  liesBuilder := by kernel_rfl
  t5 := Tryz.underlying5
  a5 := Tryz.isAgg5
  z5 := Tryz.sizeOf5
  v5 := Tryz.zeroValue5
  infoByte := by kernel_rfl
  cellsByte := by kernel_rfl
  sizeByte := by kernel_rfl
  neB5 := by decide }
def Tryz.lays283_ren : Go.Shelf.Ren := ⟨fun | 283 => 71 | n => n, fun | 3 => 3 | 9 => 9 | 4 => 4 | n => n, fun | n => n⟩
theorem Tryz.lays283 : Go.Proofs.Lays.n283 Tryz.prog Tryz.lays283_ren := {
  mixed := by kernel_rfl
  f283 := Tryz.func71.trans (congrArg some (by kernel_rfl))
  t3 := Tryz.underlying3
  a3 := Tryz.isAgg3
  z3 := Tryz.sizeOf3
  v3 := Tryz.zeroValue3
  t4 := Tryz.underlying4
  a4 := Tryz.isAgg4
  z4 := Tryz.sizeOf4
  v4 := Tryz.zeroValue4
  t9 := Tryz.underlying9
  a9 := Tryz.isAgg9
  z9 := Tryz.sizeOf9
  v9 := Tryz.zeroValue9 }
def Tryz.lays284_ren : Go.Shelf.Ren := ⟨fun | 284 => 72 | 129 => 94 | 317 => 93 | 318 => 95 | n => n, fun | 53 => 52 | 3 => 3 | 212 => 116 | 0 => 0 | 4 => 4 | 46 => 69 | 5 => 5 | 9 => 9 | n => n, fun | 17 => 1 | n => n⟩
theorem Tryz.lays284 : Go.Proofs.LaysM.n284 Tryz.prog Tryz.lays284_ren := {
  mixed := by kernel_rfl
  f129 := Tryz.func94.trans (congrArg some (by kernel_rfl))
  f284 := Tryz.func72.trans (congrArg some (by kernel_rfl))
  f317 := Tryz.func93.trans (congrArg some (by kernel_rfl))
  f318 := Tryz.func95.trans (congrArg some (by kernel_rfl))
  t0 := Tryz.underlying0
  a0 := Tryz.isAgg0
  z0 := Tryz.sizeOf0
  v0 := Tryz.zeroValue0
  t3 := Tryz.underlying3
  a3 := Tryz.isAgg3
  z3 := Tryz.sizeOf3
  v3 := Tryz.zeroValue3
  t4 := Tryz.underlying4
  a4 := Tryz.isAgg4
  z4 := Tryz.sizeOf4
  v4 := Tryz.zeroValue4
  t5 := Tryz.underlying5
  a5 := Tryz.isAgg5
  z5 := Tryz.sizeOf5
  v5 := Tryz.zeroValue5
  t9 := Tryz.underlying9
  a9 := Tryz.isAgg9
  z9 := Tryz.sizeOf9
  v9 := Tryz.zeroValue9
  t46 := Tryz.underlying69
  a46 := Tryz.isAgg69
  z46 := Tryz.sizeOf69
  v46 := Tryz.zeroValue69
  t53 := Tryz.underlying52
  a53 := Tryz.isAgg52
  z53 := Tryz.sizeOf52
  v53 := Tryz.zeroValue52
  t212 := Tryz.underlying116
  a212 := Tryz.isAgg116
  z212 := Tryz.sizeOf116
  v212 := Tryz.zeroValue116
  g17 := by kernel_rfl
  i0 := by kernel_rfl
  i3 := by kernel_rfl
  i4 := by kernel_rfl
  i5 := by kernel_rfl
  i9 := by kernel_rfl
  i46 := by kernel_rfl
  i53 := by kernel_rfl
  i212 := by kernel_rfl
  m17 := by kernel_rfl }
def Tryz.lays285_ren : Go.Shelf.Ren := ⟨fun | 285 => 73 | n => n, fun | 37 => 35 | 53 => 52 | 3 => 3 | 4 => 4 | 51 => 104 | 9 => 9 | 5 => 5 | 0 => 0 | n => n, fun | n => n⟩
theorem Tryz.lays285 : Go.Proofs.Lays.n285 Tryz.prog Tryz.lays285_ren := {
  mixed := by kernel_rfl
  f285 := Tryz.func73.trans (congrArg some (by kernel_rfl))
  t0 := Tryz.underlying0
  a0 := Tryz.isAgg0
  z0 := Tryz.sizeOf0
  v0 := Tryz.zeroValue0
  t3 := Tryz.underlying3
  a3 := Tryz.isAgg3
  z3 := Tryz.sizeOf3
  v3 := Tryz.zeroValue3
  t4 := Tryz.underlying4
  a4 := Tryz.isAgg4
  z4 := Tryz.sizeOf4
  v4 := Tryz.zeroValue4
  t5 := Tryz.underlying5
  a5 := Tryz.isAgg5
  z5 := Tryz.sizeOf5
  v5 := Tryz.zeroValue5
  t9 := Tryz.underlying9
  a9 := Tryz.isAgg9
  z9 := Tryz.sizeOf9
  v9 := Tryz.zeroValue9
  t37 := Tryz.underlying35
  a37 := Tryz.isAgg35
  z37 := Tryz.sizeOf35
  v37 := Tryz.zeroValue35
  t51 := Tryz.underlying104
  a51 := Tryz.isAgg104
  z51 := Tryz.sizeOf104
  v51 := Tryz.zeroValue104
  t53 := Tryz.underlying52
  a53 := Tryz.isAgg52
  z53 := Tryz.sizeOf52
  v53 := Tryz.zeroValue52 }
end Go.Proofs.YtibkemolmpcdcaaGreatDoor

/- Walks: strings.CutPrefix at a minus, strings.Cut at a point. -/
namespace Go.Proofs.YtibkemolmpcdcaaGreatDoor
open Go.RowKit

theorem cutPrefix_any (s p : ByteArray) (w : World) :
    Calls Tryz.prog 8 #[.string s, .string p] w fun e w' => e = .returned (.tuple #[.string ⟨(Lib.trimPrefix s.data.toList p.data.toList).toArray⟩, .bool (Lib.hasPrefix s.data.toList p.data.toList)]) ∧ w' = w :=
  Any.strings_CutPrefix Tryz.lays103 s p w
theorem index1_any (s : ByteArray) (c : UInt8) (w : World) :
    Calls Tryz.prog 52 #[.string s, .string ⟨#[c]⟩] w fun e w' => e = .returned (.int .i64 (Lib.indexByte s.data.toList c)) ∧ w' = w :=
  Any.stringslite_Index_one Tryz.lays219 s c w

/-- what stands ahead of the first c, what behind it, and whether there is one -/
def cut1 (l : List UInt8) (c : UInt8) : List UInt8 × List UInt8 × Bool :=
  if 0 ≤ Lib.indexByte l c then (l.take (Lib.indexByte l c).toNat, l.drop ((Lib.indexByte l c).toNat + 1), true) else (l, [], false)
theorem indexByte_bd : ∀ (l : List UInt8) (c : UInt8), -1 ≤ Lib.indexByte l c ∧ Lib.indexByte l c < l.length
  | [], c => by simp [Lib.indexByte]
  | b :: l, c => by
    have h := indexByte_bd l c
    rw [Lib.indexByte]
    split
    · simp <;> omega
    · split
      · simp <;> omega
      · simp only [List.length_cons]; omega
theorem cut1_hit {l : List UInt8} {c : UInt8} {i : Nat} (h : Lib.indexByte l c = (i : Int)) : cut1 l c = (l.take i, l.drop (i + 1), true) := by
  unfold cut1; rw [h, if_pos (by omega)]; simp
theorem cut1_miss {l : List UInt8} {c : UInt8} (h : ¬ 0 ≤ Lib.indexByte l c) : cut1 l c = (l, [], false) := by
  unfold cut1; rw [if_neg h]
theorem ext_take (s : ByteArray) (i : Nat) : s.extract 0 i = ⟨(s.data.toList.take i).toArray⟩ := by
  rw [Lib.extract_eq]; simp
theorem ext_drop (s : ByteArray) (i : Nat) : s.extract i s.size = ⟨(s.data.toList.drop i).toArray⟩ := by
  rw [Lib.extract_eq, List.take_of_length_le (by rw [List.length_drop, ← Lib.size_eq]; exact Nat.le_refl _)]

set_option maxHeartbeats 1000000 in
theorem cutIn_any (s : ByteArray) (c : UInt8) (w : World) (hs : s.size ≤ 9223372036854775000) :
    Calls Tryz.prog 26 #[.string s, .string ⟨#[c]⟩] w fun e w' => e = .returned (.tuple #[.string ⟨(cut1 s.data.toList c).1.toArray⟩, .string ⟨(cut1 s.data.toList c).2.1.toArray⟩, .bool (cut1 s.data.toList c).2.2]) ∧ Below w.heap.size w w' := by
  have hb := indexByte_bd s.data.toList c
  rw [← Lib.size_eq] at hb
  have C := fun wx => index1_any s c wx
  by_cases h : 0 ≤ Lib.indexByte s.data.toList c
  · obtain ⟨i, hi⟩ : ∃ i : Nat, Lib.indexByte s.data.toList c = (i : Int) := ⟨(Lib.indexByte s.data.toList c).toNat, by omega⟩
    rw [cut1_hit hi]
    rw [hi] at C hb
    replace C := hide C
    have E1 := hide (ext_take s i)
    have E2 := hide (ext_drop s (i + 1))
    have c2 : (i : Int) ≤ (s.size : Int) := by omega
    have c4 : (i : Int) + 1 ≤ (s.size : Int) := by omega
    have c1 : (0 : Int) ≤ (i : Int) := by omega
    have c3 : (0 : Int) ≤ (i : Int) + 1 := by omega
    clear h hi hb
    go_enter Tryz.func26, Tryz.ntmps26
    go_wp2_with (go_at_call 52; refine (unhide C _).mono ?_; rintro e w' ⟨rfl, rfl⟩)
    go_region
    go_wp2
    go_ret3
    refine ⟨?_, (Below.refl _ _).drew⟩
    rw [← unhide E1, ← unhide E2]
    rfl
  · have hm : Lib.indexByte s.data.toList c = -1 := by omega
    rw [cut1_miss h]
    rw [hm] at C
    replace C := hide C
    clear h hm hb
    go_enter Tryz.func26, Tryz.ntmps26
    go_wp2_with (go_at_call 52; refine (unhide C _).mono ?_; rintro e w' ⟨rfl, rfl⟩)
    go_ret3
    refine ⟨?_, Below.refl _ _⟩
    rw [Lib.mk_data s]
    rfl

set_option maxHeartbeats 1000000 in
theorem cut_any (s : ByteArray) (c : UInt8) (w : World) (hs : s.size ≤ 9223372036854775000) :
    Calls Tryz.prog 9 #[.string s, .string ⟨#[c]⟩] w fun e w' => e = .returned (.tuple #[.string ⟨(cut1 s.data.toList c).1.toArray⟩, .string ⟨(cut1 s.data.toList c).2.1.toArray⟩, .bool (cut1 s.data.toList c).2.2]) ∧ Below w.heap.size w w' := by
  have C := hide (fun wx => cutIn_any s c wx hs)
  generalize cut1 s.data.toList c = q at *
  go_enter Tryz.func9, Tryz.ntmps9
  go_wp2_with (go_at_call 26; refine (unhide C _).mono ?_; rintro e w' ⟨rfl, hb⟩)
  go_ret3
  exact ⟨rfl, hb⟩
end Go.Proofs.YtibkemolmpcdcaaGreatDoor

/- Walks: strconv.FormatUint at base 10, strings.Repeat. -/
namespace Go.Proofs.YtibkemolmpcdcaaGreatDoor
open Go.RowKit Go.Sort

theorem repeat_any (s : ByteArray) (c : Nat) (w : World) (hc : c ≤ 9223372036854775807) (hlen : s.size * c ≤ 140737488355328) :
    Calls Tryz.prog 22 #[.string s, .int .i64 c] w fun e w' => e = .returned (.string ⟨(Lib.repeatL s.data.toList c).toArray⟩) ∧ Below w.heap.size w w' :=
  Any.strings_Repeat Tryz.lays105 Tryz.lays105X s c w hc hlen
theorem esmall_any (i : Nat) (h : i < 100) (w : World) :
    Calls Tryz.prog 71 #[.int .i64 i] w fun e w' => e = .returned (.string ⟨(Lib.decDigits i).toArray⟩) ∧ w' = w :=
  Any.internal_strconv_small Tryz.lays283 i h w
theorem numDigits_any (u : Nat) (h1 : 1 ≤ u) (h2 : u < 18446744073709551616) (w : World) (htab : Lib.TabIs Tryz.prog w "internal/strconv.uint64pow10" .u64 Lib.pow10Tab) :
    Calls Tryz.prog 72 #[.int .u64 u] w fun e w' => e = .returned (.int .i64 (Lib.nDigits u)) ∧ w' = w :=
  Any.internal_strconv_numDigits Tryz.lays284 u h1 h2 w htab
theorem formatBase10_any (blk off cap : Nat) (u : Nat) (d : Array UInt8) (w : World) (hH : Holds (fun (b : UInt8) => Value.int .u8 (b.toNat : Int)) w blk off d) (hu : u < 10 ^ d.size) (hu64 : u < 18446744073709551616) (hsz : d.size < 4611686018427387904) :
    Calls Tryz.prog 73 #[.slice (some ⟨blk, off, none⟩) d.size cap, .int .u64 u] w fun e w' =>
      e = .returned (.tuple #[]) ∧ ∃ (n v' : Nat) (dk : Array UInt8), w' = (putRow (fun (b : UInt8) => Value.int .u8 (b.toNat : Int)) w blk off dk).drewN n ∧ Lib.FmtInv d.size u 0 v' dk :=
  Any.internal_strconv_formatBase10 Tryz.lays285 blk off cap u d w hH hu hu64 hsz

set_option maxHeartbeats 2000000 in
set_option maxRecDepth 100000 in
theorem formatUint_in (u : Nat) (hu64 : u < 18446744073709551616) (w : World) (htab : Lib.TabIs Tryz.prog w "internal/strconv.uint64pow10" .u64 Lib.pow10Tab) :
    Calls Tryz.prog 44 #[.int .u64 (u : Int), .int .i64 10] w fun e w' => e = .returned (.string ⟨(Lib.decDigits u).toArray⟩) ∧ Below w.heap.size w w' := by
  by_cases hs : u < 100
  · have hs' : (u : Int) < 100 := by omega
    have C := hide (fun wx => esmall_any u hs wx)
    go_enter Tryz.func44, Tryz.ntmps44
    go_wp2_with (go_at_call 71; refine (unhide C _).mono ?_; rintro e w' ⟨rfl, rfl⟩)
    go_ret
    exact ⟨rfl, Below.refl _ _⟩
  · have hs' : ¬ (u : Int) < 100 := by omega
    have hu1 : 1 ≤ u := by omega
    have hnd20 : Lib.nDigits u ≤ 20 := by have := Lib.numDigits_eq u hu1 hu64; split at this <;> omega
    have hal : Tryz.prog.arrayLen 99 = 24 := by kernel_rfl
    have hsl : ∀ W, (Instr.sliceAt 99 (.pointer (some ⟨w.heap.size, 0, none⟩)) none (some (.int .i64 (Lib.nDigits u : Int))) none).run Tryz.prog W = .ok (.slice (some ⟨w.heap.size, 0, none⟩) (Lib.nDigits u) 24) W := fun W => by
      rw [run_sliceAt_array_h W 99 ⟨w.heap.size, 0, none⟩ (by kernel_rfl) .i64 (Lib.nDigits u : Int) (by omega) (by rw [hal]; omega)]
      go_simp
    have hH0 := Lib.holds_zero0 w 99 (Lib.nDigits u) (by omega)
    have hfmt := formatBase10_any w.heap.size 0 24 u (Array.replicate (Lib.nDigits u) 0) (w.alloc (.cells Lib.zeros24 99)) hH0 (by rw [Array.size_replicate]; exact Lib.lt_pow_nDigits u) hu64 (by rw [Array.size_replicate]; omega)
    rw [Array.size_replicate] at hfmt
    have HH0 := Lib.hid hH0
    have ND := hide (fun wx (ht : Lib.TabIs Tryz.prog wx "internal/strconv.uint64pow10" .u64 Lib.pow10Tab) => numDigits_any u hu1 hu64 wx ht)
    have HT := hide htab
    clear hH0 hal htab
    go_enter Tryz.func44, Tryz.ntmps44
    go_wp2_with (go_at_call 72; refine (unhide ND _ (Lib.tabIs_alloc (unhide HT) _)).mono ?_; rintro e w' ⟨rfl, rfl⟩)
    refine hfmt.mono ?_
    rintro e w' ⟨rfl, k, v', dk, rfl, hF⟩
    have hcv : (convert 35 9 (.slice (some ⟨w.heap.size, 0, none⟩) (Lib.nDigits u) 24)).run Tryz.prog ((putRow (fun (b : UInt8) => Value.int .u8 (b.toNat : Int)) (w.alloc (.cells Lib.zeros24 99)) w.heap.size 0 dk).drewN k) = .ok (.string ⟨(Lib.decDigits u).toArray⟩) ((putRow (fun (b : UInt8) => Value.int .u8 (b.toNat : Int)) (w.alloc (.cells Lib.zeros24 99)) w.heap.size 0 dk).drewN k) := by
      have h := run_convert_bytes_back (P := Tryz.prog) ((putRow (fun (b : UInt8) => Value.int .u8 (b.toNat : Int)) (w.alloc (.cells Lib.zeros24 99)) w.heap.size 0 dk).drewN k) 35 9 5 ⟨w.heap.size, 0, none⟩ 24 (Lib.decDigits u) Tryz.underlying35 Tryz.underlying5 Tryz.underlying9 (fun j hj => by
        rw [Lib.row_is_numeral hF j hj, Lib.add_plain, World.cell?_drewN]
        exact cell?_putRow (fun (b : UInt8) => Value.int .u8 (b.toNat : Int)) _ w.heap.size 0 _ dk HH0.out (by rw [hF.size, Array.size_replicate]) j (by rw [hF.size]; rw [Lib.decDigits_length] at hj; exact hj))
      rw [Lib.decDigits_length] at h
      exact h
    obtain ⟨os, eo⟩ := Lib.fin_at w (.cells Lib.zeros24 99) dk k 0
    have HE := hide eo
    clear eo hfmt ND HT HH0
    go_wp2
    go_ret
    refine ⟨rfl, ?_⟩
    rw [unhide HE]
    exact Lib.below_grow _ w (Nat.le_refl _) k os

set_option maxHeartbeats 400000 in
theorem formatUint_any (u : Nat) (hu64 : u < 18446744073709551616) (w : World) (htab : Lib.TabIs Tryz.prog w "internal/strconv.uint64pow10" .u64 Lib.pow10Tab) :
    Calls Tryz.prog 20 #[.int .u64 (u : Int), .int .i64 10] w fun e w' => e = .returned (.string ⟨(Lib.decDigits u).toArray⟩) ∧ Below w.heap.size w w' := by
  have C := hide (formatUint_in u hu64 w htab)
  clear htab
  go_enter Tryz.func20, Tryz.ntmps20
  go_wp2_with (go_at_call 44; refine (unhide C).mono ?_; rintro e w' ⟨rfl, hb⟩)
  go_ret
  exact ⟨rfl, hb⟩
end Go.Proofs.YtibkemolmpcdcaaGreatDoor

/- Walks: trimmed, number. -/
namespace Go.Proofs.YtibkemolmpcdcaaGreatDoor
open Go.RowKit

theorem ret_near {a b c a' b' c' : Int} (h1 : a = a') (h2 : b = b') (h3 : c = c') :
    Ending.returned (.tuple #[.agg #[.int .i64 a, .int .i64 b], .int .i64 c]) = .returned (.tuple #[.agg #[.int .i64 a', .int .i64 b'], .int .i64 c']) := by rw [h1, h2, h3]

set_option maxHeartbeats 400000 in
theorem trimmed_zero (x : Int) (w : World) :
    Calls Tryz.prog 53 #[.int .i64 0, .int .i64 x] w fun e w' => e = .returned (.tuple #[.agg #[.int .i64 0, .int .i64 0], .int .i64 0]) ∧ Below w.heap.size w w' := by
  go_enter Tryz.func53, Tryz.ntmps53
  go_wp2
  exact bodyPost_ret (v := .tuple #[.agg #[.int .i64 0, .int .i64 0], .int .i64 0]) (by simp [results, Tryz.results53, go_sem]) rfl ⟨rfl, (Below.refl _ _).alloc (Nat.le_refl _) _⟩

set_option maxHeartbeats 400000 in
theorem trimmed_some (c x : Int) (w : World) (h0 : (c == 0) = false) (h1 : -1000000000000000000 ≤ c) (h2 : c ≤ 1000000000000000000) (hx1 : -200 ≤ x) (hx2 : x ≤ 200) :
    Calls Tryz.prog 53 #[.int .i64 c, .int .i64 x] w fun e w' => ∃ (m : Int) (k : Nat), c = Dm.tens m k ∧ m.tmod 10 ≠ 0 ∧ ((40 < x + k ∧ e = .returned (.tuple #[.agg #[.int .i64 0, .int .i64 0], .int .i64 4])) ∨ (x + k ≤ 40 ∧ e = .returned (.tuple #[.agg #[.int .i64 m, .int .i64 (x + k)], .int .i64 0]))) ∧ Below w.heap.size w w' := by
  go_enter Tryz.func53, Tryz.ntmps53
  go_wp2
  go_loop [0, 1] (fun a b => ∃ (m : Int) (k : Nat), a = .int .i64 m ∧ b = .int .i64 (x + k) ∧ Hid (c = Dm.tens m k) ∧ Hid (m ≠ 0) ∧ -1000000000000000000 ≤ m ∧ m ≤ 1000000000000000000 ∧ k ≤ 18) (fun a _ => (intOf a).natAbs)
  case atStart => exact ⟨c, 0, rfl, by simp, hide rfl, hide (by simpa using h0), h1, h2, by omega⟩
  case round =>
    obtain ⟨m, k, rfl, rfl, H, hm0, hm1, hm2, hk⟩ := hrel
    by_cases hm : m.tmod 10 = 0
    · have hm' : (m.tmod 10 == 0) = true := by simp [hm]
      have T := hide (Dm.td10 m)
      have Hm := hide hm
      obtain ⟨q1, q2, q3, q4, q5⟩ := Dm.tdiv_facts (unhide hm0) hm
      have hq1 := hide q1
      have hk' := Dm.tens_k (unhide H) hm (unhide hm0) h1 h2
      clear hm q1
      go_wp2
      go_round
      case rel => exact ⟨_, k + 1, rfl, by go_num, hide (Dm.tens_step (unhide H) (unhide hq1)), hide q2, by omega, by omega, by omega⟩
      case measure => exact q3
    · have hm' : (m.tmod 10 == 0) = false := by simp [hm]
      have Hm := hide hm
      clear hm
      by_cases hg : 40 < x + (k : Int)
      · go_wp2
        exact bodyPost_ret (v := .tuple #[.agg #[.int .i64 0, .int .i64 0], .int .i64 4]) (by simp [results, Tryz.results53, go_sem]) rfl ⟨m, k, unhide H, unhide Hm, .inl ⟨hg, rfl⟩, (Below.refl _ _).alloc (Nat.le_refl _) _⟩
      · go_wp2
        exact bodyPost_ret (v := .tuple #[.agg #[.int .i64 m, .int .i64 (x + k)], .int .i64 0]) (by simp [results, Tryz.results53, go_sem]) rfl ⟨m, k, unhide H, unhide Hm, .inr ⟨by omega, rfl⟩, (Below.refl _ _).alloc (Nat.le_refl _) _⟩

theorem trimmed_any (c x : Int) (w : World) (h1 : -1000000000000000000 ≤ c) (h2 : c ≤ 1000000000000000000) (hx1 : -200 ≤ x) (hx2 : x ≤ 200) :
    Calls Tryz.prog 53 #[.int .i64 c, .int .i64 x] w fun e w' => e = .returned (.tuple #[.agg #[.int .i64 (Dm.fC c x), .int .i64 (Dm.fE c x)], .int .i64 (Dm.fR c x)]) ∧ Below w.heap.size w w' := by
  by_cases h0 : c = 0
  · subst h0
    exact (trimmed_zero x w).mono fun e w' h => h
  · refine (trimmed_some c x w (by simp [h0]) h1 h2 hx1 hx2).mono ?_
    rintro e w' ⟨m, k, hc, hm, he, hb⟩
    obtain ⟨t1, t2⟩ := Dm.tz_at hc hm (by omega)
    refine ⟨?_, hb⟩
    rcases he with ⟨g, rfl⟩ | ⟨g, rfl⟩
    · refine ret_near ?_ ?_ ?_ <;> simp only [Dm.fC, Dm.fE, Dm.fR, if_neg h0, t1, if_pos g]
    · have g' : ¬ 40 < x + (k : Int) := by omega
      refine ret_near ?_ ?_ ?_ <;> simp only [Dm.fC, Dm.fE, Dm.fR, if_neg h0, t1, t2, if_neg g']

set_option maxHeartbeats 400000 in
theorem number_any (B R : Bool) (sv : Value) (x : Int) (hsv : ∃ ao n c, sv = .slice ao n c) (q : Nat) (y : Int) (w : World) (hq : (q : Int) ≤ 1000000000000000000) (hx1 : -200 ≤ y) (hx2 : y ≤ 200) :
    Calls Tryz.prog 28 #[.agg #[.bool B, sv, .int .i64 x, .bool R], .int .u64 (q : Int), .int .i64 y] w fun e w' => e = .returned (.tuple #[.agg #[.int .i64 (Dm.fC (Dm.sg B q) y), .int .i64 (Dm.fE (Dm.sg B q) y)], .int .i64 (Dm.fR (Dm.sg B q) y)]) ∧ Below w.heap.size w w' := by
  obtain ⟨ao, n, cp, rfl⟩ := hsv
  cases B
  · go_enter Tryz.func28, Tryz.ntmps28
    go_wp2_with fail
    refine (trimmed_any (q : Int) y _ (by omega) (by omega) hx1 hx2).mono ?_
    rintro e w1 ⟨rfl, hb⟩
    obtain ⟨hc, hf⟩ := bcell hb
    have hz : w.heap.size + 2 ≤ w1.heap.size := by have := hb.size; simp at this; omega
    have hb0 : Below w.heap.size w w1 := (((Below.refl _ _).alloc (Nat.le_refl _) _).alloc (by simp) _).trans (hb.mono (by simp; omega))
    go_wp2
    exact bodyPost_ret (v := .tuple #[.agg #[.int .i64 (Dm.fC (q : Int) y), .int .i64 (Dm.fE (q : Int) y)], .int .i64 (Dm.fR (q : Int) y)]) (by simp [results, Tryz.results28, go_sem, hc]) rfl ⟨rfl, (hb0.setCell (by simp) _).setCell (by simp) _⟩
  · go_enter Tryz.func28, Tryz.ntmps28
    go_wp2_with fail
    refine (trimmed_any (-(q : Int)) y _ (by omega) (by omega) hx1 hx2).mono ?_
    rintro e w1 ⟨rfl, hb⟩
    obtain ⟨hc, hf⟩ := bcell hb
    have hz : w.heap.size + 2 ≤ w1.heap.size := by have := hb.size; simp at this; omega
    have hb0 : Below w.heap.size w w1 := (((Below.refl _ _).alloc (Nat.le_refl _) _).alloc (by simp) _).trans (hb.mono (by simp; omega))
    go_wp2
    exact bodyPost_ret (v := .tuple #[.agg #[.int .i64 (Dm.fC (-(q : Int)) y), .int .i64 (Dm.fE (-(q : Int)) y)], .int .i64 (Dm.fR (-(q : Int)) y)]) (by simp [results, Tryz.results28, go_sem, hc]) rfl ⟨rfl, (hb0.setCell (by simp) _).setCell (by simp) _⟩

end Go.Proofs.YtibkemolmpcdcaaGreatDoor

/- Walks: noughtsAhead, goesUp, wholeAt. -/
namespace Go.Proofs.YtibkemolmpcdcaaGreatDoor
open Go.RowKit

set_option maxHeartbeats 400000 in
theorem noughts_any (b off n cap : Nat) (D : Nat → Nat) (w : World) (h : DS w b off n D) :
    Calls Tryz.prog 27 #[.slice (some ⟨b, off, none⟩) n cap] w fun e w' => ∃ z : Nat, e = .returned (.int .i64 (z : Int)) ∧ z ≤ n ∧ (∀ j, j < z → D j = 0) ∧ (z < n → D z ≠ 0) ∧ w' = w := by
  have hl := h.len
  go_enter Tryz.func27, Tryz.ntmps27
  go_wp2
  go_loop [3] (fun i => ∃ k : Nat, k ≤ n ∧ i = .int .i64 (k : Int) ∧ Hid (∀ j, j < k → D j = 0)) (fun i => n - (intOf i).toNat)
  case atStart => exact ⟨0, Nat.zero_le _, rfl, hide (fun j hj => absurd hj (by omega))⟩
  case round =>
    obtain ⟨k, hk, rfl, H⟩ := hrel
    by_cases hlt : k < n
    · have hcell := h.cell k hlt
      by_cases hd : D k = 0
      · have hd' : ((D k : Int) == 0) = true := by simp [hd]
        have Hd := hide hd
        clear hd
        go_wp2
        go_round
        case rel => exact ⟨k + 1, by omega, by go_num, hide (fun j hj => by rcases Nat.lt_or_ge j k with g | g; · exact unhide H j g
                                                                            · rw [show j = k by omega]; exact unhide Hd)⟩
        case measure => simp [intOf]; omega
      · have hd' : ((D k : Int) == 0) = false := by simp [hd]
        have Hd := hide hd
        clear hd
        go_wp2
        go_ret
        exact ⟨k, rfl, hk, unhide H, fun _ => unhide Hd, rfl⟩
    · go_wp2
      go_ret
      exact ⟨k, rfl, hk, unhide H, fun g => absurd g hlt, rfl⟩

theorem ret_bool {a b : Bool} (h : a = b) : Ending.returned (.bool a) = .returned (.bool b) := by rw [h]

set_option maxHeartbeats 400000 in
theorem goesUp_out (B R odd : Bool) (b off n cap : Nat) (x kept : Int) (w : World) (h : kept < 0 ∨ (n : Int) ≤ kept) :
    Calls Tryz.prog 54 #[.agg #[.bool B, .slice (some ⟨b, off, none⟩) n cap, .int .i64 x, .bool R], .int .i64 kept, .bool odd] w fun e w' => e = .returned (.bool false) ∧ Below w.heap.size w w' := by
  by_cases h0 : kept < 0
  · clear h
    go_enter Tryz.func54, Tryz.ntmps54
    go_wp2
    go_ret
    exact ⟨rfl, (Below.refl _ _).alloc (Nat.le_refl _) _⟩
  · have h1 : (n : Int) ≤ kept := by omega
    clear h
    go_enter Tryz.func54, Tryz.ntmps54
    go_wp2
    go_ret
    exact ⟨rfl, (Below.refl _ _).alloc (Nat.le_refl _) _⟩

set_option maxHeartbeats 400000 in
theorem goesUp_in (B R odd : Bool) (b off n cap : Nat) (x : Int) (k : Nat) (D : Nat → Nat) (w : World) (hD : DS w b off n D) (hk : k < n) (h5 : ((D k : Int) != 5) = true) :
    Calls Tryz.prog 54 #[.agg #[.bool B, .slice (some ⟨b, off, none⟩) n cap, .int .i64 x, .bool R], .int .i64 (k : Int), .bool odd] w fun e w' => e = .returned (.bool (decide (5 < (D k : Int)))) ∧ Below w.heap.size w w' := by
  have hl := hD.len
  have hblk := hD.blk
  have hcell := hD.cell k hk
  have hc2 : (w.alloc (.cells #[.bool B, .slice (some ⟨b, off, none⟩) n cap, .int .i64 x, .bool R] 38)).cell? ⟨b, off + k, none⟩ = some (.int .u8 (D k : Int)) := by
    rw [← hcell]; exact ((Below.refl w.heap.size w).alloc (Nat.le_refl _) _).cell (p := ⟨b, off + k, none⟩) hblk
  go_enter Tryz.func54, Tryz.ntmps54
  go_wp2
  go_ret
  exact ⟨rfl, (Below.refl _ _).alloc (Nat.le_refl _) _⟩

set_option maxHeartbeats 400000 in
theorem goesUp_5 (B R odd : Bool) (b off n cap : Nat) (x : Int) (k : Nat) (D : Nat → Nat) (w : World) (hD : DS w b off n D) (hcap : n ≤ cap) (hk : k < n) (h5 : ((D k : Int) != 5) = false) :
    Calls Tryz.prog 54 #[.agg #[.bool B, .slice (some ⟨b, off, none⟩) n cap, .int .i64 x, .bool R], .int .i64 (k : Int), .bool odd] w fun e w' => e = .returned (.bool (odd || R || decide (0 < Dm.suf D n (n - k - 1)))) ∧ Below w.heap.size w w' := by
  have hl := hD.len
  have hblk := hD.blk
  have hcell := hD.cell k hk
  have hbw := (Below.refl w.heap.size w).alloc (Nat.le_refl _) (.cells #[.bool B, .slice (some ⟨b, off, none⟩) n cap, .int .i64 x, .bool R] 38)
  have hc2 : (w.alloc (.cells #[.bool B, .slice (some ⟨b, off, none⟩) n cap, .int .i64 x, .bool R] 38)).cell? ⟨b, off + k, none⟩ = some (.int .u8 (D k : Int)) := by
    rw [← hcell]; exact hbw.cell (p := ⟨b, off + k, none⟩) hblk
  have hD2 := hide (hD.below hbw)
  clear hbw
  have E0 := fun (z : Nat) a b c => hide (Dm.suf_z D hk (z := z) a b c)
  cases odd
  · cases R
    · by_cases hcp : cap = k + 1
      · subst hcp
        go_enter Tryz.func54, Tryz.ntmps54
        go_wp2_with fail
        refine (noughts_any b off 0 0 (fun j => D (k + 1 + j)) _ ((unhide hD2).empty off (fun j => hD.dig _) rfl)).mono ?_
        rintro e w1 ⟨z, rfl, hz, hz0, hz1, rfl⟩
        have E1 := E0 z (by omega) hz0 (fun g => absurd g (by omega))
        clear hz0 hz1 E0
        go_wp2
        go_ret
        refine ⟨ret_bool ?_, (Below.refl _ _).alloc (Nat.le_refl _) _⟩
        rw [unhide E1]; simp; try omega
      · go_enter Tryz.func54, Tryz.ntmps54
        go_wp2_with fail
        refine (noughts_any b (off + (k + 1)) (n - (k + 1)) _ (fun j => D (k + 1 + j)) _ ((unhide hD2).drop (k + 1) (by omega))).mono ?_
        rintro e w1 ⟨z, rfl, hz, hz0, hz1, rfl⟩
        have E1 := E0 z hz hz0 hz1
        clear hz0 hz1 E0
        go_wp2
        go_ret
        refine ⟨ret_bool ?_, (Below.refl _ _).alloc (Nat.le_refl _) _⟩
        rw [unhide E1]; simp; try omega
    · go_enter Tryz.func54, Tryz.ntmps54
      go_wp2
      all_goals
        go_ret
        exact ⟨rfl, (Below.refl _ _).alloc (Nat.le_refl _) _⟩
  · go_enter Tryz.func54, Tryz.ntmps54
    go_wp2
    all_goals
      go_ret
      exact ⟨rfl, (Below.refl _ _).alloc (Nat.le_refl _) _⟩

theorem goesUp_any (B R odd : Bool) (b off n cap : Nat) (x kept : Int) (D : Nat → Nat) (w : World) (hD : DS w b off n D) (hcap : n ≤ cap) :
    Calls Tryz.prog 54 #[.agg #[.bool B, .slice (some ⟨b, off, none⟩) n cap, .int .i64 x, .bool R], .int .i64 kept, .bool odd] w fun e w' => e = .returned (.bool (Dm.gu D n kept odd R)) ∧ Below w.heap.size w w' := by
  by_cases h : kept < 0 ∨ (n : Int) ≤ kept
  · rw [Dm.gu_out odd R h]
    exact goesUp_out B R odd b off n cap x kept w h
  · obtain ⟨k, rfl⟩ : ∃ k : Nat, kept = (k : Int) := ⟨kept.toNat, by omega⟩
    by_cases h5 : D k = 5
    · rw [Dm.gu_5 odd R (by omega) h5]
      exact goesUp_5 B R odd b off n cap x k D w hD hcap (by omega) (by simp [h5])
    · rw [Dm.gu_in odd R (by omega) h5]
      refine (goesUp_in B R odd b off n cap x k D w hD (by omega) (by simp; omega)).mono ?_
      rintro e w' ⟨rfl, hb⟩
      exact ⟨ret_bool (by simp; omega), hb⟩

end Go.Proofs.YtibkemolmpcdcaaGreatDoor

/- Walks: wholeAt. -/
namespace Go.Proofs.YtibkemolmpcdcaaGreatDoor
open Go.RowKit

set_option maxHeartbeats 1000000 in
theorem wholeAt_any (B R : Bool) (b off n cap : Nat) (x y : Int) (D : Nat → Nat) (w : World) (hD : DS w b off n D) (hcap : n ≤ cap) (hx1 : -1000 ≤ x) (hx2 : x ≤ 1000) (hy1 : -1000 ≤ y) (hy2 : y ≤ 1000) (hk18 : (n : Int) + x - y ≤ 18) :
    Calls Tryz.prog 29 #[.agg #[.bool B, .slice (some ⟨b, off, none⟩) n cap, .int .i64 x, .bool R], .int .i64 y] w fun e w' => e = .returned (.int .u64 (Dm.sc (Dm.val D n) (x - y) R : Int)) ∧ Below w.heap.size w w' := by
  have hl := hD.len
  have hblk := hD.blk
  have hbw := (Below.refl w.heap.size w).alloc (Nat.le_refl _) (.cells #[.bool B, .slice (some ⟨b, off, none⟩) n cap, .int .i64 x, .bool R] 38)
  have hD2 := hide (hD.below hbw)
  have hbw' := hide hbw
  have hdig := hide hD.dig
  have W := hide (Dm.whole_eq hD.dig n x y R)
  clear hbw hD
  go_enter Tryz.func29, Tryz.ntmps29
  go_wp2
  go_loop [6, 17] (fun a c => ∃ (q k : Nat), a = .int .u64 (q : Int) ∧ c = .int .i64 (k : Int) ∧ Hid (q = Dm.vx D n k) ∧ k ≤ ((n : Int) + x - y).toNat) (fun _ c => ((n : Int) + x - y).toNat - (intOf c).toNat)
  case atStart => exact ⟨0, 0, rfl, rfl, hide (Dm.vx_zero D n).symm, Nat.zero_le _⟩
  case round =>
    obtain ⟨q, k, rfl, rfl, H, hk⟩ := hrel
    by_cases hlt : (k : Int) < (n : Int) + x - y
    · have hq : q < 100000000000000000 := by
        have a := Dm.vx_lt (unhide hdig) n k
        have c := Dm.p10_17 (k := k) (by omega)
        rw [unhide H]; omega
      have hd := unhide hdig k
      by_cases hin : k < n
      · have hcell := (unhide hD2).cell k hin
        have H2 := hide (Dm.vx_in (D := D) hin)
        go_wp2
        go_round
        case rel => exact ⟨q * 10 + D k, k + 1, by go_num, by go_num, hide (by rw [unhide H2, unhide H]), by omega⟩
        case measure => simp [intOf]; omega
      · have H2 := hide (Dm.vx_out (D := D) (n := n) (k := k) (by omega))
        go_wp2
        go_round
        case rel => exact ⟨q * 10, k + 1, by go_num, by go_num, hide (by rw [unhide H2, unhide H]), by omega⟩
        case measure => simp [intOf]; omega
    · have hq : q ≤ 1000000000000000000 := by
        have a := Dm.vx_lt (unhide hdig) n k
        have c := Dm.p10_18 (k := k) (by omega)
        rw [unhide H]; omega
      have ek : ((n : Int) + x - y).toNat = k := by omega
      have H3 : Hid (q + Dm.one (Dm.gu D n ((n : Int) + x - y) (decide (q % 2 = 1)) R) = Dm.sc (Dm.val D n) (x - y) R) := by
        have w9 := unhide W
        rw [ek, ← unhide H] at w9
        exact w9
      clear W hk ek H
      by_cases hodd : q % 2 = 1
      · have ho : ((q : Int) % 2 == 1) = true := by simp; omega
        have H4 : Hid (q + Dm.one (Dm.gu D n ((n : Int) + x - y) true R) = Dm.sc (Dm.val D n) (x - y) R) := by
          have := unhide H3; rw [decide_eq_true hodd] at this; exact this
        clear hodd H3
        go_wp2_with fail
        refine (goesUp_any B R true b off n cap x _ D _ (unhide hD2) hcap).mono ?_
        rintro e w1 ⟨rfl, hb⟩
        have hb0 : Below w.heap.size w w1 := (unhide hbw').trans (hb.mono (by simp))
        cases hg : Dm.gu D n ((n : Int) + x - y) true R
        all_goals
          have H5 := hide (unhide H4)
          rw [hg] at H5
          clear hg H4
          go_wp2
          go_ret
          exact ⟨ret_int (by rw [← unhide H5]; simp [Dm.one]), hb0⟩
      · have ho : ((q : Int) % 2 == 1) = false := by simp; omega
        have H4 : Hid (q + Dm.one (Dm.gu D n ((n : Int) + x - y) false R) = Dm.sc (Dm.val D n) (x - y) R) := by
          have := unhide H3; rw [decide_eq_false hodd] at this; exact this
        clear hodd H3
        go_wp2_with fail
        refine (goesUp_any B R false b off n cap x _ D _ (unhide hD2) hcap).mono ?_
        rintro e w1 ⟨rfl, hb⟩
        have hb0 : Below w.heap.size w w1 := (unhide hbw').trans (hb.mono (by simp))
        cases hg : Dm.gu D n ((n : Int) + x - y) false R
        all_goals
          have H5 := hide (unhide H4)
          rw [hg] at H5
          clear hg H4
          go_wp2
          go_ret
          exact ⟨ret_int (by rw [← unhide H5]; simp [Dm.one]), hb0⟩
end Go.Proofs.YtibkemolmpcdcaaGreatDoor

/- Walks: nearest. -/
namespace Go.Proofs.YtibkemolmpcdcaaGreatDoor
open Go.RowKit

/-- behind nearest's first statement: the noughts ahead are cut off -/
def NearRel (B R : Bool) (b n cap : Nat) (x : Int) (D : Nat → Nat) (w wc : World) : Prop :=
  ∃ z off' : Nat, Hid (z ≤ n ∧ (∀ j, j < z → D j = 0) ∧ (z < n → D z ≠ 0) ∧ DS wc b off' (n - z) (fun j => D (z + j))) ∧ wc.cell? ⟨w.heap.size, 0, none⟩ = some (.bool B) ∧ wc.cell? ⟨w.heap.size, 1, none⟩ = some (.slice (some ⟨b, off', none⟩) (n - z) (cap - z)) ∧ wc.cell? ⟨w.heap.size, 2, none⟩ = some (.int .i64 x) ∧ wc.cell? ⟨w.heap.size, 3, none⟩ = some (.bool R) ∧ wc.cell? ⟨w.heap.size + 1, 0, none⟩ = some (.int .i64 0) ∧ wc.cell? ⟨w.heap.size + 1, 1, none⟩ = some (.int .i64 0) ∧ wc.frozen? ⟨w.heap.size + 1, 0, none⟩ = false ∧ wc.frozen? ⟨w.heap.size + 1, 1, none⟩ = false ∧ w.heap.size + 2 ≤ wc.heap.size ∧ Below w.heap.size w wc

theorem near_rel {B R : Bool} {b off n cap : Nat} {x : Int} {D : Nat → Nat} {w : World} (hD : DS w b off n D) {z : Nat} (hz : z ≤ n) (hcap : n ≤ cap) (hz0 : ∀ j, j < z → D j = 0) (hz1 : z < n → D z ≠ 0) {ao : Option Addr} (hao : (if cap = z then some ({ block := b, off := off } : Addr) else some { block := b, off := off + z }) = ao) :
    NearRel B R b n cap x D w ((w.alloc (Obj.cells #[Value.bool B, Value.slice ao (n - z) (cap - z), Value.int IntKind.i64 x, Value.bool R] 38)).alloc (Obj.cells #[Value.int IntKind.i64 0, Value.int IntKind.i64 0] 23)).drew := by
  have hb : Below w.heap.size w ((w.alloc (Obj.cells #[Value.bool B, Value.slice ao (n - z) (cap - z), Value.int IntKind.i64 x, Value.bool R] 38)).alloc (Obj.cells #[Value.int IntKind.i64 0, Value.int IntKind.i64 0] 23)).drew :=
    (((Below.refl w.heap.size w).alloc (Nat.le_refl _) _).alloc (by simp) _).drew
  by_cases h : cap = z
  · rw [if_pos h] at hao
    subst hao
    refine ⟨z, off, hide ⟨hz, hz0, hz1, (hD.below hb).empty off (fun j => hD.dig _) (by omega)⟩, by simp [go_sem], by simp [go_sem], by simp [go_sem], by simp [go_sem], by simp [go_sem], by simp [go_sem], by simp [go_sem], by simp [go_sem], by simp, hb⟩
  · rw [if_neg h] at hao
    subst hao
    refine ⟨z, off + z, hide ⟨hz, hz0, hz1, (hD.below hb).drop z hz⟩, by simp [go_sem], by simp [go_sem], by simp [go_sem], by simp [go_sem], by simp [go_sem], by simp [go_sem], by simp [go_sem], by simp [go_sem], by simp, hb⟩

theorem cells_below {wc w1 : World} {h : Nat} {v0 v1 v2 v3 r0 r1 : Value} (hb : Below wc.drew.heap.size wc.drew w1) (hsz : h + 2 ≤ wc.heap.size)
    (c0 : wc.cell? ⟨h, 0, none⟩ = some v0) (c1 : wc.cell? ⟨h, 1, none⟩ = some v1) (c2 : wc.cell? ⟨h, 2, none⟩ = some v2) (c3 : wc.cell? ⟨h, 3, none⟩ = some v3)
    (d0 : wc.cell? ⟨h + 1, 0, none⟩ = some r0) (d1 : wc.cell? ⟨h + 1, 1, none⟩ = some r1) (f0 : wc.frozen? ⟨h + 1, 0, none⟩ = false) (f1 : wc.frozen? ⟨h + 1, 1, none⟩ = false) :
    w1.cell? ⟨h, 0, none⟩ = some v0 ∧ w1.cell? ⟨h, 1, none⟩ = some v1 ∧ w1.cell? ⟨h, 2, none⟩ = some v2 ∧ w1.cell? ⟨h, 3, none⟩ = some v3 ∧
    w1.cell? ⟨h + 1, 0, none⟩ = some r0 ∧ w1.cell? ⟨h + 1, 1, none⟩ = some r1 ∧ w1.frozen? ⟨h + 1, 0, none⟩ = false ∧ w1.frozen? ⟨h + 1, 1, none⟩ = false ∧ h + 2 ≤ w1.heap.size := by
  have e : wc.drew.heap.size = wc.heap.size := rfl
  refine ⟨(hb.cell (p := ⟨h, 0, none⟩) (by show h < _; omega)).trans c0, (hb.cell (p := ⟨h, 1, none⟩) (by show h < _; omega)).trans c1, (hb.cell (p := ⟨h, 2, none⟩) (by show h < _; omega)).trans c2, (hb.cell (p := ⟨h, 3, none⟩) (by show h < _; omega)).trans c3,
    (hb.cell (p := ⟨h + 1, 0, none⟩) (by show h + 1 < _; omega)).trans d0, (hb.cell (p := ⟨h + 1, 1, none⟩) (by show h + 1 < _; omega)).trans d1, (hb.frozen (p := ⟨h + 1, 0, none⟩) (by show h + 1 < _; omega)).trans f0, (hb.frozen (p := ⟨h + 1, 1, none⟩) (by show h + 1 < _; omega)).trans f1, by have := hb.size; omega⟩

theorem cells_below0 {wc w1 : World} {h : Nat} {v0 v1 v2 v3 r0 r1 : Value} (hb : Below wc.heap.size wc w1) (hsz : h + 2 ≤ wc.heap.size)
    (c0 : wc.cell? ⟨h, 0, none⟩ = some v0) (c1 : wc.cell? ⟨h, 1, none⟩ = some v1) (c2 : wc.cell? ⟨h, 2, none⟩ = some v2) (c3 : wc.cell? ⟨h, 3, none⟩ = some v3)
    (d0 : wc.cell? ⟨h + 1, 0, none⟩ = some r0) (d1 : wc.cell? ⟨h + 1, 1, none⟩ = some r1) (f0 : wc.frozen? ⟨h + 1, 0, none⟩ = false) (f1 : wc.frozen? ⟨h + 1, 1, none⟩ = false) :
    w1.cell? ⟨h, 0, none⟩ = some v0 ∧ w1.cell? ⟨h, 1, none⟩ = some v1 ∧ w1.cell? ⟨h, 2, none⟩ = some v2 ∧ w1.cell? ⟨h, 3, none⟩ = some v3 ∧
    w1.cell? ⟨h + 1, 0, none⟩ = some r0 ∧ w1.cell? ⟨h + 1, 1, none⟩ = some r1 ∧ w1.frozen? ⟨h + 1, 0, none⟩ = false ∧ w1.frozen? ⟨h + 1, 1, none⟩ = false ∧ h + 2 ≤ w1.heap.size := by
  refine ⟨(hb.cell (p := ⟨h, 0, none⟩) (by show h < _; omega)).trans c0, (hb.cell (p := ⟨h, 1, none⟩) (by show h < _; omega)).trans c1, (hb.cell (p := ⟨h, 2, none⟩) (by show h < _; omega)).trans c2, (hb.cell (p := ⟨h, 3, none⟩) (by show h < _; omega)).trans c3,
    (hb.cell (p := ⟨h + 1, 0, none⟩) (by show h + 1 < _; omega)).trans d0, (hb.cell (p := ⟨h + 1, 1, none⟩) (by show h + 1 < _; omega)).trans d1, (hb.frozen (p := ⟨h + 1, 0, none⟩) (by show h + 1 < _; omega)).trans f0, (hb.frozen (p := ⟨h + 1, 1, none⟩) (by show h + 1 < _; omega)).trans f1, by have := hb.size; omega⟩

set_option maxHeartbeats 1000000 in
theorem dnearest_any (B R : Bool) (b off n cap : Nat) (x : Int) (D : Nat → Nat) (w : World) (hD : DS w b off n D) (hcap : n ≤ cap) (hn : n ≤ 100) (hx1 : -200 ≤ x) (hx2 : x ≤ 100) :
    Calls Tryz.prog 12 #[.agg #[.bool B, .slice (some ⟨b, off, none⟩) n cap, .int .i64 x, .bool R]] w fun e w' => e = .returned (.tuple #[.agg #[.int .i64 (Dm.fC (Dm.sg B (Dm.nQ (Dm.val D n) x R)) (Dm.nE (Dm.val D n) x)), .int .i64 (Dm.fE (Dm.sg B (Dm.nQ (Dm.val D n) x R)) (Dm.nE (Dm.val D n) x))], .int .i64 (Dm.fR (Dm.sg B (Dm.nQ (Dm.val D n) x R)) (Dm.nE (Dm.val D n) x))]) ∧ Below w.heap.size w w' := by
  have hblk := hD.blk
  have hbw := ((Below.refl w.heap.size w).alloc (Nat.le_refl _) (.cells #[.bool B, .slice (some ⟨b, off, none⟩) n cap, .int .i64 x, .bool R] 38)).alloc (by simp) (.cells #[.int .i64 0, .int .i64 0] 23)
  have hbw' := hide hbw
  have hD2 := hide (hD.below hbw)
  clear hbw
  go_enter Tryz.func12, Tryz.ntmps12
  go_upto_region 1 with fail
  go_cut [] from 5 (fun wc => NearRel B R b n cap x D w wc)
  case first =>
    go_region_with (go_at_call 27; refine (noughts_any b off n cap D _ ?_).mono ?_; exact (unhide hD2).below (Below.refl _ _).drew; rintro e w1 ⟨z, rfl, hz, hz0, hz1, rfl⟩)
    all_goals
      generalize hao : (if cap = z then some ({ block := b, off := off } : Addr) else some { block := b, off := off + z }) = ao
      have Hao := hide hao
      clear hao
      go_wp2_with fail
      go_meet
      case rel => exact near_rel hD hz hcap hz0 hz1 (unhide Hao)
  case rest =>
    obtain ⟨z, off', H, c0, c1, c2, c3, d0, d1, f0, f1, hsz, hbel⟩ := hcut
    have hz := (unhide H).1
    go_upto_region 3 with fail
    generalize hy : (if -40 < x + ((n - z : Nat) : Int) - 18 then x + ((n - z : Nat) : Int) - 18 else -40) = y
    obtain ⟨q, hq⟩ : ∃ q, q = Dm.sc (Dm.val (fun j => D (z + j)) (n - z)) (x - y) R := ⟨_, rfl⟩
    obtain ⟨y1, y2, y3, hq2, ey, eq⟩ := Dm.near_facts hD.dig R hn hx1 hx2 hz (unhide H).2.1 (unhide H).2.2.1 hy hq
    have WC := hide (fun wx (h : DS wx b off' (n - z) (fun j => D (z + j))) => wholeAt_any B R b off' (n - z) (cap - z) x y _ wx h (by omega) (by omega) (by omega) (by omega) (by omega) y3)
    rw [← hq] at WC
    have EQ := hide eq
    have EY := hide ey
    clear hy hq ey eq y3
    go_region_with (first
      | (go_at_call 29; refine (unhide WC _ ?_).mono ?_; exact (unhide H).2.2.2.below (Below.refl _ _).drew; rintro e w1 ⟨rfl, hb1⟩; obtain ⟨c0', c1', c2', c3', d0', d1', f0', f1', hsz'⟩ := cells_below hb1 hsz c0 c1 c2 c3 d0 d1 f0 f1)
      | (go_at_call 28; refine (number_any B R _ x ⟨_, _, _, rfl⟩ q y _ hq2 y1 y2).mono ?_; rintro e w2 ⟨rfl, hb2⟩; obtain ⟨c0'', c1'', c2'', c3'', d0'', d1'', f0'', f1'', hsz''⟩ := cells_below0 hb2 hsz' c0' c1' c2' c3' d0' d1' f0' f1'))
    all_goals
      go_wp2
      refine bodyPost_ret (v := .tuple #[.agg #[.int .i64 (Dm.fC (Dm.sg B q) y), .int .i64 (Dm.fE (Dm.sg B q) y)], .int .i64 (Dm.fR (Dm.sg B q) y)]) (by simp [results, Tryz.results12, go_sem, d0'', d1'']) rfl ⟨?_, ?_⟩
      · rw [unhide EQ, unhide EY]
      · have e1 : Below w.heap.size w w1 := (hbel.drew).trans (hb1.mono (by simp; omega))
        have e2 : Below w.heap.size w w2 := e1.trans (hb2.mono (by omega))
        exact (e2.setCell (by simp) _).setCell (by simp) _
end Go.Proofs.YtibkemolmpcdcaaGreatDoor

/- Plain facts on cutting digits off, and on what is rounded: no Go in sight. -/
namespace Dm

/-- k digits cut off, towards 0 -/
def tq (c : Int) : Nat → Int
  | 0 => c
  | k + 1 => (tq c k).tdiv 10
theorem tdiv10 (c : Int) : (0 ≤ c → c.tdiv 10 = c / 10) ∧ (c ≤ 0 → c.tdiv 10 = -((-c) / 10)) := by
  refine ⟨fun h => Int.tdiv_eq_ediv_of_nonneg h, fun h => ?_⟩
  have e := Int.neg_tdiv (a := -c) (b := 10)
  rw [Int.neg_neg] at e
  rw [e, Int.tdiv_eq_ediv_of_nonneg (by omega)]
theorem tq_spec (c : Int) : ∀ k, (0 ≤ c → 0 ≤ tq c k ∧ tens (tq c k) k ≤ c ∧ c < tens (tq c k + 1) k) ∧ (c ≤ 0 → tq c k ≤ 0 ∧ c ≤ tens (tq c k) k ∧ tens (tq c k - 1) k < c)
  | 0 => by simp only [tq, tens]; omega
  | k + 1 => by
    obtain ⟨a, b⟩ := tq_spec c k
    obtain ⟨p, q⟩ := tdiv10 (tq c k)
    have t1 : ∀ v : Int, tens v (k + 1) = tens (v * 10) k := by intro v; rw [show k + 1 = 1 + k by omega, ← tens_add]; rfl
    have m := @tens_le_tens
    refine ⟨fun h => ?_, fun h => ?_⟩
    · obtain ⟨a1, a2, a3⟩ := a h
      rw [tq, p a1, t1, t1]
      have l1 := @tens_le_tens (tq c k / 10 * 10) (tq c k) (by omega) k
      have l2 := @tens_le_tens (tq c k + 1) ((tq c k / 10 + 1) * 10) (by omega) k
      omega
    · obtain ⟨b1, b2, b3⟩ := b h
      rw [tq, q b1, t1, t1]
      have l1 := @tens_le_tens (tq c k) (-(-tq c k / 10) * 10) (by omega) k
      have l2 := @tens_le_tens ((-(-tq c k / 10) - 1) * 10) (tq c k - 1) (by omega) k
      omega
theorem tq_bd {c : Int} (h1 : -1000000000000000000 < c) (h2 : c < 1000000000000000000) (k : Nat) : -1000000000000000000 < tq c k ∧ tq c k < 1000000000000000000 := by
  induction k with
  | zero => exact ⟨h1, h2⟩
  | succ k ih =>
    obtain ⟨p, q⟩ := tdiv10 (tq c k)
    rw [tq]
    rcases Int.le_total 0 (tq c k) with g | g
    · rw [p g]; omega
    · rw [q g]; omega

def flW (c : Int) (k : Nat) : Int := if c < 0 then tq c k - 1 else tq c k
def ceW (c : Int) (k : Nat) : Int := if 0 < c then tq c k + 1 else tq c k

theorem fl_spec {c : Int} (h0 : c ≠ 0) (k : Nat) : ceW c k = flW c k + 1 ∧ tens (flW c k) k ≤ c ∧ c ≤ tens (ceW c k) k := by
  obtain ⟨a, b⟩ := tq_spec c k
  rcases Int.lt_trichotomy c 0 with g | g | g
  · obtain ⟨b1, b2, b3⟩ := b (by omega)
    have e1 : flW c k = tq c k - 1 := by unfold flW; rw [if_pos g]
    have e2 : ceW c k = tq c k := by unfold ceW; rw [if_neg (by omega)]
    rw [e1, e2]
    refine ⟨by omega, by omega, b2⟩
  · exact absurd g h0
  · obtain ⟨a1, a2, a3⟩ := a (by omega)
    have e1 : flW c k = tq c k := by unfold flW; rw [if_neg (by omega)]
    have e2 : ceW c k = tq c k + 1 := by unfold ceW; rw [if_pos g]
    rw [e1, e2]
    refine ⟨by omega, a2, by omega⟩
theorem fl_bd {c : Int} (h1 : -1000000000000000000 < c) (h2 : c < 1000000000000000000) (k : Nat) : (-1000000000000000000 ≤ flW c k ∧ flW c k < 1000000000000000000) ∧ (-1000000000000000000 < ceW c k ∧ ceW c k ≤ 1000000000000000000) := by
  have t := tq_bd h1 h2 k
  unfold flW ceW
  split <;> split <;> omega

theorem tz_le {c : Int} (hc : c ≠ 0) (hl : (c.natAbs : Int) ≤ 1000000000000000000) : tz c ≤ 18 := by
  obtain ⟨a, b⟩ := tz_of hc hl
  rcases Nat.lt_or_ge 18 (tz c) with g | g
  · exfalso
    have t0 : tc c ≠ 0 := by intro z; rw [z] at b; exact b rfl
    have m := tens_mono (n := 1) (by omega) (show 19 ≤ tz c by omega)
    rw [tens_1_19] at m
    rcases Int.lt_trichotomy (tc c) 0 with q | q | q
    · have u := tens_le (n := -(tc c)) (by omega) (tz c)
      rw [tens_neg] at u
      omega
    · exact t0 q
    · have u := tens_le (n := tc c) (by omega) (tz c)
      omega
  · exact g

/-- what is told of a whole number that is not too great -/
theorem whole_told {w : Int} (h1 : -1000000000000000000 ≤ w) (h2 : w ≤ 1000000000000000000) :
    fR w 0 = 0 ∧ wrongN (fC w 0) (fE w 0) = 0 ∧ V (fC w 0) (fE w 0) = tens w 40 ∧ 0 ≤ fE w 0 ∧ fE w 0 ≤ 18 ∧ tens (fC w 0) (fE w 0).toNat = w := by
  by_cases h0 : w = 0
  · subst h0
    refine ⟨rfl, by decide, by decide, by decide, by decide, by decide⟩
  · obtain ⟨a, b⟩ := tz_of h0 (by omega)
    have t := tz_le h0 (by omega)
    have g : ¬ (40 : Int) < 0 + (tz w : Int) := by omega
    have eC : fC w 0 = tc w := by unfold fC; rw [if_neg h0, if_neg g]
    have eE : fE w 0 = (tz w : Int) := by unfold fE; rw [if_neg h0, if_neg g]; omega
    have eR : fR w 0 = 0 := by unfold fR; rw [if_neg h0, if_neg g]
    have bnd : -1000000000000000000 < tc w ∧ tc w < 1000000000000000000 := by
      by_cases hz : tz w = 0
      · rw [hz] at a
        have a' : w = tc w := a
        have : tc w ≠ 1000000000000000000 := by intro q; rw [q] at b; exact b (by decide)
        have : tc w ≠ -1000000000000000000 := by intro q; rw [q] at b; exact b (by decide)
        omega
      · have m := tens_mono (n := 1) (by omega) (show 1 ≤ tz w by omega)
        have e1 : tens 1 1 = 10 := by decide
        obtain ⟨k, hk⟩ : ∃ k, tz w = k + 1 := ⟨tz w - 1, by omega⟩
        rw [hk] at a
        have p := @tens_pos
        rcases Int.lt_trichotomy (tc w) 0 with q | q | q
        · have u := tens_mono (n := -(tc w)) (by omega) (show 1 ≤ k + 1 by omega)
          rw [tens_neg (tc w) (k + 1), ← a] at u
          have : tens (-tc w) 1 = -tc w * 10 := rfl
          omega
        · rw [q] at b; exact absurd rfl b
        · have u := tens_mono (n := tc w) (by omega) (show 1 ≤ k + 1 by omega)
          rw [← a] at u
          have : tens (tc w) 1 = tc w * 10 := rfl
          omega
    refine ⟨eR, ?_, ?_, by omega, by omega, ?_⟩
    · rw [eC, eE]
      unfold wrongN
      rw [if_neg (by omega), if_neg (fun q => b q.1)]
    · rw [eC, eE]
      unfold V
      rw [show ((tz w : Int) + 40).toNat = tz w + 40 by omega, ← tens_add, ← a]
    · rw [eC, eE, Int.toNat_natCast, ← a]

theorem tens_one {S : Int} {k : Nat} (h : tens S k = 1) : S = 1 ∧ k = 0 := by
  cases k with
  | zero => exact ⟨h, rfl⟩
  | succ k => rw [tens] at h; omega

/-- the one between a number's two neighbours -/
theorem one_between {f g : Int} (hf1 : -1000000000000000000 ≤ f) (hf2 : f ≤ 1000000000000000000) (hg1 : -1000000000000000000 ≤ g) (hg2 : g ≤ 1000000000000000000) (h : g = f + 1) :
    addS (fC g 0) (fE g 0) (-(fC f 0)) (fE f 0) = 1 ∧ min (fE g 0) (fE f 0) = 0 := by
  obtain ⟨_, _, _, f3, f4, f5⟩ := whole_told hf1 hf2
  obtain ⟨_, _, _, g3, g4, g5⟩ := whole_told hg1 hg2
  have e : tens (addS (fC g 0) (fE g 0) (-(fC f 0)) (fE f 0)) (min (fE g 0) (fE f 0)).toNat = 1 := by
    unfold addS
    rw [tens_eq, Int.add_mul, ← tens_eq, ← tens_eq, tens_add, tens_add]
    rw [show (fE g 0 - min (fE g 0) (fE f 0)).toNat + (min (fE g 0) (fE f 0)).toNat = (fE g 0).toNat by omega, show (fE f 0 - min (fE g 0) (fE f 0)).toNat + (min (fE g 0) (fE f 0)).toNat = (fE f 0).toNat by omega, g5, tens_neg, f5]
    omega
  obtain ⟨a, b⟩ := tens_one e
  exact ⟨a, by omega⟩

/-- what is rounded to a multiple of 10^y, of fewer than eighteen digits -/
theorem round_told {C y : Int} (h1 : -1000000000000000000 ≤ C) (h2 : C ≤ 1000000000000000000) (hy1 : -40 ≤ y) (hr : fR C y = 0) :
    wrongN (fC C y) (fE C y) = 0 ∧ (fC C y ≠ 0 → y ≤ fE C y) ∧ (fC C y = 0 → fE C y = 0) := by
  by_cases h0 : C = 0
  · subst h0
    refine ⟨by simp [fC, fE]; decide, by simp [fC], by simp [fE]⟩
  · obtain ⟨a, b⟩ := tz_of h0 (by omega)
    have g : ¬ (40 : Int) < y + (tz C : Int) := by
      intro q
      unfold fR at hr
      rw [if_neg h0, if_pos q] at hr
      omega
    have eC : fC C y = tc C := by unfold fC; rw [if_neg h0, if_neg g]
    have eE : fE C y = y + (tz C : Int) := by unfold fE; rw [if_neg h0, if_neg g]
    have w := (whole_told h1 h2).2.1
    have g0 : ¬ (40 : Int) < 0 + (tz C : Int) := by have := tz_le h0 (by omega); omega
    have eC0 : fC C 0 = tc C := by unfold fC; rw [if_neg h0, if_neg g0]
    have eE0 : fE C 0 = (tz C : Int) := by unfold fE; rw [if_neg h0, if_neg g0]; omega
    rw [eC0, eE0] at w
    obtain ⟨w1, w2, _, _, _⟩ := wrong_ok w
    rw [eC, eE]
    refine ⟨?_, fun _ => by omega, fun q => ?_⟩
    · unfold wrongN
      rw [if_neg (by omega), if_neg (fun q => b q.1)]
    · rw [q] at b; exact absurd rfl b
end Dm

/- Plain facts: what can be told exactly is. No Go in sight. -/
namespace Dm

theorem has_len : ∀ (m n : Nat), 1 ≤ n → n < 10 ^ m → ∃ L, 1 ≤ L ∧ L ≤ m ∧ 10 ^ (L - 1) ≤ n ∧ n < 10 ^ L
  | 0, n, h, l => by simp at l; omega
  | m + 1, n, h, l => by
    by_cases g : n < 10 ^ m
    · obtain ⟨L, a, b, c, d⟩ := has_len m n h g
      exact ⟨L, a, by omega, c, d⟩
    · exact ⟨m + 1, by omega, Nat.le_refl _, by simpa using g, l⟩
theorem nd_tens {n L j : Nat} (h1 : 1 ≤ L) (h2 : L + j ≤ 200) (h3 : 10 ^ (L - 1) ≤ n) (h4 : n < 10 ^ L) : nd (n * 10 ^ j) = L + j := by
  refine nd_at h2 ?_ (.inr ?_)
  · rw [Nat.pow_add]; exact Nat.mul_lt_mul_of_pos_right h4 (p10_pos j)
  · rw [show L + j - 1 = L - 1 + j by omega, Nat.pow_add]; exact Nat.mul_le_mul_right _ h3
theorem rnd_exact (m k : Nat) (R : Bool) (hR : R = false) : rnd (m * 10 ^ k) (10 ^ k) R = m := by
  subst hR
  have p := p10_pos k
  unfold rnd up
  rw [Nat.mul_mod_left, Nat.mul_div_cancel _ p, if_neg]
  simp
  omega
/-- what comes of a number with noughts at its end: the number times a power of ten -/
theorem sc_exact {n j k : Nat} {s : Int} (h : (j : Int) + s = (k : Int)) : sc (n * 10 ^ j) s false = n * 10 ^ k := by
  unfold sc
  by_cases g : 0 ≤ s
  · rw [if_pos g, Nat.mul_assoc, ← Nat.pow_add]
    congr 2
    omega
  · rw [if_neg g, show j = k + (-s).toNat by omega, Nat.pow_add, ← Nat.mul_assoc]
    exact rnd_exact _ _ _ rfl
theorem sg_tens {c : Int} (k : Nat) {S : Int} (j : Nat) (hS : S = tens c j) : sg (decide (S < 0)) (c.natAbs * 10 ^ k) = tens c k := by
  have a := tens_abs c k
  have b := tens_abs c j
  have p := p10_pos j
  unfold sg
  rcases Int.lt_trichotomy c 0 with g | g | g
  · have : S < 0 := by
      rw [hS, b.1 g]
      have := Nat.mul_pos (show 0 < c.natAbs by omega) p
      omega
    rw [decide_eq_true this, if_pos rfl, a.1 g]
  · subst g
    rw [a.2 (by omega)]
    simp
  · have : ¬ S < 0 := by rw [hS, b.2 (by omega)]; omega
    rw [decide_eq_false this, if_neg (by decide), a.2 (by omega)]

/-- what can be told exactly is -/
theorem exact_told {c x S : Int} {j : Nat} (h : wrongN c x = 0) (hj : j ≤ 100) (hS : S = tens c j) :
    fC (nearZ S (x - j) false) (nE S.natAbs (x - j)) = c ∧ fE (nearZ S (x - j) false) (nE S.natAbs (x - j)) = x ∧ fR (nearZ S (x - j) false) (nE S.natAbs (x - j)) = 0 := by
  obtain ⟨p1, p2, p3, p4, p5⟩ := wrong_ok h
  by_cases h0 : c = 0
  · have hx : x = 0 := (p5 (by rw [h0]; rfl)).2
    subst h0
    rw [tens_zero] at hS
    subst hS
    have e : nearZ 0 (x - j) false = 0 := by
      unfold nearZ
      rw [show Int.natAbs 0 = 0 by rfl, nQ_zero]
      rfl
    rw [e]
    subst hx
    simp [fC, fE, fR]
  · have hc : c.tmod 10 ≠ 0 := fun q => h0 (p5 q).1
    obtain ⟨L, l1, l2, l3, l4⟩ := has_len 18 c.natAbs (by omega) (by omega)
    have hN : S.natAbs = c.natAbs * 10 ^ j := by
      rcases Int.lt_trichotomy c 0 with g | g | g
      · rw [hS, (tens_abs c j).1 g]; omega
      · exact absurd g h0
      · rw [hS, (tens_abs c j).2 (by omega)]; omega
    have hE : nE S.natAbs (x - j) = max (-40) (x + L - 18) := by
      unfold nE
      rw [hN, nd_tens l1 (by omega) l3 l4]
      congr 1
      omega
    obtain ⟨k, hk⟩ : ∃ k : Nat, x - nE S.natAbs (x - j) = (k : Int) := ⟨(x - nE S.natAbs (x - j)).toNat, by rw [hE]; omega⟩
    have hkl : k + L ≤ 18 := by rw [hE] at hk; omega
    have hq : nQ S.natAbs (x - j) false = c.natAbs * 10 ^ k := by
      unfold nQ
      rw [hN] at hk ⊢
      exact sc_exact (by omega)
    have hZ : nearZ S (x - j) false = tens c k := by
      unfold nearZ
      rw [hq]
      exact sg_tens k j hS
    have hb : c.natAbs * 10 ^ k < 10 ^ 18 := by
      have a : c.natAbs * 10 ^ k < 10 ^ L * 10 ^ k := Nat.mul_lt_mul_of_pos_right l4 (p10_pos k)
      have b : 10 ^ L * 10 ^ k ≤ 10 ^ 18 := by rw [← Nat.pow_add]; exact Nat.pow_le_pow_right (by decide) (by omega)
      omega
    have hab : ((tens c k).natAbs : Int) ≤ 1000000000000000000 := by
      rcases Int.lt_trichotomy c 0 with g | g | g
      · rw [(tens_abs c k).1 g]; omega
      · exact absurd g h0
      · rw [(tens_abs c k).2 (by omega)]; omega
    obtain ⟨t1, t2⟩ := tz_at (c := tens c k) rfl hc hab
    have hne : tens c k ≠ 0 := by
      have p := p10_pos k
      have := Nat.mul_pos (show 0 < c.natAbs by omega) p
      rcases Int.lt_trichotomy c 0 with g | g | g
      · rw [(tens_abs c k).1 g]; omega
      · exact absurd g h0
      · rw [(tens_abs c k).2 (by omega)]; omega
    rw [hZ]
    unfold fC fE fR
    rw [if_neg hne, if_neg hne, if_neg hne, t1, t2]
    have g : ¬ 40 < nE S.natAbs (x - j) + (k : Int) := by omega
    rw [if_neg g, if_neg g, if_neg g]
    exact ⟨rfl, by omega, rfl⟩
end Dm

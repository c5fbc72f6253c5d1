/- Walks: strings.CutPrefix at a minus, strings.Cut at a point. -/
import Derived.Test.YtjjioikgligaoaaDoorE1
import Derived.Test.YtjjioikgligaoaaDoorSh1
import Derived.Shelf.RegionOpenPlain
import Derived.BigCall
import Derived.BigGuard
namespace Go.Proofs.YtjjioikgligaoaaDoor
open Go.RowKit

theorem cutPrefix_any (s p : ByteArray) (w : World) :
    Calls Tryd.prog 33 #[.string s, .string p] w fun e w' => e = .returned (.tuple #[.string ⟨(Lib.trimPrefix s.data.toList p.data.toList).toArray⟩, .bool (Lib.hasPrefix s.data.toList p.data.toList)]) ∧ w' = w :=
  Any.strings_CutPrefix Tryd.lays103 s p w
theorem index1_any (s : ByteArray) (c : UInt8) (w : World) :
    Calls Tryd.prog 52 #[.string s, .string ⟨#[c]⟩] w fun e w' => e = .returned (.int .i64 (Lib.indexByte s.data.toList c)) ∧ w' = w :=
  Any.stringslite_Index_one Tryd.lays219 s c w

/-- what stands ahead of the first c, what behind it, and whether there is one -/
def cut1 (l : List UInt8) (c : UInt8) : List UInt8 × List UInt8 × Bool :=
  if 0 ≤ Lib.indexByte l c then (l.take (Lib.indexByte l c).toNat, l.drop ((Lib.indexByte l c).toNat + 1), true) else (l, [], false)
theorem indexByte_bd : ∀ (l : List UInt8) (c : UInt8), -1 ≤ Lib.indexByte l c ∧ Lib.indexByte l c < l.length
  | [], c => by simp [Lib.indexByte]
  | b :: l, c => by
    have h := indexByte_bd l c
    rw [Lib.indexByte]
    split
    · simp <;> omega
    · split
      · simp <;> omega
      · simp only [List.length_cons]; omega
theorem cut1_hit {l : List UInt8} {c : UInt8} {i : Nat} (h : Lib.indexByte l c = (i : Int)) : cut1 l c = (l.take i, l.drop (i + 1), true) := by
  unfold cut1; rw [h, if_pos (by omega)]; simp
theorem cut1_miss {l : List UInt8} {c : UInt8} (h : ¬ 0 ≤ Lib.indexByte l c) : cut1 l c = (l, [], false) := by
  unfold cut1; rw [if_neg h]
theorem ext_take (s : ByteArray) (i : Nat) : s.extract 0 i = ⟨(s.data.toList.take i).toArray⟩ := by
  rw [Lib.extract_eq]; simp
theorem ext_drop (s : ByteArray) (i : Nat) : s.extract i s.size = ⟨(s.data.toList.drop i).toArray⟩ := by
  rw [Lib.extract_eq, List.take_of_length_le (by rw [List.length_drop, ← Lib.size_eq]; exact Nat.le_refl _)]

set_option maxHeartbeats 1000000 in
theorem cutIn_any (s : ByteArray) (c : UInt8) (w : World) (hs : s.size ≤ 9223372036854775000) :
    Calls Tryd.prog 46 #[.string s, .string ⟨#[c]⟩] w fun e w' => e = .returned (.tuple #[.string ⟨(cut1 s.data.toList c).1.toArray⟩, .string ⟨(cut1 s.data.toList c).2.1.toArray⟩, .bool (cut1 s.data.toList c).2.2]) ∧ Below w.heap.size w w' := by
  have hb := indexByte_bd s.data.toList c
  rw [← Lib.size_eq] at hb
  have C := fun wx => index1_any s c wx
  by_cases h : 0 ≤ Lib.indexByte s.data.toList c
  · obtain ⟨i, hi⟩ : ∃ i : Nat, Lib.indexByte s.data.toList c = (i : Int) := ⟨(Lib.indexByte s.data.toList c).toNat, by omega⟩
    rw [cut1_hit hi]
    rw [hi] at C hb
    replace C := hide C
    have E1 := hide (ext_take s i)
    have E2 := hide (ext_drop s (i + 1))
    have c2 : (i : Int) ≤ (s.size : Int) := by omega
    have c4 : (i : Int) + 1 ≤ (s.size : Int) := by omega
    have c1 : (0 : Int) ≤ (i : Int) := by omega
    have c3 : (0 : Int) ≤ (i : Int) + 1 := by omega
    clear h hi hb
    go_enter Tryd.func46, Tryd.ntmps46
    go_wp2_with (go_at_call 52; refine (unhide C _).mono ?_; rintro e w' ⟨rfl, rfl⟩)
    go_region
    go_wp2
    go_ret3
    refine ⟨?_, (Below.refl _ _).drew⟩
    rw [← unhide E1, ← unhide E2]
    rfl
  · have hm : Lib.indexByte s.data.toList c = -1 := by omega
    rw [cut1_miss h]
    rw [hm] at C
    replace C := hide C
    clear h hm hb
    go_enter Tryd.func46, Tryd.ntmps46
    go_wp2_with (go_at_call 52; refine (unhide C _).mono ?_; rintro e w' ⟨rfl, rfl⟩)
    go_ret3
    refine ⟨?_, Below.refl _ _⟩
    rw [Lib.mk_data s]
    rfl

set_option maxHeartbeats 1000000 in
theorem cut_any (s : ByteArray) (c : UInt8) (w : World) (hs : s.size ≤ 9223372036854775000) :
    Calls Tryd.prog 40 #[.string s, .string ⟨#[c]⟩] w fun e w' => e = .returned (.tuple #[.string ⟨(cut1 s.data.toList c).1.toArray⟩, .string ⟨(cut1 s.data.toList c).2.1.toArray⟩, .bool (cut1 s.data.toList c).2.2]) ∧ Below w.heap.size w w' := by
  have C := hide (fun wx => cutIn_any s c wx hs)
  generalize cut1 s.data.toList c = q at *
  go_enter Tryd.func40, Tryd.ntmps40
  go_wp2_with (go_at_call 46; refine (unhide C _).mono ?_; rintro e w' ⟨rfl, hb⟩)
  go_ret3
  exact ⟨rfl, hb⟩
end Go.Proofs.YtjjioikgligaoaaDoor

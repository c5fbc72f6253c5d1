/- Walks: isDigit, isBlank, unescaped, the closures that only look, lead over them. -/
import Derived.Test.YtnegjbkbfgkkjaaGreatDoorG24
import Derived.Test.YtnegjbkbfgkkjaaGreatDoorG25
import Derived.Lib.OthersKept
import Derived.Lib.MapLaws
import Derived.Lib.ValidLaws
import Derived.Lib.TrimUEq
import Derived.Laws.RangeAny
import Derived.Shelf.Unicode.PredsPay
import Derived.OneCell
namespace Go.Proofs.YtnegjbkbfgkkjaaGreatDoor
open Go.RowKit

def isDgR (r : Int) : Bool := decide (48 ≤ r) && decide (r ≤ 57)
def isBl (b : Nat) : Bool := b == 32 || b == 9 || b == 10

set_option maxHeartbeats 400000 in
theorem isDigit_any (r : Int) (w : World) :
    Calls Tryz.prog 125 #[.int .i32 r] w fun e w' => e = .returned (.bool (isDgR r)) ∧ w' = w := by
  by_cases h1 : 48 ≤ r
  · by_cases h2 : r ≤ 57
    · have E : Hid (isDgR r = true) := hide (by simp [isDgR, h1, h2])
      go_enter Tryz.func125, Tryz.ntmps125
      go_wp2
      go_ret
      exact ⟨by rw [unhide E]; rfl, rfl⟩
    · have E : Hid (isDgR r = false) := hide (by simp [isDgR, h2])
      go_enter Tryz.func125, Tryz.ntmps125
      go_wp2
      go_ret
      exact ⟨by rw [unhide E]; rfl, rfl⟩
  · have E : Hid (isDgR r = false) := hide (by simp [isDgR, h1])
    go_enter Tryz.func125, Tryz.ntmps125
    go_wp2
    go_ret
    exact ⟨by rw [unhide E]; rfl, rfl⟩

set_option maxHeartbeats 400000 in
theorem isBlank_any (b : UInt8) (w : World) :
    Calls Tryz.prog 74 #[.int .u8 (b.toNat : Int)] w fun e w' => e = .returned (.bool (isBl b.toNat)) ∧ w' = w := by
  generalize b.toNat = n
  have a : ∀ k : Nat, ((n : Int) == (k : Int)) = (n == k) := fun k => by
    rw [Bool.eq_iff_iff]; simp; omega
  have a1 : ((n : Int) == 32) = (n == 32) := a 32
  have a2 : ((n : Int) == 9) = (n == 9) := a 9
  have a3 : ((n : Int) == 10) = (n == 10) := a 10
  have E : Hid (isBl n = (n == 32 || n == 9 || n == 10)) := hide rfl
  cases h1 : (n == 32)
  · cases h2 : (n == 9)
    · cases h3 : (n == 10)
      all_goals
        rw [h1] at a1
        rw [h2] at a2
        rw [h3] at a3
        rw [h1, h2, h3] at E
        clear a h1 h2 h3
        go_enter Tryz.func74, Tryz.ntmps74
        go_wp2
        go_ret
        exact ⟨by rw [unhide E]; rfl, rfl⟩
    · rw [h1] at a1
      rw [h2] at a2
      rw [h1, h2] at E
      clear a h1 h2 a3
      go_enter Tryz.func74, Tryz.ntmps74
      go_wp2
      go_ret
      exact ⟨by rw [unhide E]; rfl, rfl⟩
  · rw [h1] at a1
    rw [h1] at E
    clear a h1 a2 a3
    go_enter Tryz.func74, Tryz.ntmps74
    go_wp2
    go_ret
    exact ⟨by rw [unhide E]; rfl, rfl⟩

/-- how far the runes go of which G says yes -/
def leadL (G : Nat → Nat → Bool) : Nat → Nat → List UInt8 → Nat
  | 0, pos, _ => pos
  | f + 1, pos, l => if l = [] then pos else if G pos (Lib.decodeL l).1 = true then leadL G f (pos + (Lib.decodeL l).2) (l.drop (Lib.decodeL l).2) else pos
theorem leadL_nil (G : Nat → Nat → Bool) (f pos : Nat) : leadL G f pos [] = pos := by cases f <;> simp [leadL]
theorem leadL_go {G : Nat → Nat → Bool} {f pos : Nat} {l : List UInt8} (h : l ≠ []) (g : G pos (Lib.decodeL l).1 = true) : leadL G (f + 1) pos l = leadL G f (pos + (Lib.decodeL l).2) (l.drop (Lib.decodeL l).2) := by rw [leadL, if_neg h, if_pos g]
theorem leadL_stop {G : Nat → Nat → Bool} {f pos : Nat} {l : List UInt8} (h : l ≠ []) (g : G pos (Lib.decodeL l).1 = false) : leadL G (f + 1) pos l = pos := by rw [leadL, if_neg h, if_neg (by rw [g]; decide)]
theorem drop_ne {s : ByteArray} {pos : Nat} (h : pos < s.size) : s.data.toList.drop pos ≠ [] := by
  intro e; have := congrArg List.length e; rw [List.length_drop, ← Lib.size_eq] at this; simp at this; omega
theorem dec_le (s : ByteArray) (pos : Nat) (h : pos < s.size) : pos + (Utf8.decode s pos).2 ≤ s.size := by
  have := Lib.decodeL_le _ (drop_ne h)
  rw [Lib.decodeL_drop, List.length_drop, ← Lib.size_eq] at this
  omega

set_option maxHeartbeats 1000000 in
theorem lead_digits (s : ByteArray) (G : Nat → Nat → Bool) (w : World) (hs : s.size ≤ 4000)
    (hG : ∀ (W : World) (pos r : Nat), Below w.heap.size w W → pos < s.size → r ≤ 1114111 → Calls Tryz.prog 124 #[.int .i64 (pos : Int), .int .i32 (r : Int)] W fun e w' => e = .returned (.bool (G pos r)) ∧ Below W.heap.size W w') :
    Calls Tryz.prog 90 #[.string s, .func (.func 124) #[] #[]] w fun e w' => e = .returned (.int .i64 (leadL G s.size 0 s.data.toList : Nat)) ∧ Below w.heap.size w w' := by
  have HG := hide hG
  clear hG
  go_enter Tryz.func90, Tryz.ntmps90
  go_wp2
  go_loopw [] (fun wr => ∃ (pos fuel : Nat), wr.heap[w.heap.size]? = some (.stringIter s pos) ∧ Below w.heap.size w wr ∧ pos ≤ s.size ∧ Hid (s.size ≤ pos + fuel ∧ leadL G fuel pos (s.data.toList.drop pos) = leadL G s.size 0 s.data.toList)) (fun wr => s.size - wr.iterPos w.heap.size)
  case atStart =>
    refine ⟨0, s.size, ?_, (Below.refl _ w).alloc (Nat.le_refl _) _, Nat.zero_le _, hide ⟨by omega, by simp⟩⟩
    simpa using World.iter_heap w s 0
  case round =>
    obtain ⟨pos, fuel, hit, hbw, hps, HF⟩ := hrel
    have hsz : w.heap.size < wr.heap.size := (Array.getElem?_eq_some_iff.1 hit).1
    by_cases hp : pos < s.size
    · have hnx : ∀ ty, (Instr.next (.pointer (some ⟨w.heap.size, 0, none⟩)) true ty).run Tryz.prog wr = _ := fun ty => Lib.run_next_any_at wr w.heap.size s pos ty hit hp
      have hd := Lib.decodeL_drop s pos
      have hw1 := Lib.width_pos s pos
      have hrl := Lib.rune_le s pos
      have hle := dec_le s pos hp
      generalize Utf8.decode s pos = q at hnx hd hw1 hrl hle
      obtain ⟨r, wd⟩ := q
      simp only at hw1 hrl hle
      have hit2 := Lib.iterAt_heap wr w.heap.size s pos (pos + wd) hit
      have hbw2 := Lib.below_iterAt hbw (k := w.heap.size) (by omega) s (pos + wd)
      have hsz2 : w.heap.size < (wr.iterAt w.heap.size s (pos + wd)).heap.size := by rw [Lib.iterAt_size]; omega
      have C := hide (unhide HG (wr.iterAt w.heap.size s (pos + wd)) pos r hbw2 hp hrl)
      obtain ⟨f, rfl⟩ : ∃ f, fuel = f + 1 := ⟨fuel - 1, by have := (unhide HF).1; omega⟩
      have hpI : (pos : Int) ≤ 4000 := by omega
      cases g : G pos r
      · have E : Hid (leadL G s.size 0 s.data.toList = pos) := by
          rw [← (unhide HF).2, leadL_stop (drop_ne hp) (by rw [hd]; exact g)]
          exact hide rfl
        rw [g] at C
        clear hd HF hbw g hit
        go_wp2_with (go_at_call 124; refine (unhide C).mono ?_; rintro e w1 ⟨rfl, hb⟩)
        go_ret
        exact ⟨by rw [unhide E]; rfl, hbw2.trans (hb.mono (by omega))⟩
      · have E : Hid (leadL G f (pos + wd) (s.data.toList.drop (pos + wd)) = leadL G s.size 0 s.data.toList) := by
          rw [← (unhide HF).2, leadL_go (drop_ne hp) (by rw [hd]; exact g), hd, List.drop_drop]
          exact hide rfl
        have F := hide (unhide HF).1
        rw [g] at C
        clear hd HF hbw g
        go_wp2_with (go_at_call 124; refine (unhide C).mono ?_; rintro e w1 ⟨rfl, hb⟩)
        have hit3 : w1.heap[w.heap.size]? = some (.stringIter s (pos + wd)) := (hb.block w.heap.size hsz2).trans hit2
        have hb3 := hbw2.trans (hb.mono (by omega))
        clear hb C
        go_roundw
        case rel => exact ⟨pos + wd, f, hit3, hb3, hle, hide ⟨by have := unhide F; omega, unhide E⟩⟩
        case measure =>
          simp only [World.iterPos, hit3, hit]
          omega
    · have hnx : ∀ ty, (Instr.next (.pointer (some ⟨w.heap.size, 0, none⟩)) true ty).run Tryz.prog wr = _ := fun ty => Lib.run_next_end_at wr w.heap.size s pos ty hit hp
      have E : Hid (leadL G s.size 0 s.data.toList = s.size) := by
        rw [← (unhide HF).2, List.drop_of_length_le (by rw [← Lib.size_eq]; omega), leadL_nil]
        exact hide (by omega)
      clear HF
      go_wp2
      go_ret
      exact ⟨by rw [unhide E]; rfl, hbw⟩

set_option maxHeartbeats 1000000 in
theorem lead_word (s : ByteArray) (G : Nat → Nat → Bool) (w : World) (hs : s.size ≤ 4000)
    (hG : ∀ (W : World) (pos r : Nat), Below w.heap.size w W → pos < s.size → r ≤ 1114111 → Calls Tryz.prog 128 #[.int .i64 (pos : Int), .int .i32 (r : Int)] W fun e w' => e = .returned (.bool (G pos r)) ∧ Below W.heap.size W w') :
    Calls Tryz.prog 90 #[.string s, .func (.func 128) #[] #[]] w fun e w' => e = .returned (.int .i64 (leadL G s.size 0 s.data.toList : Nat)) ∧ Below w.heap.size w w' := by
  have HG := hide hG
  clear hG
  go_enter Tryz.func90, Tryz.ntmps90
  go_wp2
  go_loopw [] (fun wr => ∃ (pos fuel : Nat), wr.heap[w.heap.size]? = some (.stringIter s pos) ∧ Below w.heap.size w wr ∧ pos ≤ s.size ∧ Hid (s.size ≤ pos + fuel ∧ leadL G fuel pos (s.data.toList.drop pos) = leadL G s.size 0 s.data.toList)) (fun wr => s.size - wr.iterPos w.heap.size)
  case atStart =>
    refine ⟨0, s.size, ?_, (Below.refl _ w).alloc (Nat.le_refl _) _, Nat.zero_le _, hide ⟨by omega, by simp⟩⟩
    simpa using World.iter_heap w s 0
  case round =>
    obtain ⟨pos, fuel, hit, hbw, hps, HF⟩ := hrel
    have hsz : w.heap.size < wr.heap.size := (Array.getElem?_eq_some_iff.1 hit).1
    by_cases hp : pos < s.size
    · have hnx : ∀ ty, (Instr.next (.pointer (some ⟨w.heap.size, 0, none⟩)) true ty).run Tryz.prog wr = _ := fun ty => Lib.run_next_any_at wr w.heap.size s pos ty hit hp
      have hd := Lib.decodeL_drop s pos
      have hw1 := Lib.width_pos s pos
      have hrl := Lib.rune_le s pos
      have hle := dec_le s pos hp
      generalize Utf8.decode s pos = q at hnx hd hw1 hrl hle
      obtain ⟨r, wd⟩ := q
      simp only at hw1 hrl hle
      have hit2 := Lib.iterAt_heap wr w.heap.size s pos (pos + wd) hit
      have hbw2 := Lib.below_iterAt hbw (k := w.heap.size) (by omega) s (pos + wd)
      have hsz2 : w.heap.size < (wr.iterAt w.heap.size s (pos + wd)).heap.size := by rw [Lib.iterAt_size]; omega
      have C := hide (unhide HG (wr.iterAt w.heap.size s (pos + wd)) pos r hbw2 hp hrl)
      obtain ⟨f, rfl⟩ : ∃ f, fuel = f + 1 := ⟨fuel - 1, by have := (unhide HF).1; omega⟩
      have hpI : (pos : Int) ≤ 4000 := by omega
      cases g : G pos r
      · have E : Hid (leadL G s.size 0 s.data.toList = pos) := by
          rw [← (unhide HF).2, leadL_stop (drop_ne hp) (by rw [hd]; exact g)]
          exact hide rfl
        rw [g] at C
        clear hd HF hbw g hit
        go_wp2_with (go_at_call 128; refine (unhide C).mono ?_; rintro e w1 ⟨rfl, hb⟩)
        go_ret
        exact ⟨by rw [unhide E]; rfl, hbw2.trans (hb.mono (by omega))⟩
      · have E : Hid (leadL G f (pos + wd) (s.data.toList.drop (pos + wd)) = leadL G s.size 0 s.data.toList) := by
          rw [← (unhide HF).2, leadL_go (drop_ne hp) (by rw [hd]; exact g), hd, List.drop_drop]
          exact hide rfl
        have F := hide (unhide HF).1
        rw [g] at C
        clear hd HF hbw g
        go_wp2_with (go_at_call 128; refine (unhide C).mono ?_; rintro e w1 ⟨rfl, hb⟩)
        have hit3 : w1.heap[w.heap.size]? = some (.stringIter s (pos + wd)) := (hb.block w.heap.size hsz2).trans hit2
        have hb3 := hbw2.trans (hb.mono (by omega))
        clear hb C
        go_roundw
        case rel => exact ⟨pos + wd, f, hit3, hb3, hle, hide ⟨by have := unhide F; omega, unhide E⟩⟩
        case measure =>
          simp only [World.iterPos, hit3, hit]
          omega
    · have hnx : ∀ ty, (Instr.next (.pointer (some ⟨w.heap.size, 0, none⟩)) true ty).run Tryz.prog wr = _ := fun ty => Lib.run_next_end_at wr w.heap.size s pos ty hit hp
      have E : Hid (leadL G s.size 0 s.data.toList = s.size) := by
        rw [← (unhide HF).2, List.drop_of_length_le (by rw [← Lib.size_eq]; omega), leadL_nil]
        exact hide (by omega)
      clear HF
      go_wp2
      go_ret
      exact ⟨by rw [unhide E]; rfl, hbw⟩

set_option maxHeartbeats 1000000 in
theorem lead_utf (s : ByteArray) (v : Value) (G : Nat → Nat → Bool) (w : World) (hs : s.size ≤ 4000)
    (hG : ∀ (W : World) (pos r : Nat), Below w.heap.size w W → pos < s.size → r ≤ 1114111 → Calls Tryz.prog 91 #[.int .i64 (pos : Int), .int .i32 (r : Int), v] W fun e w' => e = .returned (.bool (G pos r)) ∧ Below W.heap.size W w') :
    Calls Tryz.prog 90 #[.string s, .func (.func 91) #[] #[v]] w fun e w' => e = .returned (.int .i64 (leadL G s.size 0 s.data.toList : Nat)) ∧ Below w.heap.size w w' := by
  have HG := hide hG
  clear hG
  go_enter Tryz.func90, Tryz.ntmps90
  go_wp2
  go_loopw [] (fun wr => ∃ (pos fuel : Nat), wr.heap[w.heap.size]? = some (.stringIter s pos) ∧ Below w.heap.size w wr ∧ pos ≤ s.size ∧ Hid (s.size ≤ pos + fuel ∧ leadL G fuel pos (s.data.toList.drop pos) = leadL G s.size 0 s.data.toList)) (fun wr => s.size - wr.iterPos w.heap.size)
  case atStart =>
    refine ⟨0, s.size, ?_, (Below.refl _ w).alloc (Nat.le_refl _) _, Nat.zero_le _, hide ⟨by omega, by simp⟩⟩
    simpa using World.iter_heap w s 0
  case round =>
    obtain ⟨pos, fuel, hit, hbw, hps, HF⟩ := hrel
    have hsz : w.heap.size < wr.heap.size := (Array.getElem?_eq_some_iff.1 hit).1
    by_cases hp : pos < s.size
    · have hnx : ∀ ty, (Instr.next (.pointer (some ⟨w.heap.size, 0, none⟩)) true ty).run Tryz.prog wr = _ := fun ty => Lib.run_next_any_at wr w.heap.size s pos ty hit hp
      have hd := Lib.decodeL_drop s pos
      have hw1 := Lib.width_pos s pos
      have hrl := Lib.rune_le s pos
      have hle := dec_le s pos hp
      generalize Utf8.decode s pos = q at hnx hd hw1 hrl hle
      obtain ⟨r, wd⟩ := q
      simp only at hw1 hrl hle
      have hit2 := Lib.iterAt_heap wr w.heap.size s pos (pos + wd) hit
      have hbw2 := Lib.below_iterAt hbw (k := w.heap.size) (by omega) s (pos + wd)
      have hsz2 : w.heap.size < (wr.iterAt w.heap.size s (pos + wd)).heap.size := by rw [Lib.iterAt_size]; omega
      have C := hide (unhide HG (wr.iterAt w.heap.size s (pos + wd)) pos r hbw2 hp hrl)
      obtain ⟨f, rfl⟩ : ∃ f, fuel = f + 1 := ⟨fuel - 1, by have := (unhide HF).1; omega⟩
      have hpI : (pos : Int) ≤ 4000 := by omega
      cases g : G pos r
      · have E : Hid (leadL G s.size 0 s.data.toList = pos) := by
          rw [← (unhide HF).2, leadL_stop (drop_ne hp) (by rw [hd]; exact g)]
          exact hide rfl
        rw [g] at C
        clear hd HF hbw g hit
        go_wp2_with (go_at_call 91; refine (unhide C).mono ?_; rintro e w1 ⟨rfl, hb⟩)
        go_ret
        exact ⟨by rw [unhide E]; rfl, hbw2.trans (hb.mono (by omega))⟩
      · have E : Hid (leadL G f (pos + wd) (s.data.toList.drop (pos + wd)) = leadL G s.size 0 s.data.toList) := by
          rw [← (unhide HF).2, leadL_go (drop_ne hp) (by rw [hd]; exact g), hd, List.drop_drop]
          exact hide rfl
        have F := hide (unhide HF).1
        rw [g] at C
        clear hd HF hbw g
        go_wp2_with (go_at_call 91; refine (unhide C).mono ?_; rintro e w1 ⟨rfl, hb⟩)
        have hit3 : w1.heap[w.heap.size]? = some (.stringIter s (pos + wd)) := (hb.block w.heap.size hsz2).trans hit2
        have hb3 := hbw2.trans (hb.mono (by omega))
        clear hb C
        go_roundw
        case rel => exact ⟨pos + wd, f, hit3, hb3, hle, hide ⟨by have := unhide F; omega, unhide E⟩⟩
        case measure =>
          simp only [World.iterPos, hit3, hit]
          omega
    · have hnx : ∀ ty, (Instr.next (.pointer (some ⟨w.heap.size, 0, none⟩)) true ty).run Tryz.prog wr = _ := fun ty => Lib.run_next_end_at wr w.heap.size s pos ty hit hp
      have E : Hid (leadL G s.size 0 s.data.toList = s.size) := by
        rw [← (unhide HF).2, List.drop_of_length_le (by rw [← Lib.size_eq]; omega), leadL_nil]
        exact hide (by omega)
      clear HF
      go_wp2
      go_ret
      exact ⟨by rw [unhide E]; rfl, hbw⟩

end Go.Proofs.YtnegjbkbfgkkjaaGreatDoor

/- Walks: the closures that only look; leadOfDigits, leadOfUTF8, leadOfWord. -/
namespace Go.Proofs.YtnegjbkbfgkkjaaGreatDoor
open Go.RowKit

theorem hasPrefix_any (s p : ByteArray) (w : World) :
    Calls Tryz.prog 92 #[.string s, .string p] w fun e w' => e = .returned (.bool (Lib.hasPrefix s.data.toList p.data.toList)) ∧ w' = w :=
  Any.strings_HasPrefix Tryz.lays99 s p w

def gDig (_ r : Nat) : Bool := isDgR (r : Int)
def gUtf (l : List UInt8) (pos r : Nat) : Bool := !(r == 65533) || Lib.hasPrefix (l.drop pos) [239, 191, 189]
def gWord (pos r : Nat) : Bool := r == 95 || Lib.isLetterU (r : Int) || (decide (0 < pos) && isDgR (r : Int))

set_option maxHeartbeats 400000 in
theorem gDig_any (pos r : Nat) (w : World) :
    Calls Tryz.prog 124 #[.int .i64 (pos : Int), .int .i32 (r : Int)] w fun e w' => e = .returned (.bool (gDig pos r)) ∧ Below w.heap.size w w' := by
  have C := hide (isDigit_any (r : Int))
  show Calls _ _ _ _ fun e w' => e = .returned (.bool (isDgR (r : Int))) ∧ _
  generalize isDgR (r : Int) = g at *
  go_enter Tryz.func124, Tryz.ntmps124
  go_wp2_with (go_at_call 125; refine (unhide C _).mono ?_; rintro e w1 ⟨rfl, rfl⟩)
  go_ret
  exact ⟨rfl, Below.refl _ _⟩

set_option maxHeartbeats 400000 in
theorem gUtf_any (s : ByteArray) (b pos r : Nat) (w : World) (hb : w.cell? ⟨b, 0, none⟩ = some (.string s)) (hp : pos ≤ s.size) :
    Calls Tryz.prog 91 #[.int .i64 (pos : Int), .int .i32 (r : Int), .pointer (some ⟨b, 0, none⟩)] w fun e w' => e = .returned (.bool (gUtf s.data.toList pos r)) ∧ Below w.heap.size w w' := by
  have c1 : (0 : Int) ≤ (pos : Int) := by omega
  have c2 : (pos : Int) ≤ (s.size : Int) := by omega
  by_cases h : r = 65533
  · subst h
    have C := hide (hasPrefix_any (s.extract pos s.size) ⟨#[239, 191, 189]⟩)
    have E : Hid (gUtf s.data.toList pos 65533 = Lib.hasPrefix (s.extract pos s.size).data.toList [239, 191, 189]) := by
      rw [ext_drop]; exact hide rfl
    rw [show (⟨#[239, 191, 189]⟩ : ByteArray).data.toList = [239, 191, 189] from rfl] at C
    generalize Lib.hasPrefix (s.extract pos s.size).data.toList [239, 191, 189] = g at *
    go_enter Tryz.func91, Tryz.ntmps91
    go_wp2_with (go_at_call 92; refine (unhide C _).mono ?_; rintro e w1 ⟨rfl, rfl⟩)
    go_ret
    exact ⟨by rw [unhide E]; rfl, Below.refl _ _⟩
  · have E : Hid (gUtf s.data.toList pos r = true) := hide (by unfold gUtf; simp [h])
    have h' : ((r : Int) != 65533) = true := by simp; omega
    go_enter Tryz.func91, Tryz.ntmps91
    go_wp2
    go_ret
    exact ⟨by rw [unhide E]; rfl, Below.refl _ _⟩

/-- unicode's two tables lie -/
def LT (w : World) : Prop := ∀ W, Below w.heap.size w W → Lib.TabIs Tryz.prog W "unicode.properties" .u8 Lib.propertiesTab ∧ Lib.RVar (Tryz.lays200_ren.g 8) Lib.letterT W
theorem LT.on {w W : World} (h : LT w) (hb : Below w.heap.size w W) : LT W := fun W' hb' => h W' (hb.trans (hb'.mono hb.size))
theorem isLetter_any (r : Int) (w : World) (hlo : -2147483648 ≤ r) (hhi : r ≤ 2147483647) (h : LT w) :
    Calls Tryz.prog 129 #[.int .i32 r] w fun e w' => e = .returned (.bool (Lib.isLetterU r)) ∧ Below w.heap.size w w' :=
  Any.unicode_IsLetter_all Tryz.lays200 (by kernel_rfl) r w hlo hhi (h w (Below.refl _ _)).1 (h w (Below.refl _ _)).2

set_option maxHeartbeats 400000 in
theorem gWord_any (pos r : Nat) (w : World) (hr : r ≤ 1114111) (hp : pos ≤ 4000) (h : LT w) :
    Calls Tryz.prog 128 #[.int .i64 (pos : Int), .int .i32 (r : Int)] w fun e w' => e = .returned (.bool (gWord pos r)) ∧ Below w.heap.size w w' := by
  have C := hide (isDigit_any (r : Int))
  have L := hide (isLetter_any (r : Int) w (by omega) (by omega) h)
  have E : Hid (gWord pos r = (r == 95 || Lib.isLetterU (r : Int) || (decide (0 < pos) && isDgR (r : Int)))) := hide rfl
  generalize gWord pos r = G at *
  generalize isDgR (r : Int) = d at *
  generalize Lib.isLetterU (r : Int) = g at *
  clear h
  by_cases h1 : r = 95
  · subst h1
    clear L C
    go_enter Tryz.func128, Tryz.ntmps128
    go_wp2
    go_ret
    exact ⟨by rw [unhide E]; rfl, Below.refl _ _⟩
  · have h1' : ((r : Int) == 95) = false := by simp; omega
    have h1n : (r == 95) = false := by simp [h1]
    rw [h1n] at E
    clear h1 h1n
    cases g
    · by_cases h0 : 0 < pos
      · have h0' : (0 : Int) < (pos : Int) := by omega
        rw [decide_eq_true h0] at E
        go_enter Tryz.func128, Tryz.ntmps128
        go_wp2_with fail
        refine (unhide L).mono ?_
        rintro e w1 ⟨rfl, hb⟩
        go_wp2_with fail
        refine (unhide C _).mono ?_
        rintro e w2 ⟨rfl, rfl⟩
        go_wp2
        go_ret
        exact ⟨by rw [unhide E]; simp, hb⟩
      · have h0' : ¬ (0 : Int) < (pos : Int) := by omega
        rw [decide_eq_false h0] at E
        go_enter Tryz.func128, Tryz.ntmps128
        go_wp2_with fail
        refine (unhide L).mono ?_
        rintro e w1 ⟨rfl, hb⟩
        go_wp2
        go_ret
        exact ⟨by rw [unhide E]; rfl, hb⟩
    · go_enter Tryz.func128, Tryz.ntmps128
      go_wp2_with fail
      refine (unhide L).mono ?_
      rintro e w1 ⟨rfl, hb⟩
      go_wp2
      go_ret
      exact ⟨by rw [unhide E]; rfl, hb⟩

set_option maxHeartbeats 400000 in
theorem leadOfDigits_any (s : ByteArray) (w : World) (hs : s.size ≤ 4000) :
    Calls Tryz.prog 94 #[.string s] w fun e w' => e = .returned (.int .i64 (leadL gDig s.size 0 s.data.toList : Nat)) ∧ Below w.heap.size w w' := by
  have C := hide (fun wx => lead_digits s gDig wx hs (fun W pos r _ _ _ => gDig_any pos r W))
  generalize leadL gDig s.size 0 s.data.toList = n at *
  go_enter Tryz.func94, Tryz.ntmps94
  go_wp2_with (go_at_call 90; refine (unhide C _).mono ?_; rintro e w1 ⟨rfl, hb⟩)
  go_ret
  exact ⟨rfl, hb⟩

set_option maxHeartbeats 400000 in
theorem leadOfWord_any (s : ByteArray) (w : World) (hs : s.size ≤ 4000) (h : LT w) :
    Calls Tryz.prog 96 #[.string s] w fun e w' => e = .returned (.int .i64 (leadL gWord s.size 0 s.data.toList : Nat)) ∧ Below w.heap.size w w' := by
  have C := hide (lead_word s gWord w hs (fun W pos r hb hp hr => gWord_any pos r W hr (by omega) (h.on hb)))
  generalize leadL gWord s.size 0 s.data.toList = n at *
  clear h
  go_enter Tryz.func96, Tryz.ntmps96
  go_wp2_with (go_at_call 90; refine (unhide C).mono ?_; rintro e w1 ⟨rfl, hb⟩)
  go_ret
  exact ⟨rfl, hb⟩

set_option maxHeartbeats 400000 in
theorem leadOfUTF8_any (s : ByteArray) (w : World) (hs : s.size ≤ 4000) :
    Calls Tryz.prog 73 #[.string s] w fun e w' => e = .returned (.int .i64 (leadL (gUtf s.data.toList) s.size 0 s.data.toList : Nat)) ∧ Below w.heap.size w w' := by
  have C := hide (lead_utf s (.pointer (some ⟨w.heap.size, 0, none⟩)) (gUtf s.data.toList) (w.alloc (.cells #[.string s] 9)) hs (fun W pos r hb hp hr => gUtf_any s w.heap.size pos r W ((hb.cell (p := ⟨w.heap.size, 0, none⟩) (by simp)).trans (by simp [go_sem])) (by omega)))
  generalize leadL (gUtf s.data.toList) s.size 0 s.data.toList = n at *
  go_enter Tryz.func73, Tryz.ntmps73
  go_wp2_with (go_at_call 90; refine (unhide C).mono ?_; rintro e w1 ⟨rfl, hb⟩)
  go_ret
  exact ⟨rfl, ((Below.refl _ _).alloc (Nat.le_refl _) _).trans (hb.mono (by simp))⟩
end Go.Proofs.YtnegjbkbfgkkjaaGreatDoor

/- Walks: unescaped, the closure of firstText, lead over it. -/
namespace Go.Proofs.YtnegjbkbfgkkjaaGreatDoor
open Go.RowKit

theorem mk_list' (l : List UInt8) : (⟨l.toArray⟩ : ByteArray).data.toList = l := by simp
theorem mk_size' (l : List UInt8) : (⟨l.toArray⟩ : ByteArray).size = l.length := by simp [ByteArray.size]
def tMean (r : Nat) : Nat := if r = 34 ∨ r = 92 then r else if r = 110 then 10 else 0
def tOk (r : Nat) : Bool := decide (r = 34) || decide (r = 92) || decide (r = 110)
/-- does a text go on at this rune? is the next one escaped? what is said? -/
def tGo (esc : Bool) (r : Nat) : Bool := if esc = true then tOk r else !(decide (r = 34) || decide (r = 10))
def tEsc (esc : Bool) (r : Nat) : Bool := if esc = true then false else decide (r = 92)
def tAdd (esc : Bool) (r : Nat) : List UInt8 := if esc = true then Lib.encodeRune (tMean r : Int) else if r = 92 ∨ r = 34 ∨ r = 10 then [] else Lib.encodeRune (r : Int)

set_option maxHeartbeats 400000 in
theorem unescaped_any (r : Nat) (w : World) :
    Calls Tryz.prog 121 #[.int .i32 (r : Int)] w fun e w' => e = .returned (.tuple #[.int .i32 (tMean r : Int), .bool (tOk r)]) ∧ w' = w := by
  by_cases h1 : r = 34
  · subst h1
    go_enter Tryz.func121, Tryz.ntmps121
    go_wp2
    go_ret2
    exact ⟨rfl, rfl⟩
  have h1' : ((r : Int) == 34) = false := by simp; omega
  by_cases h2 : r = 92
  · subst h2
    go_enter Tryz.func121, Tryz.ntmps121
    go_wp2
    go_ret2
    exact ⟨rfl, rfl⟩
  have h2' : ((r : Int) == 92) = false := by simp; omega
  by_cases h3 : r = 110
  · subst h3
    go_enter Tryz.func121, Tryz.ntmps121
    go_wp2
    go_ret2
    exact ⟨rfl, rfl⟩
  have h3' : ((r : Int) == 110) = false := by simp; omega
  have E1 : Hid (tMean r = 0) := hide (by simp [tMean, h1, h2, h3])
  have E2 : Hid (tOk r = false) := hide (by simp [tOk, h1, h2, h3])
  clear h1 h2 h3
  go_enter Tryz.func121, Tryz.ntmps121
  go_wp2
  go_ret2
  exact ⟨by rw [unhide E1, unhide E2]; rfl, rfl⟩

theorem writeRune_any (B b : Nat) (acc : List UInt8) (r : Int) (w : World) (hr0 : -2147483648 ≤ r) (hr1 : r ≤ 2147483647) (h : Lib.IsBuilderF 201 5 B b (Lib.byteCells acc) w) (hlen : acc.length ≤ 100000) (hBw : B ≤ w.heap.size) :
    Calls Tryz.prog 122 #[.pointer (some ⟨b, 0, none⟩), .int .i32 r] w fun e w' => (∃ n : Int, e = .returned (.tuple #[.int .i64 n, .nilIface])) ∧ Lib.IsBuilderF 201 5 B b (Lib.byteCells (acc ++ Lib.encodeRune r)) w' ∧ Below B w w' ∧ Lib.OthersKept 5 (some b) w w' := by
  have C := Any.Builder_WriteRune_k Tryz.lays168 Tryz.lays168X B b (Lib.byteCells acc) r hr0 hr1 w h (by rw [Lib.byteCells_length]; omega) hBw
  refine C.mono ?_
  rintro e w' ⟨rfl, h1, h2, h3⟩
  refine ⟨⟨_, rfl⟩, ?_, h2, h3⟩
  rw [Lib.byteCells_append, Lib.byteCells_encodeRune]
  exact Or.inr h1

/-- a builder stays one while a block of one cell of another kind is written -/
theorem bf_aside {T e t : TypeId} {B b k : Nat} {bs : List Value} {w : World} {v u : Value} (h : Lib.IsBuilderF T e B b bs w) (hk : w.heap[k]? = some (.cells #[v] t (0, 0))) (hkb : k ≠ b) (ht : t ≠ e) : Lib.IsBuilderF T e B b bs (w.setCell ⟨k, 0, none⟩ u) := by
  have key : ∀ p, Lib.BuilderAtF T e B b p bs w → Lib.BuilderAtF T e B b p bs (w.setCell ⟨k, 0, none⟩ u) := by
    rintro p ⟨hB, v', hb, hown, hne⟩
    refine ⟨hB, v', (Below.heap_setCell _ _ _ _ (fun e => hkb e.symm)).trans hb, ⟨hown.1, ?_⟩, hne⟩
    rcases hown.2 with hn | ⟨g, cap, cur, fz, hv, hbg, hg, rest⟩
    · exact .inl hn
    · have hkg : g ≠ k := by
        intro e1
        rw [e1, hk] at hg
        simp at hg
        exact ht hg.2.1
      exact .inr ⟨g, cap, cur, fz, hv, hbg, (Below.heap_setCell _ _ _ _ hkg).trans hg, rest⟩
  exact h.elim (fun x => .inl (key _ x)) (fun x => .inr (key _ x))

/-- where a text is being read: its builder, whether the next rune is escaped, the iterator -/
structure TXS (B b k i : Nat) (acc : List UInt8) (esc : Bool) (s : ByteArray) (pos : Nat) (w0 w : World) : Prop where
  bld : Lib.IsBuilderF 201 5 B b (Lib.byteCells acc) w
  esc : w.heap[k]? = some (.cells #[.bool esc] 4 (0, 0))
  it : w.heap[i]? = some (.stringIter s pos)
  bel : Below B w0 w
  low : B ≤ w0.heap.size
  ob : b < k
  oi : k < i
  oB : B ≤ b
theorem TXS.next {B b k i : Nat} {acc : List UInt8} {esc : Bool} {s : ByteArray} {pos : Nat} {w0 w : World} (h : TXS B b k i acc esc s pos w0 w) (pos' : Nat) : TXS B b k i acc esc s pos' w0 (w.iterAt i s pos') :=
  ⟨h.bld.iterAt h.it pos', (Lib.iterAt_other w i k s pos' (Nat.ne_of_lt h.oi)).trans h.esc, Lib.iterAt_heap w i s pos pos' h.it, Lib.below_iterAt h.bel (by have := h.ob; have := h.oi; have := h.oB; omega) s pos', h.low, h.ob, h.oi, h.oB⟩
theorem TXS.set {B b k i : Nat} {acc : List UInt8} {esc : Bool} {s : ByteArray} {pos : Nat} {w0 w : World} (h : TXS B b k i acc esc s pos w0 w) (e' : Bool) : TXS B b k i acc e' s pos w0 (w.setCell ⟨k, 0, none⟩ (.bool e')) :=
  ⟨bf_aside h.bld h.esc (Nat.ne_of_gt h.ob) (by decide), one_setCell h.esc, (Below.heap_setCell _ _ _ _ (Nat.ne_of_gt h.oi)).trans h.it, h.bel.setCell (p := ⟨k, 0, none⟩) (by have := h.ob; have := h.oB; show B ≤ k; omega) _, h.low, h.ob, h.oi, h.oB⟩
theorem TXS.wrote {B b k i : Nat} {acc acc' : List UInt8} {esc : Bool} {s : ByteArray} {pos : Nat} {w0 w w' : World} (h : TXS B b k i acc esc s pos w0 w) (h1 : Lib.IsBuilderF 201 5 B b (Lib.byteCells acc') w') (h2 : Below B w w') (h3 : Lib.OthersKept 5 (some b) w w') : TXS B b k i acc' esc s pos w0 w' :=
  ⟨h1, h3 k _ h.esc (fun e => absurd (Option.some.inj e) (Nat.ne_of_gt h.ob)) (fun c fz e => by simp at e), h3.iter h.it (by have := h.ob; have := h.oi; omega), h.bel.trans h2, h.low, h.ob, h.oi, h.oB⟩
theorem TXS.big {B b k i : Nat} {acc : List UInt8} {esc : Bool} {s : ByteArray} {pos : Nat} {w0 w : World} (h : TXS B b k i acc esc s pos w0 w) : B ≤ w.heap.size := Nat.le_trans h.low h.bel.size

set_option maxHeartbeats 1000000 in
theorem text_cl (B b k i : Nat) (acc : List UInt8) (esc : Bool) (s : ByteArray) (pos p r : Nat) (w0 w : World) (h : TXS B b k i acc esc s pos w0 w) (hr : r ≤ 1114111) (hl : acc.length ≤ 100000) :
    Calls Tryz.prog 120 #[.int .i64 (p : Int), .int .i32 (r : Int), .pointer (some ⟨k, 0, none⟩), .pointer (some ⟨b, 0, none⟩)] w fun e w' => e = .returned (.bool (tGo esc r)) ∧ TXS B b k i (acc ++ tAdd esc r) (tEsc esc r) s pos w0 w' := by
  have H := hide h
  have c0 := cell_of_one h.esc
  have f0 := free_of_one h.esc
  clear h
  cases esc
  · by_cases h1 : r = 92
    · subst h1
      have S := hide ((unhide H).set true)
      go_enter Tryz.func120, Tryz.ntmps120
      go_wp2
      go_ret
      refine ⟨rfl, ?_⟩
      have : acc ++ tAdd false 92 = acc := by simp [tAdd]
      rw [this]
      exact unhide S
    have h1' : ((r : Int) == 92) = false := by simp; omega
    by_cases h2 : r = 34 ∨ r = 10
    · have E1 : Hid (tGo false r = false) := by
        rcases h2 with h2 | h2 <;> subst h2 <;> exact hide rfl
      have E2 : Hid (tEsc false r = false) := hide (by simp [tEsc, h1])
      have E3 : Hid (acc ++ tAdd false r = acc) := by
        rcases h2 with h2 | h2 <;> subst h2 <;> exact hide (by simp [tAdd])
      have h2' : ((r : Int) == 34) = true ∨ (((r : Int) == 34) = false ∧ ((r : Int) == 10) = true) := by
        rcases h2 with h2 | h2 <;> subst h2 <;> simp
      clear h2 h1
      rcases h2' with h2 | ⟨h2, h3⟩
      all_goals
        go_enter Tryz.func120, Tryz.ntmps120
        go_wp2
        go_ret
        refine ⟨by rw [unhide E1]; rfl, ?_⟩
        rw [unhide E2, unhide E3]
        exact unhide H
    · have E1 : Hid (tGo false r = true) := hide (by simp [tGo]; omega)
      have E2 : Hid (tEsc false r = false) := hide (by simp [tEsc, h1])
      have E3 : Hid (acc ++ tAdd false r = acc ++ Lib.encodeRune (r : Int)) := hide (by unfold tAdd; rw [if_neg (by decide), if_neg (by omega)])
      have h2' : ((r : Int) == 34) = false := by simp; omega
      have h3' : ((r : Int) == 10) = false := by simp; omega
      have C := hide (writeRune_any B b acc (r : Int) w (by omega) (by omega) (unhide H).bld hl (unhide H).big)
      clear h1 h2
      go_enter Tryz.func120, Tryz.ntmps120
      go_wp2_with fail
      refine (unhide C).mono ?_
      rintro e w1 ⟨⟨n, rfl⟩, b1, b2, b3⟩
      have S := hide ((unhide H).wrote b1 b2 b3)
      clear b1 b2 b3
      go_wp2
      go_ret
      refine ⟨by rw [unhide E1]; rfl, ?_⟩
      rw [unhide E2, unhide E3]
      exact unhide S
  · have S := hide ((unhide H).set false)
    have E1 : Hid (tGo true r = tOk r) := hide rfl
    have E3 : Hid (acc ++ tAdd true r = acc ++ Lib.encodeRune (tMean r : Int)) := hide rfl
    have U := hide (unescaped_any r)
    have hm : (tMean r : Int) ≤ 1114111 ∧ 0 ≤ (tMean r : Int) := by
      unfold tMean; split
      · omega
      · split <;> omega
    have C := hide (writeRune_any B b acc (tMean r : Int) _ (by omega) (by omega) (unhide S).bld hl (unhide S).big)
    generalize tMean r = m at *
    generalize tOk r = o at *
    go_enter Tryz.func120, Tryz.ntmps120
    go_wp2_with fail
    refine (unhide U _).mono ?_
    rintro e w1 ⟨rfl, rfl⟩
    go_wp2_with fail
    refine (unhide C).mono ?_
    rintro e w1 ⟨⟨n, rfl⟩, b1, b2, b3⟩
    have S2 := hide ((unhide S).wrote b1 b2 b3)
    clear b1 b2 b3
    go_wp2
    go_ret
    refine ⟨by rw [unhide E1]; rfl, ?_⟩
    rw [unhide E3]
    exact unhide S2

/-- a text's runes, up to the one at which it ends: where that is, and what was said -/
def textL : Nat → Bool → List UInt8 → Nat → List UInt8 → Nat × List UInt8
  | 0, _, acc, pos, _ => (pos, acc)
  | f + 1, esc, acc, pos, l => if l = [] then (pos, acc) else if tGo esc (Lib.decodeL l).1 = true then textL f (tEsc esc (Lib.decodeL l).1) (acc ++ tAdd esc (Lib.decodeL l).1) (pos + (Lib.decodeL l).2) (l.drop (Lib.decodeL l).2) else (pos, acc ++ tAdd esc (Lib.decodeL l).1)
theorem textL_nil (f : Nat) (esc : Bool) (acc : List UInt8) (pos : Nat) : textL f esc acc pos [] = (pos, acc) := by cases f <;> simp [textL]
theorem textL_go {f : Nat} {esc : Bool} {acc : List UInt8} {pos : Nat} {l : List UInt8} (h : l ≠ []) (g : tGo esc (Lib.decodeL l).1 = true) : textL (f + 1) esc acc pos l = textL f (tEsc esc (Lib.decodeL l).1) (acc ++ tAdd esc (Lib.decodeL l).1) (pos + (Lib.decodeL l).2) (l.drop (Lib.decodeL l).2) := by rw [textL, if_neg h, if_pos g]
theorem textL_stop {f : Nat} {esc : Bool} {acc : List UInt8} {pos : Nat} {l : List UInt8} (h : l ≠ []) (g : tGo esc (Lib.decodeL l).1 = false) : textL (f + 1) esc acc pos l = (pos, acc ++ tAdd esc (Lib.decodeL l).1) := by rw [textL, if_neg h, if_neg (by rw [g]; decide)]
theorem enc_len (r : Int) : (Lib.encodeRune r).length ≤ 4 := by
  have := Lib.runeCells_le r
  rw [Lib.runeCells_length] at this
  exact this.2
theorem tAdd_len (esc : Bool) (r : Nat) : (tAdd esc r).length ≤ 4 := by
  unfold tAdd
  split
  · exact enc_len _
  · split
    · simp
    · exact enc_len _

set_option maxHeartbeats 1000000 in
theorem lead_text (s : ByteArray) (B b k : Nat) (w : World) (hs : s.size ≤ 4000) (hb : Lib.IsBuilderF 201 5 B b (Lib.byteCells []) w) (hk : w.heap[k]? = some (.cells #[.bool false] 4 (0, 0))) (hB : B ≤ b) (hbk : b < k) :
    Calls Tryz.prog 90 #[.string s, .func (.func 120) #[] #[.pointer (some ⟨k, 0, none⟩), .pointer (some ⟨b, 0, none⟩)]] w fun e w' => e = .returned (.int .i64 ((textL s.size false [] 0 s.data.toList).1 : Nat)) ∧ Lib.IsBuilderF 201 5 B b (Lib.byteCells (textL s.size false [] 0 s.data.toList).2) w' ∧ Below B w w' := by
  have hkl := lt_of_block hk
  have hT0 : TXS B b k w.heap.size [] false s 0 w (w.alloc (.stringIter s 0)) := by
    refine ⟨hb.alloc _, (Lib.alloc_old w _ k hkl).trans hk, heap_alloc_new w _, (Below.refl _ w).alloc (by omega) _, by omega, hbk, hkl, hB⟩
  have T0 := hide hT0
  clear hb hk hT0
  go_enter Tryz.func90, Tryz.ntmps90
  go_wp2
  go_loopw [] (fun wr => ∃ (pos fuel : Nat) (acc : List UInt8) (esc : Bool), Hid (TXS B b k w.heap.size acc esc s pos w wr) ∧ wr.heap[w.heap.size]? = some (.stringIter s pos) ∧ pos ≤ s.size ∧ acc.length ≤ 4 * pos ∧ Hid (s.size ≤ pos + fuel ∧ textL fuel esc acc pos (s.data.toList.drop pos) = textL s.size false [] 0 s.data.toList)) (fun wr => s.size - wr.iterPos w.heap.size)
  case atStart => exact ⟨0, s.size, [], false, T0, (unhide T0).it, Nat.zero_le _, by simp, hide ⟨by omega, by simp⟩⟩
  case round =>
    obtain ⟨pos, fuel, acc, esc, HT, hit, hps, hal, HF⟩ := hrel
    clear T0
    by_cases hp : pos < s.size
    · have hnx : ∀ ty, (Instr.next (.pointer (some ⟨w.heap.size, 0, none⟩)) true ty).run Tryz.prog wr = _ := fun ty => Lib.run_next_any_at wr w.heap.size s pos ty hit hp
      have hd := Lib.decodeL_drop s pos
      have hw1 := Lib.width_pos s pos
      have hrl := Lib.rune_le s pos
      have hle := dec_le s pos hp
      generalize Utf8.decode s pos = q at hnx hd hw1 hrl hle
      obtain ⟨r, wd⟩ := q
      simp only at hw1 hrl hle
      have C := hide (text_cl B b k w.heap.size acc esc s (pos + wd) pos r w (wr.iterAt w.heap.size s (pos + wd)) ((unhide HT).next _) hrl (by omega))
      obtain ⟨f, rfl⟩ : ∃ f, fuel = f + 1 := ⟨fuel - 1, by have := (unhide HF).1; omega⟩
      have hpI : (pos : Int) ≤ 4000 := by omega
      have hla := tAdd_len esc r
      cases g : tGo esc r
      · have E : Hid (textL s.size false [] 0 s.data.toList = (pos, acc ++ tAdd esc r)) := by
          rw [← (unhide HF).2, textL_stop (drop_ne hp) (by rw [hd]; exact g), hd]
          exact hide rfl
        rw [g] at C
        clear hd HF g hit HT
        go_wp2_with (go_at_call 120; refine (unhide C).mono ?_; rintro e w1 ⟨rfl, hT⟩)
        go_ret
        rw [unhide E]
        exact ⟨rfl, hT.bld, hT.bel⟩
      · have E : Hid (textL f (tEsc esc r) (acc ++ tAdd esc r) (pos + wd) (s.data.toList.drop (pos + wd)) = textL s.size false [] 0 s.data.toList) := by
          rw [← (unhide HF).2, textL_go (drop_ne hp) (by rw [hd]; exact g), hd, List.drop_drop]
          exact hide rfl
        have F := hide (unhide HF).1
        rw [g] at C
        clear hd HF g HT
        go_wp2_with (go_at_call 120; refine (unhide C).mono ?_; rintro e w1 ⟨rfl, hT⟩)
        have hit3 := hT.it
        go_roundw
        case rel => exact ⟨pos + wd, f, acc ++ tAdd esc r, tEsc esc r, hide hT, hit3, hle, by rw [List.length_append]; omega, hide ⟨by have := unhide F; omega, unhide E⟩⟩
        case measure =>
          simp only [World.iterPos, hit3, hit]
          omega
    · have hnx : ∀ ty, (Instr.next (.pointer (some ⟨w.heap.size, 0, none⟩)) true ty).run Tryz.prog wr = _ := fun ty => Lib.run_next_end_at wr w.heap.size s pos ty hit hp
      have E : Hid (textL s.size false [] 0 s.data.toList = (s.size, acc)) := by
        rw [← (unhide HF).2, List.drop_of_length_le (by rw [← Lib.size_eq]; omega), textL_nil]
        exact hide (by rw [show pos = s.size by omega])
      clear HF
      go_wp2
      go_ret
      rw [unhide E]
      exact ⟨rfl, (unhide HT).bld, (unhide HT).bel⟩
end Go.Proofs.YtnegjbkbfgkkjaaGreatDoor

/- Walks: firstText. -/
namespace Go.Proofs.YtnegjbkbfgkkjaaGreatDoor
open Go.RowKit

/-- what first tells: a token, how many bytes it takes; or what is wrong, and where -/
structure FR where
  k : Int
  t : List UInt8
  c : Int
  x : Int
  n : Nat
  e : Int
  a : Nat
def frV (r : FR) : Ending := .returned (.tuple #[.agg #[.int .i64 r.k, .string ⟨r.t.toArray⟩, .int .i64 r.c, .int .i64 r.x, .int .i64 0], .int .i64 (r.n : Int), .agg #[.int .i64 r.e, .int .i64 (r.a : Int)]])

/-- the two blocks of results, still empty -/
structure RB (b : Nat) (w : World) : Prop where
  c0 : w.cell? ⟨b, 0, none⟩ = some (.int .i64 0)
  c1 : w.cell? ⟨b, 1, none⟩ = some (.string ⟨#[]⟩)
  c2 : w.cell? ⟨b, 2, none⟩ = some (.int .i64 0)
  c3 : w.cell? ⟨b, 3, none⟩ = some (.int .i64 0)
  c4 : w.cell? ⟨b, 4, none⟩ = some (.int .i64 0)
  d0 : w.cell? ⟨b + 1, 0, none⟩ = some (.int .i64 0)
  d1 : w.cell? ⟨b + 1, 1, none⟩ = some (.int .i64 0)
  fc : ∀ o, w.frozen? ⟨b, o, none⟩ = false
  fd : ∀ o, w.frozen? ⟨b + 1, o, none⟩ = false
  sz : b + 1 < w.heap.size
theorem RB.keep {b n : Nat} {w w' : World} (h : RB b w) (hb : Below n w w') (l : b + 1 < n) : RB b w' := by
  have c : ∀ o, w'.cell? ⟨b, o, none⟩ = w.cell? ⟨b, o, none⟩ := fun o => hb.cell (p := ⟨b, o, none⟩) (by show b < n; omega)
  have d : ∀ o, w'.cell? ⟨b + 1, o, none⟩ = w.cell? ⟨b + 1, o, none⟩ := fun o => hb.cell (p := ⟨b + 1, o, none⟩) l
  refine ⟨by rw [c]; exact h.c0, by rw [c]; exact h.c1, by rw [c]; exact h.c2, by rw [c]; exact h.c3, by rw [c]; exact h.c4, by rw [d]; exact h.d0, by rw [d]; exact h.d1, fun o => ?_, fun o => ?_, Nat.lt_of_lt_of_le h.sz hb.size⟩
  · rw [hb.frozen (p := ⟨b, o, none⟩) (by show b < n; omega)]; exact h.fc o
  · rw [hb.frozen (p := ⟨b + 1, o, none⟩) l]; exact h.fd o
theorem RB.new (w : World) : RB w.heap.size ((w.alloc (.cells #[.int .i64 0, .string ⟨#[]⟩, .int .i64 0, .int .i64 0, .int .i64 0] 133)).alloc (.cells #[.int .i64 0, .int .i64 0] 129)) := by
  constructor <;> simp [go_sem]
theorem RB.tell {b : Nat} {w : World} (h : RB b w) : w.cell? ⟨b, 0, none⟩ = some (.int .i64 0) ∧ w.cell? ⟨b, 1, none⟩ = some (.string ⟨#[]⟩) ∧ w.cell? ⟨b, 2, none⟩ = some (.int .i64 0) ∧ w.cell? ⟨b, 3, none⟩ = some (.int .i64 0) ∧ w.cell? ⟨b, 4, none⟩ = some (.int .i64 0) ∧ w.cell? ⟨b + 1, 0, none⟩ = some (.int .i64 0) ∧ w.cell? ⟨b + 1, 1, none⟩ = some (.int .i64 0) :=
  ⟨h.c0, h.c1, h.c2, h.c3, h.c4, h.d0, h.d1⟩
theorem RB.thaw {b : Nat} {w : World} (h : RB b w) : w.frozen? ⟨b, 0, none⟩ = false ∧ w.frozen? ⟨b, 1, none⟩ = false ∧ w.frozen? ⟨b, 2, none⟩ = false ∧ w.frozen? ⟨b, 3, none⟩ = false ∧ w.frozen? ⟨b, 4, none⟩ = false ∧ w.frozen? ⟨b + 1, 0, none⟩ = false ∧ w.frozen? ⟨b + 1, 1, none⟩ = false :=
  ⟨h.fc 0, h.fc 1, h.fc 2, h.fc 3, h.fc 4, h.fd 0, h.fd 1⟩
theorem below_res {w w1 : World} {b : Nat} {v0 v1 v2 v3 v4 u0 u1 : Value} (h : Below w.heap.size w w1) (hb : w.heap.size ≤ b) :
    Below w.heap.size w (((((((w1.setCell ⟨b, 0, none⟩ v0).setCell ⟨b, 1, none⟩ v1).setCell ⟨b, 2, none⟩ v2).setCell ⟨b, 3, none⟩ v3).setCell ⟨b, 4, none⟩ v4).setCell ⟨b + 1, 0, none⟩ u0).setCell ⟨b + 1, 1, none⟩ u1) :=
  ((((((h.setCell hb _).setCell hb _).setCell hb _).setCell hb _).setCell hb _).setCell (by show _ ≤ b + 1; omega) _).setCell (by show _ ≤ b + 1; omega) _

theorem string_any (B b : Nat) (l : List UInt8) (w : World) (h : Lib.IsBuilderF 201 5 B b (Lib.byteCells l) w) (hBw : B ≤ w.heap.size) :
    Calls Tryz.prog 123 #[.pointer (some ⟨b, 0, none⟩)] w fun e w' => e = .returned (.string ⟨l.toArray⟩) ∧ Below B w w' := by
  refine (Any.Builder_String_any_k Tryz.lays169 Tryz.lays169X B b l w h hBw).mono ?_
  rintro e w' ⟨rfl, _, hb, _⟩
  exact ⟨rfl, hb⟩

def ftF (l : List UInt8) : FR :=
  if (1 + (textL (l.length - 1) false [] 0 (l.drop 1)).1 = l.length ∨ l.getD (1 + (textL (l.length - 1) false [] 0 (l.drop 1)).1) 0 ≠ 34) then ⟨0, [], 0, 0, 0, 2, 1 + (textL (l.length - 1) false [] 0 (l.drop 1)).1⟩
  else ⟨3, (textL (l.length - 1) false [] 0 (l.drop 1)).2, 0, 0, 1 + (textL (l.length - 1) false [] 0 (l.drop 1)).1 + 1, 0, 0⟩

theorem textL_le : ∀ (f : Nat) (esc : Bool) (acc : List UInt8) (pos : Nat) (l : List UInt8), (textL f esc acc pos l).1 ≤ pos + l.length
  | 0, esc, acc, pos, l => by simp [textL]
  | f + 1, esc, acc, pos, l => by
    by_cases h : l = []
    · subst h; rw [textL_nil]; simp
    · cases g : tGo esc (Lib.decodeL l).1
      · rw [textL_stop h g]; simp
      · rw [textL_go h g]
        have a := textL_le f (tEsc esc (Lib.decodeL l).1) (acc ++ tAdd esc (Lib.decodeL l).1) (pos + (Lib.decodeL l).2) (l.drop (Lib.decodeL l).2)
        have b := Lib.decodeL_le l h
        rw [List.length_drop] at a
        omega
theorem ext_size (s : ByteArray) (i : Nat) : (s.extract i s.size).size = s.size - i := by
  rw [ext_drop, mk_size', List.length_drop, ← Lib.size_eq]

theorem ftF_eq {l : List UInt8} {p : Nat} {said : List UInt8} (h : textL (l.length - 1) false [] 0 (l.drop 1) = (p, said)) : ftF l = if (1 + p = l.length ∨ l.getD (1 + p) 0 ≠ 34) then ⟨0, [], 0, 0, 0, 2, 1 + p⟩ else ⟨3, said, 0, 0, 1 + p + 1, 0, 0⟩ := by
  unfold ftF; rw [h]
theorem getD_at (s : ByteArray) (k : Nat) (h : k < s.size) : s.data.toList.getD k 0 = s[k] := by
  rw [List.getD_eq_getElem?_getD, toList_at s k h]; rfl
theorem u8_eq (b : UInt8) (n : Nat) (hn : n < 256) : (b = UInt8.ofNat n) ↔ b.toNat = n := by
  constructor
  · intro h; rw [h, UInt8.toNat_ofNat']; omega
  · intro h; apply UInt8.toNat_inj.1; rw [h, UInt8.toNat_ofNat']; omega

set_option maxHeartbeats 1000000 in
theorem firstText_any (s : ByteArray) (w : World) (hs : s.size ≤ 4000) (h1 : 1 ≤ s.size) :
    Calls Tryz.prog 93 #[.string s] w fun e w' => e = frV (ftF s.data.toList) ∧ Below w.heap.size w w' := by
  have hsz := ext_size s 1
  have LT := fun (wx : World) (B b k : Nat) hb hk hB hbk => lead_text (s.extract 1 s.size) B b k wx (by omega) hb hk hB hbk
  have hle := textL_le (s.size - 1) false [] 0 (s.data.toList.drop 1)
  rw [List.length_drop, ← Lib.size_eq] at hle
  obtain ⟨p, said, hq⟩ : ∃ p said, textL (s.size - 1) false [] 0 (s.data.toList.drop 1) = (p, said) := ⟨_, _, rfl⟩
  have EF := ftF_eq (l := s.data.toList) (p := p) (said := said) (by rw [← Lib.size_eq]; exact hq)
  rw [← Lib.size_eq] at EF
  rw [show textL (s.extract 1 s.size).size false [] 0 (s.extract 1 s.size).data.toList = (p, said) by rw [hsz, ext_drop, mk_list', hq]] at LT
  rw [hq] at hle
  simp only at hle LT
  replace LT := hide LT
  have c1 : (1 : Int) ≤ (s.size : Int) := by omega
  have hpI : (p : Int) ≤ 4000 := by omega
  have R0 := hide (RB.new w)
  have hw0 : Hid (Below w.heap.size w ((w.alloc (.cells #[.int .i64 0, .string ⟨#[]⟩, .int .i64 0, .int .i64 0, .int .i64 0] 133)).alloc (.cells #[.int .i64 0, .int .i64 0] 129))) := hide (((Below.refl _ _).alloc (Nat.le_refl _) _).alloc (by simp) _)
  have I0 := fun W : World => (Lib.IsBuilderF.of (Lib.fresh_isBuilder 201 5 W)).alloc (.cells #[.bool false] 4)
  replace I0 := hide I0
  clear hq hsz
  have step : ∀ w1, Below (w.heap.size + 1 + 1) ((((w.alloc (.cells #[.int .i64 0, .string ⟨#[]⟩, .int .i64 0, .int .i64 0, .int .i64 0] 133)).alloc (.cells #[.int .i64 0, .int .i64 0] 129)).alloc (.cells #[.pointer none, .slice none 0 0] 201)).alloc (.cells #[.bool false] 4)) w1 → RB w.heap.size w1 ∧ Below w.heap.size w w1 := by
    intro w1 hb
    have b2 := (((Below.refl (w.heap.size + 1 + 1) ((w.alloc (.cells #[.int .i64 0, .string ⟨#[]⟩, .int .i64 0, .int .i64 0, .int .i64 0] 133)).alloc (.cells #[.int .i64 0, .int .i64 0] 129))).alloc (by simp) (.cells #[.pointer none, .slice none 0 0] 201)).alloc (by simp) (.cells #[.bool false] 4)).trans hb
    exact ⟨(unhide R0).keep b2 (by omega), (unhide hw0).trans (b2.mono (by omega))⟩
  replace step := hide step
  have lead : ∀ Q, (∀ e w', (e = .returned (.int .i64 (p : Int)) ∧ Lib.IsBuilderF 201 5 (w.heap.size + 1 + 1) (w.heap.size + 1 + 1) (Lib.byteCells said) w' ∧ RB w.heap.size w' ∧ Below w.heap.size w w' ∧ w.heap.size + 1 + 1 ≤ w'.heap.size) → Q e w') → Calls Tryz.prog 90 #[.string (s.extract 1 s.size), .func (.func 120) #[] #[.pointer (some ⟨w.heap.size + 1 + 1 + 1, 0, none⟩), .pointer (some ⟨w.heap.size + 1 + 1, 0, none⟩)]] ((((w.alloc (.cells #[.int .i64 0, .string ⟨#[]⟩, .int .i64 0, .int .i64 0, .int .i64 0] 133)).alloc (.cells #[.int .i64 0, .int .i64 0] 129)).alloc (.cells #[.pointer none, .slice none 0 0] 201)).alloc (.cells #[.bool false] 4)) Q := by
    intro Q hQ
    have I := unhide I0 ((w.alloc (.cells #[.int .i64 0, .string ⟨#[]⟩, .int .i64 0, .int .i64 0, .int .i64 0] 133)).alloc (.cells #[.int .i64 0, .int .i64 0] 129))
    have hz : ((w.alloc (.cells #[.int .i64 0, .string ⟨#[]⟩, .int .i64 0, .int .i64 0, .int .i64 0] 133)).alloc (.cells #[.int .i64 0, .int .i64 0] 129)).heap.size = w.heap.size + 1 + 1 := by simp
    rw [hz] at I
    have hk := heap_alloc_new (((w.alloc (.cells #[.int .i64 0, .string ⟨#[]⟩, .int .i64 0, .int .i64 0, .int .i64 0] 133)).alloc (.cells #[.int .i64 0, .int .i64 0] 129)).alloc (.cells #[.pointer none, .slice none 0 0] 201)) (.cells #[.bool false] 4)
    rw [show (((w.alloc (.cells #[.int .i64 0, .string ⟨#[]⟩, .int .i64 0, .int .i64 0, .int .i64 0] 133)).alloc (.cells #[.int .i64 0, .int .i64 0] 129)).alloc (.cells #[.pointer none, .slice none 0 0] 201)).heap.size = w.heap.size + 1 + 1 + 1 by simp] at hk
    refine (unhide LT _ (w.heap.size + 1 + 1) (w.heap.size + 1 + 1) (w.heap.size + 1 + 1 + 1) I hk (Nat.le_refl _) (by omega)).mono ?_
    rintro e w' ⟨rfl, hB, hb⟩
    obtain ⟨r1, r2⟩ := unhide step w' hb
    exact hQ _ _ ⟨rfl, hB, r1, r2, by have := r1.sz; omega⟩
  replace lead := hide lead
  clear LT I0 R0 hw0 step
  by_cases hc : 1 + p = s.size
  · rw [if_pos (.inl hc)] at EF
    have EF' := hide EF
    have hc' : ((1 : Int) + (p : Int) == (s.size : Int)) = true := by simp; omega
    clear EF hc
    go_enter Tryz.func93, Tryz.ntmps93
    go_wp2_with fail
    refine unhide lead _ ?_
    rintro e w1 ⟨rfl, hB, R, hw, hz⟩
    obtain ⟨t0, t1, t2, t3, t4, t5, t6⟩ := R.tell
    obtain ⟨f0, f1, f2, f3, f4, f5, f6⟩ := R.thaw
    have hlt := R.sz
    clear R hB
    go_wp2
    exact bodyPost_ret (v := .tuple #[.agg #[.int .i64 0, .string ⟨#[]⟩, .int .i64 0, .int .i64 0, .int .i64 0], .int .i64 0, .agg #[.int .i64 2, .int .i64 (1 + (p : Int))]]) (by simp [results, Tryz.results93, go_sem, t0, t1, t2, t3, t4, t5, t6]) rfl ⟨by rw [unhide EF']; simp [frV], below_res hw (Nat.le_refl _)⟩
  have hc' : ((1 : Int) + (p : Int) == (s.size : Int)) = false := by simp; omega
  have hlt2 : 1 + p < s.size := by omega
  have hltI : (1 : Int) + (p : Int) < (s.size : Int) := by omega
  have hidx : ∀ W, (Instr.index 9 (.string s) (.int .i64 (1 + (p : Int)))).run Tryz.prog W = .ok (.int .u8 (s[1 + p].toNat : Int)) W := by
    intro W
    have e : ∀ h, s[(1 + (p : Int)).toNat]'h = s[1 + p] := fun h => by congr 1 <;> omega
    rw [run_index_string _ _ _ _ _ Tryz.underlying9, dif_pos ⟨by omega, by omega⟩, e]
  rw [getD_at s (1 + p) hlt2] at EF
  by_cases h34 : s[1 + p].toNat = 34
  · rw [if_neg (by rintro (a | a); · exact hc a
                   · exact a ((u8_eq _ 34 (by omega)).2 h34))] at EF
    have EF' := hide EF
    have h34' : ((s[1 + p].toNat : Int) != 34) = false := by simp; omega
    clear EF hc h34
    go_enter Tryz.func93, Tryz.ntmps93
    go_wp2_with fail
    refine unhide lead _ ?_
    rintro e w1 ⟨rfl, hB, R, hw, hz⟩
    have HR := hide R
    have HB := hide (string_any (w.heap.size + 1 + 1) (w.heap.size + 1 + 1) said w1 hB hz)
    have HW := hide hw
    clear hB R hw
    go_wp2_with fail
    refine (unhide HB).mono ?_
    rintro e w2 ⟨rfl, hb⟩
    have R := (unhide HR).keep hb (by omega)
    have hw := (unhide HW).trans (hb.mono (by omega))
    clear HR HB HW hb
    obtain ⟨t0, t1, t2, t3, t4, t5, t6⟩ := R.tell
    obtain ⟨f0, f1, f2, f3, f4, f5, f6⟩ := R.thaw
    have hlt := R.sz
    clear R
    go_wp2
    exact bodyPost_ret (v := .tuple #[.agg #[.int .i64 3, .string ⟨said.toArray⟩, .int .i64 0, .int .i64 0, .int .i64 0], .int .i64 (1 + (p : Int) + 1), .agg #[.int .i64 0, .int .i64 0]]) (by simp [results, Tryz.results93, go_sem, t0, t1, t2, t3, t4, t5, t6]) rfl ⟨by rw [unhide EF']; simp [frV], below_res hw (Nat.le_refl _)⟩
  · rw [if_pos (.inr (fun a => h34 ((u8_eq _ 34 (by omega)).1 a)))] at EF
    have EF' := hide EF
    have h34' : ((s[1 + p].toNat : Int) != 34) = true := by simp; omega
    clear EF hc h34
    go_enter Tryz.func93, Tryz.ntmps93
    go_wp2_with fail
    refine unhide lead _ ?_
    rintro e w1 ⟨rfl, hB, R, hw, hz⟩
    obtain ⟨t0, t1, t2, t3, t4, t5, t6⟩ := R.tell
    obtain ⟨f0, f1, f2, f3, f4, f5, f6⟩ := R.thaw
    have hlt := R.sz
    clear R hB
    go_wp2
    exact bodyPost_ret (v := .tuple #[.agg #[.int .i64 0, .string ⟨#[]⟩, .int .i64 0, .int .i64 0, .int .i64 0], .int .i64 0, .agg #[.int .i64 2, .int .i64 (1 + (p : Int))]]) (by simp [results, Tryz.results93, go_sem, t0, t1, t2, t3, t4, t5, t6]) rfl ⟨by rw [unhide EF']; simp [frV], below_res hw (Nat.le_refl _)⟩
end Go.Proofs.YtnegjbkbfgkkjaaGreatDoor

/- Walks: strings.Clone, firstSign. -/
namespace Go.Proofs.YtnegjbkbfgkkjaaGreatDoor
open Go.RowKit

set_option maxHeartbeats 400000 in
theorem clone_any (s : ByteArray) (w : World) (hs : s.size ≤ 4000) :
    Calls Tryz.prog 97 #[.string s] w fun e w' => e = .returned (.string s) ∧ Below w.heap.size w w' := by
  have C := hide (fun wx => Any.stringslite_Clone Tryz.lays316 s wx (by omega))
  go_enter Tryz.func97, Tryz.ntmps97
  go_wp2_with (go_at_call 130; refine (unhide C _).mono ?_; rintro e w1 ⟨rfl, hb⟩)
  go_ret
  exact ⟨rfl, hb⟩

/-- the signs, the longer ones ahead -/
def signsL : List (List UInt8) := [[46, 46], [60, 61], [62, 61], [33, 61], [60], [62], [61], [43], [45], [42], [47], [40], [41], [91], [93], [44]]
/-- the sign with which l begins -/
def signF : List (List UInt8) → List UInt8 → FR
  | [], _ => ⟨0, [], 0, 0, 0, 2, 0⟩
  | g :: gs, l => if Lib.hasPrefix l g = true then ⟨4, g, 0, 0, g.length, 0, 0⟩ else signF gs l
theorem signF_yes {g l : List UInt8} {gs : List (List UInt8)} (h : Lib.hasPrefix l g = true) : signF (g :: gs) l = ⟨4, g, 0, 0, g.length, 0, 0⟩ := by rw [signF, if_pos h]
theorem signF_no {g l : List UInt8} {gs : List (List UInt8)} (h : Lib.hasPrefix l g = false) : signF (g :: gs) l = signF gs l := by rw [signF, if_neg (by rw [h]; decide)]
/-- the table of signs lies -/
def SG (w : World) : Prop := ∀ i g, signsL[i]? = some g → w.cell? ⟨1, i, none⟩ = some (.string ⟨g.toArray⟩)
theorem SG.lt {w : World} (h : SG w) : 1 < w.heap.size := World.block_lt_of_cell? w _ (h 0 _ rfl)
theorem SG.on {w W : World} (h : SG w) (hb : Below w.heap.size w W) : SG W := fun i g hg => (hb.cell (p := ⟨1, i, none⟩) h.lt).trans (h i g hg)

abbrev sigLit : Value := .agg #[.string ⟨#[46, 46]⟩, .string ⟨#[60, 61]⟩, .string ⟨#[62, 61]⟩, .string ⟨#[33, 61]⟩, .string ⟨#[60]⟩, .string ⟨#[62]⟩, .string ⟨#[61]⟩, .string ⟨#[43]⟩, .string ⟨#[45]⟩, .string ⟨#[42]⟩, .string ⟨#[47]⟩, .string ⟨#[40]⟩, .string ⟨#[41]⟩, .string ⟨#[91]⟩, .string ⟨#[93]⟩, .string ⟨#[44]⟩]
theorem sig_at (W : World) (g : List UInt8) : (k : Nat) → (hg : signsL[k]? = some g) → (Instr.index 214 sigLit (.int .i64 (k : Int))).run Tryz.prog W = .ok (.string ⟨g.toArray⟩) W
  | 0, hg => by have e := Option.some.inj hg; subst e; simp [Instr.index, sigLit, go_sem]
  | 1, hg => by have e := Option.some.inj hg; subst e; simp [Instr.index, sigLit, go_sem]
  | 2, hg => by have e := Option.some.inj hg; subst e; simp [Instr.index, sigLit, go_sem]
  | 3, hg => by have e := Option.some.inj hg; subst e; simp [Instr.index, sigLit, go_sem]
  | 4, hg => by have e := Option.some.inj hg; subst e; simp [Instr.index, sigLit, go_sem]
  | 5, hg => by have e := Option.some.inj hg; subst e; simp [Instr.index, sigLit, go_sem]
  | 6, hg => by have e := Option.some.inj hg; subst e; simp [Instr.index, sigLit, go_sem]
  | 7, hg => by have e := Option.some.inj hg; subst e; simp [Instr.index, sigLit, go_sem]
  | 8, hg => by have e := Option.some.inj hg; subst e; simp [Instr.index, sigLit, go_sem]
  | 9, hg => by have e := Option.some.inj hg; subst e; simp [Instr.index, sigLit, go_sem]
  | 10, hg => by have e := Option.some.inj hg; subst e; simp [Instr.index, sigLit, go_sem]
  | 11, hg => by have e := Option.some.inj hg; subst e; simp [Instr.index, sigLit, go_sem]
  | 12, hg => by have e := Option.some.inj hg; subst e; simp [Instr.index, sigLit, go_sem]
  | 13, hg => by have e := Option.some.inj hg; subst e; simp [Instr.index, sigLit, go_sem]
  | 14, hg => by have e := Option.some.inj hg; subst e; simp [Instr.index, sigLit, go_sem]
  | 15, hg => by have e := Option.some.inj hg; subst e; simp [Instr.index, sigLit, go_sem]
  | _ + 16, hg => by simp [signsL] at hg

theorem sig_drop {k : Nat} (h : k < 16) : ∃ g, signsL[k]? = some g ∧ signsL.drop k = g :: signsL.drop (k + 1) ∧ g.length ≤ 2 := by
  have hl : k < signsL.length := h
  refine ⟨signsL[k], List.getElem?_eq_getElem hl, List.drop_eq_getElem_cons hl, ?_⟩
  have all : ∀ g ∈ signsL, g.length ≤ 2 := by decide
  exact all _ (List.getElem_mem hl)

set_option maxHeartbeats 2000000 in
theorem firstSign_any (s : ByteArray) (w : World) (h : SG w) :
    Calls Tryz.prog 98 #[.string s] w fun e w' => e = frV (signF signsL s.data.toList) ∧ Below w.heap.size w w' := by
  have hlt := h.lt
  have g0 := h 0 _ rfl
  have g1 := h 1 _ rfl
  have g2 := h 2 _ rfl
  have g3 := h 3 _ rfl
  have g4 := h 4 _ rfl
  have g5 := h 5 _ rfl
  have g6 := h 6 _ rfl
  have g7 := h 7 _ rfl
  have g8 := h 8 _ rfl
  have g9 := h 9 _ rfl
  have g10 := h 10 _ rfl
  have g11 := h 11 _ rfl
  have g12 := h 12 _ rfl
  have g13 := h 13 _ rfl
  have g14 := h 14 _ rfl
  have g15 := h 15 _ rfl
  have h1 : 1 < w.heap.size + 1 := by omega
  have SA := hide sig_at
  clear h
  go_enter Tryz.func98, Tryz.ntmps98
  go_wp2
  clear g0 g1 g2 g3 g4 g5 g6 g7 g8 g9 g10 g11 g12 g13 g14 g15
  go_loop [8] (fun i => ∃ k : Nat, k ≤ 16 ∧ i = .int .i64 (k : Int) ∧ Hid (signF (signsL.drop k) s.data.toList = signF signsL s.data.toList)) (fun i => 16 - (intOf i).toNat)
  case atStart => exact ⟨0, by omega, rfl, hide rfl⟩
  case round =>
    obtain ⟨k, hk, rfl, H⟩ := hrel
    by_cases hk2 : k < 16
    · obtain ⟨g, hg, hd, hg2⟩ := sig_drop hk2
      have hkI : (k : Int) < 16 := by omega
      have hx := fun W => unhide SA W g k hg
      have C := hide (fun W => hasPrefix_any s ⟨g.toArray⟩ W)
      rw [mk_list' g] at C
      rw [hd] at H
      have hz := mk_size' g
      obtain ⟨Gb, hGb⟩ : ∃ Gb : ByteArray, Gb = ⟨g.toArray⟩ := ⟨_, rfl⟩
      rw [← hGb] at hx C hz
      have HGb := hide hGb
      clear hGb hd hg
      cases hp : Lib.hasPrefix s.data.toList g
      · have H2 := hide ((signF_no hp).symm.trans (unhide H))
        rw [hp] at C
        clear hp H
        go_wp2_with (go_at_call 92; refine (unhide C _).mono ?_; rintro e w1 ⟨rfl, rfl⟩)
        go_round
        case rel => exact ⟨k + 1, by omega, by go_num, H2⟩
        case measure => simp [intOf]; omega
      · have H2 := hide ((unhide H).symm.trans (signF_yes hp))
        rw [hp] at C
        clear hp H
        go_wp2_with (go_at_call 92; refine (unhide C _).mono ?_; rintro e w1 ⟨rfl, rfl⟩)
        exact bodyPost_ret (v := .tuple #[.agg #[.int .i64 4, .string Gb, .int .i64 0, .int .i64 0, .int .i64 0], .int .i64 (g.length : Int), .agg #[.int .i64 0, .int .i64 0]]) (by simp [results, Tryz.results98, go_sem]) rfl ⟨by rw [unhide H2, unhide HGb]; rfl, ((Below.refl _ _).alloc (Nat.le_refl _) _).alloc (by simp) _⟩
    · obtain rfl : k = 16 := by omega
      have H2 : Hid (signF signsL s.data.toList = ⟨0, [], 0, 0, 0, 2, 0⟩) := hide (unhide H).symm
      clear H
      go_wp2
      exact bodyPost_ret (v := .tuple #[.agg #[.int .i64 0, .string ⟨#[]⟩, .int .i64 0, .int .i64 0, .int .i64 0], .int .i64 0, .agg #[.int .i64 2, .int .i64 0]]) (by simp [results, Tryz.results98, go_sem]) rfl ⟨by rw [unhide H2]; rfl, ((Below.refl _ _).alloc (Nat.le_refl _) _).alloc (by simp) _⟩
end Go.Proofs.YtnegjbkbfgkkjaaGreatDoor

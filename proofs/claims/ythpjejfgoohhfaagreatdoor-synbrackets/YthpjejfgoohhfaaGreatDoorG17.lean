/- Walks: isDigit, isBlank, unescaped, the closures that only look, lead over them. -/
import Derived.Test.YthpjejfgoohhfaaGreatDoorG15
import Derived.Test.YthpjejfgoohhfaaGreatDoorG16
import Derived.Lib.OthersKept
import Derived.Lib.MapLaws
import Derived.Lib.ValidLaws
import Derived.Lib.TrimUEq
import Derived.Laws.RangeAny
import Derived.Shelf.Unicode.PredsPay
namespace Go.Proofs.YthpjejfgoohhfaaGreatDoor
open Go.RowKit

def isDgR (r : Int) : Bool := decide (48 ≤ r) && decide (r ≤ 57)
def isBl (b : Nat) : Bool := b == 32 || b == 9 || b == 10

set_option maxHeartbeats 400000 in
theorem isDigit_any (r : Int) (w : World) :
    Calls Tryz.prog 88 #[.int .i32 r] w fun e w' => e = .returned (.bool (isDgR r)) ∧ w' = w := by
  by_cases h1 : 48 ≤ r
  · by_cases h2 : r ≤ 57
    · have E : Hid (isDgR r = true) := hide (by simp [isDgR, h1, h2])
      go_enter Tryz.func88, Tryz.ntmps88
      go_wp2
      go_ret
      exact ⟨by rw [unhide E]; rfl, rfl⟩
    · have E : Hid (isDgR r = false) := hide (by simp [isDgR, h2])
      go_enter Tryz.func88, Tryz.ntmps88
      go_wp2
      go_ret
      exact ⟨by rw [unhide E]; rfl, rfl⟩
  · have E : Hid (isDgR r = false) := hide (by simp [isDgR, h1])
    go_enter Tryz.func88, Tryz.ntmps88
    go_wp2
    go_ret
    exact ⟨by rw [unhide E]; rfl, rfl⟩

set_option maxHeartbeats 400000 in
theorem isBlank_any (b : UInt8) (w : World) :
    Calls Tryz.prog 39 #[.int .u8 (b.toNat : Int)] w fun e w' => e = .returned (.bool (isBl b.toNat)) ∧ w' = w := by
  generalize b.toNat = n
  have a : ∀ k : Nat, ((n : Int) == (k : Int)) = (n == k) := fun k => by
    rw [Bool.eq_iff_iff]; simp; omega
  have a1 : ((n : Int) == 32) = (n == 32) := a 32
  have a2 : ((n : Int) == 9) = (n == 9) := a 9
  have a3 : ((n : Int) == 10) = (n == 10) := a 10
  have E : Hid (isBl n = (n == 32 || n == 9 || n == 10)) := hide rfl
  cases h1 : (n == 32)
  · cases h2 : (n == 9)
    · cases h3 : (n == 10)
      all_goals
        rw [h1] at a1
        rw [h2] at a2
        rw [h3] at a3
        rw [h1, h2, h3] at E
        clear a h1 h2 h3
        go_enter Tryz.func39, Tryz.ntmps39
        go_wp2
        go_ret
        exact ⟨by rw [unhide E]; rfl, rfl⟩
    · rw [h1] at a1
      rw [h2] at a2
      rw [h1, h2] at E
      clear a h1 h2 a3
      go_enter Tryz.func39, Tryz.ntmps39
      go_wp2
      go_ret
      exact ⟨by rw [unhide E]; rfl, rfl⟩
  · rw [h1] at a1
    rw [h1] at E
    clear a h1 a2 a3
    go_enter Tryz.func39, Tryz.ntmps39
    go_wp2
    go_ret
    exact ⟨by rw [unhide E]; rfl, rfl⟩

/-- how far the runes go of which G says yes -/
def leadL (G : Nat → Nat → Bool) : Nat → Nat → List UInt8 → Nat
  | 0, pos, _ => pos
  | f + 1, pos, l => if l = [] then pos else if G pos (Lib.decodeL l).1 = true then leadL G f (pos + (Lib.decodeL l).2) (l.drop (Lib.decodeL l).2) else pos
theorem leadL_nil (G : Nat → Nat → Bool) (f pos : Nat) : leadL G f pos [] = pos := by cases f <;> simp [leadL]
theorem leadL_go {G : Nat → Nat → Bool} {f pos : Nat} {l : List UInt8} (h : l ≠ []) (g : G pos (Lib.decodeL l).1 = true) : leadL G (f + 1) pos l = leadL G f (pos + (Lib.decodeL l).2) (l.drop (Lib.decodeL l).2) := by rw [leadL, if_neg h, if_pos g]
theorem leadL_stop {G : Nat → Nat → Bool} {f pos : Nat} {l : List UInt8} (h : l ≠ []) (g : G pos (Lib.decodeL l).1 = false) : leadL G (f + 1) pos l = pos := by rw [leadL, if_neg h, if_neg (by rw [g]; decide)]
theorem drop_ne {s : ByteArray} {pos : Nat} (h : pos < s.size) : s.data.toList.drop pos ≠ [] := by
  intro e; have := congrArg List.length e; rw [List.length_drop, ← Lib.size_eq] at this; simp at this; omega
theorem dec_le (s : ByteArray) (pos : Nat) (h : pos < s.size) : pos + (Utf8.decode s pos).2 ≤ s.size := by
  have := Lib.decodeL_le _ (drop_ne h)
  rw [Lib.decodeL_drop, List.length_drop, ← Lib.size_eq] at this
  omega

set_option maxHeartbeats 1000000 in
theorem lead_digits (s : ByteArray) (G : Nat → Nat → Bool) (w : World) (hs : s.size ≤ 4000)
    (hG : ∀ (W : World) (pos r : Nat), Below w.heap.size w W → pos < s.size → r ≤ 1114111 → Calls Tryz.prog 87 #[.int .i64 (pos : Int), .int .i32 (r : Int)] W fun e w' => e = .returned (.bool (G pos r)) ∧ Below W.heap.size W w') :
    Calls Tryz.prog 59 #[.string s, .func (.func 87) #[] #[]] w fun e w' => e = .returned (.int .i64 (leadL G s.size 0 s.data.toList : Nat)) ∧ Below w.heap.size w w' := by
  have HG := hide hG
  clear hG
  go_enter Tryz.func59, Tryz.ntmps59
  go_wp2
  go_loopw [] (fun wr => ∃ (pos fuel : Nat), wr.heap[w.heap.size]? = some (.stringIter s pos) ∧ Below w.heap.size w wr ∧ pos ≤ s.size ∧ Hid (s.size ≤ pos + fuel ∧ leadL G fuel pos (s.data.toList.drop pos) = leadL G s.size 0 s.data.toList)) (fun wr => s.size - wr.iterPos w.heap.size)
  case atStart =>
    refine ⟨0, s.size, ?_, (Below.refl _ w).alloc (Nat.le_refl _) _, Nat.zero_le _, hide ⟨by omega, by simp⟩⟩
    simpa using World.iter_heap w s 0
  case round =>
    obtain ⟨pos, fuel, hit, hbw, hps, HF⟩ := hrel
    have hsz : w.heap.size < wr.heap.size := (Array.getElem?_eq_some_iff.1 hit).1
    by_cases hp : pos < s.size
    · have hnx : ∀ ty, (Instr.next (.pointer (some ⟨w.heap.size, 0, none⟩)) true ty).run Tryz.prog wr = _ := fun ty => Lib.run_next_any_at wr w.heap.size s pos ty hit hp
      have hd := Lib.decodeL_drop s pos
      have hw1 := Lib.width_pos s pos
      have hrl := Lib.rune_le s pos
      have hle := dec_le s pos hp
      generalize Utf8.decode s pos = q at hnx hd hw1 hrl hle
      obtain ⟨r, wd⟩ := q
      simp only at hw1 hrl hle
      have hit2 := Lib.iterAt_heap wr w.heap.size s pos (pos + wd) hit
      have hbw2 := Lib.below_iterAt hbw (k := w.heap.size) (by omega) s (pos + wd)
      have hsz2 : w.heap.size < (wr.iterAt w.heap.size s (pos + wd)).heap.size := by rw [Lib.iterAt_size]; omega
      have C := hide (unhide HG (wr.iterAt w.heap.size s (pos + wd)) pos r hbw2 hp hrl)
      obtain ⟨f, rfl⟩ : ∃ f, fuel = f + 1 := ⟨fuel - 1, by have := (unhide HF).1; omega⟩
      have hpI : (pos : Int) ≤ 4000 := by omega
      cases g : G pos r
      · have E : Hid (leadL G s.size 0 s.data.toList = pos) := by
          rw [← (unhide HF).2, leadL_stop (drop_ne hp) (by rw [hd]; exact g)]
          exact hide rfl
        rw [g] at C
        clear hd HF hbw g hit
        go_wp2_with (go_at_call 87; refine (unhide C).mono ?_; rintro e w1 ⟨rfl, hb⟩)
        go_ret
        exact ⟨by rw [unhide E]; rfl, hbw2.trans (hb.mono (by omega))⟩
      · have E : Hid (leadL G f (pos + wd) (s.data.toList.drop (pos + wd)) = leadL G s.size 0 s.data.toList) := by
          rw [← (unhide HF).2, leadL_go (drop_ne hp) (by rw [hd]; exact g), hd, List.drop_drop]
          exact hide rfl
        have F := hide (unhide HF).1
        rw [g] at C
        clear hd HF hbw g
        go_wp2_with (go_at_call 87; refine (unhide C).mono ?_; rintro e w1 ⟨rfl, hb⟩)
        have hit3 : w1.heap[w.heap.size]? = some (.stringIter s (pos + wd)) := (hb.block w.heap.size hsz2).trans hit2
        have hb3 := hbw2.trans (hb.mono (by omega))
        clear hb C
        go_roundw
        case rel => exact ⟨pos + wd, f, hit3, hb3, hle, hide ⟨by have := unhide F; omega, unhide E⟩⟩
        case measure =>
          simp only [World.iterPos, hit3, hit]
          omega
    · have hnx : ∀ ty, (Instr.next (.pointer (some ⟨w.heap.size, 0, none⟩)) true ty).run Tryz.prog wr = _ := fun ty => Lib.run_next_end_at wr w.heap.size s pos ty hit hp
      have E : Hid (leadL G s.size 0 s.data.toList = s.size) := by
        rw [← (unhide HF).2, List.drop_of_length_le (by rw [← Lib.size_eq]; omega), leadL_nil]
        exact hide (by omega)
      clear HF
      go_wp2
      go_ret
      exact ⟨by rw [unhide E]; rfl, hbw⟩

set_option maxHeartbeats 1000000 in
theorem lead_word (s : ByteArray) (G : Nat → Nat → Bool) (w : World) (hs : s.size ≤ 4000)
    (hG : ∀ (W : World) (pos r : Nat), Below w.heap.size w W → pos < s.size → r ≤ 1114111 → Calls Tryz.prog 91 #[.int .i64 (pos : Int), .int .i32 (r : Int)] W fun e w' => e = .returned (.bool (G pos r)) ∧ Below W.heap.size W w') :
    Calls Tryz.prog 59 #[.string s, .func (.func 91) #[] #[]] w fun e w' => e = .returned (.int .i64 (leadL G s.size 0 s.data.toList : Nat)) ∧ Below w.heap.size w w' := by
  have HG := hide hG
  clear hG
  go_enter Tryz.func59, Tryz.ntmps59
  go_wp2
  go_loopw [] (fun wr => ∃ (pos fuel : Nat), wr.heap[w.heap.size]? = some (.stringIter s pos) ∧ Below w.heap.size w wr ∧ pos ≤ s.size ∧ Hid (s.size ≤ pos + fuel ∧ leadL G fuel pos (s.data.toList.drop pos) = leadL G s.size 0 s.data.toList)) (fun wr => s.size - wr.iterPos w.heap.size)
  case atStart =>
    refine ⟨0, s.size, ?_, (Below.refl _ w).alloc (Nat.le_refl _) _, Nat.zero_le _, hide ⟨by omega, by simp⟩⟩
    simpa using World.iter_heap w s 0
  case round =>
    obtain ⟨pos, fuel, hit, hbw, hps, HF⟩ := hrel
    have hsz : w.heap.size < wr.heap.size := (Array.getElem?_eq_some_iff.1 hit).1
    by_cases hp : pos < s.size
    · have hnx : ∀ ty, (Instr.next (.pointer (some ⟨w.heap.size, 0, none⟩)) true ty).run Tryz.prog wr = _ := fun ty => Lib.run_next_any_at wr w.heap.size s pos ty hit hp
      have hd := Lib.decodeL_drop s pos
      have hw1 := Lib.width_pos s pos
      have hrl := Lib.rune_le s pos
      have hle := dec_le s pos hp
      generalize Utf8.decode s pos = q at hnx hd hw1 hrl hle
      obtain ⟨r, wd⟩ := q
      simp only at hw1 hrl hle
      have hit2 := Lib.iterAt_heap wr w.heap.size s pos (pos + wd) hit
      have hbw2 := Lib.below_iterAt hbw (k := w.heap.size) (by omega) s (pos + wd)
      have hsz2 : w.heap.size < (wr.iterAt w.heap.size s (pos + wd)).heap.size := by rw [Lib.iterAt_size]; omega
      have C := hide (unhide HG (wr.iterAt w.heap.size s (pos + wd)) pos r hbw2 hp hrl)
      obtain ⟨f, rfl⟩ : ∃ f, fuel = f + 1 := ⟨fuel - 1, by have := (unhide HF).1; omega⟩
      have hpI : (pos : Int) ≤ 4000 := by omega
      cases g : G pos r
      · have E : Hid (leadL G s.size 0 s.data.toList = pos) := by
          rw [← (unhide HF).2, leadL_stop (drop_ne hp) (by rw [hd]; exact g)]
          exact hide rfl
        rw [g] at C
        clear hd HF hbw g hit
        go_wp2_with (go_at_call 91; refine (unhide C).mono ?_; rintro e w1 ⟨rfl, hb⟩)
        go_ret
        exact ⟨by rw [unhide E]; rfl, hbw2.trans (hb.mono (by omega))⟩
      · have E : Hid (leadL G f (pos + wd) (s.data.toList.drop (pos + wd)) = leadL G s.size 0 s.data.toList) := by
          rw [← (unhide HF).2, leadL_go (drop_ne hp) (by rw [hd]; exact g), hd, List.drop_drop]
          exact hide rfl
        have F := hide (unhide HF).1
        rw [g] at C
        clear hd HF hbw g
        go_wp2_with (go_at_call 91; refine (unhide C).mono ?_; rintro e w1 ⟨rfl, hb⟩)
        have hit3 : w1.heap[w.heap.size]? = some (.stringIter s (pos + wd)) := (hb.block w.heap.size hsz2).trans hit2
        have hb3 := hbw2.trans (hb.mono (by omega))
        clear hb C
        go_roundw
        case rel => exact ⟨pos + wd, f, hit3, hb3, hle, hide ⟨by have := unhide F; omega, unhide E⟩⟩
        case measure =>
          simp only [World.iterPos, hit3, hit]
          omega
    · have hnx : ∀ ty, (Instr.next (.pointer (some ⟨w.heap.size, 0, none⟩)) true ty).run Tryz.prog wr = _ := fun ty => Lib.run_next_end_at wr w.heap.size s pos ty hit hp
      have E : Hid (leadL G s.size 0 s.data.toList = s.size) := by
        rw [← (unhide HF).2, List.drop_of_length_le (by rw [← Lib.size_eq]; omega), leadL_nil]
        exact hide (by omega)
      clear HF
      go_wp2
      go_ret
      exact ⟨by rw [unhide E]; rfl, hbw⟩

set_option maxHeartbeats 1000000 in
theorem lead_utf (s : ByteArray) (v : Value) (G : Nat → Nat → Bool) (w : World) (hs : s.size ≤ 4000)
    (hG : ∀ (W : World) (pos r : Nat), Below w.heap.size w W → pos < s.size → r ≤ 1114111 → Calls Tryz.prog 60 #[.int .i64 (pos : Int), .int .i32 (r : Int), v] W fun e w' => e = .returned (.bool (G pos r)) ∧ Below W.heap.size W w') :
    Calls Tryz.prog 59 #[.string s, .func (.func 60) #[] #[v]] w fun e w' => e = .returned (.int .i64 (leadL G s.size 0 s.data.toList : Nat)) ∧ Below w.heap.size w w' := by
  have HG := hide hG
  clear hG
  go_enter Tryz.func59, Tryz.ntmps59
  go_wp2
  go_loopw [] (fun wr => ∃ (pos fuel : Nat), wr.heap[w.heap.size]? = some (.stringIter s pos) ∧ Below w.heap.size w wr ∧ pos ≤ s.size ∧ Hid (s.size ≤ pos + fuel ∧ leadL G fuel pos (s.data.toList.drop pos) = leadL G s.size 0 s.data.toList)) (fun wr => s.size - wr.iterPos w.heap.size)
  case atStart =>
    refine ⟨0, s.size, ?_, (Below.refl _ w).alloc (Nat.le_refl _) _, Nat.zero_le _, hide ⟨by omega, by simp⟩⟩
    simpa using World.iter_heap w s 0
  case round =>
    obtain ⟨pos, fuel, hit, hbw, hps, HF⟩ := hrel
    have hsz : w.heap.size < wr.heap.size := (Array.getElem?_eq_some_iff.1 hit).1
    by_cases hp : pos < s.size
    · have hnx : ∀ ty, (Instr.next (.pointer (some ⟨w.heap.size, 0, none⟩)) true ty).run Tryz.prog wr = _ := fun ty => Lib.run_next_any_at wr w.heap.size s pos ty hit hp
      have hd := Lib.decodeL_drop s pos
      have hw1 := Lib.width_pos s pos
      have hrl := Lib.rune_le s pos
      have hle := dec_le s pos hp
      generalize Utf8.decode s pos = q at hnx hd hw1 hrl hle
      obtain ⟨r, wd⟩ := q
      simp only at hw1 hrl hle
      have hit2 := Lib.iterAt_heap wr w.heap.size s pos (pos + wd) hit
      have hbw2 := Lib.below_iterAt hbw (k := w.heap.size) (by omega) s (pos + wd)
      have hsz2 : w.heap.size < (wr.iterAt w.heap.size s (pos + wd)).heap.size := by rw [Lib.iterAt_size]; omega
      have C := hide (unhide HG (wr.iterAt w.heap.size s (pos + wd)) pos r hbw2 hp hrl)
      obtain ⟨f, rfl⟩ : ∃ f, fuel = f + 1 := ⟨fuel - 1, by have := (unhide HF).1; omega⟩
      have hpI : (pos : Int) ≤ 4000 := by omega
      cases g : G pos r
      · have E : Hid (leadL G s.size 0 s.data.toList = pos) := by
          rw [← (unhide HF).2, leadL_stop (drop_ne hp) (by rw [hd]; exact g)]
          exact hide rfl
        rw [g] at C
        clear hd HF hbw g hit
        go_wp2_with (go_at_call 60; refine (unhide C).mono ?_; rintro e w1 ⟨rfl, hb⟩)
        go_ret
        exact ⟨by rw [unhide E]; rfl, hbw2.trans (hb.mono (by omega))⟩
      · have E : Hid (leadL G f (pos + wd) (s.data.toList.drop (pos + wd)) = leadL G s.size 0 s.data.toList) := by
          rw [← (unhide HF).2, leadL_go (drop_ne hp) (by rw [hd]; exact g), hd, List.drop_drop]
          exact hide rfl
        have F := hide (unhide HF).1
        rw [g] at C
        clear hd HF hbw g
        go_wp2_with (go_at_call 60; refine (unhide C).mono ?_; rintro e w1 ⟨rfl, hb⟩)
        have hit3 : w1.heap[w.heap.size]? = some (.stringIter s (pos + wd)) := (hb.block w.heap.size hsz2).trans hit2
        have hb3 := hbw2.trans (hb.mono (by omega))
        clear hb C
        go_roundw
        case rel => exact ⟨pos + wd, f, hit3, hb3, hle, hide ⟨by have := unhide F; omega, unhide E⟩⟩
        case measure =>
          simp only [World.iterPos, hit3, hit]
          omega
    · have hnx : ∀ ty, (Instr.next (.pointer (some ⟨w.heap.size, 0, none⟩)) true ty).run Tryz.prog wr = _ := fun ty => Lib.run_next_end_at wr w.heap.size s pos ty hit hp
      have E : Hid (leadL G s.size 0 s.data.toList = s.size) := by
        rw [← (unhide HF).2, List.drop_of_length_le (by rw [← Lib.size_eq]; omega), leadL_nil]
        exact hide (by omega)
      clear HF
      go_wp2
      go_ret
      exact ⟨by rw [unhide E]; rfl, hbw⟩

end Go.Proofs.YthpjejfgoohhfaaGreatDoor

/- Walks: the closures that only look; leadOfDigits, leadOfUTF8, leadOfWord. -/
namespace Go.Proofs.YthpjejfgoohhfaaGreatDoor
open Go.RowKit

theorem hasPrefix_any (s p : ByteArray) (w : World) :
    Calls Tryz.prog 61 #[.string s, .string p] w fun e w' => e = .returned (.bool (Lib.hasPrefix s.data.toList p.data.toList)) ∧ w' = w :=
  Any.strings_HasPrefix Tryz.lays99 s p w

def gDig (_ r : Nat) : Bool := isDgR (r : Int)
def gUtf (l : List UInt8) (pos r : Nat) : Bool := !(r == 65533) || Lib.hasPrefix (l.drop pos) [239, 191, 189]
def gWord (pos r : Nat) : Bool := r == 95 || Lib.isLetterU (r : Int) || (decide (0 < pos) && isDgR (r : Int))

set_option maxHeartbeats 400000 in
theorem gDig_any (pos r : Nat) (w : World) :
    Calls Tryz.prog 87 #[.int .i64 (pos : Int), .int .i32 (r : Int)] w fun e w' => e = .returned (.bool (gDig pos r)) ∧ Below w.heap.size w w' := by
  have C := hide (isDigit_any (r : Int))
  show Calls _ _ _ _ fun e w' => e = .returned (.bool (isDgR (r : Int))) ∧ _
  generalize isDgR (r : Int) = g at *
  go_enter Tryz.func87, Tryz.ntmps87
  go_wp2_with (go_at_call 88; refine (unhide C _).mono ?_; rintro e w1 ⟨rfl, rfl⟩)
  go_ret
  exact ⟨rfl, Below.refl _ _⟩

set_option maxHeartbeats 400000 in
theorem gUtf_any (s : ByteArray) (b pos r : Nat) (w : World) (hb : w.cell? ⟨b, 0, none⟩ = some (.string s)) (hp : pos ≤ s.size) :
    Calls Tryz.prog 60 #[.int .i64 (pos : Int), .int .i32 (r : Int), .pointer (some ⟨b, 0, none⟩)] w fun e w' => e = .returned (.bool (gUtf s.data.toList pos r)) ∧ Below w.heap.size w w' := by
  have c1 : (0 : Int) ≤ (pos : Int) := by omega
  have c2 : (pos : Int) ≤ (s.size : Int) := by omega
  by_cases h : r = 65533
  · subst h
    have C := hide (hasPrefix_any (s.extract pos s.size) ⟨#[239, 191, 189]⟩)
    have E : Hid (gUtf s.data.toList pos 65533 = Lib.hasPrefix (s.extract pos s.size).data.toList [239, 191, 189]) := by
      rw [ext_drop]; exact hide rfl
    rw [show (⟨#[239, 191, 189]⟩ : ByteArray).data.toList = [239, 191, 189] from rfl] at C
    generalize Lib.hasPrefix (s.extract pos s.size).data.toList [239, 191, 189] = g at *
    go_enter Tryz.func60, Tryz.ntmps60
    go_wp2_with (go_at_call 61; refine (unhide C _).mono ?_; rintro e w1 ⟨rfl, rfl⟩)
    go_ret
    exact ⟨by rw [unhide E]; rfl, Below.refl _ _⟩
  · have E : Hid (gUtf s.data.toList pos r = true) := hide (by unfold gUtf; simp [h])
    have h' : ((r : Int) != 65533) = true := by simp; omega
    go_enter Tryz.func60, Tryz.ntmps60
    go_wp2
    go_ret
    exact ⟨by rw [unhide E]; rfl, Below.refl _ _⟩

/-- unicode's two tables lie -/
def LT (w : World) : Prop := ∀ W, Below w.heap.size w W → Lib.TabIs Tryz.prog W "unicode.properties" .u8 Lib.propertiesTab ∧ Lib.RVar (Tryz.lays200_ren.g 8) Lib.letterT W
theorem LT.on {w W : World} (h : LT w) (hb : Below w.heap.size w W) : LT W := fun W' hb' => h W' (hb.trans (hb'.mono hb.size))
theorem isLetter_any (r : Int) (w : World) (hlo : -2147483648 ≤ r) (hhi : r ≤ 2147483647) (h : LT w) :
    Calls Tryz.prog 92 #[.int .i32 r] w fun e w' => e = .returned (.bool (Lib.isLetterU r)) ∧ Below w.heap.size w w' :=
  Any.unicode_IsLetter_all Tryz.lays200 (by kernel_rfl) r w hlo hhi (h w (Below.refl _ _)).1 (h w (Below.refl _ _)).2

set_option maxHeartbeats 400000 in
theorem gWord_any (pos r : Nat) (w : World) (hr : r ≤ 1114111) (hp : pos ≤ 4000) (h : LT w) :
    Calls Tryz.prog 91 #[.int .i64 (pos : Int), .int .i32 (r : Int)] w fun e w' => e = .returned (.bool (gWord pos r)) ∧ Below w.heap.size w w' := by
  have C := hide (isDigit_any (r : Int))
  have L := hide (isLetter_any (r : Int) w (by omega) (by omega) h)
  have E : Hid (gWord pos r = (r == 95 || Lib.isLetterU (r : Int) || (decide (0 < pos) && isDgR (r : Int)))) := hide rfl
  generalize gWord pos r = G at *
  generalize isDgR (r : Int) = d at *
  generalize Lib.isLetterU (r : Int) = g at *
  clear h
  by_cases h1 : r = 95
  · subst h1
    clear L C
    go_enter Tryz.func91, Tryz.ntmps91
    go_wp2
    go_ret
    exact ⟨by rw [unhide E]; rfl, Below.refl _ _⟩
  · have h1' : ((r : Int) == 95) = false := by simp; omega
    have h1n : (r == 95) = false := by simp [h1]
    rw [h1n] at E
    clear h1 h1n
    cases g
    · by_cases h0 : 0 < pos
      · have h0' : (0 : Int) < (pos : Int) := by omega
        rw [decide_eq_true h0] at E
        go_enter Tryz.func91, Tryz.ntmps91
        go_wp2_with fail
        refine (unhide L).mono ?_
        rintro e w1 ⟨rfl, hb⟩
        go_wp2_with fail
        refine (unhide C _).mono ?_
        rintro e w2 ⟨rfl, rfl⟩
        go_wp2
        go_ret
        exact ⟨by rw [unhide E]; simp, hb⟩
      · have h0' : ¬ (0 : Int) < (pos : Int) := by omega
        rw [decide_eq_false h0] at E
        go_enter Tryz.func91, Tryz.ntmps91
        go_wp2_with fail
        refine (unhide L).mono ?_
        rintro e w1 ⟨rfl, hb⟩
        go_wp2
        go_ret
        exact ⟨by rw [unhide E]; rfl, hb⟩
    · go_enter Tryz.func91, Tryz.ntmps91
      go_wp2_with fail
      refine (unhide L).mono ?_
      rintro e w1 ⟨rfl, hb⟩
      go_wp2
      go_ret
      exact ⟨by rw [unhide E]; rfl, hb⟩

set_option maxHeartbeats 400000 in
theorem leadOfDigits_any (s : ByteArray) (w : World) (hs : s.size ≤ 4000) :
    Calls Tryz.prog 63 #[.string s] w fun e w' => e = .returned (.int .i64 (leadL gDig s.size 0 s.data.toList : Nat)) ∧ Below w.heap.size w w' := by
  have C := hide (fun wx => lead_digits s gDig wx hs (fun W pos r _ _ _ => gDig_any pos r W))
  generalize leadL gDig s.size 0 s.data.toList = n at *
  go_enter Tryz.func63, Tryz.ntmps63
  go_wp2_with (go_at_call 59; refine (unhide C _).mono ?_; rintro e w1 ⟨rfl, hb⟩)
  go_ret
  exact ⟨rfl, hb⟩

set_option maxHeartbeats 400000 in
theorem leadOfWord_any (s : ByteArray) (w : World) (hs : s.size ≤ 4000) (h : LT w) :
    Calls Tryz.prog 65 #[.string s] w fun e w' => e = .returned (.int .i64 (leadL gWord s.size 0 s.data.toList : Nat)) ∧ Below w.heap.size w w' := by
  have C := hide (lead_word s gWord w hs (fun W pos r hb hp hr => gWord_any pos r W hr (by omega) (h.on hb)))
  generalize leadL gWord s.size 0 s.data.toList = n at *
  clear h
  go_enter Tryz.func65, Tryz.ntmps65
  go_wp2_with (go_at_call 59; refine (unhide C).mono ?_; rintro e w1 ⟨rfl, hb⟩)
  go_ret
  exact ⟨rfl, hb⟩

set_option maxHeartbeats 400000 in
theorem leadOfUTF8_any (s : ByteArray) (w : World) (hs : s.size ≤ 4000) :
    Calls Tryz.prog 38 #[.string s] w fun e w' => e = .returned (.int .i64 (leadL (gUtf s.data.toList) s.size 0 s.data.toList : Nat)) ∧ Below w.heap.size w w' := by
  have C := hide (lead_utf s (.pointer (some ⟨w.heap.size, 0, none⟩)) (gUtf s.data.toList) (w.alloc (.cells #[.string s] 9)) hs (fun W pos r hb hp hr => gUtf_any s w.heap.size pos r W ((hb.cell (p := ⟨w.heap.size, 0, none⟩) (by simp)).trans (by simp [go_sem])) (by omega)))
  generalize leadL (gUtf s.data.toList) s.size 0 s.data.toList = n at *
  go_enter Tryz.func38, Tryz.ntmps38
  go_wp2_with (go_at_call 59; refine (unhide C).mono ?_; rintro e w1 ⟨rfl, hb⟩)
  go_ret
  exact ⟨rfl, ((Below.refl _ _).alloc (Nat.le_refl _) _).trans (hb.mono (by simp))⟩
end Go.Proofs.YthpjejfgoohhfaaGreatDoor

/- Walks: the closures that only look; leadOfDigits, leadOfUTF8, leadOfWord. -/
import Derived.Test.YtjjioikgligaoaaDoorF1
namespace Go.Proofs.YtjjioikgligaoaaDoor
open Go.RowKit

theorem hasPrefix_any (s p : ByteArray) (w : World) :
    Calls Tryd.prog 19 #[.string s, .string p] w fun e w' => e = .returned (.bool (Lib.hasPrefix s.data.toList p.data.toList)) ∧ w' = w :=
  Any.strings_HasPrefix Tryd.lays99 s p w

def gDig (_ r : Nat) : Bool := isDgR (r : Int)
def gUtf (l : List UInt8) (pos r : Nat) : Bool := !(r == 65533) || Lib.hasPrefix (l.drop pos) [239, 191, 189]
def gWord (pos r : Nat) : Bool := r == 95 || Lib.isLetterU (r : Int) || (decide (0 < pos) && isDgR (r : Int))

set_option maxHeartbeats 400000 in
theorem gDig_any (pos r : Nat) (w : World) :
    Calls Tryd.prog 31 #[.int .i64 (pos : Int), .int .i32 (r : Int)] w fun e w' => e = .returned (.bool (gDig pos r)) ∧ Below w.heap.size w w' := by
  have C := hide (isDigit_any (r : Int))
  show Calls _ _ _ _ fun e w' => e = .returned (.bool (isDgR (r : Int))) ∧ _
  generalize isDgR (r : Int) = g at *
  go_enter Tryd.func31, Tryd.ntmps31
  go_wp2_with (go_at_call 32; refine (unhide C _).mono ?_; rintro e w1 ⟨rfl, rfl⟩)
  go_ret
  exact ⟨rfl, Below.refl _ _⟩

set_option maxHeartbeats 400000 in
theorem gUtf_any (s : ByteArray) (b pos r : Nat) (w : World) (hb : w.cell? ⟨b, 0, none⟩ = some (.string s)) (hp : pos ≤ s.size) :
    Calls Tryd.prog 18 #[.int .i64 (pos : Int), .int .i32 (r : Int), .pointer (some ⟨b, 0, none⟩)] w fun e w' => e = .returned (.bool (gUtf s.data.toList pos r)) ∧ Below w.heap.size w w' := by
  have c1 : (0 : Int) ≤ (pos : Int) := by omega
  have c2 : (pos : Int) ≤ (s.size : Int) := by omega
  by_cases h : r = 65533
  · subst h
    have C := hide (hasPrefix_any (s.extract pos s.size) ⟨#[239, 191, 189]⟩)
    have E : Hid (gUtf s.data.toList pos 65533 = Lib.hasPrefix (s.extract pos s.size).data.toList [239, 191, 189]) := by
      rw [ext_drop]; exact hide rfl
    rw [show (⟨#[239, 191, 189]⟩ : ByteArray).data.toList = [239, 191, 189] from rfl] at C
    generalize Lib.hasPrefix (s.extract pos s.size).data.toList [239, 191, 189] = g at *
    go_enter Tryd.func18, Tryd.ntmps18
    go_wp2_with (go_at_call 19; refine (unhide C _).mono ?_; rintro e w1 ⟨rfl, rfl⟩)
    go_ret
    exact ⟨by rw [unhide E]; rfl, Below.refl _ _⟩
  · have E : Hid (gUtf s.data.toList pos r = true) := hide (by unfold gUtf; simp [h])
    have h' : ((r : Int) != 65533) = true := by simp; omega
    go_enter Tryd.func18, Tryd.ntmps18
    go_wp2
    go_ret
    exact ⟨by rw [unhide E]; rfl, Below.refl _ _⟩

/-- unicode's two tables lie -/
def LT (w : World) : Prop := ∀ W, Below w.heap.size w W → Lib.TabIs Tryd.prog W "unicode.properties" .u8 Lib.propertiesTab ∧ Lib.RVar (Tryd.lays200_ren.g 8) Lib.letterT W
theorem LT.on {w W : World} (h : LT w) (hb : Below w.heap.size w W) : LT W := fun W' hb' => h W' (hb.trans (hb'.mono hb.size))
theorem isLetter_any (r : Int) (w : World) (hlo : -2147483648 ≤ r) (hhi : r ≤ 2147483647) (h : LT w) :
    Calls Tryd.prog 36 #[.int .i32 r] w fun e w' => e = .returned (.bool (Lib.isLetterU r)) ∧ Below w.heap.size w w' :=
  Any.unicode_IsLetter_all Tryd.lays200 (by kernel_rfl) r w hlo hhi (h w (Below.refl _ _)).1 (h w (Below.refl _ _)).2

set_option maxHeartbeats 400000 in
theorem gWord_any (pos r : Nat) (w : World) (hr : r ≤ 1114111) (hp : pos ≤ 4000) (h : LT w) :
    Calls Tryd.prog 35 #[.int .i64 (pos : Int), .int .i32 (r : Int)] w fun e w' => e = .returned (.bool (gWord pos r)) ∧ Below w.heap.size w w' := by
  have C := hide (isDigit_any (r : Int))
  have L := hide (isLetter_any (r : Int) w (by omega) (by omega) h)
  have E : Hid (gWord pos r = (r == 95 || Lib.isLetterU (r : Int) || (decide (0 < pos) && isDgR (r : Int)))) := hide rfl
  generalize gWord pos r = G at *
  generalize isDgR (r : Int) = d at *
  generalize Lib.isLetterU (r : Int) = g at *
  clear h
  by_cases h1 : r = 95
  · subst h1
    clear L C
    go_enter Tryd.func35, Tryd.ntmps35
    go_wp2
    go_ret
    exact ⟨by rw [unhide E]; rfl, Below.refl _ _⟩
  · have h1' : ((r : Int) == 95) = false := by simp; omega
    have h1n : (r == 95) = false := by simp [h1]
    rw [h1n] at E
    clear h1 h1n
    cases g
    · by_cases h0 : 0 < pos
      · have h0' : (0 : Int) < (pos : Int) := by omega
        rw [decide_eq_true h0] at E
        go_enter Tryd.func35, Tryd.ntmps35
        go_wp2_with fail
        refine (unhide L).mono ?_
        rintro e w1 ⟨rfl, hb⟩
        go_wp2_with fail
        refine (unhide C _).mono ?_
        rintro e w2 ⟨rfl, rfl⟩
        go_wp2
        go_ret
        exact ⟨by rw [unhide E]; simp, hb⟩
      · have h0' : ¬ (0 : Int) < (pos : Int) := by omega
        rw [decide_eq_false h0] at E
        go_enter Tryd.func35, Tryd.ntmps35
        go_wp2_with fail
        refine (unhide L).mono ?_
        rintro e w1 ⟨rfl, hb⟩
        go_wp2
        go_ret
        exact ⟨by rw [unhide E]; rfl, hb⟩
    · go_enter Tryd.func35, Tryd.ntmps35
      go_wp2_with fail
      refine (unhide L).mono ?_
      rintro e w1 ⟨rfl, hb⟩
      go_wp2
      go_ret
      exact ⟨by rw [unhide E]; rfl, hb⟩

set_option maxHeartbeats 400000 in
theorem leadOfDigits_any (s : ByteArray) (w : World) (hs : s.size ≤ 4000) :
    Calls Tryd.prog 21 #[.string s] w fun e w' => e = .returned (.int .i64 (leadL gDig s.size 0 s.data.toList : Nat)) ∧ Below w.heap.size w w' := by
  have C := hide (fun wx => lead_digits s gDig wx hs (fun W pos r _ _ _ => gDig_any pos r W))
  generalize leadL gDig s.size 0 s.data.toList = n at *
  go_enter Tryd.func21, Tryd.ntmps21
  go_wp2_with (go_at_call 17; refine (unhide C _).mono ?_; rintro e w1 ⟨rfl, hb⟩)
  go_ret
  exact ⟨rfl, hb⟩

set_option maxHeartbeats 400000 in
theorem leadOfWord_any (s : ByteArray) (w : World) (hs : s.size ≤ 4000) (h : LT w) :
    Calls Tryd.prog 23 #[.string s] w fun e w' => e = .returned (.int .i64 (leadL gWord s.size 0 s.data.toList : Nat)) ∧ Below w.heap.size w w' := by
  have C := hide (lead_word s gWord w hs (fun W pos r hb hp hr => gWord_any pos r W hr (by omega) (h.on hb)))
  generalize leadL gWord s.size 0 s.data.toList = n at *
  clear h
  go_enter Tryd.func23, Tryd.ntmps23
  go_wp2_with (go_at_call 17; refine (unhide C).mono ?_; rintro e w1 ⟨rfl, hb⟩)
  go_ret
  exact ⟨rfl, hb⟩

set_option maxHeartbeats 400000 in
theorem leadOfUTF8_any (s : ByteArray) (w : World) (hs : s.size ≤ 4000) :
    Calls Tryd.prog 13 #[.string s] w fun e w' => e = .returned (.int .i64 (leadL (gUtf s.data.toList) s.size 0 s.data.toList : Nat)) ∧ Below w.heap.size w w' := by
  have C := hide (lead_utf s (.pointer (some ⟨w.heap.size, 0, none⟩)) (gUtf s.data.toList) (w.alloc (.cells #[.string s] 9)) hs (fun W pos r hb hp hr => gUtf_any s w.heap.size pos r W ((hb.cell (p := ⟨w.heap.size, 0, none⟩) (by simp)).trans (by simp [go_sem])) (by omega)))
  generalize leadL (gUtf s.data.toList) s.size 0 s.data.toList = n at *
  go_enter Tryd.func13, Tryd.ntmps13
  go_wp2_with (go_at_call 17; refine (unhide C).mono ?_; rintro e w1 ⟨rfl, hb⟩)
  go_ret
  exact ⟨rfl, ((Below.refl _ _).alloc (Nat.le_refl _) _).trans (hb.mono (by simp))⟩
end Go.Proofs.YtjjioikgligaoaaDoor

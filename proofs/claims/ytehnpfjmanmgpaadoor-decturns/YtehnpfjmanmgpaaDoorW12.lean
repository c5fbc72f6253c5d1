/- Walks: less. -/
import Derived.Test.YtehnpfjmanmgpaaDoorMem
import Derived.Lib.BytesEntry
import Derived.Laws.Externs
namespace Go.Proofs.YtehnpfjmanmgpaaDoor
open Go.RowKit

def xsI (X : Nat → Nat) (n : Nat) : List Int := (List.range n).map fun j => (X j : Int)
def mkB (X : Nat → Nat) (n : Nat) : ByteArray := ⟨(Lib.bytesOf (xsI X n)).toArray⟩
theorem mkB_size (X : Nat → Nat) (n : Nat) : (mkB X n).size = n := by
  show (Lib.bytesOf (xsI X n)).toArray.size = n
  simp [Lib.bytesOf, xsI]
theorem mkB_at (X : Nat → Nat) {n i : Nat} (h : i < n) : (mkB X n)[i]! = (X i).toUInt8 := by
  rw [getElem!_pos _ i (by rw [mkB_size]; exact h)]
  have hs : i < (Lib.bytesOf (xsI X n)).toArray.size := by simp [Lib.bytesOf, xsI, h]
  show ((Lib.bytesOf (xsI X n)).toArray)[i]'hs = _
  simp [Lib.bytesOf, xsI]

theorem u8_ne {a b : Nat} (ha : a < 10) (hb : b < 10) : (a.toUInt8 != b.toUInt8) = decide (a ≠ b) := by
  have e : (a.toUInt8 = b.toUInt8) ↔ a = b := by
    rw [← UInt8.toNat_inj]
    simp
    omega
  rw [Bool.eq_iff_iff]
  simp [e]
theorem u8_lt {a b : Nat} (ha : a < 10) (hb : b < 10) : (a.toUInt8 < b.toUInt8) ↔ a < b := by
  simp [UInt8.lt_iff_toNat_lt]
  omega

theorem val_first {X Y : Nat → Nat} (hX : ∀ j, X j < 10) {n i : Nat} (hi : i < n) (h : ∀ j, j < i → X j = Y j) (hlt : X i < Y i) : Dm.val X n < Dm.val Y n := by
  have a := Dm.val_suf X n (n - i) (by omega)
  have b := Dm.val_suf Y n (n - i) (by omega)
  rw [show n - (n - i) = i by omega] at a b
  obtain ⟨k, hk⟩ : ∃ k, n - i = k + 1 := ⟨n - i - 1, by omega⟩
  rw [hk, Dm.suf, show n - (k + 1) = i by omega] at a b
  rw [Dm.val_congr i h] at a
  have l := Dm.suf_lt hX n k
  have m : (X i + 1) * 10 ^ k ≤ Y i * 10 ^ k := Nat.mul_le_mul_right _ hlt
  rw [Nat.add_mul] at m
  omega

theorem cmp_dig {X Y : Nat → Nat} (hX : ∀ j, X j < 10) (hY : ∀ j, Y j < 10) (n : Nat) : decide (Extern.BytealgCompare.cmp (mkB X n) (mkB Y n) < 0) = decide (Dm.val X n < Dm.val Y n) := by
  unfold Extern.BytealgCompare.cmp
  rw [mkB_size, mkB_size, Nat.min_self]
  have key : ∀ j, j < n → ((mkB X n)[j]! != (mkB Y n)[j]!) = decide (X j ≠ Y j) := fun j hj => by rw [mkB_at X hj, mkB_at Y hj, u8_ne (hX j) (hY j)]
  cases hf : (List.range n).find? fun i => (mkB X n)[i]! != (mkB Y n)[i]! with
  | none =>
    have hall : ∀ j, j < n → X j = Y j := by
      intro j hj
      have := List.find?_eq_none.1 hf j (by simpa using hj)
      rw [key j hj] at this
      simpa using this
    rw [Dm.val_congr n hall]
    simp
  | some i =>
    obtain ⟨h1, h2, h3⟩ := List.find?_range_eq_some.1 hf
    have hi : i < n := by simpa using h2
    rw [key i hi] at h1
    have hpre : ∀ j, j < i → X j = Y j := by
      intro j hj
      have := h3 j hj
      rw [key j (by omega)] at this
      simpa using this
    simp only [mkB_at X hi, mkB_at Y hi, u8_lt (hX i) (hY i)]
    rcases Nat.lt_trichotomy (X i) (Y i) with g | g | g
    · have := val_first hX hi hpre g
      simp [g, this]
    · simp [g] at h1
    · have := val_first hY hi (fun j hj => (hpre j hj).symm) g
      rw [if_neg (by omega)]
      simp
      omega

theorem run_compare (bx ox cx b y cy n : Nat) (X Y : Nat → Nat) (w : World) (hX : DS w bx ox n X) (hY : DS w b y n Y) :
    (callFunc 80 #[.slice (some ⟨bx, ox, none⟩) n cx, .slice (some ⟨b, y, none⟩) n cy]).run Tryd.prog w = .ok (.value (.int .i64 (Extern.BytealgCompare.cmp (mkB X n) (mkB Y n)))) w := by
  have ld : ∀ (b o : Nat) (D : Nat → Nat), DS w b o n D → (Extern.Bytes.loadBytes ⟨b, o, none⟩ n .empty).run Tryd.prog w = .ok (mkB D n) w := by
    intro b o D h
    have := Lib.run_loadBytesX (P := Tryd.prog) w (xsI D n) ⟨b, o, none⟩ .empty (fun j x hj => by
      have hjn : j < n := by have := (List.getElem?_eq_some_iff.1 hj).1; simpa [xsI] using this
      rw [Addr.add_lit, h.cell j hjn]
      simp [xsI, hjn] at hj
      rw [hj])
    rw [show (xsI D n).length = n by simp [xsI]] at this
    rw [this]
    congr 1
    unfold mkB
    apply ByteArray.ext
    simp
  rw [run_callFunc_extern Tryd.func80 (by kernel_rfl) (by kernel_rfl) (by kernel_rfl) (e := Extern.BytealgCompare.compare) (by kernel_rfl)]
  change (Sem.run _ (do pure (goInt (Extern.BytealgCompare.cmp (← Extern.Bytes.bytesOf (.slice (some ⟨bx, ox, none⟩) n cx)) (← Extern.Bytes.bytesOf (.slice (some ⟨b, y, none⟩) n cy)))) : Sem Value) w).andThen _ = _
  simp only [Extern.Bytes.bytesOf, Sem.run_bind, Sem.run_pure, ld bx ox X hX, ld b y Y hY, Result.andThen, goInt]

set_option maxHeartbeats 400000 in
theorem less_any (bx ox cx b y cy n : Nat) (X Y : Nat → Nat) (w : World) (hX : DS w bx ox n X) (hY : DS w b y n Y) :
    Calls Tryd.prog 51 #[.slice (some ⟨bx, ox, none⟩) n cx, .slice (some ⟨b, y, none⟩) n cy] w fun e w' => e = .returned (.bool (decide (Dm.val X n < Dm.val Y n))) ∧ w' = w := by
  have hr := run_compare bx ox cx b y cy n X Y w hX hY
  have E := hide (cmp_dig hX.dig hY.dig n)
  generalize Extern.BytealgCompare.cmp (mkB X n) (mkB Y n) = v at *
  go_enter Tryd.func51, Tryd.ntmps51
  go_wp2
  go_ret
  rw [← unhide E]
  exact ⟨rfl, rfl⟩
end Go.Proofs.YtehnpfjmanmgpaaDoor

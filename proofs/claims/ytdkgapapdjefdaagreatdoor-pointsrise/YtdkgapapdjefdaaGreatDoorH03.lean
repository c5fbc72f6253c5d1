/- Words in memory. -/
import Derived.Test.YtdkgapapdjefdaaGreatDoorG06
import Derived.Test.YtdkgapapdjefdaaGreatDoorH02
import Derived.RowKit
import Derived.Carry
import Derived.Laws.MakeOwn
import Derived.Laws.Bits64b
namespace Go.Proofs.YtdkgapapdjefdaaGreatDoor
open Go.RowKit

def ic (x : Nat) : Value := .int .u32 (x : Int)
/-- a block of words -/
def RW (w : World) (b : Nat) (ws : List Nat) : Prop := w.heap[b]? = some (.cells (ws.map ic).toArray 190 (0, 0))
theorem RW.low {w : World} {b : Nat} {ws : List Nat} (h : RW w b ws) : b < w.heap.size := (Array.getElem?_eq_some_iff.1 h).1
theorem RW.cell {w : World} {b : Nat} {ws : List Nat} (h : RW w b ws) {i x : Nat} (hx : ws[i]? = some x) : w.cell? ⟨b, i, none⟩ = some (.int .u32 (x : Int)) := by
  unfold RW at h
  simp [World.cell?, h, hx, ic]
theorem RW.frozen {w : World} {b : Nat} {ws : List Nat} (h : RW w b ws) (i : Nat) : w.frozen? ⟨b, i, none⟩ = false := by
  unfold RW at h
  simp [World.frozen?, h]
theorem RW.set {w : World} {b : Nat} {ws : List Nat} (h : RW w b ws) (i x : Nat) : RW (w.setCell ⟨b, i, none⟩ (.int .u32 (x : Int))) b (ws.set i x) := by
  unfold RW at *
  simp only [World.setCell, Array.getElem?_modify, if_true, h, Option.map_some, List.setIfInBounds_toArray, List.map_set]
  rfl
theorem RW.drew {w : World} {b : Nat} {ws : List Nat} (h : RW w b ws) : RW w.drew b ws := h
theorem RW.keep {w w' : World} {b : Nat} {ws : List Nat} (h : RW w b ws) {B : Nat} (hb : Below B w w') (l : b < B) : RW w' b ws := (hb.block b l).trans h
theorem RW.new (w : World) (ws : List Nat) : RW (w.alloc (.cells (ws.map ic).toArray 190)) w.heap.size ws := by
  show (w.heap.push _)[w.heap.size]? = _
  simp
theorem RW.made (w : World) (n : Nat) : RW (w.alloc (.cells (Array.replicate n (ic 0)) 190)) w.heap.size (List.replicate n 0) := by
  have := RW.new w (List.replicate n 0)
  rw [List.map_replicate] at this
  simpa using this
/-- words that a slice holds; whatever lies behind it is left open -/
def WS (w : World) (v : Value) (ws : List Nat) : Prop := ∃ a cap, v = .slice a ws.length cap ∧ ws.length ≤ cap ∧ cap ≤ 9223372036854775807 ∧ Bg.Ok ws ∧ (ws = [] ∨ ∃ b off cs, a = some ⟨b, off, none⟩ ∧ RW w b cs ∧ ∀ i x, ws[i]? = some x → cs[off + i]? = some x)
/-- all blocks of words are as they were -/
def KW (w w' : World) : Prop := ∀ b cs, RW w b cs → RW w' b cs
theorem KW.refl (w : World) : KW w w := fun _ _ h => h
theorem KW.trans {a b c : World} (h : KW a b) (k : KW b c) : KW a c := fun _ _ x => k _ _ (h _ _ x)
theorem KW.of {w w' : World} (h : Below w.heap.size w w') : KW w w' := fun _ _ x => x.keep h x.low
theorem WS.keep {w w' : World} {v : Value} {ws : List Nat} (h : WS w v ws) (k : KW w w') : WS w' v ws := by
  obtain ⟨a, cap, e, h1, h2, ok, h3⟩ := h
  refine ⟨a, cap, e, h1, h2, ok, ?_⟩
  rcases h3 with h3 | ⟨b, off, cs, ha, hr, hc⟩
  · exact .inl h3
  · exact .inr ⟨b, off, cs, ha, k _ _ hr, hc⟩
theorem WS.below {w w' : World} {v : Value} {ws : List Nat} (h : WS w v ws) (k : Below w.heap.size w w') : WS w' v ws := h.keep (KW.of k)
theorem WS.nil (w : World) : WS w (.slice none 0 0) [] := ⟨none, 0, rfl, Nat.zero_le _, Nat.zero_le _, (fun x hx => by cases hx), .inl rfl⟩
/-- a whole block as a slice -/
theorem WS.whole {w : World} {b : Nat} {ws : List Nat} (h : RW w b ws) (ok : Bg.Ok ws) {cap : Nat} (hc : ws.length ≤ cap) (hm : cap ≤ 9223372036854775807) : WS w (.slice (some ⟨b, 0, none⟩) ws.length cap) ws :=
  ⟨_, _, rfl, hc, hm, ok, .inr ⟨b, 0, ws, rfl, h, fun i x hx => by rw [Nat.zero_add]; exact hx⟩⟩
/-- the cells of a slice -/
theorem WS.cells {w : World} {a : Option Addr} {n cap : Nat} {ws : List Nat} (h : WS w (.slice a n cap) ws) : n = ws.length ∧ n ≤ cap ∧ cap ≤ 9223372036854775807 ∧ Bg.Ok ws ∧ (0 < n → ∃ b off, a = some ⟨b, off, none⟩ ∧ b < w.heap.size ∧ ∀ (i x : Nat), ws[i]? = some x → w.cell? ⟨b, off + i, none⟩ = some (.int .u32 (x : Int))) := by
  obtain ⟨a', cap', e, h1, h2, ok, h3⟩ := h
  cases e
  refine ⟨rfl, h1, h2, ok, fun hn => ?_⟩
  rcases h3 with h3 | ⟨b, off, cs, ha, hr, hc⟩
  · rw [h3] at hn; exact absurd hn (by simp)
  · exact ⟨b, off, ha, hr.low, fun i x hx => hr.cell (hc i x hx)⟩
theorem WS.at {w : World} {a : Option Addr} {n cap : Nat} {ws : List Nat} (h : WS w (.slice a n cap) ws) (i x : Nat) (hx : ws[i]? = some x) : ∃ b off, a = some ⟨b, off, none⟩ ∧ b < w.heap.size ∧ w.cell? ⟨b, off + i, none⟩ = some (.int .u32 (x : Int)) := by
  obtain ⟨a', cap', e, h1, h2, ok, h3⟩ := h
  cases e
  rcases h3 with h3 | ⟨b, off, cs, ha, hr, hc⟩
  · rw [h3] at hx; simp at hx
  · exact ⟨b, off, ha, hr.low, hr.cell (hc i x hx)⟩
theorem info_u32' : (Tryz.prog.info? 190).map (fun i => (i.zero, i.size, i.bytes)) = some (some (.int .u32 0), 1, 4) := by kernel_rfl
theorem info_u32 : ∃ i, Tryz.prog.info? 190 = some i ∧ i.zero = some (.int .u32 0) ∧ i.size = 1 ∧ i.bytes = 4 := by
  obtain ⟨i, hi, he⟩ := Option.map_eq_some_iff.1 info_u32'
  simp only [Prod.mk.injEq] at he
  exact ⟨i, hi, he.1, he.2.1, he.2.2⟩
theorem made_words (n : Nat) : madeCells (Value.int IntKind.u32 0).cells n = ((List.replicate n 0).map ic).toArray := by
  apply Array.ext
  · simp [size_madeCells]
  · intro i h1 h2
    simp [madeCells, Value.cells, ic, Nat.mod_one]
/-- words are made -/
theorem mkw (w : World) (n : Nat) (z : Int) (hz : z = (n : Int)) (hn : n ≤ 100000000) :
    (Instr.makeSlice 132 (.int .i64 z) (.int .i64 z)).run Tryz.prog w = .ok (.slice (some ⟨w.heap.size, 0, none⟩) n n) (w.alloc (.cells (Array.replicate n (ic 0)) 190)) := by
  subst hz
  obtain ⟨i, hi, h0, h1, h2⟩ := info_u32
  have hb : (i.bytes : Int) * (n : Int) ≤ 281474976710656 := by rw [h2]; omega
  have h := run_make (P := Tryz.prog) w 132 190 i _ Tryz.underlying132 hi h0 .i64 .i64 (n : Int) (n : Int) (by omega) (by omega) hb (by omega)
  rw [h1, Int.toNat_natCast, Nat.mul_one, made_words, List.map_replicate] at h
  simpa using h
theorem below_new (w : World) (o : Obj) : Below w.heap.size w (w.alloc o) := (Below.refl _ _).alloc (Nat.le_refl _) o
theorem below_via {w0 wp w1 : World} (h : Below w0.heap.size w0 wp) (k : Below wp.heap.size wp w1) : Below w0.heap.size w0 w1 := h.trans (k.mono h.size)
theorem below_set {w w' : World} {b i : Nat} {v : Value} (h : Below w.heap.size w w') (hb : w.heap.size ≤ b) : Below w.heap.size w (w'.setCell ⟨b, i, none⟩ v) :=
  ⟨h.os, h.tape, h.output, by simpa [World.setCell] using h.size, fun k hk => (Below.heap_setCell w' ⟨b, i, none⟩ v k (by simp only; omega)).trans (h.block k hk)⟩
theorem RW.other {w : World} {b g i : Nat} {ws : List Nat} {v : Value} (h : RW w b ws) (ne : b ≠ g) : RW (w.setCell ⟨g, i, none⟩ v) b ws := (Below.heap_setCell w ⟨g, i, none⟩ v b ne).trans h
theorem below_set2 {B : Nat} {w w' : World} {b i : Nat} {v : Value} (h : Below B w w') (hb : B ≤ b) : Below B w (w'.setCell ⟨b, i, none⟩ v) :=
  ⟨h.os, h.tape, h.output, by simpa [World.setCell] using h.size, fun k hk => (Below.heap_setCell w' ⟨b, i, none⟩ v k (by simp only; omega)).trans (h.block k hk)⟩
end Go.Proofs.YtdkgapapdjefdaaGreatDoor

/- Walks: trim, twin, words, plain. -/
namespace Go.Proofs.YtdkgapapdjefdaaGreatDoor
open Go.RowKit

set_option maxHeartbeats 1000000 in
theorem trim_any (v : Value) (ws : List Nat) (w : World) (h : WS w v ws) :
    Calls Tryz.prog 159 #[v] w fun e w' => ∃ u, e = .returned u ∧ WS w' u (Bg.wd (Bg.val ws)) ∧ Below w.heap.size w w' := by
  obtain ⟨a, cap, rfl, hc, hm, ok, hk⟩ := h
  have HW : Hid (∀ n, n ≤ ws.length → WS w (.slice a n cap) (ws.take n)) := hide fun n hn => by
    refine ⟨a, cap, by rw [List.length_take, Nat.min_eq_left hn], by rw [List.length_take]; omega, hm, ok.take n, ?_⟩
    rcases hk with hk | ⟨b, off, cs, ha, hr, hcs⟩
    · exact .inl (by rw [hk]; simp)
    · refine .inr ⟨b, off, cs, ha, hr, fun i x hx => hcs i x ?_⟩
      rw [List.getElem?_take] at hx
      split at hx
      · exact hx
      · cases hx
  have HC : Hid (∀ (n x : Nat), ws[n]? = some x → ∃ b off, a = some ⟨b, off, none⟩ ∧ w.cell? ⟨b, off + n, none⟩ = some (.int .u32 (x : Int))) := hide fun n x hx => by
    rcases hk with hk | ⟨b, off, cs, ha, hr, hcs⟩
    · rw [hk] at hx; simp at hx
    · exact ⟨b, off, ha, hr.cell (hcs n x hx)⟩
  clear hk
  go_enter Tryz.func159, Tryz.ntmps159
  go_wp2_with fail
  go_loopw [3] (fun i wr => ∃ m : Nat, m ≤ ws.length ∧ i = .int .i64 (m : Int) ∧ wr = w ∧ Hid (∀ j x : Nat, m ≤ j → ws[j]? = some x → x = 0)) (fun i _ => (intOf i).toNat)
  case atStart => exact ⟨ws.length, Nat.le_refl _, rfl, rfl, hide fun j x hj hx => by have := (List.getElem?_eq_some_iff.1 hx).1; omega⟩
  case round =>
    obtain ⟨m, hml, rfl, rfl, HZ⟩ := hrel
    rcases Nat.eq_zero_or_pos m with h0 | h0
    · subst h0
      go_wp2
      go_ret
      refine ⟨_, rfl, ?_, Below.refl _ _⟩
      have e := Bg.wd_trim ok hml (unhide HZ) (fun x h => absurd h (by omega))
      rw [← e]
      exact unhide HW 0 hml
    · obtain ⟨k, rfl⟩ : ∃ k, m = k + 1 := ⟨m - 1, by omega⟩
      obtain ⟨x, hx⟩ : ∃ x, ws[k]? = some x := ⟨_, List.getElem?_eq_getElem (by omega)⟩
      obtain ⟨b, off, rfl, hc1⟩ := unhide HC k x hx
      have hk1 : ((k + 1 : Nat) : Int) - 1 = (k : Int) := by omega
      have hpos : (0 : Int) < ((k + 1 : Nat) : Int) := by omega
      have hkl : (k : Int) < (ws.length : Int) := by omega
      have HX := hide hx
      clear hx
      by_cases hx0 : x = 0
      · subst hx0
        go_wp2
        go_roundw
        case rel => exact ⟨k, by omega, by go_num, trivial, hide fun j y hj hy => by
          rcases Nat.eq_or_lt_of_le hj with e | e
          · rw [← e, unhide HX] at hy; exact (Option.some.inj hy).symm
          · exact unhide HZ j y (by omega) hy⟩
        case measure => simp [intOf]
      · have hx1 : ((x : Int) == 0) = false := by simp; omega
        go_wp2
        go_ret
        refine ⟨_, rfl, ?_, Below.refl _ _⟩
        have e := Bg.wd_trim ok hml (unhide HZ) (fun y _ hy => by rw [Nat.add_sub_cancel, unhide HX] at hy; rw [← Option.some.inj hy]; exact hx0)
        rw [← e]
        exact unhide HW (k + 1) hml

theorem or_shift {a b : Nat} (ha : a < 4294967296) (hb : b < 4294967296) : bits .or .u64 (a : Int) ((b : Int) * 4294967296) = ((a + 4294967296 * b : Nat) : Int) := by
  have h := bits_or_u64_nat a (b * 4294967296) (by omega) (by omega)
  rw [Int.natCast_mul] at h
  refine h.trans ?_
  have e : a ||| b * 4294967296 = a + 4294967296 * b := by
    rw [Nat.or_comm, Nat.mul_comm b, show (4294967296 : Nat) = 2 ^ 32 from rfl, ← Nat.two_pow_add_eq_or_of_lt (by simpa using ha) b, Nat.add_comm]
  rw [e]
theorem or_shift2 {a b : Nat} (ha : a < 4294967296) (hb : b < 4294967296) : bits .or .u64 ((b : Int) * 4294967296) (a : Int) = ((a + 4294967296 * b : Nat) : Int) := by
  have h := bits_or_u64_nat (b * 4294967296) a (by omega) (by omega)
  rw [Int.natCast_mul] at h
  refine h.trans ?_
  have e : b * 4294967296 ||| a = a + 4294967296 * b := by
    rw [Nat.mul_comm b, show (4294967296 : Nat) = 2 ^ 32 from rfl, ← Nat.two_pow_add_eq_or_of_lt (by simpa using ha) b, Nat.add_comm]
  rw [e]
theorem wd_two (x : Nat) : Bg.wd x = Bg.wd (Bg.val [x % 4294967296, x / 4294967296]) := by
  congr 1
  simp only [Bg.val]
  omega

set_option maxHeartbeats 1000000 in
theorem words_any (x : Nat) (hx : x < 18446744073709551616) (w : World) :
    Calls Tryz.prog 158 #[.int .u64 (x : Int)] w fun e w' => ∃ u, e = .returned u ∧ WS w' u (Bg.wd x) ∧ Below w.heap.size w w' := by
  have E := hide (wd_two x)
  have R := hide (RW.new w [x % 4294967296, x / 4294967296])
  have T : Hid (∀ wx, RW wx w.heap.size [x % 4294967296, x / 4294967296] → Calls Tryz.prog 159 #[.slice (some ⟨w.heap.size, 0, none⟩) 2 2] wx fun e w' => ∃ u, e = .returned u ∧ WS w' u (Bg.wd (Bg.val [x % 4294967296, x / 4294967296])) ∧ Below wx.heap.size wx w') :=
    hide fun wx h => trim_any _ [x % 4294967296, x / 4294967296] wx (WS.whole h (by intro y hy; simp at hy; omega) (by simp) (by simp))
  go_enter Tryz.func158, Tryz.ntmps158
  go_wp2_with fail
  refine (unhide T _ ?_).mono ?_
  · have := unhide R
    simpa [ic] using this
  rintro e w1 ⟨u, rfl, hu, hb⟩
  have HU := hide hu
  have HB := hide hb
  clear hu hb
  go_wp2
  go_ret
  refine ⟨_, rfl, ?_, ?_⟩
  · rw [unhide E]; exact unhide HU
  · exact ((Below.refl _ _).alloc (Nat.le_refl _) _).trans ((unhide HB).mono (by simp))

set_option maxHeartbeats 1000000 in
theorem plain0 (a : Option Addr) (cap : Nat) (w : World) : Calls Tryz.prog 169 #[.slice a 0 cap] w fun e w' => e = .returned (.int .u64 0) ∧ w' = w := by
  go_enter Tryz.func169, Tryz.ntmps169
  go_wp2
  go_ret
  exact ⟨rfl, rfl⟩

set_option maxHeartbeats 1000000 in
theorem plain1 (b off cap x : Nat) (hx : x < 4294967296) (w : World) (h : w.cell? ⟨b, off, none⟩ = some (.int .u32 (x : Int))) : Calls Tryz.prog 169 #[.slice (some ⟨b, off, none⟩) 1 cap] w fun e w' => e = .returned (.int .u64 (x : Int)) ∧ w' = w := by
  go_enter Tryz.func169, Tryz.ntmps169
  go_wp2
  go_ret
  exact ⟨rfl, rfl⟩

set_option maxHeartbeats 1000000 in
theorem plain2 (b off cap x y : Nat) (hx : x < 4294967296) (hy : y < 4294967296) (w : World) (h : w.cell? ⟨b, off, none⟩ = some (.int .u32 (x : Int))) (h1 : w.cell? ⟨b, off + 1, none⟩ = some (.int .u32 (y : Int))) : Calls Tryz.prog 169 #[.slice (some ⟨b, off, none⟩) 2 cap] w fun e w' => e = .returned (.int .u64 ((x + 4294967296 * y : Nat) : Int)) ∧ w' = w := by
  go_enter Tryz.func169, Tryz.ntmps169
  go_wp2
  go_ret
  exact ⟨by rw [← or_shift hx hy]; rfl, rfl⟩

theorem plain_any (v : Value) (n : Nat) (hn : n < 18446744073709551616) (w : World) (h : WS w v (Bg.wd n)) :
    Calls Tryz.prog 169 #[v] w fun e w' => e = .returned (.int .u64 (n : Int)) ∧ w' = w := by
  obtain ⟨a, cap, rfl, hc, hm, ok, hk⟩ := h
  by_cases h0 : n = 0
  · subst h0
    rw [Bg.wd_zero]
    exact plain0 a cap w
  rcases hk with hk | ⟨b, off, cs, rfl, hr, hcs⟩
  · exact absurd (Bg.wd_nil.1 hk) h0
  by_cases h1 : n < 4294967296
  · rw [Bg.wd_one h1 h0] at hcs ⊢
    exact plain1 b off cap n h1 w (hr.cell (hcs 0 n rfl))
  · have e : Bg.wd n = [n % 4294967296, n / 4294967296] := by rw [Bg.wd_pos h0, Bg.wd_one (by omega) (by omega)]
    rw [e] at hcs ⊢
    have := plain2 b off cap (n % 4294967296) (n / 4294967296) (by omega) (by omega) w (hr.cell (hcs 0 _ rfl)) (hr.cell (hcs 1 _ rfl))
    rw [show n % 4294967296 + 4294967296 * (n / 4294967296) = n by omega] at this
    exact this
end Go.Proofs.YtdkgapapdjefdaaGreatDoor

/- Walks: cmp, add, sub. -/
namespace Go.Proofs.YtdkgapapdjefdaaGreatDoor
open Go.RowKit

set_option maxHeartbeats 1000000 in
theorem cmp_any (u v : Value) (a b : Nat) (w : World) (hu : WS w u (Bg.wd a)) (hv : WS w v (Bg.wd b)) :
    Calls Tryz.prog 127 #[u, v] w fun e w' => e = .returned (.int .i64 (Bg.cmpN a b)) ∧ Below w.heap.size w w' := by
  obtain ⟨p, cap, rfl, hc, hm, ok, hk⟩ := id hu
  obtain ⟨q, cap2, rfl, hc2, hm2, ok2, hk2⟩ := id hv
  have CA := hide (WS.at hu)
  have CB := hide (WS.at hv)
  clear hu hv hk hk2
  have LL := hide (fun h => Bg.lt_of_len (a := a) (b := b) h)
  have LG := hide (fun h => Bg.lt_of_len (a := b) (b := a) h)
  have TT := hide (fun i x y => Bg.val_top (us := Bg.wd a) (vs := Bg.wd b) (i := i) (x := x) (y := y) ok)
  have TG := hide (fun i x y => Bg.val_top (us := Bg.wd b) (vs := Bg.wd a) (i := i) (x := x) (y := y) ok2)
  have VA := hide (Bg.val_wd a)
  have VB := hide (Bg.val_wd b)
  generalize Bg.wd a = us at *
  generalize Bg.wd b = vs at *
  go_enter Tryz.func127, Tryz.ntmps127
  by_cases hne : us.length = vs.length
  · have hne' : ((us.length : Int) != (vs.length : Int)) = false := by simp [hne]
    go_wp2_with fail
    go_loopw [5] (fun i wr => ∃ m : Nat, m ≤ vs.length ∧ i = .int .i64 ((m : Int) - 1) ∧ Hid (us.drop m = vs.drop m) ∧ Hid (Below w.heap.size w wr)) (fun i _ => (intOf i + 1).toNat)
    case atStart => exact ⟨vs.length, Nat.le_refl _, rfl, hide (by rw [List.drop_length, ← hne, List.drop_length]), hide (Below.refl _ _)⟩
    case round =>
      obtain ⟨m, hml, rfl, HE, HB⟩ := hrel
      rcases Nat.eq_zero_or_pos m with h0 | h0
      · subst h0
        have HQ : Hid (a = b) := hide (by rw [← unhide VA, ← unhide VB, show us = vs from unhide HE])
        go_wp2
        go_ret
        rw [Bg.cmpN_eq (unhide HQ)]
        exact ⟨rfl, unhide HB⟩
      · obtain ⟨k, rfl⟩ : ∃ k, m = k + 1 := ⟨m - 1, by omega⟩
        obtain ⟨x, hx⟩ : ∃ x, us[k]? = some x := ⟨_, List.getElem?_eq_getElem (by omega)⟩
        obtain ⟨y, hy⟩ : ∃ y, vs[k]? = some y := ⟨_, List.getElem?_eq_getElem (by omega)⟩
        obtain ⟨b1, o1, rfl, l1, c1⟩ := unhide CA k x hx
        obtain ⟨b2, o2, rfl, l2, c2⟩ := unhide CB k y hy
        have d1 : wr.cell? ⟨b1, o1 + k, none⟩ = some (.int .u32 (x : Int)) := ((unhide HB).cell (p := ⟨b1, o1 + k, none⟩) l1).trans c1
        have d2 : wr.cell? ⟨b2, o2 + k, none⟩ = some (.int .u32 (y : Int)) := ((unhide HB).cell (p := ⟨b2, o2 + k, none⟩) l2).trans c2
        have hk1 : ((k + 1 : Nat) : Int) - 1 = (k : Int) := by omega
        have hpos : (0 : Int) ≤ (k : Int) := by omega
        have hkl : (k : Int) < (us.length : Int) := by omega
        have hkl2 : (k : Int) < (vs.length : Int) := by omega
        have HX := hide hx
        have HY := hide hy
        rw [hk1]
        clear hx hy c1 c2 hk1
        rcases Nat.lt_trichotomy x y with hxy | hxy | hxy
        · have q1 : ((x : Int) != (y : Int)) = true := by simp; omega
          have q2 : (x : Int) < (y : Int) := by omega
          have HR : Hid (a < b) := hide (by rw [← unhide VA, ← unhide VB]; exact unhide TT k x y (unhide HX) (unhide HY) (unhide HE) hxy)
          go_wp2_with fail
          go_region
          all_goals
            go_wp2_with fail
            go_region
            all_goals
              go_wp2
              go_ret
              rw [Bg.cmpN_lt (unhide HR)]
              exact ⟨rfl, by repeat (first | exact unhide HB | apply Below.drew)⟩
        · have q1 : ((x : Int) != (y : Int)) = false := by simp; omega
          have HE2 : Hid (us.drop k = vs.drop k) := hide (by
            rw [List.drop_eq_getElem_cons (by omega : k < us.length), List.drop_eq_getElem_cons (by omega : k < vs.length), unhide HE]
            congr 1
            have e1 := (List.getElem?_eq_some_iff.1 (unhide HX)).2
            have e2 := (List.getElem?_eq_some_iff.1 (unhide HY)).2
            rw [e1, e2, hxy])
          go_wp2_with fail
          go_region
          all_goals
            go_wp2
            go_roundw
            case rel => exact ⟨k, by omega, rfl, HE2, hide (by repeat (first | exact unhide HB | apply Below.drew))⟩
            case measure => simp [intOf]
        · have q1 : ((x : Int) != (y : Int)) = true := by simp; omega
          have q2 : ¬ (x : Int) < (y : Int) := by omega
          have HR : Hid (b < a) := hide (by rw [← unhide VA, ← unhide VB]; exact unhide TG k y x (unhide HY) (unhide HX) (unhide HE).symm hxy)
          go_wp2_with fail
          go_region
          all_goals
            go_wp2_with fail
            go_region
            all_goals
              go_wp2
              go_ret
              rw [Bg.cmpN_gt (unhide HR)]
              exact ⟨rfl, by repeat (first | exact unhide HB | apply Below.drew)⟩
  · have hne' : ((us.length : Int) != (vs.length : Int)) = true := by simp; omega
    by_cases hlt : us.length < vs.length
    · have hlt' : (us.length : Int) < (vs.length : Int) := by omega
      go_wp2
      go_ret
      rw [Bg.cmpN_lt (unhide LL hlt)]
      exact ⟨rfl, Below.refl _ _⟩
    · have hlt' : ¬ (us.length : Int) < (vs.length : Int) := by omega
      have HG := hide (unhide LG (by omega))
      go_wp2
      go_ret
      rw [Bg.cmpN_gt (unhide HG)]
      exact ⟨rfl, Below.refl _ _⟩
end Go.Proofs.YtdkgapapdjefdaaGreatDoor

/- Walks: add. -/
namespace Go.Proofs.YtdkgapapdjefdaaGreatDoor
open Go.RowKit
end Go.Proofs.YtdkgapapdjefdaaGreatDoor

/- Walks: sub. -/
namespace Go.Proofs.YtdkgapapdjefdaaGreatDoor
open Go.RowKit
end Go.Proofs.YtdkgapapdjefdaaGreatDoor

/- Walks: mul. -/
namespace Go.Proofs.YtdkgapapdjefdaaGreatDoor
open Go.RowKit

set_option maxHeartbeats 2000000 in
theorem mul_go (p q : Option Addr) (cap cap2 : Nat) (us vs : List Nat) (w : World) (hu : WS w (.slice p us.length cap) us) (hv : WS w (.slice q vs.length cap2) vs) (h1 : 1 ≤ us.length) (h2 : 1 ≤ vs.length) (l1 : us.length ≤ 1000000) (l2 : vs.length ≤ 1000000) :
    Calls Tryz.prog 129 #[.slice p us.length cap, .slice q vs.length cap2] w fun e w' => ∃ u, e = .returned u ∧ WS w' u (Bg.wd (Bg.val us * Bg.val vs)) ∧ Below w.heap.size w w' := by
  have CA := hide (WS.at hu)
  have CB := hide (WS.at hv)
  have OA := hide (fun i x h => hu.cells.2.2.2.1.at (i := i) (x := x) h)
  have OB := hide (fun i x h => hv.cells.2.2.2.1.at (i := i) (x := x) h)
  clear hu hv
  have g1 : ((us.length : Int) == 0) = false := by rw [beq_eq_false_iff_ne]; omega
  have g2 : ((vs.length : Int) == 0) = false := by rw [beq_eq_false_iff_ne]; omega
  have hmk := mkw w (us.length + vs.length) ((us.length : Int) + (vs.length : Int)) (by omega) (by omega)
  go_enter Tryz.func129, Tryz.ntmps129
  go_wp2_with fail
  go_loopw [6] (fun i wr => ∃ (m : Nat) (rs : List Nat), m ≤ us.length ∧ i = .int .i64 (m : Int) ∧ rs.length = us.length + vs.length ∧ Hid (Bg.Ok rs) ∧ Hid (∀ j x, m + vs.length ≤ j → rs[j]? = some x → x = 0) ∧ Hid (Bg.val rs = Bg.val (us.take m) * Bg.val vs) ∧ Hid (RW wr w.heap.size rs) ∧ Hid (Below w.heap.size w wr)) (fun i _ => us.length - (intOf i).toNat)
  case atStart => exact ⟨0, List.replicate (us.length + vs.length) 0, Nat.zero_le _, rfl, by simp, hide (Bg.Ok.zeros _), hide (fun j x _ => Bg.zero_rep _ j x (Nat.zero_le _)), hide (by rw [Bg.val_zeros]; simp [Bg.val]), hide (RW.made _ _), hide (below_new _ _)⟩
  case round =>
    obtain ⟨m, rs, hml, rfl, hrl, HO, HZ, HE, HR, HB⟩ := hrel
    clear hmk
    by_cases hlt : m < us.length
    · have hlt' : (m : Int) < (us.length : Int) := by omega
      obtain ⟨x, hx⟩ : ∃ x, us[m]? = some x := ⟨_, List.getElem?_eq_getElem hlt⟩
      obtain ⟨b1, o1, rfl, lb1, c1⟩ := unhide CA m x hx
      have hxb : x < 4294967296 := unhide OA m x hx
      have HX := hide hx
      have HC1 := hide c1
      clear hx c1
      go_wp2_with fail
      go_loopw [7, 8] (fun cv j wi => ∃ (k c : Nat) (ts : List Nat), k ≤ vs.length ∧ j = .int .i64 (k : Int) ∧ cv = .int .u64 (c : Int) ∧ c < 4294967296 ∧ ts.length = us.length + vs.length ∧ Hid (Bg.Ok ts) ∧ Hid (∀ j x, m + vs.length ≤ j → ts[j]? = some x → x = 0) ∧ Hid (Bg.val ts + c * (4294967296 ^ m * 4294967296 ^ k) = Bg.val rs + x * 4294967296 ^ m * Bg.val (vs.take k)) ∧ Hid (RW wi w.heap.size ts) ∧ Hid (Below w.heap.size w wi)) (fun _ j _ => vs.length - (intOf j).toNat)
      case atStart => exact ⟨0, 0, rs, Nat.zero_le _, rfl, rfl, by omega, hrl, HO, HZ, hide (by simp [Bg.val]), HR, HB⟩
      case round =>
        clear HR HB HO HZ
        obtain ⟨k, c, ts, hkl, rfl, rfl, hcb, htl, HO, HZ, HE2, HR, HB⟩ := hrel
        have fz := (unhide HR).frozen
        by_cases hlk : k < vs.length
        · have hlk' : (k : Int) < (vs.length : Int) := by omega
          obtain ⟨y, hy⟩ : ∃ y, vs[k]? = some y := ⟨_, List.getElem?_eq_getElem hlk⟩
          obtain ⟨b2, o2, rfl, lb2, c2⟩ := unhide CB k y hy
          have hyb : y < 4294967296 := unhide OB k y hy
          have d1 := ((unhide HB).cell (p := ⟨b1, o1 + m, none⟩) lb1).trans (unhide HC1)
          have d2 := ((unhide HB).cell (p := ⟨b2, o2 + k, none⟩) lb2).trans c2
          obtain ⟨r, hr⟩ : ∃ r, ts[m + k]? = some r := ⟨_, List.getElem?_eq_getElem (by omega)⟩
          have d0 := (unhide HR).cell hr
          have f0 := fz (m + k)
          have hrb : r < 4294967296 := (unhide HO).at hr
          obtain ⟨t1, t2, t3⟩ := Bg.mul_lt hxb hyb hcb hrb
          obtain ⟨P, hP⟩ : ∃ P, P = x * y := ⟨_, rfl⟩
          have hp : (x : Int) * (y : Int) = (P : Int) := by rw [hP, Int.natCast_mul]
          have HP := hide hP
          rw [← hP] at t1 t2 t3
          have hmk2 : (m : Int) + (k : Int) < (us.length : Int) + (vs.length : Int) := by omega
          have HRR := hide hr
          have HY := hide hy
          clear hr hy c2 hP fz
          go_wp2_with fail
          go_region
          all_goals
            go_wp2
            go_roundw
            case rel => exact ⟨k + 1, (c + (P + r)) / 4294967296, ts.set (m + k) ((c + (P + r)) % 4294967296), by omega, by go_num, by go_num, by omega, by simpa using htl, hide ((unhide HO).set _ (by omega)), hide (fun j z hj hz => by
                rw [List.getElem?_set_ne (by omega)] at hz
                exact unhide HZ j z hj hz), hide (by
                have hs := Bg.val_set ts (m + k) r ((c + (P + r)) % 4294967296) (unhide HRR)
                have hE := unhide HE2
                rw [← Nat.pow_add] at hE
                have := Bg.mul_step hs hE rfl
                rw [Bg.val_succ vs k y (unhide HY), Bg.mul_row, ← unhide HP, ← Nat.pow_add, ← Nat.pow_add, ← Nat.add_assoc m k 1, Nat.pow_succ]
                rw [Nat.add_assoc (Bg.val rs)] at this
                exact this), hide (by
                repeat apply RW.drew
                have := (unhide HR).set (m + k) ((c + (P + r)) % 4294967296)
                simpa using this), hide (by
                repeat apply Below.drew
                exact below_set (by repeat (first | exact unhide HB | apply Below.drew)) (Nat.le_refl _))⟩
            case measure => simp [intOf]; omega
        · obtain rfl : k = vs.length := by omega
          obtain ⟨r, hr⟩ : ∃ r, ts[m + vs.length]? = some r := ⟨_, List.getElem?_eq_getElem (by omega)⟩
          have d0 := (unhide HR).cell hr
          have f0 := fz (m + vs.length)
          have hmk2 : (m : Int) + (vs.length : Int) < (us.length : Int) + (vs.length : Int) := by omega
          clear hr fz
          go_wp2
          go_roundw
          case rel => exact ⟨m + 1, ts.set (m + vs.length) c, by omega, by go_num, by simpa using htl, hide ((unhide HO).set _ hcb), hide (fun j z hj hz => by
              rw [List.getElem?_set_ne (by omega)] at hz
              exact unhide HZ j z (by omega) hz), hide (by
              have h := unhide HE2
              rw [List.take_length, unhide HE] at h
              rw [Bg.val_set0 (unhide HZ) (by omega), Bg.val_succ us m x (unhide HX), Nat.pow_add, Nat.mul_comm (4294967296 ^ m * 4294967296 ^ vs.length) c, h, Nat.add_mul, Nat.mul_comm x]), hide (by
              have := (unhide HR).set (m + vs.length) c
              simpa using this), hide (below_set (unhide HB) (Nat.le_refl _))⟩
          case measure => simp [intOf]; omega
    · obtain rfl : m = us.length := by omega
      have T : Hid (∀ wx, RW wx w.heap.size rs → Calls Tryz.prog 159 #[.slice (some ⟨w.heap.size, 0, none⟩) (us.length + vs.length) (us.length + vs.length)] wx fun e w' => ∃ u, e = .returned u ∧ WS w' u (Bg.wd (Bg.val us * Bg.val vs)) ∧ Below wx.heap.size wx w') := hide fun wx h => by
        have e := unhide HE
        rw [List.take_length] at e
        have t := trim_any (.slice (some ⟨w.heap.size, 0, none⟩) (us.length + vs.length) (us.length + vs.length)) rs wx (by
          have := WS.whole h (unhide HO) (cap := us.length + vs.length) (by simp [hrl]) (by omega)
          simpa [hrl] using this)
        rwa [e] at t
      go_wp2_with fail
      refine (unhide T _ (unhide HR)).mono ?_
      rintro e w1 ⟨u, rfl, hu, hb⟩
      have HU := hide hu
      have HB1 := hide hb
      clear hu hb
      go_wp2
      go_ret
      exact ⟨_, rfl, unhide HU, below_via (unhide HB) (unhide HB1)⟩

set_option maxHeartbeats 1000000 in
theorem mul_no (p q : Option Addr) (cap cap2 n k : Nat) (w : World) (h : n = 0 ∨ k = 0) :
    Calls Tryz.prog 129 #[.slice p n cap, .slice q k cap2] w fun e w' => e = .returned (.slice none 0 0) ∧ w' = w := by
  go_enter Tryz.func129, Tryz.ntmps129
  by_cases h0 : n = 0
  · subst h0
    go_wp2
    go_ret
    exact ⟨rfl, rfl⟩
  · obtain rfl : k = 0 := by omega
    have g1 : ((n : Int) == 0) = false := by rw [beq_eq_false_iff_ne]; omega
    go_wp2
    go_ret
    exact ⟨rfl, rfl⟩

theorem mul_any (u v : Value) (a b : Nat) (w : World) (hu : WS w u (Bg.wd a)) (hv : WS w v (Bg.wd b)) (ha : (Bg.wd a).length ≤ 100000) (hb : (Bg.wd b).length ≤ 100000) :
    Calls Tryz.prog 129 #[u, v] w fun e w' => ∃ u, e = .returned u ∧ WS w' u (Bg.wd (a * b)) ∧ Below w.heap.size w w' := by
  obtain ⟨p, cap, rfl, _⟩ := id hu
  obtain ⟨q, cap2, rfl, _⟩ := id hv
  by_cases h0 : a = 0 ∨ b = 0
  · have e : a * b = 0 := by rcases h0 with h0 | h0 <;> simp [h0]
    refine (mul_no p q cap cap2 _ _ w (by rcases h0 with h0 | h0 <;> simp [h0, Bg.wd_zero])).mono ?_
    rintro e' w' ⟨rfl, rfl⟩
    rw [e, Bg.wd_zero]
    exact ⟨_, rfl, WS.nil _, Below.refl _ _⟩
  · have l : ∀ n, n ≠ 0 → 1 ≤ (Bg.wd n).length := fun n hn => by rw [Bg.wd_pos hn]; simp
    have := mul_go p q cap cap2 _ _ w hu hv (l a (by omega)) (l b (by omega)) (by omega) (by omega)
    rwa [Bg.val_wd, Bg.val_wd] at this
end Go.Proofs.YtdkgapapdjefdaaGreatDoor

/- Walks: small. -/
namespace Go.Proofs.YtdkgapapdjefdaaGreatDoor
open Go.RowKit

set_option maxHeartbeats 2000000 in
theorem small_go (p : Option Addr) (cap d : Nat) (us : List Nat) (w : World) (hu : WS w (.slice p us.length cap) us) (l1 : us.length ≤ 1000000) (hd0 : 0 < d) (hd : d < 4294967296) :
    Calls Tryz.prog 170 #[.slice p us.length cap, .int .u32 (d : Int)] w fun e w' => ∃ u, e = .returned (.tuple #[u, .int .u32 ((Bg.val us % d : Nat) : Int)]) ∧ WS w' u (Bg.wd (Bg.val us / d)) ∧ Below w.heap.size w w' := by
  have CA := hide (WS.at hu)
  have OA := hide (fun i x h => hu.cells.2.2.2.1.at (i := i) (x := x) h)
  clear hu
  have hmk := mkw w us.length (us.length : Int) rfl (by omega)
  have hdn : ((d : Int) == 0) = false := by rw [beq_eq_false_iff_ne]; omega
  go_enter Tryz.func170, Tryz.ntmps170
  go_wp2_with fail
  go_loopw [7, 8] (fun rv i wr => ∃ (m r : Nat) (qs : List Nat), m ≤ us.length ∧ i = .int .i64 ((m : Int) - 1) ∧ rv = .int .u64 (r : Int) ∧ r < d ∧ qs.length = us.length ∧ Hid (Bg.Ok qs) ∧ Hid (∀ j x, j < m → qs[j]? = some x → x = 0) ∧ Hid (Bg.val (us.drop m) = Bg.val (qs.drop m) * d + r) ∧ Hid (RW wr w.heap.size qs) ∧ Hid (Below w.heap.size w wr)) (fun _ i _ => (intOf i + 1).toNat)
  case atStart => exact ⟨us.length, 0, List.replicate us.length 0, Nat.le_refl _, rfl, rfl, hd0, by simp, hide (Bg.Ok.zeros _), hide (fun j x _ => Bg.zero_rep _ j x (Nat.zero_le _)), hide (by rw [List.drop_length, List.drop_of_length_le (by simp)]; simp [Bg.val]), hide (RW.made _ _), hide (below_new _ _)⟩
  case round =>
    obtain ⟨m, r, qs, hml, rfl, rfl, hrd, hql, HO, HZ, HE, HR, HB⟩ := hrel
    clear hmk
    have fz := (unhide HR).frozen
    rcases Nat.eq_zero_or_pos m with h0 | h0
    · subst h0
      have T : Hid (∀ wx, RW wx w.heap.size qs → Calls Tryz.prog 159 #[.slice (some ⟨w.heap.size, 0, none⟩) us.length us.length] wx fun e w' => ∃ u, e = .returned u ∧ WS w' u (Bg.wd (Bg.val us / d)) ∧ Below wx.heap.size wx w') := hide fun wx h => by
        have e := unhide HE
        rw [List.drop_zero, List.drop_zero] at e
        have t := trim_any (.slice (some ⟨w.heap.size, 0, none⟩) us.length us.length) qs wx (by
          have := WS.whole h (unhide HO) (cap := us.length) (by simp [hql]) (by omega)
          simpa [hql] using this)
        rwa [show Bg.val qs = Bg.val us / d by rw [e, Nat.mul_comm, Nat.mul_add_div hd0, Nat.div_eq_of_lt hrd, Nat.add_zero]] at t
      have HM : Hid (r = Bg.val us % d) := hide (by
        have e := unhide HE
        rw [List.drop_zero, List.drop_zero] at e
        rw [e, Nat.mul_comm, Nat.mul_add_mod, Nat.mod_eq_of_lt hrd])
      have hr32 : r < 4294967296 := by omega
      clear fz
      go_wp2_with fail
      refine (unhide T _ (unhide HR)).mono ?_
      rintro e w1 ⟨u, rfl, hu, hb⟩
      have HU := hide hu
      have HB1 := hide hb
      clear hu hb
      go_wp2
      refine bodyPost_ret (v := .tuple #[u, .int .u32 (r : Int)]) (by simp [results, Tryz.results170, go_sem]) rfl ?_
      rw [← unhide HM]
      exact ⟨_, rfl, unhide HU, below_via (unhide HB) (unhide HB1)⟩
    · obtain ⟨k, rfl⟩ : ∃ k, m = k + 1 := ⟨m - 1, by omega⟩
      obtain ⟨x, hx⟩ : ∃ x, us[k]? = some x := ⟨_, List.getElem?_eq_getElem (by omega)⟩
      obtain ⟨b1, o1, rfl, l1, c1⟩ := unhide CA k x hx
      have d1 := ((unhide HB).cell (p := ⟨b1, o1 + k, none⟩) l1).trans c1
      have hxb : x < 4294967296 := unhide OA k x hx
      obtain ⟨r0, hr0⟩ : ∃ r0, qs[k]? = some r0 := ⟨_, List.getElem?_eq_getElem (by omega)⟩
      have d0 := (unhide HR).cell hr0
      have f0 := fz k
      have hk1 : ((k + 1 : Nat) : Int) - 1 = (k : Int) := by omega
      have hkl : (k : Int) < (us.length : Int) := by omega
      have hpos : (0 : Int) ≤ (k : Int) := by omega
      rw [hk1]
      have hr32 : r < 4294967296 := by omega
      have HOR := hide (or_shift2 hxb hr32)
      obtain ⟨h, hh⟩ : ∃ h, h = x + 4294967296 * r := ⟨_, rfl⟩
      rw [← hh] at HOR
      have hlt := Bg.small_lt hrd hxb hh
      have ht1 : ((h : Nat) : Int).tdiv (d : Int) = ((h / d : Nat) : Int) := rfl
      have ht2 : ((h : Nat) : Int).tmod (d : Int) = ((h % d : Nat) : Int) := rfl
      have HH := hide hh
      clear hh
      have HX := hide hx
      clear hx c1 hr0 fz hk1
      go_wp2
      rw [unhide HOR, ht1, ht2]
      obtain ⟨t, ht⟩ : ∃ t, t = h / d := ⟨_, rfl⟩
      rw [← ht] at hlt ⊢
      have hwt : IntKind.u64.wrap (t : Int) = (t : Int) := by rw [IntKind.wrap_u64]; omega
      have hwm : (t : Int) % 4294967296 = (t : Int) := by omega
      rw [hwt, hwm]
      go_roundw
      case rel => exact ⟨k, h % d, qs.set k t, by omega, rfl, rfl, Nat.mod_lt _ hd0, by simpa using hql, hide ((unhide HO).set _ hlt), hide (fun j z hj hz => by
          rw [List.getElem?_set_ne (by omega)] at hz
          exact unhide HZ j z (by omega) hz), hide (by
          rw [Bg.drop_set (by omega), List.drop_eq_getElem_cons (by omega : k < us.length), Bg.val, Bg.val, (List.getElem?_eq_some_iff.1 (unhide HX)).2, ht]
          exact Bg.small_step (unhide HE) (unhide HH)), hide ((unhide HR).set k t), hide (below_set (unhide HB) (Nat.le_refl _))⟩
      case measure => simp [intOf]

theorem small_any (u : Value) (a d : Nat) (w : World) (hu : WS w u (Bg.wd a)) (ha : (Bg.wd a).length ≤ 100000) (hd0 : 0 < d) (hd : d < 4294967296) :
    Calls Tryz.prog 170 #[u, .int .u32 (d : Int)] w fun e w' => ∃ u, e = .returned (.tuple #[u, .int .u32 ((a % d : Nat) : Int)]) ∧ WS w' u (Bg.wd (a / d)) ∧ Below w.heap.size w w' := by
  obtain ⟨p, cap, rfl, _⟩ := id hu
  have := small_go p cap d _ w hu (by omega) hd0 hd
  rwa [Bg.val_wd] at this
end Go.Proofs.YtdkgapapdjefdaaGreatDoor

/- Walks: left. -/
namespace Go.Proofs.YtdkgapapdjefdaaGreatDoor
open Go.RowKit

theorem bits_or_u32_nat (a b : Nat) (ha : a < 4294967296) (hb : b < 4294967296) :
    bits .or .u32 (a : Int) (b : Int) = ((a ||| b : Nat) : Int) := by
  have hx : a ||| b < 2 ^ 32 := Nat.or_lt_two_pow (by omega) (by omega)
  have h1 : (BitVec.ofInt 32 (a : Int)).toNat = a := by
    rw [BitVec.ofInt_natCast, BitVec.toNat_ofNat]; exact Nat.mod_eq_of_lt (by omega)
  have h2 : (BitVec.ofInt 32 (b : Int)).toNat = b := by
    rw [BitVec.ofInt_natCast, BitVec.toNat_ofNat]; exact Nat.mod_eq_of_lt (by omega)
  show IntKind.u32.wrap ((BitVec.ofInt 32 (a : Int) ||| BitVec.ofInt 32 (b : Int)).toNat : Int) = _
  rw [BitVec.toNat_or, h1, h2]
  have e : IntKind.u32.wrap ((a ||| b : Nat) : Int) = ((a ||| b : Nat) : Int) % 4294967296 := rfl
  rw [e]
  omega
theorem shl_wrap {x s : Nat} (hx : x < 4294967296) (hs : s < 32) : IntKind.u64.wrap ((x : Int) * 2 ^ s) = ((x * 2 ^ s : Nat) : Int) ∧ x * 2 ^ s < 18446744073709551616 := by
  have l : 2 ^ s ≤ 2 ^ 31 := Nat.pow_le_pow_right (by omega) (by omega)
  have l2 : x * 2 ^ s ≤ 4294967295 * 2 ^ 31 := Nat.mul_le_mul (by omega) l
  have e : (x : Int) * 2 ^ s = ((x * 2 ^ s : Nat) : Int) := by simp
  rw [e, IntKind.wrap_u64]
  omega

set_option maxHeartbeats 2000000 in
theorem left_go (p : Option Addr) (cap s : Nat) (us : List Nat) (w : World) (hu : WS w (.slice p us.length cap) us) (h1 : 1 ≤ us.length) (l1 : us.length ≤ 1000000) (hs : s < 32) :
    Calls Tryz.prog 172 #[.slice p us.length cap, .int .u64 (s : Int)] w fun e w' => ∃ u, e = .returned u ∧ WS w' u (Bg.wd (Bg.val us * 2 ^ s)) ∧ Below w.heap.size w w' := by
  have CA := hide (WS.at hu)
  have OA := hide (fun i x h => hu.cells.2.2.2.1.at (i := i) (x := x) h)
  clear hu
  have g1 : ((us.length : Int) == 0) = false := by rw [beq_eq_false_iff_ne]; omega
  have hmk := mkw w (us.length + 1) ((us.length : Int) + 1) (by omega) (by omega)
  have q1 : ((s : Int)).tdiv 32 = 0 := by rw [Int.tdiv_eq_ediv_of_nonneg (by omega)]; omega
  have q2 : ((s : Int)).tmod 32 = (s : Int) := by rw [Int.tmod_eq_emod_of_nonneg (by omega)]; omega
  go_enter Tryz.func172, Tryz.ntmps172
  go_wp2_with fail
  go_loopw [8] (fun i wr => ∃ (m h : Nat) (rs : List Nat), m ≤ us.length ∧ i = .int .i64 (m : Int) ∧ rs.length = us.length + 1 ∧ Hid (Bg.Ok rs) ∧ Hid (∀ j x, m + 1 ≤ j → rs[j]? = some x → x = 0) ∧ Hid (rs[m]? = some h) ∧ h < 2 ^ s ∧ Hid (Bg.val rs = Bg.val (us.take m) * 2 ^ s) ∧ Hid (RW wr w.heap.size rs) ∧ Hid (Below w.heap.size w wr)) (fun i _ => us.length - (intOf i).toNat)
  case atStart => exact ⟨0, 0, List.replicate (us.length + 1) 0, Nat.zero_le _, rfl, by simp, hide (Bg.Ok.zeros _), hide (fun j x _ => Bg.zero_rep _ j x (Nat.zero_le _)), hide (by simp), Nat.pow_pos (by omega), hide (by rw [Bg.val_zeros]; simp [Bg.val]), hide (RW.made _ _), hide (below_new _ _)⟩
  case round =>
    obtain ⟨m, h, rs, hml, rfl, hrl, HO, HZ, HH, hh, HE, HR, HB⟩ := hrel
    clear hmk
    have fz := (unhide HR).frozen
    by_cases hlt : m < us.length
    · have hlt' : (m : Int) < (us.length : Int) := by omega
      have hlt2 : (m : Int) < (us.length : Int) + 1 := by omega
      have hlt3 : (m : Int) + 1 < (us.length : Int) + 1 := by omega
      obtain ⟨x, hx⟩ : ∃ x, us[m]? = some x := ⟨_, List.getElem?_eq_getElem hlt⟩
      obtain ⟨b1, o1, rfl, lb1, c1⟩ := unhide CA m x hx
      have hxb : x < 4294967296 := unhide OA m x hx
      have d1 := ((unhide HB).cell (p := ⟨b1, o1 + m, none⟩) lb1).trans c1
      have d0 := (unhide HR).cell (unhide HH)
      have f0 := fz m
      have f1 := fz (m + 1)
      have hne : ¬ b1 = w.heap.size := by omega
      have d3 : wr.cell? ⟨w.heap.size, m + 1, none⟩ = some (.int .u32 (0 : Int)) := by
        have e := List.getElem?_eq_getElem (show m + 1 < rs.length by omega)
        rw [unhide HZ (m + 1) _ (Nat.le_refl _) e] at e
        exact (unhide HR).cell e
      have HX := hide hx
      clear hx c1 fz
      obtain ⟨a1, a2, a3, a4⟩ := Bg.left_facts hs hxb hh
      obtain ⟨w1, w2⟩ := shl_wrap hxb hs
      obtain ⟨V, hV⟩ : ∃ V, V = x * 2 ^ s := ⟨_, rfl⟩
      rw [← hV] at a1 a2 a3 w1 w2
      have v1 : bits .or .u32 (h : Int) ((V : Int) % 4294967296) = ((h + V % 4294967296 : Nat) : Int) := by
        rw [← a1, ← bits_or_u32_nat h (V % 4294967296) (by omega) (by omega)]
        rfl
      have v2 : bits .or .u32 0 ((V : Int) / 4294967296) = ((V / 4294967296 : Nat) : Int) := by
        have := bits_or_u32_nat 0 (V / 4294967296) (by omega) (by omega)
        rw [Nat.zero_or] at this
        rw [← this]
        rfl
      have HV := hide hV
      clear hV
      go_wp2
      go_roundw
      case rel => exact ⟨m + 1, V / 4294967296, (rs.set m (h + V % 4294967296)).set (m + 1) (V / 4294967296), by omega, by go_num, by simpa using hrl, hide (((unhide HO).set _ a2).set _ (by omega)), hide (fun j z hj hz => by
          rw [List.getElem?_set_ne (by omega), List.getElem?_set_ne (by omega)] at hz
          exact unhide HZ j z (by omega) hz), hide (by rw [List.getElem?_set_self (by simp; omega)]), a3, hide (by
          have h1 := Bg.val_set rs m h (h + V % 4294967296) (unhide HH)
          have h2 : Bg.val ((rs.set m (h + V % 4294967296)).set (m + 1) (V / 4294967296)) = Bg.val (rs.set m (h + V % 4294967296)) + 4294967296 ^ m * 4294967296 * (V / 4294967296) := by
            rw [← Nat.pow_succ]
            exact Bg.val_set0 (fun j z hj hz => by
              rw [List.getElem?_set_ne (by omega)] at hz
              exact unhide HZ j z hj hz) (by simp; omega)
          rw [Bg.left_step h1 h2, Bg.val_succ us m x (unhide HX), unhide HE, Nat.add_mul, unhide HV, Nat.mul_assoc]), hide (by
          have := ((unhide HR).set m (h + V % 4294967296)).set (m + 1) (V / 4294967296)
          simpa using this), hide (below_set (below_set (unhide HB) (Nat.le_refl _)) (Nat.le_refl _))⟩
      case measure => simp [intOf]; omega
    · obtain rfl : m = us.length := by omega
      have T : Hid (∀ wx, RW wx w.heap.size rs → Calls Tryz.prog 159 #[.slice (some ⟨w.heap.size, 0, none⟩) (us.length + 1) (us.length + 1)] wx fun e w' => ∃ u, e = .returned u ∧ WS w' u (Bg.wd (Bg.val us * 2 ^ s)) ∧ Below wx.heap.size wx w') := hide fun wx h => by
        have e := unhide HE
        rw [List.take_length] at e
        have t := trim_any (.slice (some ⟨w.heap.size, 0, none⟩) (us.length + 1) (us.length + 1)) rs wx (by
          have := WS.whole h (unhide HO) (cap := us.length + 1) (by simp [hrl]) (by omega)
          simpa [hrl] using this)
        rwa [e] at t
      clear fz
      go_wp2_with fail
      refine (unhide T _ (unhide HR)).mono ?_
      rintro e w1 ⟨u, rfl, hu, hb⟩
      have HU := hide hu
      have HB1 := hide hb
      clear hu hb
      go_wp2
      go_ret
      exact ⟨_, rfl, unhide HU, below_via (unhide HB) (unhide HB1)⟩

theorem left_any (u : Value) (a s : Nat) (w : World) (hu : WS w u (Bg.wd a)) (ha : (Bg.wd a).length ≤ 100000) (h0 : a ≠ 0) (hs : s < 32) :
    Calls Tryz.prog 172 #[u, .int .u64 (s : Int)] w fun e w' => ∃ u, e = .returned u ∧ WS w' u (Bg.wd (a * 2 ^ s)) ∧ Below w.heap.size w w' := by
  obtain ⟨p, cap, rfl, _⟩ := id hu
  have := left_go p cap s _ w hu (by rw [Bg.wd_pos h0]; simp) (by omega) hs
  rwa [Bg.val_wd] at this

set_option maxHeartbeats 2000000 in
theorem len_go (b off cap n x : Nat) (w : World) (hn : n ≤ 1000000) (hc : w.cell? ⟨b, off + n, none⟩ = some (.int .u32 (x : Int))) (hx : x < 4294967296) (h0 : 0 < x) :
    Calls Tryz.prog 171 #[.slice (some ⟨b, off, none⟩) (n + 1) cap] w fun e w' => ∃ k, e = .returned (.int .i64 ((n * 32 + k : Nat) : Int)) ∧ 0 < k ∧ k ≤ 32 ∧ x < 2 ^ k ∧ 2 ^ k ≤ 2 * x ∧ w' = w := by
  have g1 : ((n : Int) + 1 == 0) = false := by rw [beq_eq_false_iff_ne]; omega
  have g2 : (n : Int) + 1 - 1 = (n : Int) := by omega
  have g3 : (n : Int) < (n : Int) + 1 := by omega
  go_enter Tryz.func171, Tryz.ntmps171
  go_wp2_with fail
  go_loopw [3, 4] (fun nv tv wr => ∃ k t : Nat, nv = .int .i64 (k : Int) ∧ tv = .int .u32 (t : Int) ∧ k ≤ 32 ∧ wr = w ∧ Hid (t = x / 2 ^ k) ∧ Hid (k = 0 ∨ 2 ^ k ≤ 2 * x)) (fun _ tv _ => (intOf tv).toNat)
  case atStart => exact ⟨0, x, rfl, rfl, by omega, rfl, hide (by simp), hide (.inl rfl)⟩
  case round =>
    obtain ⟨k, t, rfl, rfl, hk, rfl, HT, HK⟩ := hrel
    by_cases ht : t = 0
    · subst ht
      have HF : Hid (x < 2 ^ k) := hide (by
        have := (unhide HT).symm
        rcases Nat.div_eq_zero_iff.1 this with e | e
        · exact absurd e (Nat.pos_iff_ne_zero.1 (Nat.pow_pos (by omega)))
        · exact e)
      have hk0 : 0 < k := by
        rcases Nat.eq_zero_or_pos k with e | e
        · have := unhide HF; rw [e] at this; omega
        · exact e
      go_wp2
      go_ret
      refine ⟨k, ?_, hk0, hk, unhide HF, (unhide HK).resolve_left (by omega), rfl⟩
      rw [Int.natCast_add, Int.natCast_mul]
      rfl
    · have ht' : ((t : Int) != 0) = true := by simp; omega
      have HL : Hid (2 ^ k ≤ x) := hide (by
        rcases Nat.lt_or_ge x (2 ^ k) with e | e
        · have := unhide HT; rw [Nat.div_eq_of_lt e] at this; exact absurd this ht
        · exact e)
      have hk1 : k + 1 ≤ 32 := by
        rcases Nat.lt_or_ge k 32 with e | e
        · exact e
        · have h1 : 2 ^ 32 ≤ 2 ^ k := Nat.pow_le_pow_right (by omega) e
          have h2 := unhide HL
          omega
      go_wp2
      go_roundw
      case rel => exact ⟨k + 1, t / 2, by go_num, by go_num, hk1, trivial, hide (by rw [unhide HT, Nat.pow_succ, Nat.div_div_eq_div_mul]), hide (.inr (by have := unhide HL; rw [Nat.pow_succ]; omega))⟩
      case measure => simp [intOf]; omega
end Go.Proofs.YtdkgapapdjefdaaGreatDoor

/- Walks: right. -/
namespace Go.Proofs.YtdkgapapdjefdaaGreatDoor
open Go.RowKit

set_option maxHeartbeats 2000000 in
theorem right_go (p : Option Addr) (cap s : Nat) (us : List Nat) (w : World) (hu : WS w (.slice p us.length cap) us) (h1 : 1 ≤ us.length) (l1 : us.length ≤ 1000000) (hs : s < 32) :
    Calls Tryz.prog 173 #[.slice p us.length cap, .int .u64 (s : Int)] w fun e w' => ∃ u, e = .returned u ∧ WS w' u (Bg.wd (Bg.val us / 2 ^ s)) ∧ Below w.heap.size w w' := by
  have CA := hide (WS.at hu)
  have OA := hide (fun i x h => hu.cells.2.2.2.1.at (i := i) (x := x) h)
  have OK := hide hu.cells.2.2.2.1
  clear hu
  have g1 : ¬ (us.length : Int) ≤ 0 := by omega
  have hmk := mkw w us.length (us.length : Int) rfl (by omega)
  have hmk2 := mkw w us.length ((us.length : Int) - 0) (by omega) (by omega)
  have g2 : ¬ us.length ≤ 0 := by omega
  have g3 : ¬ us = [] := by intro e; rw [e] at h1; simp at h1
  have q1 : ((s : Int)).tdiv 32 = 0 := by rw [Int.tdiv_eq_ediv_of_nonneg (by omega)]; omega
  have q2 : ((s : Int)).tmod 32 = (s : Int) := by rw [Int.tmod_eq_emod_of_nonneg (by omega)]; omega
  go_enter Tryz.func173, Tryz.ntmps173
  go_wp2_with fail
  go_loopw [8] (fun i wr => ∃ (m : Nat) (rs : List Nat), m ≤ us.length ∧ i = .int .i64 (m : Int) ∧ rs.length = us.length ∧ Hid (Bg.Ok rs) ∧ Hid (∀ j x, m ≤ j → rs[j]? = some x → x = 0) ∧ Hid (Bg.val rs = Bg.val us / 2 ^ s % 4294967296 ^ m) ∧ Hid (RW wr w.heap.size rs) ∧ Hid (Below w.heap.size w wr)) (fun i _ => us.length - (intOf i).toNat)
  case atStart => exact ⟨0, List.replicate us.length 0, Nat.zero_le _, rfl, by simp, hide (Bg.Ok.zeros _), hide (Bg.zero_rep _), hide (by rw [Bg.val_zeros]; simp [Nat.mod_one]), hide (RW.made _ _), hide (below_new _ _)⟩
  case round =>
    obtain ⟨m, rs, hml, rfl, hrl, HO, HZ, HE, HR, HB⟩ := hrel
    clear hmk hmk2
    have fz := (unhide HR).frozen
    by_cases hlt : m < us.length
    · have hlt' : (m : Int) < (us.length : Int) := by omega
      obtain ⟨x, hx⟩ : ∃ x, us[m]? = some x := ⟨_, List.getElem?_eq_getElem hlt⟩
      obtain ⟨b1, o1, rfl, lb1, c1⟩ := unhide CA m x hx
      have hxb : x < 4294967296 := unhide OA m x hx
      have d1 := ((unhide HB).cell (p := ⟨b1, o1 + m, none⟩) lb1).trans c1
      obtain ⟨r0, hr0⟩ : ∃ r0, rs[m]? = some r0 := ⟨_, List.getElem?_eq_getElem (by omega)⟩
      have d0 := (unhide HR).cell hr0
      have f0 := fz m
      have V1 := Bg.val_word (unhide OK) hx
      by_cases hl2 : m + 1 < us.length
      · have hl2' : (m : Int) + 1 < (us.length : Int) := by omega
        obtain ⟨y, hy⟩ : ∃ y, us[m + 1]? = some y := ⟨_, List.getElem?_eq_getElem hl2⟩
        obtain ⟨b2, o2, e2, lb2, c2⟩ := unhide CA (m + 1) y hy
        cases e2
        have hyb : y < 4294967296 := unhide OA (m + 1) y hy
        have d2 := ((unhide HB).cell (p := ⟨b1, o1 + (m + 1), none⟩) lb2).trans c2
        have HD : Hid (Bg.val us / 2 ^ s / 4294967296 ^ m % 4294967296 = (x + 4294967296 * y) / 2 ^ s % 4294967296) := hide (Bg.right_dig hs (by rw [V1, Bg.val_word (unhide OK) hy]))
        have HOR := hide (or_shift hxb hyb)
        clear hx hy hr0 c1 c2 fz V1
        go_wp2
        rw [unhide HOR]
        obtain ⟨V, hV⟩ : ∃ V, V = x + 4294967296 * y := ⟨_, rfl⟩
        rw [← hV] at HD ⊢
        have hcv : (V : Int) / 2 ^ s % 4294967296 = ((V / 2 ^ s % 4294967296 : Nat) : Int) := by simp
        rw [hcv]
        go_roundw
        case rel => exact ⟨m + 1, rs.set m (V / 2 ^ s % 4294967296), by omega, by go_num, by simpa using hrl, hide ((unhide HO).set _ (Nat.mod_lt _ (by omega))), hide (Bg.zero_set (unhide HZ)), hide (by
            rw [Bg.val_set0 (unhide HZ) (by omega), Nat.pow_succ, Bg.mod_step, unhide HE, unhide HD]), hide ((unhide HR).set m _), hide (below_set (unhide HB) (Nat.le_refl _))⟩
        case measure => simp [intOf]; omega
      · have hl2' : ¬ (m : Int) + 1 < (us.length : Int) := by omega
        have HD : Hid (Bg.val us / 2 ^ s / 4294967296 ^ m % 4294967296 = (x + 4294967296 * 0) / 2 ^ s % 4294967296) := hide (Bg.right_dig (K := 0) hs (by rw [V1, Bg.val_none (unhide OK) (by omega)]))
        clear hx hr0 c1 fz V1
        rw [Nat.mul_zero, Nat.add_zero] at HD
        go_wp2
        have hcv : (x : Int) / 2 ^ s % 4294967296 = ((x / 2 ^ s % 4294967296 : Nat) : Int) := by simp
        rw [hcv]
        go_roundw
        case rel => exact ⟨m + 1, rs.set m (x / 2 ^ s % 4294967296), by omega, by go_num, by simpa using hrl, hide ((unhide HO).set _ (Nat.mod_lt _ (by omega))), hide (Bg.zero_set (unhide HZ)), hide (by
            rw [Bg.val_set0 (unhide HZ) (by omega), Nat.pow_succ, Bg.mod_step, unhide HE, unhide HD]), hide ((unhide HR).set m _), hide (below_set (unhide HB) (Nat.le_refl _))⟩
        case measure => simp [intOf]; omega
    · obtain rfl : m = us.length := by omega
      have T : Hid (∀ wx, RW wx w.heap.size rs → Calls Tryz.prog 159 #[.slice (some ⟨w.heap.size, 0, none⟩) us.length us.length] wx fun e w' => ∃ u, e = .returned u ∧ WS w' u (Bg.wd (Bg.val us / 2 ^ s)) ∧ Below wx.heap.size wx w') := hide fun wx h => by
        have e := unhide HE
        rw [Nat.mod_eq_of_lt (Nat.lt_of_le_of_lt (Nat.div_le_self _ _) (Bg.val_lt (unhide OK)))] at e
        have t := trim_any (.slice (some ⟨w.heap.size, 0, none⟩) us.length us.length) rs wx (by
          have := WS.whole h (unhide HO) (cap := us.length) (by simp [hrl]) (by omega)
          simpa [hrl] using this)
        rwa [e] at t
      clear fz
      go_wp2_with fail
      refine (unhide T _ (unhide HR)).mono ?_
      rintro e w1 ⟨u, rfl, hu, hb⟩
      have HU := hide hu
      have HB1 := hide hb
      clear hu hb
      go_wp2
      go_ret
      exact ⟨_, rfl, unhide HU, below_via (unhide HB) (unhide HB1)⟩

set_option maxHeartbeats 1000000 in
theorem right_no (p : Option Addr) (cap s : Nat) (w : World) (hs : s < 32) :
    Calls Tryz.prog 173 #[.slice p 0 cap, .int .u64 (s : Int)] w fun e w' => e = .returned (.slice none 0 0) ∧ w' = w := by
  have q1 : ((s : Int)).tdiv 32 = 0 := by rw [Int.tdiv_eq_ediv_of_nonneg (by omega)]; omega
  have q2 : ((s : Int)).tmod 32 = (s : Int) := by rw [Int.tmod_eq_emod_of_nonneg (by omega)]; omega
  go_enter Tryz.func173, Tryz.ntmps173
  go_wp2
  go_ret
  exact ⟨rfl, rfl⟩

theorem right_any (u : Value) (a s : Nat) (w : World) (hu : WS w u (Bg.wd a)) (ha : (Bg.wd a).length ≤ 100000) (hs : s < 32) :
    Calls Tryz.prog 173 #[u, .int .u64 (s : Int)] w fun e w' => ∃ u, e = .returned u ∧ WS w' u (Bg.wd (a / 2 ^ s)) ∧ Below w.heap.size w w' := by
  obtain ⟨p, cap, rfl, _⟩ := id hu
  by_cases h0 : a = 0
  · subst h0
    rw [Bg.wd_zero, Nat.zero_div]
    refine (right_no p cap s w hs).mono ?_
    rintro e w' ⟨rfl, rfl⟩
    exact ⟨_, rfl, by rw [Bg.wd_zero]; exact WS.nil _, Below.refl _ _⟩
  · have := right_go p cap s _ w hu (by rw [Bg.wd_pos h0]; simp) (by omega) hs
    rwa [Bg.val_wd] at this
end Go.Proofs.YtdkgapapdjefdaaGreatDoor

/- Walks: the reader's next byte. -/
import Derived.Test.YtlienildfnlncaaKH
import Derived.BigRegion
namespace Go.Proofs.Ytlienildfnlncaa
open Go.RowKit

/-- a reader at block R, over bytes in block g -/
structure RD (w : World) (R g : Nat) (s : RS) (off cap : Nat) : Prop where
  low : R < w.heap.size
  glow : g < w.heap.size
  ne : g ≠ R
  c0 : w.cell? ⟨R, 0, none⟩ = some (.slice (some ⟨g, off, none⟩) s.l.length cap)
  c1 : w.cell? ⟨R, 1, none⟩ = some (.int .i64 (s.k : Int))
  c2 : w.cell? ⟨R, 2, none⟩ = some (.bool s.bad)
  f0 : w.frozen? ⟨R, 0, none⟩ = false
  f1 : w.frozen? ⟨R, 1, none⟩ = false
  f2 : w.frozen? ⟨R, 2, none⟩ = false
  bc : BC w g off s.l
  len : s.l.length ≤ cap
  cap : cap ≤ 9223372036854775807
theorem RD.keep {w w' : World} {R g : Nat} {s : RS} {off cap : Nat} (h : RD w R g s off cap) (hb : Below w.heap.size w w') : RD w' R g s off cap :=
  ⟨Nat.lt_of_lt_of_le h.low hb.size, Nat.lt_of_lt_of_le h.glow hb.size, h.ne, (hb.cell (p := ⟨R, 0, none⟩) h.low).trans h.c0, (hb.cell (p := ⟨R, 1, none⟩) h.low).trans h.c1, (hb.cell (p := ⟨R, 2, none⟩) h.low).trans h.c2,
    (hb.frozen (p := ⟨R, 0, none⟩) h.low).trans h.f0, (hb.frozen (p := ⟨R, 1, none⟩) h.low).trans h.f1, (hb.frozen (p := ⟨R, 2, none⟩) h.low).trans h.f2, h.bc.keep (fun o => hb.cell (p := ⟨g, o, none⟩) h.glow), h.len, h.cap⟩
theorem BC.set {w : World} {R g off o : Nat} {l : List UInt8} {v : Value} (h : BC w g off l) (ne : g ≠ R) : BC (w.setCell ⟨R, o, none⟩ v) g off l :=
  h.keep fun _ => World.cell?_of_block (w := w) (Below.heap_setCell w ⟨R, o, none⟩ v g ne)
theorem RD.no {w : World} {R g : Nat} {s : RS} {off cap : Nat} (h : RD w R g s off cap) : RD (w.setCell ⟨R, 2, none⟩ (.bool true)) R g s.no off cap := by
  refine ⟨by simpa [World.setCell] using h.low, by simpa [World.setCell] using h.glow, h.ne, ?_, ?_, ?_, ?_, ?_, ?_, h.bc.set h.ne, h.len, h.cap⟩
  all_goals simp [go_sem, h.c0, h.c1, h.c2, h.f0, h.f1, h.f2, RS.no]
theorem RD.one {w : World} {R g : Nat} {s : RS} {off cap : Nat} (h : RD w R g s off cap) : RD (w.setCell ⟨R, 1, none⟩ (.int .i64 ((s.k : Int) + 1))) R g s.one off cap := by
  refine ⟨by simpa [World.setCell] using h.low, by simpa [World.setCell] using h.glow, h.ne, ?_, ?_, ?_, ?_, ?_, ?_, h.bc.set h.ne, h.len, h.cap⟩
  all_goals simp [go_sem, h.c0, h.c1, h.c2, h.f0, h.f1, h.f2, RS.one]
theorem RD.left {w : World} {R g : Nat} {s : RS} {off cap off' cap' : Nat} {l : List UInt8} (h : RD w R g s off cap) (hb : BC w g off' l) (h1 : l.length ≤ cap') (h2 : cap' ≤ 9223372036854775807) : RD (w.setCell ⟨R, 0, none⟩ (.slice (some ⟨g, off', none⟩) l.length cap')) R g { s with l := l } off' cap' := by
  refine ⟨by simpa [World.setCell] using h.low, by simpa [World.setCell] using h.glow, h.ne, ?_, ?_, ?_, ?_, ?_, ?_, hb.set h.ne, h1, h2⟩
  all_goals simp [go_sem, h.c0, h.c1, h.c2, h.f0, h.f1, h.f2]
def PostN (w : World) (R g : Nat) (r : Nat × RS) (k : IntKind) (e : Ending) (w' : World) : Prop := e = .returned (.int k (r.1 : Int)) ∧ (∃ off cap, RD w' R g r.2 off cap) ∧ But R w w'

set_option maxHeartbeats 2000000 in
theorem next_any (w : World) (R g : Nat) (s : RS) (off cap : Nat) (h : RD w R g s off cap) :
    Calls Try.prog 30 #[.pointer (some ⟨R, 0, none⟩)] w (PostN w R g (nextF s) .u8) := by
  obtain ⟨l, k, bad⟩ := s
  have HR := hide h
  cases l with
  | nil =>
    have c0 := h.c0
    have f2 := h.f2
    have c2 := h.c2
    simp only [List.length_nil] at c0
    have e : nextF ⟨[], k, bad⟩ = (0, RS.no ⟨[], k, bad⟩) := rfl
    rw [e]
    have H2 := hide (RD.no h)
    clear h e HR
    go_enter Try.func30, Try.ntmps30
    go_wp2
    go_ret
    exact ⟨rfl, ⟨off, cap, unhide H2⟩, But.set⟩
  | cons b l =>
    have c0 := h.c0
    have f0 := h.f0
    have len := h.len
    have hcap := h.cap
    simp only [List.length_cons] at c0 len
    rw [next_cons]
    have hx := h.bc 0 b rfl
    rw [Nat.add_zero] at hx
    have hne : ((l.length : Int) + 1 == 0) = false := by
      have : ¬ ((l.length : Int) + 1 = 0) := by omega
      simpa using this
    have h1 : (1 : Int) ≤ (l.length : Int) + 1 := by omega
    have h2 : (l.length : Int) + 1 ≤ (cap : Int) := by omega
    have hb2 : BC w g (off + 1) l := fun i x hi => by
      have := h.bc (i + 1) x (by simpa using hi)
      rwa [show off + (i + 1) = off + 1 + i by omega] at this
    have HB2 := hide hb2
    clear h hb2
    by_cases h3 : cap = 1
    · subst h3
      obtain rfl : l = [] := by
        cases l with
        | nil => rfl
        | cons => simp at len
      clear len hne h1 h2
      simp only [List.length_nil, Nat.zero_add] at c0
      go_enter Try.func30, Try.ntmps30
      go_wp2
      go_ret
      exact ⟨rfl, ⟨off, 0, RD.left (l := []) (unhide HR) (fun i x hi => by simp at hi) (by simp) (by omega)⟩, But.set⟩
    · go_enter Try.func30, Try.ntmps30
      go_wp2
      go_ret
      exact ⟨rfl, ⟨off + 1, cap - 1, RD.left (unhide HR) (unhide HB2) (by omega) (by omega)⟩, But.set⟩

theorem nextF_bd (s : RS) : (nextF s).1 < 256 := by
  obtain ⟨l, k, bad⟩ := s
  cases l with
  | nil => rw [next_nil]; show 0 < 256; decide
  | cons b l => rw [next_cons]; exact b.toNat_lt

theorem signed_any (n : Nat) (w : World) (hn : n < 18446744073709551616) :
    Calls Try.prog 31 #[.int .u64 (n : Int)] w fun e w' => e = .returned (.int .i64 (zagF n)) ∧ w' = w := by
  have e1 := Go.Lib.u64_and1 (n : Int) (by omega) (by omega)
  obtain ⟨q, hq⟩ : ∃ q, n / 2 = q := ⟨_, rfl⟩
  have e2 : (n : Int) / 2 = (q : Int) := by omega
  have hq' : q < 9223372036854775808 := by omega
  have e3 : ((q : Int) + 9223372036854775808) % 18446744073709551616 - 9223372036854775808 = (q : Int) := by omega
  by_cases h : n % 2 = 1
  · have h1 : (n : Int) % 2 = 1 := by omega
    obtain ⟨z, hz⟩ : ∃ z, -(q : Int) - 1 = z := ⟨_, rfl⟩
    have e4 := Go.Lib.i64_not q hq'
    rw [hz] at e4
    have HZ : Hid (zagF n = z) := hide (by unfold zagF; rw [if_pos h, hq, hz])
    rw [h1] at e1
    have y0 : (0 : Int) ≤ (q : Int) := by omega
    have y1 : (q : Int) < 9223372036854775808 := by omega
    have x0 : (0 : Int) ≤ (n : Int) := by omega
    have x1 : (n : Int) < 18446744073709551616 := by omega
    generalize zagF n = Z at *
    clear hq h hz h1 hq' hn
    generalize (n : Int) = x at *
    generalize (q : Int) = y at *
    clear n q
    go_enter Try.func31, Try.ntmps31
    go_wp2
    go_ret
    rw [unhide HZ]
    exact ⟨rfl, rfl⟩
  · have h1 : (n : Int) % 2 = 0 := by omega
    have HZ : Hid (zagF n = (q : Int)) := hide (by unfold zagF; rw [if_neg h, hq])
    rw [h1] at e1
    clear hq h
    go_enter Try.func31, Try.ntmps31
    go_wp2
    go_ret
    rw [unhide HZ]
    exact ⟨rfl, rfl⟩

/-- the sum that four bytes tell -/
def sumOf (l : List UInt8) : Nat := (l.getD 0 0).toNat + (l.getD 1 0).toNat * 256 + (l.getD 2 0).toNat * 65536 + (l.getD 3 0).toNat * 16777216
set_option maxHeartbeats 2000000 in
theorem sumAt_any (a b c d : UInt8) (g off cap : Nat) (w : World) (h : BC w g off [a, b, c, d]) :
    Calls Try.prog 23 #[.slice (some ⟨g, off, none⟩) 4 cap] w fun e w' => e = .returned (.int .u32 (sumOf [a, b, c, d] : Int)) ∧ Below w.heap.size w w' := by
  have c0 := h 0 a rfl
  have c1 := h 1 b rfl
  have c2 := h 2 c rfl
  have c3 := h 3 d rfl
  rw [Nat.add_zero] at c0
  have ha := a.toNat_lt
  have hb := b.toNat_lt
  have hc := c.toNat_lt
  have hd := d.toNat_lt
  have HS : Hid (sumOf [a, b, c, d] = a.toNat + b.toNat * 256 + c.toNat * 65536 + d.toNat * 16777216) := hide rfl
  generalize a.toNat = A at *
  generalize b.toNat = B at *
  generalize c.toNat = C at *
  generalize d.toNat = D at *
  generalize sumOf [a, b, c, d] = S at *
  clear h
  go_enter Try.func23, Try.ntmps23
  go_wp2
  go_region
  all_goals
    go_wp2
    go_ret
    rw [unhide HS, Go.u32_or8 (A : Int) ((B : Int) * 256) (by omega) (by omega) (by omega) (by omega) (by omega), Go.u32_or16 ((A : Int) + (B : Int) * 256) ((C : Int) * 65536) (by omega) (by omega) (by omega) (by omega) (by omega), Go.u32_or24 ((A : Int) + (B : Int) * 256 + (C : Int) * 65536) ((D : Int) * 16777216) (by omega) (by omega) (by omega) (by omega) (by omega)]
    exact ⟨by simp, (Below.refl _ _).drew⟩
end Go.Proofs.Ytlienildfnlncaa

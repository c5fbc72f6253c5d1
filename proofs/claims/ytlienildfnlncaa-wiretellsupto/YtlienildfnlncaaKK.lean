/- Walks: the reader's text. -/
import Derived.Test.YtlienildfnlncaaKJ
import Derived.Laws.IdiomStrings
namespace Go.Proofs.Ytlienildfnlncaa
open Go.RowKit

def PostT (w : World) (R g : Nat) (r : List UInt8 × RS) (e : Ending) (w' : World) : Prop := e = .returned (.string ⟨r.1.toArray⟩) ∧ (∃ off cap, RD w' R g r.2 off cap) ∧ But R w w'
theorem tx_no {n : Nat} {s : RS} (h : s.l.length < n) : textF n s = ([], s.no) := by unfold textF; rw [if_pos h]
theorem tx_go {n : Nat} {s : RS} (h : ¬ s.l.length < n) : textF n s = (s.l.take n, { s with l := s.l.drop n }) := by unfold textF; rw [if_neg h]

set_option maxHeartbeats 2000000 in
theorem text_any (w : World) (R g : Nat) (s : RS) (off cap n : Nat) (h : RD w R g s off cap) (hn : n < 18446744073709551616) :
    Calls Try.prog 33 #[.pointer (some ⟨R, 0, none⟩), .int .u64 (n : Int)] w (PostT w R g (textF n s)) := by
  have c0 := h.c0
  have c2 := h.c2
  have f0 := h.f0
  have f2 := h.f2
  have hlen := h.len
  have hcap := h.cap
  have el : (s.l.length : Int) % 18446744073709551616 = (s.l.length : Int) := by omega
  by_cases hlt : s.l.length < n
  · rw [tx_no hlt]
    have hlt' : (s.l.length : Int) < (n : Int) := by omega
    have H2 := hide h.no
    clear h hlt hlen hcap hn
    go_enter Try.func33, Try.ntmps33
    go_wp2
    go_ret
    exact ⟨rfl, ⟨off, cap, unhide H2⟩, But.set⟩
  · rw [tx_go hlt]
    have hlt' : ¬ (s.l.length : Int) < (n : Int) := by omega
    have HR := hide h
    have h1 : (n : Int) ≤ (s.l.length : Int) := by omega
    have h2 : (s.l.length : Int) ≤ (cap : Int) := by omega
    have h3 : (n : Int) ≤ (cap : Int) := by omega
    have hT : (s.l.take n).length = n := by simp; omega
    have hcv := run_convert_bytes_back (P := Try.prog) w 25 9 5 ⟨g, off, none⟩ cap (s.l.take n) Try.underlying25 Try.underlying5 Try.underlying9 (fun j hj => by
      have hj' : j < s.l.length := by simp at hj; omega
      rw [Addr.add_lit, List.getElem_take]
      exact h.bc j _ (List.getElem?_eq_getElem hj'))
    rw [hT] at hcv
    have hb2 : BC w g (off + n) (s.l.drop n) := fun i x hi => by
      rw [List.getElem?_drop] at hi
      have := h.bc (n + i) x hi
      rwa [show off + (n + i) = off + n + i by omega] at this
    have HB2 := hide hb2
    have hD : (s.l.drop n).length = s.l.length - n := by simp
    have HD := hide hD
    clear h hb2 hT hD
    by_cases hc : cap = n
    · subst hc
      have HL : Hid (s.l.length = cap) := hide (by omega)
      go_enter Try.func33, Try.ntmps33
      go_wp2
      go_ret
      refine ⟨rfl, ⟨off, 0, ?_⟩, But.set⟩
      have q := RD.left (off' := off) (cap' := 0) (l := s.l.drop cap) (unhide HR) (fun i x hi => by
        rw [List.drop_eq_nil_of_le (by have := unhide HL; omega)] at hi
        simp at hi) (by rw [unhide HD]; have := unhide HL; omega) (by omega)
      rw [unhide HD, unhide HL, Nat.sub_self] at q
      exact q
    · go_enter Try.func33, Try.ntmps33
      go_wp2
      go_ret
      refine ⟨rfl, ⟨off + n, cap - n, ?_⟩, But.set⟩
      have q := RD.left (off' := off + n) (cap' := cap - n) (l := s.l.drop n) (unhide HR) (unhide HB2) (by rw [unhide HD]; omega) (by omega)
      rw [unhide HD] at q
      exact q
end Go.Proofs.Ytlienildfnlncaa

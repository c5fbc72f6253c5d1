/- Walks: countSure (raft). -/
import Derived.Test.YtiplnegiphhdlaaND
import Derived.Test.YtiplnegiphhdlaaNI0
import Derived.Test.YtiplnegiphhdlaaShRf
import Derived.Sort.OwnSortedInts
namespace Go.Proofs.Ytiplnegiphhdlaa
open Go.RowKit

/-- the slices are where they were -/
def PO (B p : Nat) (o : Own) (w : World) (x : Rf.Node) (ms : List Rf.Msg) (e : Ending) (w' : World) : Prop := e = .returned (.tuple #[]) ∧ WK B w' p x ms o ∧ Fr B p o w o w'

theorem WK.drewN {B : Nat} {w : World} {p : Nat} {x : Rf.Node} {ms : List Rf.Msg} {o : Own} (h : WK B w p x ms o) (n : Nat) : WK B (w.drewN n) p x ms o := ⟨h.blk, h.low, h.log, h.votes, h.next, h.mtch, h.said, @MC.keep (fun b => B ≤ b ∧ b < w.heap.size ∧ Free p o b) (fun b => B ≤ b ∧ b < (w.drewN n).heap.size ∧ Free p o b) w (w.drewN n) (fun _ k => ⟨k, rfl⟩) ms o.cs h.mc, h.ap⟩
theorem Fr.drewN {B p : Nat} {o o' : Own} {w w' : World} (h : Fr B p o w o' w') (n : Nat) : Fr B p o w o' (w'.drewN n) := ⟨below_drewN h.bel n, h.fr⟩

end Go.Proofs.Ytiplnegiphhdlaa

namespace Go.Proofs.Ytiplnegiphhdlaa.RW
open Go.RowKit

def srt (l : List Int) : List Int := l.mergeSort fun x y => decide (x ≤ y)
theorem srt_len (l : List Int) : (srt l).length = l.length := List.length_mergeSort _
theorem srt_perm (l : List Int) : (srt l).Perm l := List.mergeSort_perm _ _
theorem srt_sorted (l : List Int) : (srt l).Pairwise (· ≤ ·) := by
  have := List.pairwise_mergeSort (le := fun x y : Int => decide (x ≤ y)) (fun a b c h1 h2 => by simp at *; omega) (fun a b => by simp; omega) l
  exact this.imp (fun h => by simpa using h)
theorem sort_any (B : Nat) (l : List Int) (v : Value) (w : World) (hv : w.ownsRow B 3 1 v l.length (ints l)) (hl : 0 < l.length) (hs : l.length ≤ 1000) :
    Calls Try.prog 52 #[v] w fun e w' => e = .returned (.tuple #[]) ∧ w'.ownsRow B 3 1 v l.length (ints (srt l)) ∧ w.grownBy w' v.ownBlock := by
  rcases hv.2 with ⟨_, h0⟩ | ⟨g, cap, cur, rfl, hb, hg, hn, hm, hc, ht⟩
  · omega
  refine (Any.slices_Sort_int Try.lays189 g 0 cap l w (holds_of_blockI hg (by rw [Nat.mul_one] at ht; exact ht)) (lt_of_block hg) (by omega)).mono ?_
  rintro e w' ⟨rfl, n, os, rfl⟩
  exact ⟨rfl, ownsRow_sortedI (srt_len l) hb hg hn hm hc, grownBy_sortedI _⟩

set_option maxHeartbeats 4000000 in
theorem sure_any (B p : Nat) (x : Rf.Node) (ms : List Rf.Msg) (o : Own) (w : World) (hk : WK B w p x ms o) (hr : Rf.rises x.log x.term) (hc : 0 ≤ x.commit) (hm : ∀ v ∈ x.mtch, Rf.inB v 0 (x.log.length : Int)) (hn : (x.mtch.length : Int) = x.n) (h1 : 1 ≤ x.n) (h5 : x.n ≤ 5) (hl : x.log.length ≤ 60) :
    Calls Try.prog 47 #[.pointer (some ⟨p, 0, none⟩)] w (PO B p o w (Rf.sure x) ms) := by
  have hsl : (srt x.mtch).length = x.mtch.length := srt_len _
  obtain ⟨k, hk'⟩ : ∃ k : Nat, (k : Int) = x.n - (x.n / 2 + 1) := ⟨(x.n - (x.n / 2 + 1)).toNat, by omega⟩
  have hkl : k < (srt x.mtch).length := by omega
  have HSu := hide (Rf.sure_sorted x hr hc hm hn (srt x.mtch) (srt_perm _) (srt_sorted _) k hk' hkl)
  have hL := hm _ ((srt_perm x.mtch).mem_iff.1 (List.getElem_mem hkl))
  obtain ⟨Ln, hLn⟩ : ∃ Ln : Nat, (srt x.mtch)[k] = (Ln : Int) := ⟨(srt x.mtch)[k].toNat, by have := hL.1; omega⟩
  have hLb : Ln ≤ 60 := by have := hL.2; omega
  have hat : (srt x.mtch)[k]? = some (Ln : Int) := by rw [List.getElem?_eq_getElem hkl, hLn]
  rw [hLn, Int.toNat_natCast] at HSu
  have CC := hide (copiedI_any x.mtch o.m w (SC.own hk.mtch) (by omega))
  have HM : Hid (∃ a N c, o.m = .slice a N c) := hide (by obtain ⟨a, N, c, e, _⟩ := SC.shp (SC.own hk.mtch); exact ⟨a, N, c, e⟩)
  obtain ⟨a, N, c, em⟩ := unhide HM
  have c10 : w.cell? ⟨p, 10, none⟩ = some (.slice a N c) := (hk.blk.at (j := 10) rfl).trans (congrArg some em)
  rw [em] at CC
  have HK := hide hk
  have HF := hide (And.intro hn hl)
  have ek : IntKind.i64.wrap (x.n - (x.n / 2 + 1)) = (k : Int) := by rw [hk']; exact wrap_i64 (by omega) (by omega)
  have Hkl : Hid (k < x.mtch.length) := hide (by omega)
  have HD := hide (And.intro hat hsl)
  clear hk hr hc hm hn hsl hkl hk' hL hLn hat HM
  go_enter Try.func47, Try.ntmps47
  go_wp2_with (go_at_call 39; refine (unhide CC).mono ?_; rintro e w1 ⟨v1, rfl, ho1, hb1⟩)
  have CSo := hide (sort_any w.heap.size x.mtch v1 w1 ho1 (by have := unhide Hkl; omega) (by have := (unhide HF).1; omega))
  obtain ⟨g, cp, rfl, g1, g2, _⟩ := own_slice ho1 (by have := unhide Hkl; omega)
  clear CC c10
  go_wp2_with (go_at_call 52; refine (unhide CSo).mono ?_; rintro e w2 ⟨rfl, ho2, hg2⟩)
  have hb2 : Below w.heap.size w w2 := hb1.trans (own_old ho1 hg2 hb1.size)
  have hk2 := (unhide HK).below hb2
  have q0 : w2.cell? ⟨g, k, none⟩ = some (.int .i64 (Ln : Int)) := by
    have := World.ownsRow.cells ho2 (g := g) rfl k (.int .i64 (Ln : Int)) (by simp [ints, (unhide HD).1])
    rwa [Addr.add_lit, Nat.zero_add] at this
  have hkN : (k : Int) < (x.mtch.length : Int) := by have := unhide Hkl; omega
  have hkN2 : k < x.mtch.length := unhide Hkl
  obtain ⟨la, LL, lc, va, VL, vc, na, NL, nc, ma, ML, mc, sa, SL, sc, HE, hLL, hVL, hNL, hML, hSL, _, ⟨c0, c1, c2, c3, c4, c5, c6, c7, c8, c9, c10, c11⟩, ⟨f0, f1, f2, f3, f4, f5, f6, f7, f8, f9, f10, f11⟩⟩ := hk2.tell
  have hp := hk2.lo
  have CM := hide (fun wx (hx : wx.heap = w2.heap) => most_any p x.n wx (by rw [← c1]; simp [World.cell?, hx]) h1 h5)
  have CT := hide (fun wx (hx : wx.heap = w2.heap) => termOf_any p x.log (.slice la LL lc) Ln wx (by rw [← c4]; simp [World.cell?, hx]) (by have := SC.own hk2.log; rw [(unhide HE).1] at this; exact SC.keep (fun b hb => ⟨by rw [hx]; exact hb, by rw [hx]⟩) this) (by omega))
  have HK2 := hide hk2
  have HB2 := hide hb2
  have HFr : Hid (Fr B p o w o w2) := hide (Fr.below hb2 (unhide HK).szB)
  have CellFr := hide ((unhide HFr).trans (hk2.cellFr 5 (.int .i64 (Ln : Int))))
  have CellWK := hide (hk2.cell (x' := { x with commit := (Ln : Int) }) 5 (.int .i64 (Ln : Int)) ⟨rfl, rfl, rfl, rfl⟩ rfl)
  clear hk2 hb2 ho1 hb1 ho2 hg2 CSo c0 c3 c6 c7 c8 c9 c10 c11 em
  by_cases d1 : x.commit < (Ln : Int)
  · have b1 : decide (x.commit < (Ln : Int)) = true := decide_eq_true d1
    by_cases d2 : Rf.atN x.log Ln = x.term
    · have b2 : (Rf.atN x.log Ln == x.term) = true := by simpa using d2
      have ES : Hid (Rf.sure x = { x with commit := (Ln : Int) }) := hide (by rw [Rf.sure, unhide HSu, if_pos ⟨d1, d2⟩])
      clear d2 HSu
      go_wp2_with fail
      go_quiet ((go_at_call 50; exact Calls.quiet_of_same (unhide CM _ rfl)))
      go_wp2_with fail
      generalize hw3 : w2.drewN nq = w3
      have e3 : Hid (w3.heap = w2.heap) := hide (by rw [← hw3]; rfl)
      have k2 : w3.cell? ⟨p, 2, none⟩ = some (.int .i64 x.term) := by rw [← c2, ← hw3]; rfl
      have k5 : w3.cell? ⟨p, 5, none⟩ = some (.int .i64 x.commit) := by rw [← c5, ← hw3]; rfl
      have g5 : w3.frozen? ⟨p, 5, none⟩ = false := by rw [← f5, ← hw3]; rfl
      have p3 : p < w3.heap.size := by rw [unhide e3]; exact hp
      replace hw3 := hide hw3
      go_quiet ((go_at_call 42; exact Calls.quiet_of_same (unhide CT _ (unhide e3))))
      go_wp2
      go_end0
      rw [unhide ES, ← unhide hw3]
      exact ⟨rfl, ((unhide CellWK).drewN _).drewN _, ((unhide CellFr).drewN _).drewN _⟩
    · have b2 : (Rf.atN x.log Ln == x.term) = false := by simpa using d2
      have ES : Hid (Rf.sure x = x) := hide (by rw [Rf.sure, unhide HSu, if_neg (fun q => d2 q.2)])
      clear d2 HSu
      go_wp2_with fail
      go_quiet ((go_at_call 50; exact Calls.quiet_of_same (unhide CM _ rfl)))
      go_wp2_with fail
      generalize hw3 : w2.drewN nq = w3
      have e3 : Hid (w3.heap = w2.heap) := hide (by rw [← hw3]; rfl)
      have k2 : w3.cell? ⟨p, 2, none⟩ = some (.int .i64 x.term) := by rw [← c2, ← hw3]; rfl
      have k5 : w3.cell? ⟨p, 5, none⟩ = some (.int .i64 x.commit) := by rw [← c5, ← hw3]; rfl
      have g5 : w3.frozen? ⟨p, 5, none⟩ = false := by rw [← f5, ← hw3]; rfl
      have p3 : p < w3.heap.size := by rw [unhide e3]; exact hp
      replace hw3 := hide hw3
      go_quiet ((go_at_call 42; exact Calls.quiet_of_same (unhide CT _ (unhide e3))))
      go_wp2
      go_end0
      rw [unhide ES, ← unhide hw3]
      exact ⟨rfl, ((unhide HK2).drewN _).drewN _, ((unhide HFr).drewN _).drewN _⟩
  · have b1 : decide (x.commit < (Ln : Int)) = false := decide_eq_false d1
    have ES : Hid (Rf.sure x = x) := hide (by rw [Rf.sure, unhide HSu, if_neg (fun q => d1 q.1)])
    clear HSu
    go_wp2_with fail
    go_quiet ((go_at_call 50; exact Calls.quiet_of_same (unhide CM _ rfl)))
    go_wp2_with fail
    generalize hw3 : w2.drewN nq = w3
    have e3 : Hid (w3.heap = w2.heap) := hide (by rw [← hw3]; rfl)
    have k2 : w3.cell? ⟨p, 2, none⟩ = some (.int .i64 x.term) := by rw [← c2, ← hw3]; rfl
    have k5 : w3.cell? ⟨p, 5, none⟩ = some (.int .i64 x.commit) := by rw [← c5, ← hw3]; rfl
    have g5 : w3.frozen? ⟨p, 5, none⟩ = false := by rw [← f5, ← hw3]; rfl
    have p3 : p < w3.heap.size := by rw [unhide e3]; exact hp
    replace hw3 := hide hw3
    go_quiet ((go_at_call 42; exact Calls.quiet_of_same (unhide CT _ (unhide e3))))
    go_wp2
    go_end0
    rw [unhide ES, ← unhide hw3]
    exact ⟨rfl, ((unhide HK2).drewN _).drewN _, ((unhide HFr).drewN _).drewN _⟩

end Go.Proofs.Ytiplnegiphhdlaa.RW

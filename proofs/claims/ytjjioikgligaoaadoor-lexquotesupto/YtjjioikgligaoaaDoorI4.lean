/- The walk over LexQuotes. -/
import Derived.Test.YtjjioikgligaoaaDoorH2
import Derived.Test.YtjjioikgligaoaaDoorI2
import Derived.Test.YtjjioikgligaoaaDoorI3
namespace Go.Proofs.YtjjioikgligaoaaDoor
open Go.RowKit

theorem ql_ge : ∀ l : List UInt8, l.length ≤ ql l
  | [] => Nat.zero_le _
  | b :: t => by
    have ih := ql_ge t
    have h : 1 ≤ (qb b).length := by unfold qb; (repeat' split) <;> simp
    unfold ql at ih ⊢
    rw [List.flatMap_cons, List.length_append, List.length_cons]
    omega

set_option maxHeartbeats 2000000 in
set_option maxRecDepth 100000 in
theorem quotes_walk (s : ByteArray) (w : World) (hs : s.size ≤ 70368744177000) (hf : LT w ∧ SG w) :
    Calls Tryd.prog 3 #[.string s] w fun e w' => e = .returned (.bool true) ∧ Below w.heap.size w w' := by
  have hL := hf.1
  have hS := hf.2
  have A := hide (alive_any w hL hS)
  have Q := hide (fun wx => quote_any s wx hs)
  have U := hide (fun wx h4 => utf8_any s wx h4)
  obtain ⟨X, hX⟩ : ∃ X : ByteArray, X = ⟨(quoteL s.data.toList).toArray⟩ := ⟨_, rfl⟩
  have hXl : X.data.toList = quoteL s.data.toList := by rw [hX]
  have hXs : s.size + 2 ≤ X.size := by rw [Lib.size_eq X, hXl, quote_len, Lib.size_eq s]; have := ql_ge s.data.toList; omega
  have hXm : X.size ≤ 2 * s.size + 2 := by
    rw [Lib.size_eq X, hXl, quote_len, Lib.size_eq s]
    have : ∀ l : List UInt8, ql l ≤ 2 * l.length := by
      intro l
      induction l with
      | nil => simp [ql]
      | cons b t ih =>
        have h : (qb b).length ≤ 2 := by unfold qb; (repeat' split) <;> simp
        unfold ql at ih ⊢
        rw [List.flatMap_cons, List.length_append, List.length_cons]
        omega
    have := this s.data.toList
    omega
  rw [← hX] at Q
  have T := hide (fun wx (hv : Lib.validD s.data.toList = true) (h4 : X.size ≤ 4000) hb => by
    have T := tokens_of X wx (hL.on hb) (hS.on hb)
    rw [hXl, quoted_toks hv (by rw [← hXl, ← Lib.size_eq]; exact h4)] at T
    exact T)
  clear hL hS hf hX hXl
  by_cases h4 : (4000 : Int) < (X.size : Int)
  · go_enter Tryd.func3, Tryd.ntmps3
    go_wp2_with fail
    refine (unhide A).mono ?_
    rintro e w1 ⟨rfl, hb⟩
    go_wp2_with fail
    refine (unhide Q _).mono ?_
    rintro e w2 ⟨rfl, hb2⟩
    have hb3 := hb.trans (hb2.mono hb.size)
    go_wp2
    go_ret
    exact ⟨rfl, hb3⟩
  · go_enter Tryd.func3, Tryd.ntmps3
    go_wp2_with fail
    refine (unhide A).mono ?_
    rintro e w1 ⟨rfl, hb⟩
    go_wp2_with fail
    refine (unhide Q _).mono ?_
    rintro e w2 ⟨rfl, hb2⟩
    have hb3 := hb.trans (hb2.mono hb.size)
    clear hb hb2 A Q
    go_wp2_with fail
    refine (unhide U _ (by omega)).mono ?_
    rintro e w3 ⟨hu | ⟨hu, hv⟩, rfl⟩
    · subst hu
      go_wp2
      go_ret
      exact ⟨rfl, hb3⟩
    · subst hu
      have T' := unhide T w3 hv (by omega) hb3
      clear T U
      replace T' := hide T'
      go_wp2_with fail
      refine (unhide T').mono ?_
      rintro e w4 ⟨⟨sv, rfl, hT⟩, hb4⟩
      obtain ⟨a, cap, rfl, hca⟩ := hT.sl
      obtain ⟨g, rfl, hg, x0, x1, x2, x3, x4⟩ := hT.tok (k := 0) rfl
      have hb5 := hb3.trans (hb4.mono hb3.size)
      simp only [List.length_cons, List.length_nil, Nat.zero_mul, Nat.zero_add] at x0 x1 x2 x3 x4 hca ⊢
      rw [show (⟨s.data.toList.toArray⟩ : ByteArray) = s from rfl] at x1
      clear hT T' hb3 hb4
      go_wp2
      go_ret
      exact ⟨rfl, hb5.alloc hb5.size _⟩
end Go.Proofs.YtjjioikgligaoaaDoor

/- Walks: firstText. -/
import Derived.Test.YtjjioikgligaoaaDoorF3
namespace Go.Proofs.YtjjioikgligaoaaDoor
open Go.RowKit

/-- what first tells: a token, how many bytes it takes; or what is wrong, and where -/
structure FR where
  k : Int
  t : List UInt8
  c : Int
  x : Int
  n : Nat
  e : Int
  a : Nat
def frV (r : FR) : Ending := .returned (.tuple #[.agg #[.int .i64 r.k, .string ⟨r.t.toArray⟩, .int .i64 r.c, .int .i64 r.x, .int .i64 0], .int .i64 (r.n : Int), .agg #[.int .i64 r.e, .int .i64 (r.a : Int)]])

/-- the two blocks of results, still empty -/
structure RB (b : Nat) (w : World) : Prop where
  c0 : w.cell? ⟨b, 0, none⟩ = some (.int .i64 0)
  c1 : w.cell? ⟨b, 1, none⟩ = some (.string ⟨#[]⟩)
  c2 : w.cell? ⟨b, 2, none⟩ = some (.int .i64 0)
  c3 : w.cell? ⟨b, 3, none⟩ = some (.int .i64 0)
  c4 : w.cell? ⟨b, 4, none⟩ = some (.int .i64 0)
  d0 : w.cell? ⟨b + 1, 0, none⟩ = some (.int .i64 0)
  d1 : w.cell? ⟨b + 1, 1, none⟩ = some (.int .i64 0)
  fc : ∀ o, w.frozen? ⟨b, o, none⟩ = false
  fd : ∀ o, w.frozen? ⟨b + 1, o, none⟩ = false
  sz : b + 1 < w.heap.size
theorem RB.keep {b n : Nat} {w w' : World} (h : RB b w) (hb : Below n w w') (l : b + 1 < n) : RB b w' := by
  have c : ∀ o, w'.cell? ⟨b, o, none⟩ = w.cell? ⟨b, o, none⟩ := fun o => hb.cell (p := ⟨b, o, none⟩) (by show b < n; omega)
  have d : ∀ o, w'.cell? ⟨b + 1, o, none⟩ = w.cell? ⟨b + 1, o, none⟩ := fun o => hb.cell (p := ⟨b + 1, o, none⟩) l
  refine ⟨by rw [c]; exact h.c0, by rw [c]; exact h.c1, by rw [c]; exact h.c2, by rw [c]; exact h.c3, by rw [c]; exact h.c4, by rw [d]; exact h.d0, by rw [d]; exact h.d1, fun o => ?_, fun o => ?_, Nat.lt_of_lt_of_le h.sz hb.size⟩
  · rw [hb.frozen (p := ⟨b, o, none⟩) (by show b < n; omega)]; exact h.fc o
  · rw [hb.frozen (p := ⟨b + 1, o, none⟩) l]; exact h.fd o
theorem RB.new (w : World) : RB w.heap.size ((w.alloc (.cells #[.int .i64 0, .string ⟨#[]⟩, .int .i64 0, .int .i64 0, .int .i64 0] 34)).alloc (.cells #[.int .i64 0, .int .i64 0] 28)) := by
  constructor <;> simp [go_sem]
theorem RB.tell {b : Nat} {w : World} (h : RB b w) : w.cell? ⟨b, 0, none⟩ = some (.int .i64 0) ∧ w.cell? ⟨b, 1, none⟩ = some (.string ⟨#[]⟩) ∧ w.cell? ⟨b, 2, none⟩ = some (.int .i64 0) ∧ w.cell? ⟨b, 3, none⟩ = some (.int .i64 0) ∧ w.cell? ⟨b, 4, none⟩ = some (.int .i64 0) ∧ w.cell? ⟨b + 1, 0, none⟩ = some (.int .i64 0) ∧ w.cell? ⟨b + 1, 1, none⟩ = some (.int .i64 0) :=
  ⟨h.c0, h.c1, h.c2, h.c3, h.c4, h.d0, h.d1⟩
theorem RB.thaw {b : Nat} {w : World} (h : RB b w) : w.frozen? ⟨b, 0, none⟩ = false ∧ w.frozen? ⟨b, 1, none⟩ = false ∧ w.frozen? ⟨b, 2, none⟩ = false ∧ w.frozen? ⟨b, 3, none⟩ = false ∧ w.frozen? ⟨b, 4, none⟩ = false ∧ w.frozen? ⟨b + 1, 0, none⟩ = false ∧ w.frozen? ⟨b + 1, 1, none⟩ = false :=
  ⟨h.fc 0, h.fc 1, h.fc 2, h.fc 3, h.fc 4, h.fd 0, h.fd 1⟩
theorem below_res {w w1 : World} {b : Nat} {v0 v1 v2 v3 v4 u0 u1 : Value} (h : Below w.heap.size w w1) (hb : w.heap.size ≤ b) :
    Below w.heap.size w (((((((w1.setCell ⟨b, 0, none⟩ v0).setCell ⟨b, 1, none⟩ v1).setCell ⟨b, 2, none⟩ v2).setCell ⟨b, 3, none⟩ v3).setCell ⟨b, 4, none⟩ v4).setCell ⟨b + 1, 0, none⟩ u0).setCell ⟨b + 1, 1, none⟩ u1) :=
  ((((((h.setCell hb _).setCell hb _).setCell hb _).setCell hb _).setCell hb _).setCell (by show _ ≤ b + 1; omega) _).setCell (by show _ ≤ b + 1; omega) _

theorem string_any (B b : Nat) (l : List UInt8) (w : World) (h : Lib.IsBuilderF 39 5 B b (Lib.byteCells l) w) (hBw : B ≤ w.heap.size) :
    Calls Tryd.prog 12 #[.pointer (some ⟨b, 0, none⟩)] w fun e w' => e = .returned (.string ⟨l.toArray⟩) ∧ Below B w w' := by
  refine (Any.Builder_String_any_k Tryd.lays169 Tryd.lays169X B b l w h hBw).mono ?_
  rintro e w' ⟨rfl, _, hb, _⟩
  exact ⟨rfl, hb⟩

def ftF (l : List UInt8) : FR :=
  if (1 + (textL (l.length - 1) false [] 0 (l.drop 1)).1 = l.length ∨ l.getD (1 + (textL (l.length - 1) false [] 0 (l.drop 1)).1) 0 ≠ 34) then ⟨0, [], 0, 0, 0, 2, 1 + (textL (l.length - 1) false [] 0 (l.drop 1)).1⟩
  else ⟨3, (textL (l.length - 1) false [] 0 (l.drop 1)).2, 0, 0, 1 + (textL (l.length - 1) false [] 0 (l.drop 1)).1 + 1, 0, 0⟩

theorem textL_le : ∀ (f : Nat) (esc : Bool) (acc : List UInt8) (pos : Nat) (l : List UInt8), (textL f esc acc pos l).1 ≤ pos + l.length
  | 0, esc, acc, pos, l => by simp [textL]
  | f + 1, esc, acc, pos, l => by
    by_cases h : l = []
    · subst h; rw [textL_nil]; simp
    · cases g : tGo esc (Lib.decodeL l).1
      · rw [textL_stop h g]; simp
      · rw [textL_go h g]
        have a := textL_le f (tEsc esc (Lib.decodeL l).1) (acc ++ tAdd esc (Lib.decodeL l).1) (pos + (Lib.decodeL l).2) (l.drop (Lib.decodeL l).2)
        have b := Lib.decodeL_le l h
        rw [List.length_drop] at a
        omega
theorem ext_size (s : ByteArray) (i : Nat) : (s.extract i s.size).size = s.size - i := by
  rw [ext_drop, mk_size', List.length_drop, ← Lib.size_eq]

theorem ftF_eq {l : List UInt8} {p : Nat} {said : List UInt8} (h : textL (l.length - 1) false [] 0 (l.drop 1) = (p, said)) : ftF l = if (1 + p = l.length ∨ l.getD (1 + p) 0 ≠ 34) then ⟨0, [], 0, 0, 0, 2, 1 + p⟩ else ⟨3, said, 0, 0, 1 + p + 1, 0, 0⟩ := by
  unfold ftF; rw [h]
theorem getD_at (s : ByteArray) (k : Nat) (h : k < s.size) : s.data.toList.getD k 0 = s[k] := by
  rw [List.getD_eq_getElem?_getD, toList_at s k h]; rfl
theorem u8_eq (b : UInt8) (n : Nat) (hn : n < 256) : (b = UInt8.ofNat n) ↔ b.toNat = n := by
  constructor
  · intro h; rw [h, UInt8.toNat_ofNat']; omega
  · intro h; apply UInt8.toNat_inj.1; rw [h, UInt8.toNat_ofNat']; omega

set_option maxHeartbeats 1000000 in
theorem firstText_any (s : ByteArray) (w : World) (hs : s.size ≤ 4000) (h1 : 1 ≤ s.size) :
    Calls Tryd.prog 20 #[.string s] w fun e w' => e = frV (ftF s.data.toList) ∧ Below w.heap.size w w' := by
  have hsz := ext_size s 1
  have LT := fun (wx : World) (B b k : Nat) hb hk hB hbk => lead_text (s.extract 1 s.size) B b k wx (by omega) hb hk hB hbk
  have hle := textL_le (s.size - 1) false [] 0 (s.data.toList.drop 1)
  rw [List.length_drop, ← Lib.size_eq] at hle
  obtain ⟨p, said, hq⟩ : ∃ p said, textL (s.size - 1) false [] 0 (s.data.toList.drop 1) = (p, said) := ⟨_, _, rfl⟩
  have EF := ftF_eq (l := s.data.toList) (p := p) (said := said) (by rw [← Lib.size_eq]; exact hq)
  rw [← Lib.size_eq] at EF
  rw [show textL (s.extract 1 s.size).size false [] 0 (s.extract 1 s.size).data.toList = (p, said) by rw [hsz, ext_drop, mk_list', hq]] at LT
  rw [hq] at hle
  simp only at hle LT
  replace LT := hide LT
  have c1 : (1 : Int) ≤ (s.size : Int) := by omega
  have hpI : (p : Int) ≤ 4000 := by omega
  have R0 := hide (RB.new w)
  have hw0 : Hid (Below w.heap.size w ((w.alloc (.cells #[.int .i64 0, .string ⟨#[]⟩, .int .i64 0, .int .i64 0, .int .i64 0] 34)).alloc (.cells #[.int .i64 0, .int .i64 0] 28))) := hide (((Below.refl _ _).alloc (Nat.le_refl _) _).alloc (by simp) _)
  have I0 := fun W : World => (Lib.IsBuilderF.of (Lib.fresh_isBuilder 39 5 W)).alloc (.cells #[.bool false] 4)
  replace I0 := hide I0
  clear hq hsz
  have step : ∀ w1, Below (w.heap.size + 1 + 1) ((((w.alloc (.cells #[.int .i64 0, .string ⟨#[]⟩, .int .i64 0, .int .i64 0, .int .i64 0] 34)).alloc (.cells #[.int .i64 0, .int .i64 0] 28)).alloc (.cells #[.pointer none, .slice none 0 0] 39)).alloc (.cells #[.bool false] 4)) w1 → RB w.heap.size w1 ∧ Below w.heap.size w w1 := by
    intro w1 hb
    have b2 := (((Below.refl (w.heap.size + 1 + 1) ((w.alloc (.cells #[.int .i64 0, .string ⟨#[]⟩, .int .i64 0, .int .i64 0, .int .i64 0] 34)).alloc (.cells #[.int .i64 0, .int .i64 0] 28))).alloc (by simp) (.cells #[.pointer none, .slice none 0 0] 39)).alloc (by simp) (.cells #[.bool false] 4)).trans hb
    exact ⟨(unhide R0).keep b2 (by omega), (unhide hw0).trans (b2.mono (by omega))⟩
  replace step := hide step
  have lead : ∀ Q, (∀ e w', (e = .returned (.int .i64 (p : Int)) ∧ Lib.IsBuilderF 39 5 (w.heap.size + 1 + 1) (w.heap.size + 1 + 1) (Lib.byteCells said) w' ∧ RB w.heap.size w' ∧ Below w.heap.size w w' ∧ w.heap.size + 1 + 1 ≤ w'.heap.size) → Q e w') → Calls Tryd.prog 17 #[.string (s.extract 1 s.size), .func (.func 28) #[] #[.pointer (some ⟨w.heap.size + 1 + 1 + 1, 0, none⟩), .pointer (some ⟨w.heap.size + 1 + 1, 0, none⟩)]] ((((w.alloc (.cells #[.int .i64 0, .string ⟨#[]⟩, .int .i64 0, .int .i64 0, .int .i64 0] 34)).alloc (.cells #[.int .i64 0, .int .i64 0] 28)).alloc (.cells #[.pointer none, .slice none 0 0] 39)).alloc (.cells #[.bool false] 4)) Q := by
    intro Q hQ
    have I := unhide I0 ((w.alloc (.cells #[.int .i64 0, .string ⟨#[]⟩, .int .i64 0, .int .i64 0, .int .i64 0] 34)).alloc (.cells #[.int .i64 0, .int .i64 0] 28))
    have hz : ((w.alloc (.cells #[.int .i64 0, .string ⟨#[]⟩, .int .i64 0, .int .i64 0, .int .i64 0] 34)).alloc (.cells #[.int .i64 0, .int .i64 0] 28)).heap.size = w.heap.size + 1 + 1 := by simp
    rw [hz] at I
    have hk := heap_alloc_new (((w.alloc (.cells #[.int .i64 0, .string ⟨#[]⟩, .int .i64 0, .int .i64 0, .int .i64 0] 34)).alloc (.cells #[.int .i64 0, .int .i64 0] 28)).alloc (.cells #[.pointer none, .slice none 0 0] 39)) (.cells #[.bool false] 4)
    rw [show (((w.alloc (.cells #[.int .i64 0, .string ⟨#[]⟩, .int .i64 0, .int .i64 0, .int .i64 0] 34)).alloc (.cells #[.int .i64 0, .int .i64 0] 28)).alloc (.cells #[.pointer none, .slice none 0 0] 39)).heap.size = w.heap.size + 1 + 1 + 1 by simp] at hk
    refine (unhide LT _ (w.heap.size + 1 + 1) (w.heap.size + 1 + 1) (w.heap.size + 1 + 1 + 1) I hk (Nat.le_refl _) (by omega)).mono ?_
    rintro e w' ⟨rfl, hB, hb⟩
    obtain ⟨r1, r2⟩ := unhide step w' hb
    exact hQ _ _ ⟨rfl, hB, r1, r2, by have := r1.sz; omega⟩
  replace lead := hide lead
  clear LT I0 R0 hw0 step
  by_cases hc : 1 + p = s.size
  · rw [if_pos (.inl hc)] at EF
    have EF' := hide EF
    have hc' : ((1 : Int) + (p : Int) == (s.size : Int)) = true := by simp; omega
    clear EF hc
    go_enter Tryd.func20, Tryd.ntmps20
    go_wp2_with fail
    refine unhide lead _ ?_
    rintro e w1 ⟨rfl, hB, R, hw, hz⟩
    obtain ⟨t0, t1, t2, t3, t4, t5, t6⟩ := R.tell
    obtain ⟨f0, f1, f2, f3, f4, f5, f6⟩ := R.thaw
    have hlt := R.sz
    clear R hB
    go_wp2
    exact bodyPost_ret (v := .tuple #[.agg #[.int .i64 0, .string ⟨#[]⟩, .int .i64 0, .int .i64 0, .int .i64 0], .int .i64 0, .agg #[.int .i64 2, .int .i64 (1 + (p : Int))]]) (by simp [results, Tryd.results20, go_sem, t0, t1, t2, t3, t4, t5, t6]) rfl ⟨by rw [unhide EF']; simp [frV], below_res hw (Nat.le_refl _)⟩
  have hc' : ((1 : Int) + (p : Int) == (s.size : Int)) = false := by simp; omega
  have hlt2 : 1 + p < s.size := by omega
  have hltI : (1 : Int) + (p : Int) < (s.size : Int) := by omega
  have hidx : ∀ W, (Instr.index 9 (.string s) (.int .i64 (1 + (p : Int)))).run Tryd.prog W = .ok (.int .u8 (s[1 + p].toNat : Int)) W := by
    intro W
    have e : ∀ h, s[(1 + (p : Int)).toNat]'h = s[1 + p] := fun h => by congr 1 <;> omega
    rw [run_index_string _ _ _ _ _ Tryd.underlying9, dif_pos ⟨by omega, by omega⟩, e]
  rw [getD_at s (1 + p) hlt2] at EF
  by_cases h34 : s[1 + p].toNat = 34
  · rw [if_neg (by rintro (a | a); · exact hc a
                   · exact a ((u8_eq _ 34 (by omega)).2 h34))] at EF
    have EF' := hide EF
    have h34' : ((s[1 + p].toNat : Int) != 34) = false := by simp; omega
    clear EF hc h34
    go_enter Tryd.func20, Tryd.ntmps20
    go_wp2_with fail
    refine unhide lead _ ?_
    rintro e w1 ⟨rfl, hB, R, hw, hz⟩
    have HR := hide R
    have HB := hide (string_any (w.heap.size + 1 + 1) (w.heap.size + 1 + 1) said w1 hB hz)
    have HW := hide hw
    clear hB R hw
    go_wp2_with fail
    refine (unhide HB).mono ?_
    rintro e w2 ⟨rfl, hb⟩
    have R := (unhide HR).keep hb (by omega)
    have hw := (unhide HW).trans (hb.mono (by omega))
    clear HR HB HW hb
    obtain ⟨t0, t1, t2, t3, t4, t5, t6⟩ := R.tell
    obtain ⟨f0, f1, f2, f3, f4, f5, f6⟩ := R.thaw
    have hlt := R.sz
    clear R
    go_wp2
    exact bodyPost_ret (v := .tuple #[.agg #[.int .i64 3, .string ⟨said.toArray⟩, .int .i64 0, .int .i64 0, .int .i64 0], .int .i64 (1 + (p : Int) + 1), .agg #[.int .i64 0, .int .i64 0]]) (by simp [results, Tryd.results20, go_sem, t0, t1, t2, t3, t4, t5, t6]) rfl ⟨by rw [unhide EF']; simp [frV], below_res hw (Nat.le_refl _)⟩
  · rw [if_pos (.inr (fun a => h34 ((u8_eq _ 34 (by omega)).1 a)))] at EF
    have EF' := hide EF
    have h34' : ((s[1 + p].toNat : Int) != 34) = true := by simp; omega
    clear EF hc h34
    go_enter Tryd.func20, Tryd.ntmps20
    go_wp2_with fail
    refine unhide lead _ ?_
    rintro e w1 ⟨rfl, hB, R, hw, hz⟩
    obtain ⟨t0, t1, t2, t3, t4, t5, t6⟩ := R.tell
    obtain ⟨f0, f1, f2, f3, f4, f5, f6⟩ := R.thaw
    have hlt := R.sz
    clear R hB
    go_wp2
    exact bodyPost_ret (v := .tuple #[.agg #[.int .i64 0, .string ⟨#[]⟩, .int .i64 0, .int .i64 0, .int .i64 0], .int .i64 0, .agg #[.int .i64 2, .int .i64 (1 + (p : Int))]]) (by simp [results, Tryd.results20, go_sem, t0, t1, t2, t3, t4, t5, t6]) rfl ⟨by rw [unhide EF']; simp [frV], below_res hw (Nat.le_refl _)⟩
end Go.Proofs.YtjjioikgligaoaaDoor

/- Walks: firstText. -/
import Derived.Test.YtdgojpjmhalilaaGreatDoorG31
namespace Go.Proofs.YtdgojpjmhalilaaGreatDoor
open Go.RowKit

/-- what first tells: a token, how many bytes it takes; or what is wrong, and where -/
structure FR where
  k : Int
  t : List UInt8
  c : Int
  x : Int
  n : Nat
  e : Int
  a : Nat
def frV (r : FR) : Ending := .returned (.tuple #[.agg #[.int .i64 r.k, .string ⟨r.t.toArray⟩, .int .i64 r.c, .int .i64 r.x, .int .i64 0], .int .i64 (r.n : Int), .agg #[.int .i64 r.e, .int .i64 (r.a : Int)]])

/-- the two blocks of results, still empty -/
structure RB (b : Nat) (w : World) : Prop where
  c0 : w.cell? ⟨b, 0, none⟩ = some (.int .i64 0)
  c1 : w.cell? ⟨b, 1, none⟩ = some (.string ⟨#[]⟩)
  c2 : w.cell? ⟨b, 2, none⟩ = some (.int .i64 0)
  c3 : w.cell? ⟨b, 3, none⟩ = some (.int .i64 0)
  c4 : w.cell? ⟨b, 4, none⟩ = some (.int .i64 0)
  d0 : w.cell? ⟨b + 1, 0, none⟩ = some (.int .i64 0)
  d1 : w.cell? ⟨b + 1, 1, none⟩ = some (.int .i64 0)
  fc : ∀ o, w.frozen? ⟨b, o, none⟩ = false
  fd : ∀ o, w.frozen? ⟨b + 1, o, none⟩ = false
  sz : b + 1 < w.heap.size
theorem RB.keep {b n : Nat} {w w' : World} (h : RB b w) (hb : Below n w w') (l : b + 1 < n) : RB b w' := by
  have c : ∀ o, w'.cell? ⟨b, o, none⟩ = w.cell? ⟨b, o, none⟩ := fun o => hb.cell (p := ⟨b, o, none⟩) (by show b < n; omega)
  have d : ∀ o, w'.cell? ⟨b + 1, o, none⟩ = w.cell? ⟨b + 1, o, none⟩ := fun o => hb.cell (p := ⟨b + 1, o, none⟩) l
  refine ⟨by rw [c]; exact h.c0, by rw [c]; exact h.c1, by rw [c]; exact h.c2, by rw [c]; exact h.c3, by rw [c]; exact h.c4, by rw [d]; exact h.d0, by rw [d]; exact h.d1, fun o => ?_, fun o => ?_, Nat.lt_of_lt_of_le h.sz hb.size⟩
  · rw [hb.frozen (p := ⟨b, o, none⟩) (by show b < n; omega)]; exact h.fc o
  · rw [hb.frozen (p := ⟨b + 1, o, none⟩) l]; exact h.fd o
theorem RB.new (w : World) : RB w.heap.size ((w.alloc (.cells #[.int .i64 0, .string ⟨#[]⟩, .int .i64 0, .int .i64 0, .int .i64 0] 94)).alloc (.cells #[.int .i64 0, .int .i64 0] 90)) := by
  constructor <;> simp [go_sem]
theorem RB.tell {b : Nat} {w : World} (h : RB b w) : w.cell? ⟨b, 0, none⟩ = some (.int .i64 0) ∧ w.cell? ⟨b, 1, none⟩ = some (.string ⟨#[]⟩) ∧ w.cell? ⟨b, 2, none⟩ = some (.int .i64 0) ∧ w.cell? ⟨b, 3, none⟩ = some (.int .i64 0) ∧ w.cell? ⟨b, 4, none⟩ = some (.int .i64 0) ∧ w.cell? ⟨b + 1, 0, none⟩ = some (.int .i64 0) ∧ w.cell? ⟨b + 1, 1, none⟩ = some (.int .i64 0) :=
  ⟨h.c0, h.c1, h.c2, h.c3, h.c4, h.d0, h.d1⟩
theorem RB.thaw {b : Nat} {w : World} (h : RB b w) : w.frozen? ⟨b, 0, none⟩ = false ∧ w.frozen? ⟨b, 1, none⟩ = false ∧ w.frozen? ⟨b, 2, none⟩ = false ∧ w.frozen? ⟨b, 3, none⟩ = false ∧ w.frozen? ⟨b, 4, none⟩ = false ∧ w.frozen? ⟨b + 1, 0, none⟩ = false ∧ w.frozen? ⟨b + 1, 1, none⟩ = false :=
  ⟨h.fc 0, h.fc 1, h.fc 2, h.fc 3, h.fc 4, h.fd 0, h.fd 1⟩
theorem below_res {w w1 : World} {b : Nat} {v0 v1 v2 v3 v4 u0 u1 : Value} (h : Below w.heap.size w w1) (hb : w.heap.size ≤ b) :
    Below w.heap.size w (((((((w1.setCell ⟨b, 0, none⟩ v0).setCell ⟨b, 1, none⟩ v1).setCell ⟨b, 2, none⟩ v2).setCell ⟨b, 3, none⟩ v3).setCell ⟨b, 4, none⟩ v4).setCell ⟨b + 1, 0, none⟩ u0).setCell ⟨b + 1, 1, none⟩ u1) :=
  ((((((h.setCell hb _).setCell hb _).setCell hb _).setCell hb _).setCell hb _).setCell (by show _ ≤ b + 1; omega) _).setCell (by show _ ≤ b + 1; omega) _

theorem string_any (B b : Nat) (l : List UInt8) (w : World) (h : Lib.IsBuilderF 77 5 B b (Lib.byteCells l) w) (hBw : B ≤ w.heap.size) :
    Calls Tryz.prog 31 #[.pointer (some ⟨b, 0, none⟩)] w fun e w' => e = .returned (.string ⟨l.toArray⟩) ∧ Below B w w' := by
  refine (Any.Builder_String_any_k Tryz.lays169 Tryz.lays169X B b l w h hBw).mono ?_
  rintro e w' ⟨rfl, _, hb, _⟩
  exact ⟨rfl, hb⟩

def ftF (l : List UInt8) : FR :=
  if (1 + (textL (l.length - 1) false [] 0 (l.drop 1)).1 = l.length ∨ l.getD (1 + (textL (l.length - 1) false [] 0 (l.drop 1)).1) 0 ≠ 34) then ⟨0, [], 0, 0, 0, 2, 1 + (textL (l.length - 1) false [] 0 (l.drop 1)).1⟩
  else ⟨3, (textL (l.length - 1) false [] 0 (l.drop 1)).2, 0, 0, 1 + (textL (l.length - 1) false [] 0 (l.drop 1)).1 + 1, 0, 0⟩

theorem textL_le : ∀ (f : Nat) (esc : Bool) (acc : List UInt8) (pos : Nat) (l : List UInt8), (textL f esc acc pos l).1 ≤ pos + l.length
  | 0, esc, acc, pos, l => by simp [textL]
  | f + 1, esc, acc, pos, l => by
    by_cases h : l = []
    · subst h; rw [textL_nil]; simp
    · cases g : tGo esc (Lib.decodeL l).1
      · rw [textL_stop h g]; simp
      · rw [textL_go h g]
        have a := textL_le f (tEsc esc (Lib.decodeL l).1) (acc ++ tAdd esc (Lib.decodeL l).1) (pos + (Lib.decodeL l).2) (l.drop (Lib.decodeL l).2)
        have b := Lib.decodeL_le l h
        rw [List.length_drop] at a
        omega
theorem ext_size (s : ByteArray) (i : Nat) : (s.extract i s.size).size = s.size - i := by
  rw [ext_drop, mk_size', List.length_drop, ← Lib.size_eq]

theorem ftF_eq {l : List UInt8} {p : Nat} {said : List UInt8} (h : textL (l.length - 1) false [] 0 (l.drop 1) = (p, said)) : ftF l = if (1 + p = l.length ∨ l.getD (1 + p) 0 ≠ 34) then ⟨0, [], 0, 0, 0, 2, 1 + p⟩ else ⟨3, said, 0, 0, 1 + p + 1, 0, 0⟩ := by
  unfold ftF; rw [h]
theorem getD_at (s : ByteArray) (k : Nat) (h : k < s.size) : s.data.toList.getD k 0 = s[k] := by
  rw [List.getD_eq_getElem?_getD, toList_at s k h]; rfl
theorem u8_eq (b : UInt8) (n : Nat) (hn : n < 256) : (b = UInt8.ofNat n) ↔ b.toNat = n := by
  constructor
  · intro h; rw [h, UInt8.toNat_ofNat']; omega
  · intro h; apply UInt8.toNat_inj.1; rw [h, UInt8.toNat_ofNat']; omega

set_option maxHeartbeats 1000000 in
theorem firstText_any (s : ByteArray) (w : World) (hs : s.size ≤ 4000) (h1 : 1 ≤ s.size) :
    Calls Tryz.prog 74 #[.string s] w fun e w' => e = frV (ftF s.data.toList) ∧ Below w.heap.size w w' := by
  have hsz := ext_size s 1
  have LT := fun (wx : World) (B b k : Nat) hb hk hB hbk => lead_text (s.extract 1 s.size) B b k wx (by omega) hb hk hB hbk
  have hle := textL_le (s.size - 1) false [] 0 (s.data.toList.drop 1)
  rw [List.length_drop, ← Lib.size_eq] at hle
  obtain ⟨p, said, hq⟩ : ∃ p said, textL (s.size - 1) false [] 0 (s.data.toList.drop 1) = (p, said) := ⟨_, _, rfl⟩
  have EF := ftF_eq (l := s.data.toList) (p := p) (said := said) (by rw [← Lib.size_eq]; exact hq)
  rw [← Lib.size_eq] at EF
  rw [show textL (s.extract 1 s.size).size false [] 0 (s.extract 1 s.size).data.toList = (p, said) by rw [hsz, ext_drop, mk_list', hq]] at LT
  rw [hq] at hle
  simp only at hle LT
  replace LT := hide LT
  have c1 : (1 : Int) ≤ (s.size : Int) := by omega
  have hpI : (p : Int) ≤ 4000 := by omega
  have R0 := hide (RB.new w)
  have hw0 : Hid (Below w.heap.size w ((w.alloc (.cells #[.int .i64 0, .string ⟨#[]⟩, .int .i64 0, .int .i64 0, .int .i64 0] 94)).alloc (.cells #[.int .i64 0, .int .i64 0] 90))) := hide (((Below.refl _ _).alloc (Nat.le_refl _) _).alloc (by simp) _)
  have I0 := fun W : World => (Lib.IsBuilderF.of (Lib.fresh_isBuilder 77 5 W)).alloc (.cells #[.bool false] 4)
  replace I0 := hide I0
  clear hq hsz
  have step : ∀ w1, Below (w.heap.size + 1 + 1) ((((w.alloc (.cells #[.int .i64 0, .string ⟨#[]⟩, .int .i64 0, .int .i64 0, .int .i64 0] 94)).alloc (.cells #[.int .i64 0, .int .i64 0] 90)).alloc (.cells #[.pointer none, .slice none 0 0] 77)).alloc (.cells #[.bool false] 4)) w1 → RB w.heap.size w1 ∧ Below w.heap.size w w1 := by
    intro w1 hb
    have b2 := (((Below.refl (w.heap.size + 1 + 1) ((w.alloc (.cells #[.int .i64 0, .string ⟨#[]⟩, .int .i64 0, .int .i64 0, .int .i64 0] 94)).alloc (.cells #[.int .i64 0, .int .i64 0] 90))).alloc (by simp) (.cells #[.pointer none, .slice none 0 0] 77)).alloc (by simp) (.cells #[.bool false] 4)).trans hb
    exact ⟨(unhide R0).keep b2 (by omega), (unhide hw0).trans (b2.mono (by omega))⟩
  replace step := hide step
  have lead : ∀ Q, (∀ e w', (e = .returned (.int .i64 (p : Int)) ∧ Lib.IsBuilderF 77 5 (w.heap.size + 1 + 1) (w.heap.size + 1 + 1) (Lib.byteCells said) w' ∧ RB w.heap.size w' ∧ Below w.heap.size w w' ∧ w.heap.size + 1 + 1 ≤ w'.heap.size) → Q e w') → Calls Tryz.prog 72 #[.string (s.extract 1 s.size), .func (.func 81) #[] #[.pointer (some ⟨w.heap.size + 1 + 1 + 1, 0, none⟩), .pointer (some ⟨w.heap.size + 1 + 1, 0, none⟩)]] ((((w.alloc (.cells #[.int .i64 0, .string ⟨#[]⟩, .int .i64 0, .int .i64 0, .int .i64 0] 94)).alloc (.cells #[.int .i64 0, .int .i64 0] 90)).alloc (.cells #[.pointer none, .slice none 0 0] 77)).alloc (.cells #[.bool false] 4)) Q := by
    intro Q hQ
    have I := unhide I0 ((w.alloc (.cells #[.int .i64 0, .string ⟨#[]⟩, .int .i64 0, .int .i64 0, .int .i64 0] 94)).alloc (.cells #[.int .i64 0, .int .i64 0] 90))
    have hz : ((w.alloc (.cells #[.int .i64 0, .string ⟨#[]⟩, .int .i64 0, .int .i64 0, .int .i64 0] 94)).alloc (.cells #[.int .i64 0, .int .i64 0] 90)).heap.size = w.heap.size + 1 + 1 := by simp
    rw [hz] at I
    have hk := heap_alloc_new (((w.alloc (.cells #[.int .i64 0, .string ⟨#[]⟩, .int .i64 0, .int .i64 0, .int .i64 0] 94)).alloc (.cells #[.int .i64 0, .int .i64 0] 90)).alloc (.cells #[.pointer none, .slice none 0 0] 77)) (.cells #[.bool false] 4)
    rw [show (((w.alloc (.cells #[.int .i64 0, .string ⟨#[]⟩, .int .i64 0, .int .i64 0, .int .i64 0] 94)).alloc (.cells #[.int .i64 0, .int .i64 0] 90)).alloc (.cells #[.pointer none, .slice none 0 0] 77)).heap.size = w.heap.size + 1 + 1 + 1 by simp] at hk
    refine (unhide LT _ (w.heap.size + 1 + 1) (w.heap.size + 1 + 1) (w.heap.size + 1 + 1 + 1) I hk (Nat.le_refl _) (by omega)).mono ?_
    rintro e w' ⟨rfl, hB, hb⟩
    obtain ⟨r1, r2⟩ := unhide step w' hb
    exact hQ _ _ ⟨rfl, hB, r1, r2, by have := r1.sz; omega⟩
  replace lead := hide lead
  clear LT I0 R0 hw0 step
  by_cases hc : 1 + p = s.size
  · rw [if_pos (.inl hc)] at EF
    have EF' := hide EF
    have hc' : ((1 : Int) + (p : Int) == (s.size : Int)) = true := by simp; omega
    clear EF hc
    go_enter Tryz.func74, Tryz.ntmps74
    go_wp2_with fail
    refine unhide lead _ ?_
    rintro e w1 ⟨rfl, hB, R, hw, hz⟩
    obtain ⟨t0, t1, t2, t3, t4, t5, t6⟩ := R.tell
    obtain ⟨f0, f1, f2, f3, f4, f5, f6⟩ := R.thaw
    have hlt := R.sz
    clear R hB
    go_wp2
    exact bodyPost_ret (v := .tuple #[.agg #[.int .i64 0, .string ⟨#[]⟩, .int .i64 0, .int .i64 0, .int .i64 0], .int .i64 0, .agg #[.int .i64 2, .int .i64 (1 + (p : Int))]]) (by simp [results, Tryz.results74, go_sem, t0, t1, t2, t3, t4, t5, t6]) rfl ⟨by rw [unhide EF']; simp [frV], below_res hw (Nat.le_refl _)⟩
  have hc' : ((1 : Int) + (p : Int) == (s.size : Int)) = false := by simp; omega
  have hlt2 : 1 + p < s.size := by omega
  have hltI : (1 : Int) + (p : Int) < (s.size : Int) := by omega
  have hidx : ∀ W, (Instr.index 9 (.string s) (.int .i64 (1 + (p : Int)))).run Tryz.prog W = .ok (.int .u8 (s[1 + p].toNat : Int)) W := by
    intro W
    have e : ∀ h, s[(1 + (p : Int)).toNat]'h = s[1 + p] := fun h => by congr 1 <;> omega
    rw [run_index_string _ _ _ _ _ Tryz.underlying9, dif_pos ⟨by omega, by omega⟩, e]
  rw [getD_at s (1 + p) hlt2] at EF
  by_cases h34 : s[1 + p].toNat = 34
  · rw [if_neg (by rintro (a | a); · exact hc a
                   · exact a ((u8_eq _ 34 (by omega)).2 h34))] at EF
    have EF' := hide EF
    have h34' : ((s[1 + p].toNat : Int) != 34) = false := by simp; omega
    clear EF hc h34
    go_enter Tryz.func74, Tryz.ntmps74
    go_wp2_with fail
    refine unhide lead _ ?_
    rintro e w1 ⟨rfl, hB, R, hw, hz⟩
    have HR := hide R
    have HB := hide (string_any (w.heap.size + 1 + 1) (w.heap.size + 1 + 1) said w1 hB hz)
    have HW := hide hw
    clear hB R hw
    go_wp2_with fail
    refine (unhide HB).mono ?_
    rintro e w2 ⟨rfl, hb⟩
    have R := (unhide HR).keep hb (by omega)
    have hw := (unhide HW).trans (hb.mono (by omega))
    clear HR HB HW hb
    obtain ⟨t0, t1, t2, t3, t4, t5, t6⟩ := R.tell
    obtain ⟨f0, f1, f2, f3, f4, f5, f6⟩ := R.thaw
    have hlt := R.sz
    clear R
    go_wp2
    exact bodyPost_ret (v := .tuple #[.agg #[.int .i64 3, .string ⟨said.toArray⟩, .int .i64 0, .int .i64 0, .int .i64 0], .int .i64 (1 + (p : Int) + 1), .agg #[.int .i64 0, .int .i64 0]]) (by simp [results, Tryz.results74, go_sem, t0, t1, t2, t3, t4, t5, t6]) rfl ⟨by rw [unhide EF']; simp [frV], below_res hw (Nat.le_refl _)⟩
  · rw [if_pos (.inr (fun a => h34 ((u8_eq _ 34 (by omega)).1 a)))] at EF
    have EF' := hide EF
    have h34' : ((s[1 + p].toNat : Int) != 34) = true := by simp; omega
    clear EF hc h34
    go_enter Tryz.func74, Tryz.ntmps74
    go_wp2_with fail
    refine unhide lead _ ?_
    rintro e w1 ⟨rfl, hB, R, hw, hz⟩
    obtain ⟨t0, t1, t2, t3, t4, t5, t6⟩ := R.tell
    obtain ⟨f0, f1, f2, f3, f4, f5, f6⟩ := R.thaw
    have hlt := R.sz
    clear R hB
    go_wp2
    exact bodyPost_ret (v := .tuple #[.agg #[.int .i64 0, .string ⟨#[]⟩, .int .i64 0, .int .i64 0, .int .i64 0], .int .i64 0, .agg #[.int .i64 2, .int .i64 (1 + (p : Int))]]) (by simp [results, Tryz.results74, go_sem, t0, t1, t2, t3, t4, t5, t6]) rfl ⟨by rw [unhide EF']; simp [frV], below_res hw (Nat.le_refl _)⟩
end Go.Proofs.YtdgojpjmhalilaaGreatDoor

/- Walks: strings.Clone, firstSign. -/
namespace Go.Proofs.YtdgojpjmhalilaaGreatDoor
open Go.RowKit

set_option maxHeartbeats 400000 in
theorem clone_any (s : ByteArray) (w : World) (hs : s.size ≤ 4000) :
    Calls Tryz.prog 78 #[.string s] w fun e w' => e = .returned (.string s) ∧ Below w.heap.size w w' := by
  have C := hide (fun wx => Any.stringslite_Clone Tryz.lays316 s wx (by omega))
  go_enter Tryz.func78, Tryz.ntmps78
  go_wp2_with (go_at_call 90; refine (unhide C _).mono ?_; rintro e w1 ⟨rfl, hb⟩)
  go_ret
  exact ⟨rfl, hb⟩

/-- the signs, the longer ones ahead -/
def signsL : List (List UInt8) := [[46, 46], [60, 61], [62, 61], [33, 61], [60], [62], [61], [43], [45], [42], [47], [40], [41], [91], [93], [44]]
def sigV : Array Value := (signsL.map fun l => Value.string ⟨l.toArray⟩).toArray
/-- the sign with which l begins -/
def signF : List (List UInt8) → List UInt8 → FR
  | [], _ => ⟨0, [], 0, 0, 0, 2, 0⟩
  | g :: gs, l => if Lib.hasPrefix l g = true then ⟨4, g, 0, 0, g.length, 0, 0⟩ else signF gs l
theorem signF_yes {g l : List UInt8} {gs : List (List UInt8)} (h : Lib.hasPrefix l g = true) : signF (g :: gs) l = ⟨4, g, 0, 0, g.length, 0, 0⟩ := by rw [signF, if_pos h]
theorem signF_no {g l : List UInt8} {gs : List (List UInt8)} (h : Lib.hasPrefix l g = false) : signF (g :: gs) l = signF gs l := by rw [signF, if_neg (by rw [h]; decide)]
/-- the table of signs lies -/
def SG (w : World) : Prop := ∀ i g, signsL[i]? = some g → w.cell? ⟨1, i, none⟩ = some (.string ⟨g.toArray⟩)
theorem SG.lt {w : World} (h : SG w) : 1 < w.heap.size := World.block_lt_of_cell? w _ (h 0 _ rfl)
theorem SG.on {w W : World} (h : SG w) (hb : Below w.heap.size w W) : SG W := fun i g hg => (hb.cell (p := ⟨1, i, none⟩) h.lt).trans (h i g hg)

abbrev sigLit : Value := .agg #[.string ⟨#[46, 46]⟩, .string ⟨#[60, 61]⟩, .string ⟨#[62, 61]⟩, .string ⟨#[33, 61]⟩, .string ⟨#[60]⟩, .string ⟨#[62]⟩, .string ⟨#[61]⟩, .string ⟨#[43]⟩, .string ⟨#[45]⟩, .string ⟨#[42]⟩, .string ⟨#[47]⟩, .string ⟨#[40]⟩, .string ⟨#[41]⟩, .string ⟨#[91]⟩, .string ⟨#[93]⟩, .string ⟨#[44]⟩]
theorem sig_at (W : World) (g : List UInt8) : (k : Nat) → (hg : signsL[k]? = some g) → (Instr.index 142 sigLit (.int .i64 (k : Int))).run Tryz.prog W = .ok (.string ⟨g.toArray⟩) W
  | 0, hg => by have e := Option.some.inj hg; subst e; simp [Instr.index, sigLit, go_sem]
  | 1, hg => by have e := Option.some.inj hg; subst e; simp [Instr.index, sigLit, go_sem]
  | 2, hg => by have e := Option.some.inj hg; subst e; simp [Instr.index, sigLit, go_sem]
  | 3, hg => by have e := Option.some.inj hg; subst e; simp [Instr.index, sigLit, go_sem]
  | 4, hg => by have e := Option.some.inj hg; subst e; simp [Instr.index, sigLit, go_sem]
  | 5, hg => by have e := Option.some.inj hg; subst e; simp [Instr.index, sigLit, go_sem]
  | 6, hg => by have e := Option.some.inj hg; subst e; simp [Instr.index, sigLit, go_sem]
  | 7, hg => by have e := Option.some.inj hg; subst e; simp [Instr.index, sigLit, go_sem]
  | 8, hg => by have e := Option.some.inj hg; subst e; simp [Instr.index, sigLit, go_sem]
  | 9, hg => by have e := Option.some.inj hg; subst e; simp [Instr.index, sigLit, go_sem]
  | 10, hg => by have e := Option.some.inj hg; subst e; simp [Instr.index, sigLit, go_sem]
  | 11, hg => by have e := Option.some.inj hg; subst e; simp [Instr.index, sigLit, go_sem]
  | 12, hg => by have e := Option.some.inj hg; subst e; simp [Instr.index, sigLit, go_sem]
  | 13, hg => by have e := Option.some.inj hg; subst e; simp [Instr.index, sigLit, go_sem]
  | 14, hg => by have e := Option.some.inj hg; subst e; simp [Instr.index, sigLit, go_sem]
  | 15, hg => by have e := Option.some.inj hg; subst e; simp [Instr.index, sigLit, go_sem]
  | _ + 16, hg => by simp [signsL] at hg

theorem sig_drop {k : Nat} (h : k < 16) : ∃ g, signsL[k]? = some g ∧ signsL.drop k = g :: signsL.drop (k + 1) ∧ g.length ≤ 2 := by
  have hl : k < signsL.length := h
  refine ⟨signsL[k], List.getElem?_eq_getElem hl, List.drop_eq_getElem_cons hl, ?_⟩
  have all : ∀ g ∈ signsL, g.length ≤ 2 := by decide
  exact all _ (List.getElem_mem hl)

set_option maxHeartbeats 2000000 in
theorem firstSign_any (s : ByteArray) (w : World) (h : SG w) :
    Calls Tryz.prog 79 #[.string s] w fun e w' => e = frV (signF signsL s.data.toList) ∧ Below w.heap.size w w' := by
  have hlt := h.lt
  have g0 := h 0 _ rfl
  have g1 := h 1 _ rfl
  have g2 := h 2 _ rfl
  have g3 := h 3 _ rfl
  have g4 := h 4 _ rfl
  have g5 := h 5 _ rfl
  have g6 := h 6 _ rfl
  have g7 := h 7 _ rfl
  have g8 := h 8 _ rfl
  have g9 := h 9 _ rfl
  have g10 := h 10 _ rfl
  have g11 := h 11 _ rfl
  have g12 := h 12 _ rfl
  have g13 := h 13 _ rfl
  have g14 := h 14 _ rfl
  have g15 := h 15 _ rfl
  have h1 : 1 < w.heap.size + 1 := by omega
  have SA := hide sig_at
  clear h
  go_enter Tryz.func79, Tryz.ntmps79
  go_wp2
  clear g0 g1 g2 g3 g4 g5 g6 g7 g8 g9 g10 g11 g12 g13 g14 g15
  go_loop [8] (fun i => ∃ k : Nat, k ≤ 16 ∧ i = .int .i64 (k : Int) ∧ Hid (signF (signsL.drop k) s.data.toList = signF signsL s.data.toList)) (fun i => 16 - (intOf i).toNat)
  case atStart => exact ⟨0, by omega, rfl, hide rfl⟩
  case round =>
    obtain ⟨k, hk, rfl, H⟩ := hrel
    by_cases hk2 : k < 16
    · obtain ⟨g, hg, hd, hg2⟩ := sig_drop hk2
      have hkI : (k : Int) < 16 := by omega
      have hx := fun W => unhide SA W g k hg
      have C := hide (fun W => hasPrefix_any s ⟨g.toArray⟩ W)
      rw [mk_list' g] at C
      rw [hd] at H
      have hz := mk_size' g
      obtain ⟨Gb, hGb⟩ : ∃ Gb : ByteArray, Gb = ⟨g.toArray⟩ := ⟨_, rfl⟩
      rw [← hGb] at hx C hz
      have HGb := hide hGb
      clear hGb hd hg
      cases hp : Lib.hasPrefix s.data.toList g
      · have H2 := hide ((signF_no hp).symm.trans (unhide H))
        rw [hp] at C
        clear hp H
        go_wp2_with (go_at_call 27; refine (unhide C _).mono ?_; rintro e w1 ⟨rfl, rfl⟩)
        go_round
        case rel => exact ⟨k + 1, by omega, by go_num, H2⟩
        case measure => simp [intOf]; omega
      · have H2 := hide ((unhide H).symm.trans (signF_yes hp))
        rw [hp] at C
        clear hp H
        go_wp2_with (go_at_call 27; refine (unhide C _).mono ?_; rintro e w1 ⟨rfl, rfl⟩)
        exact bodyPost_ret (v := .tuple #[.agg #[.int .i64 4, .string Gb, .int .i64 0, .int .i64 0, .int .i64 0], .int .i64 (g.length : Int), .agg #[.int .i64 0, .int .i64 0]]) (by simp [results, Tryz.results79, go_sem]) rfl ⟨by rw [unhide H2, unhide HGb]; rfl, ((Below.refl _ _).alloc (Nat.le_refl _) _).alloc (by simp) _⟩
    · obtain rfl : k = 16 := by omega
      have H2 : Hid (signF signsL s.data.toList = ⟨0, [], 0, 0, 0, 2, 0⟩) := hide (unhide H).symm
      clear H
      go_wp2
      exact bodyPost_ret (v := .tuple #[.agg #[.int .i64 0, .string ⟨#[]⟩, .int .i64 0, .int .i64 0, .int .i64 0], .int .i64 0, .agg #[.int .i64 2, .int .i64 0]]) (by simp [results, Tryz.results79, go_sem]) rfl ⟨by rw [unhide H2]; rfl, ((Below.refl _ _).alloc (Nat.le_refl _) _).alloc (by simp) _⟩
end Go.Proofs.YtdgojpjmhalilaaGreatDoor

/- Walks: firstNumber. -/
namespace Go.Proofs.YtdgojpjmhalilaaGreatDoor
open Go.RowKit

/-- how far a number goes whose digits ahead of the point are n -/
def numEnd (l : List UInt8) (n : Nat) : Nat :=
  if Lib.hasPrefix (l.drop n) [46] = true ∧ 0 < leadL gDig (Lib.trimPrefix (l.drop n) [46]).length 0 (Lib.trimPrefix (l.drop n) [46]) then n + (1 + leadL gDig (Lib.trimPrefix (l.drop n) [46]).length 0 (Lib.trimPrefix (l.drop n) [46])) else n
def fnF (l : List UInt8) (n : Nat) : FR :=
  if (parseF (l.take (numEnd l n))).2.2 = 0 then ⟨2, l.take (numEnd l n), (parseF (l.take (numEnd l n))).1, (parseF (l.take (numEnd l n))).2.1, numEnd l n, 0, 0⟩ else ⟨0, [], 0, 0, 0, (parseF (l.take (numEnd l n))).2.2, 0⟩
theorem leadL_le (G : Nat → Nat → Bool) : ∀ (f pos : Nat) (l : List UInt8), leadL G f pos l ≤ pos + l.length
  | 0, pos, l => by simp [leadL]
  | f + 1, pos, l => by
    by_cases h : l = []
    · subst h; rw [leadL_nil]; simp
    · cases g : G pos (Lib.decodeL l).1
      · rw [leadL_stop h g]; omega
      · rw [leadL_go h g]
        have a := leadL_le G f (pos + (Lib.decodeL l).2) (l.drop (Lib.decodeL l).2)
        have b := Lib.decodeL_le l h
        rw [List.length_drop] at a
        omega
theorem numEnd_le (l : List UInt8) (n : Nat) (h : n ≤ l.length) : numEnd l n ≤ l.length := by
  unfold numEnd
  split
  · rename_i g
    have a := leadL_le gDig (Lib.trimPrefix (l.drop n) [46]).length 0 (Lib.trimPrefix (l.drop n) [46])
    have b : (Lib.trimPrefix (l.drop n) [46]).length = l.length - n - 1 := by
      unfold Lib.trimPrefix; rw [if_pos g.1]; simp; omega
    have c : 1 ≤ l.length - n := by
      cases q : l.drop n with
      | nil => rw [q] at g; simp [Lib.hasPrefix] at g
      | cons y ys => have := congrArg List.length q; simp at this; omega
    omega
  · exact h

/-- the rest: the text is cut off, parsed, and the token laid -/
theorem num_tail (s : ByteArray) (n : Nat) (h : n ≤ s.size) : s.extract 0 n = ⟨(s.data.toList.take n).toArray⟩ ∧ (s.extract 0 n).size = n := by
  refine ⟨ext_take s n, ?_⟩
  rw [ext_take, mk_size', List.length_take, ← Lib.size_eq]
  omega

theorem three_below {w w1 : World} (hb : Below ((w.alloc (.cells #[.int .i64 0, .string ⟨#[]⟩, .int .i64 0, .int .i64 0, .int .i64 0] 94)).alloc (.cells #[.int .i64 0, .int .i64 0] 90)).heap.size ((w.alloc (.cells #[.int .i64 0, .string ⟨#[]⟩, .int .i64 0, .int .i64 0, .int .i64 0] 94)).alloc (.cells #[.int .i64 0, .int .i64 0] 90)) w1) : RB w.heap.size w1 ∧ Below w.heap.size w w1 :=
  ⟨(RB.new w).keep hb (by simp), (((Below.refl _ _).alloc (Nat.le_refl _) _).alloc (by simp) _).trans (hb.mono (by simp; omega))⟩

theorem two_cells' {w w3 : World} {c x : Int} (hb : Below (w.alloc (.cells #[.int .i64 c, .int .i64 x] 23)).drew.heap.size (w.alloc (.cells #[.int .i64 c, .int .i64 x] 23)).drew w3) :
    w3.cell? ⟨w.heap.size, 0, none⟩ = some (.int .i64 c) ∧ w3.cell? ⟨w.heap.size, 1, none⟩ = some (.int .i64 x) ∧ w.heap.size + 1 ≤ w3.heap.size ∧ Below w.heap.size w w3 := by
  have hb : Below (w.alloc (.cells #[.int .i64 c, .int .i64 x] 23)).heap.size (w.alloc (.cells #[.int .i64 c, .int .i64 x] 23)) w3 := ((Below.refl _ (w.alloc (.cells #[.int .i64 c, .int .i64 x] 23))).drew).trans hb
  have hc := (bcell hb).1
  have s := hb.size
  simp at s
  have hw : Below w.heap.size w (w.alloc (.cells #[.int .i64 c, .int .i64 x] 23)) := (Below.refl w.heap.size w).alloc (Nat.le_refl _) _
  refine ⟨?_, ?_, by omega, hw.trans (hb.mono (by simp))⟩
  all_goals (rw [hc _ _ (by simp)]; simp [go_sem])

set_option maxHeartbeats 2000000 in
theorem firstNumber_any (s : ByteArray) (n : Nat) (w : World) (hs : s.size ≤ 4000) (hn : n ≤ s.size) :
    Calls Tryz.prog 76 #[.string s, .int .i64 (n : Int)] w fun e w' => e = frV (fnF s.data.toList n) ∧ Below w.heap.size w w' := by
  obtain ⟨U, hU⟩ : ∃ U : ByteArray, U = ⟨(Lib.trimPrefix (s.data.toList.drop n) [46]).toArray⟩ := ⟨_, rfl⟩
  have hUl : U.data.toList = Lib.trimPrefix (s.data.toList.drop n) [46] := by rw [hU]
  have hUs : U.size ≤ s.size := by
    rw [Lib.size_eq, hUl]
    have := trim_le (s.data.toList.drop n) [46]
    rw [List.length_drop, ← Lib.size_eq] at this
    omega
  have CP := fun wx => cutPrefix_any (s.extract n s.size) ⟨#[46]⟩ wx
  rw [show (s.extract n s.size).data.toList = s.data.toList.drop n by rw [ext_drop], show (⟨#[46]⟩ : ByteArray).data.toList = [46] from rfl, ← hU] at CP
  have LD := fun wx => leadOfDigits_any U wx (by omega)
  rw [hUl, show U.size = (Lib.trimPrefix (s.data.toList.drop n) [46]).length by rw [Lib.size_eq, hUl]] at LD
  have hle := numEnd_le s.data.toList n (by rw [← Lib.size_eq]; exact hn)
  rw [← Lib.size_eq] at hle
  have hll := leadL_le gDig (Lib.trimPrefix (s.data.toList.drop n) [46]).length 0 (Lib.trimPrefix (s.data.toList.drop n) [46])
  obtain ⟨p, hp⟩ : ∃ p, leadL gDig (Lib.trimPrefix (s.data.toList.drop n) [46]).length 0 (Lib.trimPrefix (s.data.toList.drop n) [46]) = p := ⟨_, rfl⟩
  obtain ⟨q, hq⟩ : ∃ q, Lib.hasPrefix (s.data.toList.drop n) [46] = q := ⟨_, rfl⟩
  have hE : numEnd s.data.toList n = if q = true ∧ 0 < p then n + (1 + p) else n := by unfold numEnd; rw [hp, hq]
  have hF : fnF s.data.toList n = if (parseF (s.data.toList.take (numEnd s.data.toList n))).2.2 = 0 then ⟨2, s.data.toList.take (numEnd s.data.toList n), (parseF (s.data.toList.take (numEnd s.data.toList n))).1, (parseF (s.data.toList.take (numEnd s.data.toList n))).2.1, numEnd s.data.toList n, 0, 0⟩ else ⟨0, [], 0, 0, 0, (parseF (s.data.toList.take (numEnd s.data.toList n))).2.2, 0⟩ := rfl
  rw [hp] at LD hll
  rw [show (Lib.trimPrefix (s.data.toList.drop n) [46]).length = U.size by rw [Lib.size_eq, hUl]] at hll
  rw [hq] at CP
  clear hp hq
  generalize numEnd s.data.toList n = m at *
  obtain ⟨hX, hXs⟩ := num_tail s m hle
  obtain ⟨X, hXX⟩ : ∃ X : ByteArray, X = s.extract 0 m := ⟨_, rfl⟩
  have PA := fun wx => parse_any X wx (by rw [hXX, hXs]; omega)
  rw [show X.data.toList = s.data.toList.take m by rw [hXX, hX]] at PA
  have CL := hide (fun wx => clone_any X wx (by rw [hXX, hXs]; omega))
  have HX : Hid (X = ⟨(s.data.toList.take m).toArray⟩) := hide (hXX.trans hX)
  have HXX := hide hXX.symm
  generalize parseF (s.data.toList.take m) = P at *
  obtain ⟨pc, px, pr⟩ := P
  simp only [pRet] at PA hF
  replace PA := hide PA
  replace CP := hide CP
  replace LD := hide LD
  have c1 : (0 : Int) ≤ (n : Int) := by omega
  have c2 : (n : Int) ≤ (s.size : Int) := by omega
  have c3 : (m : Int) ≤ (s.size : Int) := by omega
  have c4 : (0 : Int) ≤ (m : Int) := by omega
  have hpI : (p : Int) ≤ 4000 := by omega
  have hsI : (s.size : Int) ≤ 4000 := by omega
  clear hX hXX hXs hU hUl hle hll
  cases q
  · rw [if_neg (by simp)] at hE
    subst hE
    go_enter Tryz.func76, Tryz.ntmps76
    go_wp2_with fail
    refine (unhide CP _).mono ?_
    rintro e w1 ⟨rfl, rfl⟩
    have R := hide (RB.new w)
    have HW := hide (((Below.refl w.heap.size w).alloc (Nat.le_refl _) (.cells #[.int .i64 0, .string ⟨#[]⟩, .int .i64 0, .int .i64 0, .int .i64 0] 94)).alloc (by simp) (.cells #[.int .i64 0, .int .i64 0] 90))
    go_wp2_with fail
    rw [unhide HXX]
    refine (unhide PA _).mono ?_
    rintro e w3 ⟨rfl, hb⟩
    have R3 := hide ((unhide R).keep hb (unhide R).sz)
    have W3 := hide ((unhide HW).trans (hb.mono (unhide HW).size))
    clear hb R HW
    by_cases hr : pr = 0
    · subst hr
      have EF := hide (hF.trans (if_pos rfl))
      clear hF
      have lb := (unhide R3).sz
      have lb2 : w.heap.size < w3.heap.size := by omega
      go_wp2_with fail
      go_region_with (go_at_call 78; rw [unhide HXX]; refine (unhide CL _).mono ?_; rintro e w4 ⟨rfl, hb⟩; obtain ⟨z0, z1, z2, z3⟩ := two_cells' hb; obtain ⟨t0, t1, t2, t3, t4, t5, t6⟩ := ((unhide R3).keep z3 lb).tell; obtain ⟨f0, f1, f2, f3, f4, f5, f6⟩ := ((unhide R3).keep z3 lb).thaw)
      all_goals
        go_wp2
        exact bodyPost_ret (v := .tuple #[.agg #[.int .i64 2, .string X, .int .i64 pc, .int .i64 px, .int .i64 0], .int .i64 (m : Int), .agg #[.int .i64 0, .int .i64 0]]) (by simp [results, Tryz.results76, go_sem, t0, t1, t2, t3, t4, t5, t6]) rfl ⟨by rw [unhide EF, unhide HX]; simp [frV], below_res ((unhide W3).trans (z3.mono (by omega))) (Nat.le_refl _)⟩
    · have hr' : (pr != 0) = true := by simpa using hr
      have EF := hide (hF.trans (if_neg hr))
      clear hF hr
      have Rx := (unhide R3).keep (Below.refl w3.heap.size w3) (unhide R3).sz
      obtain ⟨t0, t1, t2, t3, t4, t5, t6⟩ := Rx.tell
      obtain ⟨f0, f1, f2, f3, f4, f5, f6⟩ := Rx.thaw
      have lb := Rx.sz
      have lb2 : w.heap.size < w3.heap.size := by omega
      clear Rx
      go_wp2
      exact bodyPost_ret (v := .tuple #[.agg #[.int .i64 0, .string ⟨#[]⟩, .int .i64 0, .int .i64 0, .int .i64 0], .int .i64 0, .agg #[.int .i64 pr, .int .i64 0]]) (by simp [results, Tryz.results76, go_sem, t0, t1, t2, t3, t4, t5, t6, lb, lb2]) rfl ⟨by rw [unhide EF]; rfl, (below_res (unhide W3) (Nat.le_refl _)).alloc (by simp [World.setCell]; omega) _⟩
  · by_cases hp0 : 0 < p
    · rw [if_pos ⟨rfl, hp0⟩] at hE
      have hp0' : (0 : Int) < (p : Int) := by omega
      subst hE
      clear hp0
      go_enter Tryz.func76, Tryz.ntmps76
      go_wp2_with fail
      refine (unhide CP _).mono ?_
      rintro e w1 ⟨rfl, rfl⟩
      go_wp2_with fail
      refine (unhide LD _).mono ?_
      rintro e w2 ⟨rfl, hb⟩
      obtain ⟨r1, r2⟩ := three_below hb
      have R := hide r1
      have HW := hide r2
      clear r1 r2 hb
      go_wp2_with fail
      rw [unhide HXX]
      refine (unhide PA _).mono ?_
      rintro e w3 ⟨rfl, hb⟩
      have R3 := hide ((unhide R).keep hb (unhide R).sz)
      have W3 := hide ((unhide HW).trans (hb.mono (unhide HW).size))
      clear hb R HW
      by_cases hr : pr = 0
      · subst hr
        have EF := hide (hF.trans (if_pos rfl))
        clear hF
        have lb := (unhide R3).sz
        have lb2 : w.heap.size < w3.heap.size := by omega
        go_wp2_with fail
        go_region_with (go_at_call 78; rw [unhide HXX]; refine (unhide CL _).mono ?_; rintro e w4 ⟨rfl, hb⟩; obtain ⟨z0, z1, z2, z3⟩ := two_cells' hb; obtain ⟨t0, t1, t2, t3, t4, t5, t6⟩ := ((unhide R3).keep z3 lb).tell; obtain ⟨f0, f1, f2, f3, f4, f5, f6⟩ := ((unhide R3).keep z3 lb).thaw)
        all_goals
          go_wp2
          exact bodyPost_ret (v := .tuple #[.agg #[.int .i64 2, .string X, .int .i64 pc, .int .i64 px, .int .i64 0], .int .i64 ((n : Int) + (1 + (p : Int))), .agg #[.int .i64 0, .int .i64 0]]) (by simp [results, Tryz.results76, go_sem, t0, t1, t2, t3, t4, t5, t6]) rfl ⟨by rw [unhide EF, unhide HX]; simp [frV], below_res ((unhide W3).trans (z3.mono (by omega))) (Nat.le_refl _)⟩
      · have hr' : (pr != 0) = true := by simpa using hr
        have EF := hide (hF.trans (if_neg hr))
        clear hF hr
        have Rx := (unhide R3).keep (Below.refl w3.heap.size w3) (unhide R3).sz
        obtain ⟨t0, t1, t2, t3, t4, t5, t6⟩ := Rx.tell
        obtain ⟨f0, f1, f2, f3, f4, f5, f6⟩ := Rx.thaw
        have lb := Rx.sz
        have lb2 : w.heap.size < w3.heap.size := by omega
        clear Rx
        go_wp2
        exact bodyPost_ret (v := .tuple #[.agg #[.int .i64 0, .string ⟨#[]⟩, .int .i64 0, .int .i64 0, .int .i64 0], .int .i64 0, .agg #[.int .i64 pr, .int .i64 0]]) (by simp [results, Tryz.results76, go_sem, t0, t1, t2, t3, t4, t5, t6, lb, lb2]) rfl ⟨by rw [unhide EF]; rfl, (below_res (unhide W3) (Nat.le_refl _)).alloc (by simp [World.setCell]; omega) _⟩
    · rw [if_neg (fun h => hp0 h.2)] at hE
      subst hE
      have hp0' : ¬ (0 : Int) < (p : Int) := by omega
      clear hp0
      go_enter Tryz.func76, Tryz.ntmps76
      go_wp2_with fail
      refine (unhide CP _).mono ?_
      rintro e w1 ⟨rfl, rfl⟩
      go_wp2_with fail
      refine (unhide LD _).mono ?_
      rintro e w2 ⟨rfl, hb⟩
      obtain ⟨r1, r2⟩ := three_below hb
      have R := hide r1
      have HW := hide r2
      clear r1 r2 hb
      go_wp2_with fail
      rw [unhide HXX]
      refine (unhide PA _).mono ?_
      rintro e w3 ⟨rfl, hb⟩
      have R3 := hide ((unhide R).keep hb (unhide R).sz)
      have W3 := hide ((unhide HW).trans (hb.mono (unhide HW).size))
      clear hb R HW
      by_cases hr : pr = 0
      · subst hr
        have EF := hide (hF.trans (if_pos rfl))
        clear hF
        have lb := (unhide R3).sz
        have lb2 : w.heap.size < w3.heap.size := by omega
        go_wp2_with fail
        go_region_with (go_at_call 78; rw [unhide HXX]; refine (unhide CL _).mono ?_; rintro e w4 ⟨rfl, hb⟩; obtain ⟨z0, z1, z2, z3⟩ := two_cells' hb; obtain ⟨t0, t1, t2, t3, t4, t5, t6⟩ := ((unhide R3).keep z3 lb).tell; obtain ⟨f0, f1, f2, f3, f4, f5, f6⟩ := ((unhide R3).keep z3 lb).thaw)
        all_goals
          go_wp2
          exact bodyPost_ret (v := .tuple #[.agg #[.int .i64 2, .string X, .int .i64 pc, .int .i64 px, .int .i64 0], .int .i64 (m : Int), .agg #[.int .i64 0, .int .i64 0]]) (by simp [results, Tryz.results76, go_sem, t0, t1, t2, t3, t4, t5, t6]) rfl ⟨by rw [unhide EF, unhide HX]; simp [frV], below_res ((unhide W3).trans (z3.mono (by omega))) (Nat.le_refl _)⟩
      · have hr' : (pr != 0) = true := by simpa using hr
        have EF := hide (hF.trans (if_neg hr))
        clear hF hr
        have Rx := (unhide R3).keep (Below.refl w3.heap.size w3) (unhide R3).sz
        obtain ⟨t0, t1, t2, t3, t4, t5, t6⟩ := Rx.tell
        obtain ⟨f0, f1, f2, f3, f4, f5, f6⟩ := Rx.thaw
        have lb := Rx.sz
        have lb2 : w.heap.size < w3.heap.size := by omega
        clear Rx
        go_wp2
        exact bodyPost_ret (v := .tuple #[.agg #[.int .i64 0, .string ⟨#[]⟩, .int .i64 0, .int .i64 0, .int .i64 0], .int .i64 0, .agg #[.int .i64 pr, .int .i64 0]]) (by simp [results, Tryz.results76, go_sem, t0, t1, t2, t3, t4, t5, t6, lb, lb2]) rfl ⟨by rw [unhide EF]; rfl, (below_res (unhide W3) (Nat.le_refl _)).alloc (by simp [World.setCell]; omega) _⟩
end Go.Proofs.YtdgojpjmhalilaaGreatDoor

/- Walks: Tokens. -/
import Derived.Test.YtcidbhegnnedoaaGreatDoorG13
import Derived.OwnWalk
import Derived.Lib.ItoaMem
import Derived.Test.YtcidbhegnnedoaaGreatDoorG08
namespace Go.Proofs.YtcidbhegnnedoaaGreatDoor
open Go.RowKit

theorem sign_bd : ∀ (gs : List (List UInt8)) (l : List UInt8), (∀ g ∈ gs, 1 ≤ g.length) → ((signF gs l).e = 0 → 1 ≤ (signF gs l).n ∧ (signF gs l).n ≤ l.length) ∧ (signF gs l).a = 0
  | [], l, _ => by simp [signF]
  | g :: gs, l, h => by
    cases hp : Lib.hasPrefix l g
    · rw [signF_no hp]; exact sign_bd gs l (fun x hx => h x (List.mem_cons_of_mem _ hx))
    · rw [signF_yes hp]
      refine ⟨fun _ => ⟨h g (List.mem_cons_self ..), ?_⟩, rfl⟩
      have : g <+: l := by unfold Lib.hasPrefix at hp; exact List.isPrefixOf_iff_prefix.1 hp
      exact this.length_le
theorem first_bd (l : List UInt8) (h : l ≠ []) : ((firstF l).e = 0 → 1 ≤ (firstF l).n ∧ (firstF l).n ≤ l.length) ∧ (firstF l).a ≤ l.length := by
  have hl : 1 ≤ l.length := by cases l with
    | nil => exact absurd rfl h
    | cons => simp
  unfold firstF
  split
  · have hq := ftF_eq (l := l) (p := (textL (l.length - 1) false [] 0 (l.drop 1)).1) (said := (textL (l.length - 1) false [] 0 (l.drop 1)).2) rfl
    have ht := textL_le (l.length - 1) false [] 0 (l.drop 1)
    rw [List.length_drop] at ht
    rw [hq]
    split
    · exact ⟨fun e => absurd e (by decide : ¬ (2 : Int) = 0), by show 1 + _ ≤ _; omega⟩
    · rename_i hc
      have hc1 : ¬ 1 + (textL (l.length - 1) false [] 0 (l.drop 1)).1 = l.length := fun q => hc (.inl q)
      exact ⟨fun _ => ⟨by show 1 ≤ 1 + _ + 1; omega, by show 1 + _ + 1 ≤ _; omega⟩, by show 0 ≤ _; omega⟩
  · split
    · have a := leadL_le gDig l.length 0 l
      have b := numEnd_le l (leadL gDig l.length 0 l) (by omega)
      have c : leadL gDig l.length 0 l ≤ numEnd l (leadL gDig l.length 0 l) := by unfold numEnd; split <;> omega
      unfold fnF
      split
      · exact ⟨fun _ => ⟨by simp; omega, by simpa using b⟩, by simp⟩
      · exact ⟨fun e => by simp at e; omega, by simp⟩
    · split
      · have a := leadL_le gWord l.length 0 l
        exact ⟨fun _ => ⟨by simp; omega, by simp; omega⟩, by simp⟩
      · have := sign_bd signsL l (by decide)
        exact ⟨this.1, by rw [this.2]; omega⟩

/-- a token, and where it begins -/
structure Tk where
  k : Int
  t : List UInt8
  c : Int
  x : Int
  a : Nat
def tkC (t : Tk) : List Value := [.int .i64 t.k, .string ⟨t.t.toArray⟩, .int .i64 t.c, .int .i64 t.x, .int .i64 (t.a : Int)]
def tkCs (l : List Tk) : List Value := l.flatMap tkC
/-- the tokens of a text, or what is wrong -/
def toksL : Nat → Nat → List UInt8 → List Tk → List Tk × Int × Nat
  | 0, _, _, acc => (acc, 0, 0)
  | f + 1, at', l, acc => if l = [] then (acc, 0, 0) else if isBl (l.getD 0 0).toNat = true then toksL f (at' + 1) (l.drop 1) acc
    else if (firstF l).e = 0 then toksL f (at' + (firstF l).n) (l.drop (firstF l).n) (acc ++ [⟨(firstF l).k, (firstF l).t, (firstF l).c, (firstF l).x, at'⟩]) else ([], (firstF l).e, at' + (firstF l).a)
theorem toksL_nil (f at' : Nat) (acc : List Tk) : toksL f at' [] acc = (acc, 0, 0) := by cases f <;> simp [toksL]
theorem toksL_bl {f at' : Nat} {l : List UInt8} {acc : List Tk} (h : l ≠ []) (b : isBl (l.getD 0 0).toNat = true) : toksL (f + 1) at' l acc = toksL f (at' + 1) (l.drop 1) acc := by rw [toksL, if_neg h, if_pos b]
theorem toksL_go {f at' : Nat} {l : List UInt8} {acc : List Tk} (h : l ≠ []) (b : isBl (l.getD 0 0).toNat = false) (e : (firstF l).e = 0) : toksL (f + 1) at' l acc = toksL f (at' + (firstF l).n) (l.drop (firstF l).n) (acc ++ [⟨(firstF l).k, (firstF l).t, (firstF l).c, (firstF l).x, at'⟩]) := by rw [toksL, if_neg h, if_neg (by rw [b]; decide), if_pos e]
theorem toksL_no {f at' : Nat} {l : List UInt8} {acc : List Tk} (h : l ≠ []) (b : isBl (l.getD 0 0).toNat = false) (e : ¬ (firstF l).e = 0) : toksL (f + 1) at' l acc = ([], (firstF l).e, at' + (firstF l).a) := by rw [toksL, if_neg h, if_neg (by rw [b]; decide), if_neg e]
def utfL (l : List UInt8) : Nat := leadL (gUtf l) l.length 0 l
/-- what Tokens tells of a text -/
def toksF (l : List UInt8) : List Tk × Int × Nat :=
  if 4000 < l.length then ([], 4, 0) else if utfL l < l.length then ([], 2, utfL l) else toksL l.length 0 l []

/-- tokens in memory, from block B on -/
def TM (B : Nat) (w : World) (sv : Value) (l : List Tk) : Prop := w.ownsRow B 97 5 sv l.length (tkCs l)
theorem TM.below {B : Nat} {w w' : World} {sv : Value} {l : List Tk} (h : TM B w sv l) (hb : Below w.heap.size w w') : TM B w' sv l := by
  obtain ⟨h1, h2⟩ := h
  refine ⟨h1, ?_⟩
  rcases h2 with h2 | ⟨g, cap, cur, hv, hg, hh, r⟩
  · exact .inl h2
  · exact .inr ⟨g, cap, cur, hv, hg, (hb.block g (lt_of_block hh)).trans hh, r⟩

theorem flt_cell {w w3 : World} (hb : Below (w.alloc (.cells #[.int .i64 0, .int .i64 0] 41)).heap.size (w.alloc (.cells #[.int .i64 0, .int .i64 0] 41)) w3) :
    w3.cell? ⟨w.heap.size, 0, none⟩ = some (.int .i64 0) ∧ w3.cell? ⟨w.heap.size, 1, none⟩ = some (.int .i64 0) ∧ w3.frozen? ⟨w.heap.size, 0, none⟩ = false ∧ w3.frozen? ⟨w.heap.size, 1, none⟩ = false ∧ w.heap.size + 1 ≤ w3.heap.size ∧ Below w.heap.size w w3 := by
  obtain ⟨hc, hf⟩ := bcell hb
  have s := hb.size
  simp at s
  have hw : Below w.heap.size w (w.alloc (.cells #[.int .i64 0, .int .i64 0] 41)) := (Below.refl w.heap.size w).alloc (Nat.le_refl _) _
  refine ⟨?_, ?_, ?_, ?_, by omega, hw.trans (hb.mono (by simp))⟩
  all_goals first | (rw [hc _ _ (by simp)]; simp [go_sem]; done) | (rw [hf _ _ (by simp)]; simp [go_sem]; done)

set_option maxHeartbeats 400000 in
theorem tokens_much (s : ByteArray) (w : World) (h : 4000 < s.size) :
    Calls Tryz.prog 31 #[.string s] w fun e w' => e = .returned (.tuple #[.slice none 0 0, .agg #[.int .i64 4, .int .i64 0]]) ∧ Below w.heap.size w w' := by
  go_enter Tryz.func31, Tryz.ntmps31
  go_wp2
  exact bodyPost_ret (v := .tuple #[.slice none 0 0, .agg #[.int .i64 4, .int .i64 0]]) (by simp [results, Tryz.results31, go_sem]) rfl ⟨rfl, (Below.refl _ _).alloc (Nat.le_refl _) _⟩

set_option maxHeartbeats 400000 in
theorem tokens_utf (s : ByteArray) (w : World) (hs : s.size ≤ 4000) (n : Nat) (hn : leadL (gUtf s.data.toList) s.size 0 s.data.toList = n) (h : n < s.size) :
    Calls Tryz.prog 31 #[.string s] w fun e w' => e = .returned (.tuple #[.slice none 0 0, .agg #[.int .i64 2, .int .i64 (n : Int)]]) ∧ Below w.heap.size w w' := by
  have C := hide (fun wx => leadOfUTF8_any s wx hs)
  rw [hn] at C
  have h' : (n : Int) < (s.size : Int) := by omega
  have hs' : ¬ 4000 < (s.size : Int) := by omega
  clear hn
  go_enter Tryz.func31, Tryz.ntmps31
  go_wp2_with fail
  refine (unhide C _).mono ?_
  rintro e w1 ⟨rfl, hb⟩
  obtain ⟨t0, t1, f0, f1, hz, hw⟩ := flt_cell hb
  clear hb
  go_wp2
  exact bodyPost_ret (v := .tuple #[.slice none 0 0, .agg #[.int .i64 2, .int .i64 (n : Int)]]) (by simp [results, Tryz.results31, go_sem, t0, t1]) rfl ⟨rfl, (hw.setCell (by simp) _).setCell (by simp) _⟩

theorem info_tok : (Tryz.prog.info? 97).map (fun i => (i.zero, i.size, i.bytes)) = some (some (.agg #[.int .i64 0, .string ⟨#[]⟩, .int .i64 0, .int .i64 0, .int .i64 0]), 5, 48) := by kernel_rfl
theorem cell_five_new (W : World) (t : TypeId) (a b c d e : Value) : ∀ j u, [a, b, c, d, e][j]? = some u → (W.alloc (.cells #[a, b, c, d, e] t)).cell? ((⟨W.heap.size, 0, none⟩ : Addr).add j) = some u := by
  intro j u h
  rw [Lib.add_plain]
  have hj : j < 5 := by
    rcases Nat.lt_or_ge j 5 with q | q
    · exact q
    · rw [List.getElem?_eq_none (by simpa using q)] at h; cases h
  rcases (by omega : j = 0 ∨ j = 1 ∨ j = 2 ∨ j = 3 ∨ j = 4) with rfl | rfl | rfl | rfl | rfl <;> (simp at h; subst h; simp [go_sem])
theorem tkCs_app (l : List Tk) (t : Tk) : tkCs (l ++ [t]) = tkCs l ++ tkC t := by simp [tkCs]
theorem tkCs_len (l : List Tk) : (tkCs l).length = l.length * 5 := by
  induction l with
  | nil => rfl
  | cons t l ih => simp only [tkCs, List.flatMap_cons, List.length_append, List.length_cons] at ih ⊢; rw [ih]; simp [tkC]; omega
theorem TM.nil (B : Nat) (w : World) : TM B w (.slice none 0 0) [] := World.ownsRow_nil _ _ _ _
theorem TM.own {B : Nat} {w : World} {sv : Value} {l : List Tk} (h : TM B w sv l) : ∀ g, sv.ownBlock = some g → B ≤ g := by
  intro g hg
  rcases h.2 with ⟨rfl, _⟩ | ⟨g', cap, cur, rfl, hB, _⟩
  · simp [Value.ownBlock] at hg
  · simp [Value.ownBlock] at hg; omega

set_option maxHeartbeats 2000000 in
set_option maxRecDepth 100000 in
theorem tokens_any (s : ByteArray) (w : World) (hs : s.size ≤ 4000) (hu : leadL (gUtf s.data.toList) s.size 0 s.data.toList = s.size) (hL : LT w) (hS : SG w) :
    Calls Tryz.prog 31 #[.string s] w fun e w' => (∃ sv, e = .returned (.tuple #[sv, .agg #[.int .i64 (toksL s.size 0 s.data.toList []).2.1, .int .i64 ((toksL s.size 0 s.data.toList []).2.2 : Int)]]) ∧ TM (w.heap.size + 1) w' sv (toksL s.size 0 s.data.toList []).1) ∧ Below w.heap.size w w' := by
  have C := hide (fun wx => leadOfUTF8_any s wx hs)
  rw [hu] at C
  have hs' : ¬ 4000 < (s.size : Int) := by omega
  have HL := hide hL
  have HS := hide hS
  clear hu hL hS
  go_enter Tryz.func31, Tryz.ntmps31
  go_wp2_with fail
  refine (unhide C _).mono ?_
  rintro e w1 ⟨rfl, hb⟩
  have HB1 : Hid (Below (w.heap.size + 1) (w.alloc (.cells #[.int .i64 0, .int .i64 0] 41)) w1) := hide (by simpa using hb)
  clear hb C
  go_wp2
  go_loopw [5, 6] (fun sv i wr => ∃ (at' fuel : Nat) (acc : List Tk), at' ≤ s.size ∧ i = .int .i64 (at' : Int) ∧ acc.length ≤ at' ∧ Hid (TM (w.heap.size + 1) wr sv acc) ∧ Hid (Below (w.heap.size + 1) (w.alloc (.cells #[.int .i64 0, .int .i64 0] 41)) wr) ∧ Hid (s.size ≤ at' + fuel ∧ toksL fuel at' (s.data.toList.drop at') acc = toksL s.size 0 s.data.toList [])) (fun _ i _ => s.size - (intOf i).toNat)
  case atStart => exact ⟨0, s.size, [], Nat.zero_le _, rfl, by simp, hide (TM.nil _ _), HB1, hide ⟨by omega, by simp⟩⟩
  case round =>
    obtain ⟨at', fuel, acc, hat, rfl, hal, HT, HB, HF⟩ := hrel
    clear HB1
    have hb := unhide HB
    have hfl := flt_cell (by simpa using hb)
    obtain ⟨t0, t1, f0, f1, hz, hw⟩ := hfl
    have HW := hide hw
    have hlt : w.heap.size < wr.heap.size := by omega
    clear hb hw
    by_cases ha : at' < s.size
    · have hne := drop_ne ha
      obtain ⟨f, rfl⟩ : ∃ f, fuel = f + 1 := ⟨fuel - 1, by have := (unhide HF).1; omega⟩
      have hg0 : (s.data.toList.drop at').getD 0 0 = s[at'] := by
        rw [List.getD_eq_getElem?_getD, List.getElem?_drop, Nat.add_zero, toList_at s at' ha]; rfl
      have IB := hide (fun wx => isBlank_any s[at'] wx)
      have haI : (at' : Int) < (s.size : Int) := by omega
      cases hbl : isBl s[at'].toNat
      · have hfd := first_bd (s.data.toList.drop at') hne
        have FC := fun wx hl hsg => first_any (s.extract at' s.size) wx (by rw [ext_size]; omega) (by rw [ext_size]; omega) hl hsg
        rw [show (s.extract at' s.size).data.toList = s.data.toList.drop at' by rw [ext_drop]] at FC
        have EG : (firstF (s.data.toList.drop at')).e = 0 → toksL f (at' + (firstF (s.data.toList.drop at')).n) (s.data.toList.drop (at' + (firstF (s.data.toList.drop at')).n)) (acc ++ [⟨(firstF (s.data.toList.drop at')).k, (firstF (s.data.toList.drop at')).t, (firstF (s.data.toList.drop at')).c, (firstF (s.data.toList.drop at')).x, at'⟩]) = toksL s.size 0 s.data.toList [] := by
          intro he
          rw [← (unhide HF).2, toksL_go hne (by rw [hg0]; exact hbl) he, List.drop_drop]
        have EN : ¬ (firstF (s.data.toList.drop at')).e = 0 → toksL s.size 0 s.data.toList [] = ([], (firstF (s.data.toList.drop at')).e, at' + (firstF (s.data.toList.drop at')).a) := by
          intro he
          rw [← (unhide HF).2, toksL_no hne (by rw [hg0]; exact hbl) he]
        rw [List.length_drop, ← Lib.size_eq] at hfd
        generalize firstF (s.data.toList.drop at') = r at *
        obtain ⟨rk, rt, rc, rx, rn, re, ra⟩ := r
        simp only [frV] at FC EG EN hfd
        have C := hide (FC wr ((unhide HL).on (unhide HW)) ((unhide HS).on (unhide HW)))
        have F := hide (unhide HF).1
        rw [hbl] at IB
        clear FC HF hbl hg0 hne
        by_cases he : re = 0
        · subst he
          have E := hide (EG rfl)
          obtain ⟨hn1, hn2⟩ := hfd.1 rfl
          clear EG EN hfd
          have hnI : (rn : Int) ≤ 4000 := by omega
          go_wp2_with fail
          refine (unhide IB _).mono ?_
          rintro e w2 ⟨rfl, rfl⟩
          go_wp2_with fail
          refine (unhide C).mono ?_
          rintro e w2 ⟨rfl, hb2⟩
          have HT2 := hide ((unhide HT).below hb2)
          have HB2 := hide ((unhide HB).trans (hb2.mono (by omega)))
          clear HT HB HW t0 t1 f0 f1 C IB hb2
          have hzz : w.heap.size + 1 ≤ w2.heap.size := by have := (unhide HB2).size; simp at this; omega
          have E2 : Hid (w2.heap.size + 1 = (w2.alloc (.cells #[.int .i64 rk, .string ⟨rt.toArray⟩, .int .i64 rc, .int .i64 rx, .int .i64 (at' : Int)] 97)).heap.size) := hide (by simp)
          obtain ⟨i0, hi, hz0, hz1, hz2⟩ := info_parts info_tok
          have HI := hide (And.intro hi (And.intro hz0 (And.intro hz1 hz2)))
          clear hlt hz hi hz0 hz1 hz2 E2
          go_wp2_with (at_builtin; refine wpList_append_own _ rfl _ _ 53 rfl (w.heap.size + 1) 97 i0 (.agg #[.int .i64 0, .string ⟨#[]⟩, .int .i64 0, .int .i64 0, .int .i64 0]) 5 48 Tryz.underlying53 (unhide HI).1 (unhide HI).2.1 (unhide HI).2.2.1 (unhide HI).2.2.2 rfl (by decide) _ _ _ rfl (((World.ownsRow.alloc (unhide HT2) _).alloc _).alloc _) ⟨w2.heap.size + 1 + 1, 0, none⟩ 1 1 (tkC ⟨rk, rt, rc, rx, at'⟩) rfl rfl ?c1 ?c2 ?c3 ?c4 ?c5 ?_)
          case c1 =>
            have h := cell_five_new ((w2.alloc (.cells #[.int .i64 rk, .string ⟨rt.toArray⟩, .int .i64 rc, .int .i64 rx, .int .i64 (at' : Int)] 97)).alloc (.cells #[.int .i64 0, .int .i64 (ra : Int)] 41)) 97 (.int .i64 rk) (.string ⟨rt.toArray⟩) (.int .i64 rc) (.int .i64 rx) (.int .i64 (at' : Int))
            rw [show ((w2.alloc (.cells #[.int .i64 rk, .string ⟨rt.toArray⟩, .int .i64 rc, .int .i64 rx, .int .i64 (at' : Int)] 97)).alloc (.cells #[.int .i64 0, .int .i64 (ra : Int)] 41)).heap.size = w2.heap.size + 1 + 1 by simp] at h
            exact h
          case c2 => intro u hu; simp [tkC] at hu; rcases hu with rfl | rfl | rfl | rfl | rfl <;> rfl
          case c3 => unfold maxLen; omega
          case c4 => omega
          case c5 => simp; omega
          intro v' w3 hown hgrow hnil
          have HT3 : Hid (TM (w.heap.size + 1) w3 v' (acc ++ [⟨rk, rt, rc, rx, at'⟩])) := by
            refine hide ?_
            unfold TM
            rw [tkCs_app, List.length_append]
            exact hown
          have HB3 := hide ((((((unhide HB2).alloc (by omega) (.cells #[.int .i64 rk, .string ⟨rt.toArray⟩, .int .i64 rc, .int .i64 rx, .int .i64 (at' : Int)] 97)).alloc (by simp; omega) (.cells #[.int .i64 0, .int .i64 (ra : Int)] 41)).alloc (by simp; omega) (.cells #[.int .i64 rk, .string ⟨rt.toArray⟩, .int .i64 rc, .int .i64 rx, .int .i64 (at' : Int)] 97))).grown hgrow (by simp; omega) (fun k hk => (unhide HT2).own k hk))
          clear hown hgrow hnil HT2 HB2 HI
          go_wp2
          go_roundw
          case rel => exact ⟨at' + rn, f, acc ++ [⟨rk, rt, rc, rx, at'⟩], by omega, by go_num, by rw [List.length_append]; simp; omega, HT3, HB3, hide ⟨by have := unhide F; omega, unhide E⟩⟩
          case measure => simp [intOf]; omega
        · have he' : (re != 0) = true := by simpa using he
          have E := hide (EN he)
          clear EG EN
          go_wp2_with fail
          refine (unhide IB _).mono ?_
          rintro e w2 ⟨rfl, rfl⟩
          go_wp2_with fail
          refine (unhide C).mono ?_
          rintro e w2 ⟨rfl, hb2⟩
          have hb3 := (unhide HB).trans (hb2.mono (by omega))
          clear HT HB t0 t1 f0 f1 hz HW hb2 IB C he
          obtain ⟨t0, t1, f0, f1, hz, hw⟩ := flt_cell (w := w) (by simpa using hb3)
          have hlt2 : w.heap.size < w2.heap.size := by omega
          have hra : (ra : Int) ≤ 4000 := by omega
          clear hb3
          go_wp2
          go_region
          go_wp2
          exact bodyPost_ret (v := .tuple #[.slice none 0 0, .agg #[.int .i64 re, .int .i64 ((at' : Int) + (ra : Int))]]) (by simp [results, Tryz.results31, go_sem, t0, t1, hlt2]) rfl ⟨⟨.slice none 0 0, by rw [unhide E]; simp, by rw [unhide E]; exact TM.nil _ _⟩, (((((hw.setCell (by simp) _).setCell (by simp) _).alloc (by simp [World.setCell]; omega) _).alloc (by simp [World.setCell]; omega) _).drew)⟩
      · have E : Hid (toksL f (at' + 1) (s.data.toList.drop (at' + 1)) acc = toksL s.size 0 s.data.toList []) := by
          rw [← (unhide HF).2, toksL_bl hne (by rw [hg0]; exact hbl), List.drop_drop]
          exact hide rfl
        have F := hide (unhide HF).1
        rw [hbl] at IB
        clear HF hbl hg0
        go_wp2_with (go_at_call 47; refine (unhide IB _).mono ?_; rintro e w2 ⟨rfl, rfl⟩)
        go_roundw
        case rel => exact ⟨at' + 1, f, acc, by omega, by go_num, by omega, HT, HB, hide ⟨by have := unhide F; omega, unhide E⟩⟩
        case measure => simp [intOf]; omega
    · have E : Hid (toksL s.size 0 s.data.toList [] = (acc, 0, 0)) := by
        rw [← (unhide HF).2, List.drop_of_length_le (by rw [← Lib.size_eq]; omega), toksL_nil]
        exact hide rfl
      clear HF
      go_wp2
      refine bodyPost_ret (v := .tuple #[u5, .agg #[.int .i64 0, .int .i64 0]]) (by simp [results, Tryz.results31, go_sem, t0, t1]) rfl ⟨⟨u5, by rw [unhide E]; rfl, ?_⟩, ((unhide HW).setCell (by simp) _).setCell (by simp) _⟩
      rw [unhide E]
      exact ownsRow_setCell_below (ownsRow_setCell_below (unhide HT) (by show w.heap.size < _; omega) _) (by show w.heap.size < _; omega) _
end Go.Proofs.YtcidbhegnnedoaaGreatDoor

/- Walks: Same of two trees. -/
namespace Go.Proofs.YtcidbhegnnedoaaGreatDoor
open Go.RowKit

/-- what Same tells of two trees -/
def SameC (T : Tree) : Prop := ∀ (U : Tree) (B : Nat) (w : World) (v u : Array Value), Mem B w T v → Mem B w U u → B ≤ w.heap.size →
  Calls Tryz.prog 8 #[.agg v, .agg u] w fun e w' => e = .returned (.bool (sameB T U)) ∧ Below w.heap.size w w'

theorem sameL_cons (u v : Tree) (us vs : List Tree) : sameL (u :: us) (v :: vs) = (sameB u v && sameL us vs) := by rw [sameL]
theorem sameL_nil (vs : List Tree) : sameL [] vs = true := by rw [sameL]

set_option maxHeartbeats 2000000 in
theorem same_no (k : Int) (y : Bool) (c x : Int) (t : ByteArray) (k' : Int) (y' : Bool) (c' x' : Int) (t' : ByteArray) (a a' : Option Addr) (n n' cap cap' B : Nat) (w : World) (hB : B ≤ w.heap.size)
    (h : ¬ (k = k' ∧ y = y' ∧ c = c' ∧ x = x' ∧ t.toList = t'.toList ∧ n = n')) :
    Calls Tryz.prog 8 #[.agg #[.int .i64 k, .bool y, .int .i64 c, .int .i64 x, .string t, .slice a n cap], .agg #[.int .i64 k', .bool y', .int .i64 c', .int .i64 x', .string t', .slice a' n' cap']] w fun e w' => e = .returned (.bool false) ∧ Below B w w' := by
  have hb : ∀ o o', Below B w ((w.alloc o).alloc o') := fun o o' => ((Below.refl B w).alloc hB o).alloc (by simp; omega) o'
  have HB := hide hb
  clear hb
  by_cases h1 : k = k'
  · subst h1
    by_cases h2 : y = y'
    · subst h2
      by_cases h3 : c = c' ∧ x = x'
      · obtain ⟨rfl, rfl⟩ := h3
        by_cases h4 : t.toList = t'.toList
        · have h5 : ¬ n = n' := fun q => h ⟨rfl, rfl, rfl, rfl, h4, q⟩
          have h5' : ((n : Int) != (n' : Int)) = true := by simp; omega
          clear h
          go_enter Tryz.func8, Tryz.ntmps8
          go_wp2
          go_ret
          exact ⟨rfl, unhide HB _ _⟩
        · have h4' : (t.toList == t'.toList) = false := by simp [h4]
          clear h
          go_enter Tryz.func8, Tryz.ntmps8
          go_wp2
          go_ret
          exact ⟨rfl, unhide HB _ _⟩
      · clear h
        by_cases h6 : c = c'
        · have h7 : ¬ x = x' := fun q => h3 ⟨h6, q⟩
          subst h6
          clear h3
          go_enter Tryz.func8, Tryz.ntmps8
          go_wp2
          go_ret
          exact ⟨rfl, unhide HB _ _⟩
        · clear h3
          go_enter Tryz.func8, Tryz.ntmps8
          go_wp2
          go_ret
          exact ⟨rfl, unhide HB _ _⟩
    · clear h
      have h2' : (y != y') = true := by simp [h2]
      go_enter Tryz.func8, Tryz.ntmps8
      go_wp2
      go_ret
      exact ⟨rfl, unhide HB _ _⟩
  · clear h
    have h1' : (k != k') = true := by simp [h1]
    go_enter Tryz.func8, Tryz.ntmps8
    go_wp2
    go_ret
    exact ⟨rfl, unhide HB _ _⟩
end Go.Proofs.YtcidbhegnnedoaaGreatDoor

/- Walks: Same of two trees, the lists. -/
namespace Go.Proofs.YtcidbhegnnedoaaGreatDoor
open Go.RowKit

theorem drop_at {ks : List Tree} {m : Nat} {u : Tree} (hlt : m < ks.length) (hu : ks[m]? = some u) : ks.drop m = u :: ks.drop (m + 1) := by
  rw [List.drop_eq_getElem_cons hlt]
  congr 1
  rw [List.getElem?_eq_getElem hlt] at hu
  exact Option.some.inj hu

set_option maxHeartbeats 4000000 in
theorem same_nil (k : Int) (y : Bool) (c x : Int) (t : ByteArray) (a a' : Option Addr) (cap cap' B : Nat) (w : World) (hB : B ≤ w.heap.size) :
    Calls Tryz.prog 8 #[.agg #[.int .i64 k, .bool y, .int .i64 c, .int .i64 x, .string t, .slice a 0 cap], .agg #[.int .i64 k, .bool y, .int .i64 c, .int .i64 x, .string t, .slice a' 0 cap']] w fun e w' => e = .returned (.bool true) ∧ Below B w w' := by
  have hb : ∀ o o', Below B w ((w.alloc o).alloc o') := fun o o' => ((Below.refl B w).alloc hB o).alloc (by simp; omega) o'
  have HB := hide hb
  clear hb
  go_enter Tryz.func8, Tryz.ntmps8
  go_wp2
  go_loop [44] (fun i => i = .int .i64 0) (fun _ => 0)
  case atStart => rfl
  case round =>
    subst hrel
    go_wp2
    go_ret
    exact ⟨rfl, unhide HB _ _⟩

set_option maxHeartbeats 4000000 in
theorem same_yes (k : Int) (y : Bool) (c x : Int) (t : ByteArray) (ks ks' : List Tree) (hl : ks.length = ks'.length) (hn : ks.length ≤ 9223372036854775807) (IH : ∀ u ∈ ks, SameC u) (b b' off off' cap cap' B : Nat) (w : World) (hB : B ≤ w.heap.size) (hb1 : b < B) (hb2 : b' < B) (hm : MemL B w ks b off) (hm2 : MemL B w ks' b' off') :
    Calls Tryz.prog 8 #[.agg #[.int .i64 k, .bool y, .int .i64 c, .int .i64 x, .string t, .slice (some ⟨b, off, none⟩) ks.length cap], .agg #[.int .i64 k, .bool y, .int .i64 c, .int .i64 x, .string t, .slice (some ⟨b', off', none⟩) ks'.length cap']] w fun e w' => e = .returned (.bool (sameL ks ks')) ∧ Below w.heap.size w w' := by
  have HL := hide hl
  rw [← hl]
  clear hl
  have hBB : ∀ o o', Below w.heap.size w ((w.alloc o).alloc o') := fun o o' => ((Below.refl _ w).alloc (Nat.le_refl _) o).alloc (by simp) o'
  have HB := hide hBB
  have M1 := hide hm
  have M2 := hide hm2
  have IH' := hide IH
  clear hBB hm hm2 IH
  go_enter Tryz.func8, Tryz.ntmps8
  go_wp2
  go_loopw [44] (fun i wr => ∃ m : Nat, m ≤ ks.length ∧ i = .int .i64 (m : Int) ∧ Hid (sameL ks ks' = sameL (ks.drop m) (ks'.drop m)) ∧ Hid (Below w.heap.size w wr) ∧ wr.cell? ⟨w.heap.size, 5, none⟩ = some (.slice (some ⟨b, off, none⟩) ks.length cap) ∧ wr.cell? ⟨w.heap.size + 1, 5, none⟩ = some (.slice (some ⟨b', off', none⟩) ks.length cap') ∧ w.heap.size + 1 < wr.heap.size) (fun i _ => ks.length - (intOf i).toNat)
  case atStart => exact ⟨0, Nat.zero_le _, rfl, hide rfl, hide (unhide HB _ _), by simp [go_sem], by simp [go_sem], by simp⟩
  case round =>
    obtain ⟨m, hml, rfl, H, HW, x1, x2, x3⟩ := hrel
    by_cases hlt2 : m < ks.length
    · have hi1 : (m : Int) < (ks.length : Int) := by omega
      obtain ⟨u, hu⟩ : ∃ u, ks[m]? = some u := ⟨_, List.getElem?_eq_getElem hlt2⟩
      obtain ⟨u', hu'⟩ : ∃ u, ks'[m]? = some u := ⟨_, List.getElem?_eq_getElem (by have := unhide HL; omega)⟩
      have HU := hide (unhide IH' u (List.mem_of_getElem? hu))
      have hwB := (unhide HW).mono hB
      obtain ⟨cs, h6, hmu⟩ := MemL.at (MemL.below hwB hb1 (unhide M1)) m u hu
      obtain ⟨cs', h6', hmu'⟩ := MemL.at (MemL.below hwB hb2 (unhide M2)) m u' hu'
      clear hwB
      have HM := hide hmu
      have HM' := hide hmu'
      rw [drop_at hlt2 hu, drop_at (by have := unhide HL; omega) hu', sameL_cons] at H
      cases u with
      | mk k y c x t kk =>
      cases u' with
      | mk k' y' c' x' t' kk' =>
        rw [Mem] at hmu hmu'
        obtain ⟨_, _, a1, cap1, rfl, _⟩ := hmu
        obtain ⟨_, _, a2, cap2, rfl, _⟩ := hmu'
        obtain ⟨u0, u1, u2, u3, u4, u5, hu6, c0, c1, c2, c3, c4, c5⟩ := h6
        simp only [Array.mk.injEq, List.cons.injEq, and_true] at hu6
        obtain ⟨rfl, rfl, rfl, rfl, rfl, rfl⟩ := hu6
        obtain ⟨u0, u1, u2, u3, u4, u5, hu6, e0, e1, e2, e3, e4, e5⟩ := h6'
        simp only [Array.mk.injEq, List.cons.injEq, and_true] at hu6
        obtain ⟨rfl, rfl, rfl, rfl, rfl, rfl⟩ := hu6
        have hBr := Nat.le_trans hB (unhide HW).size
        have C := hide (fun wx (hx : Below wr.heap.size wr wx) => unhide HU (.mk k' y' c' x' t' kk') B wx _ _ (Mem.below (hx.mono hBr) (unhide HM)) (Mem.below (hx.mono hBr) (unhide HM')) (Nat.le_trans hBr hx.size))
        generalize sameB (.mk k y c x t kk) (.mk k' y' c' x' t' kk') = R at *
        clear hu hu' HU HM HM'
        go_wp2_with fail
        go_region_with (refine (unhide C _ ((Below.refl _ _).drew)).mono ?_; rintro e w2 ⟨rfl, hb⟩)
        all_goals
          have hb' : Below wr.heap.size wr w2 := (Below.refl _ _).drew.trans hb
          have y1 := (hb'.cell (p := ⟨w.heap.size, 5, none⟩) (by simp; omega)).trans x1
          have y2 := (hb'.cell (p := ⟨w.heap.size + 1, 5, none⟩) (by simp; omega)).trans x2
          have HW2 := hide ((unhide HW).trans (hb'.mono (unhide HW).size))
          have x3' : w.heap.size + 1 < w2.heap.size := Nat.lt_of_lt_of_le x3 hb'.size
          clear hb hb' c0 c1 c2 c3 c4 c5 e0 e1 e2 e3 e4 e5 C
          cases R with
          | true =>
            rw [Bool.true_and] at H
            go_wp2
            go_round
            case rel => exact ⟨m + 1, by omega, by go_num, H, HW2, y1, y2, x3'⟩
            case measure => simp [intOf]; omega
          | false =>
            rw [Bool.false_and] at H
            go_wp2
            go_ret
            rw [unhide H]
            exact ⟨rfl, unhide HW2⟩
    · obtain rfl : m = ks.length := by omega
      have H2 : sameL ks ks' = true := by
        have h := unhide H
        rw [List.drop_length, sameL_nil] at h
        exact h
      replace H2 := hide H2
      go_wp2
      go_ret
      rw [unhide H2]
      exact ⟨rfl, unhide HW⟩

theorem same_of (k : Int) (y : Bool) (c x : Int) (t : ByteArray) (ks : List Tree) (IH : ∀ u ∈ ks, SameC u) : SameC (.mk k y c x t ks) := by
  intro U B w v u hM hM' hB
  cases U with
  | mk k' y' c' x' t' ks' =>
  rw [Mem] at hM hM'
  obtain ⟨ht, hk, a, cap, rfl, hks⟩ := hM
  obtain ⟨ht', hk', a', cap', rfl, hks'⟩ := hM'
  rw [sameB]
  by_cases h : k = k' ∧ y = y' ∧ c = c' ∧ x = x' ∧ t.toList = t'.toList ∧ ks.length = ks'.length
  · obtain ⟨rfl, rfl, rfl, rfl, ht2, hl⟩ := h
    obtain rfl := tl_eq.1 ht2
    rw [show (decide (k = k) && decide (y = y) && decide (c = c) && decide (x = x) && decide (t.toList = t.toList) && decide (ks.length = ks'.length) && sameL ks ks') = sameL ks ks' by simp [hl]]
    by_cases hn : ks = []
    · subst hn
      have hn' : ks' = [] := List.eq_nil_of_length_eq_zero (by rw [← hl]; rfl)
      subst hn'
      rw [sameL_nil]
      exact same_nil k y c x t a a' cap cap' w.heap.size w (Nat.le_refl _)
    · have hn' : ks' ≠ [] := by
        intro q
        rw [q] at hl
        exact hn (List.eq_nil_of_length_eq_zero hl)
      obtain ⟨b, off, rfl, hb, hm⟩ := hks hn
      obtain ⟨b', off', rfl, hb', hm'⟩ := hks' hn'
      exact same_yes k y c x t ks ks' hl hk IH b b' off off' cap cap' B w hB hb hb' hm hm'
  · rw [show (decide (k = k') && decide (y = y') && decide (c = c') && decide (x = x') && decide (t.toList = t'.toList) && decide (ks.length = ks'.length) && sameL ks ks') = false by
      cases hq : (decide (k = k') && decide (y = y') && decide (c = c') && decide (x = x') && decide (t.toList = t'.toList) && decide (ks.length = ks'.length)) with
      | false => rfl
      | true =>
        simp only [Bool.and_eq_true, decide_eq_true_eq] at hq
        exact absurd ⟨hq.1.1.1.1.1, hq.1.1.1.1.2, hq.1.1.1.2, hq.1.1.2, hq.1.2, hq.2⟩ h]
    exact same_no k y c x t k' y' c' x' t' a a' _ _ cap cap' w.heap.size w (Nat.le_refl _) h

mutual
theorem same_all : ∀ T : Tree, SameC T
  | .mk k y c x t ks => same_of k y c x t ks (fun u h => same_alls ks u h)
theorem same_alls : ∀ (ks : List Tree) (u : Tree), u ∈ ks → SameC u
  | [], u, h => by cases h
  | v :: vs, u, h => by
    by_cases e : u = v
    · rw [e]; exact same_all v
    · exact same_alls vs u ((List.mem_cons.1 h).resolve_left e)
end
end Go.Proofs.YtcidbhegnnedoaaGreatDoor

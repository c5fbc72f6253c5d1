/- Walks: Tokens. -/
import Derived.Test.YtnegjbkbfgkkjaaGreatDoorG29
import Derived.OwnWalk
import Derived.Lib.ItoaMem
import Derived.Test.YtnegjbkbfgkkjaaGreatDoorG08
namespace Go.Proofs.YtnegjbkbfgkkjaaGreatDoor
open Go.RowKit

theorem sign_bd : ∀ (gs : List (List UInt8)) (l : List UInt8), (∀ g ∈ gs, 1 ≤ g.length) → ((signF gs l).e = 0 → 1 ≤ (signF gs l).n ∧ (signF gs l).n ≤ l.length) ∧ (signF gs l).a = 0
  | [], l, _ => by simp [signF]
  | g :: gs, l, h => by
    cases hp : Lib.hasPrefix l g
    · rw [signF_no hp]; exact sign_bd gs l (fun x hx => h x (List.mem_cons_of_mem _ hx))
    · rw [signF_yes hp]
      refine ⟨fun _ => ⟨h g (List.mem_cons_self ..), ?_⟩, rfl⟩
      have : g <+: l := by unfold Lib.hasPrefix at hp; exact List.isPrefixOf_iff_prefix.1 hp
      exact this.length_le
theorem first_bd (l : List UInt8) (h : l ≠ []) : ((firstF l).e = 0 → 1 ≤ (firstF l).n ∧ (firstF l).n ≤ l.length) ∧ (firstF l).a ≤ l.length := by
  have hl : 1 ≤ l.length := by cases l with
    | nil => exact absurd rfl h
    | cons => simp
  unfold firstF
  split
  · have hq := ftF_eq (l := l) (p := (textL (l.length - 1) false [] 0 (l.drop 1)).1) (said := (textL (l.length - 1) false [] 0 (l.drop 1)).2) rfl
    have ht := textL_le (l.length - 1) false [] 0 (l.drop 1)
    rw [List.length_drop] at ht
    rw [hq]
    split
    · exact ⟨fun e => absurd e (by decide : ¬ (2 : Int) = 0), by show 1 + _ ≤ _; omega⟩
    · rename_i hc
      have hc1 : ¬ 1 + (textL (l.length - 1) false [] 0 (l.drop 1)).1 = l.length := fun q => hc (.inl q)
      exact ⟨fun _ => ⟨by show 1 ≤ 1 + _ + 1; omega, by show 1 + _ + 1 ≤ _; omega⟩, by show 0 ≤ _; omega⟩
  · split
    · have a := leadL_le gDig l.length 0 l
      have b := numEnd_le l (leadL gDig l.length 0 l) (by omega)
      have c : leadL gDig l.length 0 l ≤ numEnd l (leadL gDig l.length 0 l) := by unfold numEnd; split <;> omega
      unfold fnF
      split
      · exact ⟨fun _ => ⟨by simp; omega, by simpa using b⟩, by simp⟩
      · exact ⟨fun e => by simp at e; omega, by simp⟩
    · split
      · have a := leadL_le gWord l.length 0 l
        exact ⟨fun _ => ⟨by simp; omega, by simp; omega⟩, by simp⟩
      · have := sign_bd signsL l (by decide)
        exact ⟨this.1, by rw [this.2]; omega⟩

/-- a token, and where it begins -/
structure Tk where
  k : Int
  t : List UInt8
  c : Int
  x : Int
  a : Nat
def tkC (t : Tk) : List Value := [.int .i64 t.k, .string ⟨t.t.toArray⟩, .int .i64 t.c, .int .i64 t.x, .int .i64 (t.a : Int)]
def tkCs (l : List Tk) : List Value := l.flatMap tkC
/-- the tokens of a text, or what is wrong -/
def toksL : Nat → Nat → List UInt8 → List Tk → List Tk × Int × Nat
  | 0, _, _, acc => (acc, 0, 0)
  | f + 1, at', l, acc => if l = [] then (acc, 0, 0) else if isBl (l.getD 0 0).toNat = true then toksL f (at' + 1) (l.drop 1) acc
    else if (firstF l).e = 0 then toksL f (at' + (firstF l).n) (l.drop (firstF l).n) (acc ++ [⟨(firstF l).k, (firstF l).t, (firstF l).c, (firstF l).x, at'⟩]) else ([], (firstF l).e, at' + (firstF l).a)
theorem toksL_nil (f at' : Nat) (acc : List Tk) : toksL f at' [] acc = (acc, 0, 0) := by cases f <;> simp [toksL]
theorem toksL_bl {f at' : Nat} {l : List UInt8} {acc : List Tk} (h : l ≠ []) (b : isBl (l.getD 0 0).toNat = true) : toksL (f + 1) at' l acc = toksL f (at' + 1) (l.drop 1) acc := by rw [toksL, if_neg h, if_pos b]
theorem toksL_go {f at' : Nat} {l : List UInt8} {acc : List Tk} (h : l ≠ []) (b : isBl (l.getD 0 0).toNat = false) (e : (firstF l).e = 0) : toksL (f + 1) at' l acc = toksL f (at' + (firstF l).n) (l.drop (firstF l).n) (acc ++ [⟨(firstF l).k, (firstF l).t, (firstF l).c, (firstF l).x, at'⟩]) := by rw [toksL, if_neg h, if_neg (by rw [b]; decide), if_pos e]
theorem toksL_no {f at' : Nat} {l : List UInt8} {acc : List Tk} (h : l ≠ []) (b : isBl (l.getD 0 0).toNat = false) (e : ¬ (firstF l).e = 0) : toksL (f + 1) at' l acc = ([], (firstF l).e, at' + (firstF l).a) := by rw [toksL, if_neg h, if_neg (by rw [b]; decide), if_neg e]
def utfL (l : List UInt8) : Nat := leadL (gUtf l) l.length 0 l
/-- what Tokens tells of a text -/
def toksF (l : List UInt8) : List Tk × Int × Nat :=
  if 4000 < l.length then ([], 4, 0) else if utfL l < l.length then ([], 2, utfL l) else toksL l.length 0 l []

/-- tokens in memory, from block B on -/
def TM (B : Nat) (w : World) (sv : Value) (l : List Tk) : Prop := w.ownsRow B 133 5 sv l.length (tkCs l)
theorem TM.below {B : Nat} {w w' : World} {sv : Value} {l : List Tk} (h : TM B w sv l) (hb : Below w.heap.size w w') : TM B w' sv l := by
  obtain ⟨h1, h2⟩ := h
  refine ⟨h1, ?_⟩
  rcases h2 with h2 | ⟨g, cap, cur, hv, hg, hh, r⟩
  · exact .inl h2
  · exact .inr ⟨g, cap, cur, hv, hg, (hb.block g (lt_of_block hh)).trans hh, r⟩

theorem flt_cell {w w3 : World} (hb : Below (w.alloc (.cells #[.int .i64 0, .int .i64 0] 129)).heap.size (w.alloc (.cells #[.int .i64 0, .int .i64 0] 129)) w3) :
    w3.cell? ⟨w.heap.size, 0, none⟩ = some (.int .i64 0) ∧ w3.cell? ⟨w.heap.size, 1, none⟩ = some (.int .i64 0) ∧ w3.frozen? ⟨w.heap.size, 0, none⟩ = false ∧ w3.frozen? ⟨w.heap.size, 1, none⟩ = false ∧ w.heap.size + 1 ≤ w3.heap.size ∧ Below w.heap.size w w3 := by
  obtain ⟨hc, hf⟩ := bcell hb
  have s := hb.size
  simp at s
  have hw : Below w.heap.size w (w.alloc (.cells #[.int .i64 0, .int .i64 0] 129)) := (Below.refl w.heap.size w).alloc (Nat.le_refl _) _
  refine ⟨?_, ?_, ?_, ?_, by omega, hw.trans (hb.mono (by simp))⟩
  all_goals first | (rw [hc _ _ (by simp)]; simp [go_sem]; done) | (rw [hf _ _ (by simp)]; simp [go_sem]; done)

set_option maxHeartbeats 400000 in
theorem tokens_much (s : ByteArray) (w : World) (h : 4000 < s.size) :
    Calls Tryz.prog 61 #[.string s] w fun e w' => e = .returned (.tuple #[.slice none 0 0, .agg #[.int .i64 4, .int .i64 0]]) ∧ Below w.heap.size w w' := by
  go_enter Tryz.func61, Tryz.ntmps61
  go_wp2
  exact bodyPost_ret (v := .tuple #[.slice none 0 0, .agg #[.int .i64 4, .int .i64 0]]) (by simp [results, Tryz.results61, go_sem]) rfl ⟨rfl, (Below.refl _ _).alloc (Nat.le_refl _) _⟩

set_option maxHeartbeats 400000 in
theorem tokens_utf (s : ByteArray) (w : World) (hs : s.size ≤ 4000) (n : Nat) (hn : leadL (gUtf s.data.toList) s.size 0 s.data.toList = n) (h : n < s.size) :
    Calls Tryz.prog 61 #[.string s] w fun e w' => e = .returned (.tuple #[.slice none 0 0, .agg #[.int .i64 2, .int .i64 (n : Int)]]) ∧ Below w.heap.size w w' := by
  have C := hide (fun wx => leadOfUTF8_any s wx hs)
  rw [hn] at C
  have h' : (n : Int) < (s.size : Int) := by omega
  have hs' : ¬ 4000 < (s.size : Int) := by omega
  clear hn
  go_enter Tryz.func61, Tryz.ntmps61
  go_wp2_with fail
  refine (unhide C _).mono ?_
  rintro e w1 ⟨rfl, hb⟩
  obtain ⟨t0, t1, f0, f1, hz, hw⟩ := flt_cell hb
  clear hb
  go_wp2
  exact bodyPost_ret (v := .tuple #[.slice none 0 0, .agg #[.int .i64 2, .int .i64 (n : Int)]]) (by simp [results, Tryz.results61, go_sem, t0, t1]) rfl ⟨rfl, (hw.setCell (by simp) _).setCell (by simp) _⟩

theorem info_tok : (Tryz.prog.info? 133).map (fun i => (i.zero, i.size, i.bytes)) = some (some (.agg #[.int .i64 0, .string ⟨#[]⟩, .int .i64 0, .int .i64 0, .int .i64 0]), 5, 48) := by kernel_rfl
theorem cell_five_new (W : World) (t : TypeId) (a b c d e : Value) : ∀ j u, [a, b, c, d, e][j]? = some u → (W.alloc (.cells #[a, b, c, d, e] t)).cell? ((⟨W.heap.size, 0, none⟩ : Addr).add j) = some u := by
  intro j u h
  rw [Lib.add_plain]
  have hj : j < 5 := by
    rcases Nat.lt_or_ge j 5 with q | q
    · exact q
    · rw [List.getElem?_eq_none (by simpa using q)] at h; cases h
  rcases (by omega : j = 0 ∨ j = 1 ∨ j = 2 ∨ j = 3 ∨ j = 4) with rfl | rfl | rfl | rfl | rfl <;> (simp at h; subst h; simp [go_sem])
theorem tkCs_app (l : List Tk) (t : Tk) : tkCs (l ++ [t]) = tkCs l ++ tkC t := by simp [tkCs]
theorem TM.nil (B : Nat) (w : World) : TM B w (.slice none 0 0) [] := World.ownsRow_nil _ _ _ _
theorem TM.own {B : Nat} {w : World} {sv : Value} {l : List Tk} (h : TM B w sv l) : ∀ g, sv.ownBlock = some g → B ≤ g := by
  intro g hg
  rcases h.2 with ⟨rfl, _⟩ | ⟨g', cap, cur, rfl, hB, _⟩
  · simp [Value.ownBlock] at hg
  · simp [Value.ownBlock] at hg; omega

set_option maxHeartbeats 2000000 in
set_option maxRecDepth 100000 in
theorem tokens_any (s : ByteArray) (w : World) (hs : s.size ≤ 4000) (hu : leadL (gUtf s.data.toList) s.size 0 s.data.toList = s.size) (hL : LT w) (hS : SG w) :
    Calls Tryz.prog 61 #[.string s] w fun e w' => (∃ sv, e = .returned (.tuple #[sv, .agg #[.int .i64 (toksL s.size 0 s.data.toList []).2.1, .int .i64 ((toksL s.size 0 s.data.toList []).2.2 : Int)]]) ∧ TM (w.heap.size + 1) w' sv (toksL s.size 0 s.data.toList []).1) ∧ Below w.heap.size w w' := by
  have C := hide (fun wx => leadOfUTF8_any s wx hs)
  rw [hu] at C
  have hs' : ¬ 4000 < (s.size : Int) := by omega
  have HL := hide hL
  have HS := hide hS
  clear hu hL hS
  go_enter Tryz.func61, Tryz.ntmps61
  go_wp2_with fail
  refine (unhide C _).mono ?_
  rintro e w1 ⟨rfl, hb⟩
  have HB1 : Hid (Below (w.heap.size + 1) (w.alloc (.cells #[.int .i64 0, .int .i64 0] 129)) w1) := hide (by simpa using hb)
  clear hb C
  go_wp2
  go_loopw [5, 6] (fun sv i wr => ∃ (at' fuel : Nat) (acc : List Tk), at' ≤ s.size ∧ i = .int .i64 (at' : Int) ∧ acc.length ≤ at' ∧ Hid (TM (w.heap.size + 1) wr sv acc) ∧ Hid (Below (w.heap.size + 1) (w.alloc (.cells #[.int .i64 0, .int .i64 0] 129)) wr) ∧ Hid (s.size ≤ at' + fuel ∧ toksL fuel at' (s.data.toList.drop at') acc = toksL s.size 0 s.data.toList [])) (fun _ i _ => s.size - (intOf i).toNat)
  case atStart => exact ⟨0, s.size, [], Nat.zero_le _, rfl, by simp, hide (TM.nil _ _), HB1, hide ⟨by omega, by simp⟩⟩
  case round =>
    obtain ⟨at', fuel, acc, hat, rfl, hal, HT, HB, HF⟩ := hrel
    clear HB1
    have hb := unhide HB
    have hfl := flt_cell (by simpa using hb)
    obtain ⟨t0, t1, f0, f1, hz, hw⟩ := hfl
    have HW := hide hw
    have hlt : w.heap.size < wr.heap.size := by omega
    clear hb hw
    by_cases ha : at' < s.size
    · have hne := drop_ne ha
      obtain ⟨f, rfl⟩ : ∃ f, fuel = f + 1 := ⟨fuel - 1, by have := (unhide HF).1; omega⟩
      have hg0 : (s.data.toList.drop at').getD 0 0 = s[at'] := by
        rw [List.getD_eq_getElem?_getD, List.getElem?_drop, Nat.add_zero, toList_at s at' ha]; rfl
      have IB := hide (fun wx => isBlank_any s[at'] wx)
      have haI : (at' : Int) < (s.size : Int) := by omega
      cases hbl : isBl s[at'].toNat
      · have hfd := first_bd (s.data.toList.drop at') hne
        have FC := fun wx hl hsg => first_any (s.extract at' s.size) wx (by rw [ext_size]; omega) (by rw [ext_size]; omega) hl hsg
        rw [show (s.extract at' s.size).data.toList = s.data.toList.drop at' by rw [ext_drop]] at FC
        have EG : (firstF (s.data.toList.drop at')).e = 0 → toksL f (at' + (firstF (s.data.toList.drop at')).n) (s.data.toList.drop (at' + (firstF (s.data.toList.drop at')).n)) (acc ++ [⟨(firstF (s.data.toList.drop at')).k, (firstF (s.data.toList.drop at')).t, (firstF (s.data.toList.drop at')).c, (firstF (s.data.toList.drop at')).x, at'⟩]) = toksL s.size 0 s.data.toList [] := by
          intro he
          rw [← (unhide HF).2, toksL_go hne (by rw [hg0]; exact hbl) he, List.drop_drop]
        have EN : ¬ (firstF (s.data.toList.drop at')).e = 0 → toksL s.size 0 s.data.toList [] = ([], (firstF (s.data.toList.drop at')).e, at' + (firstF (s.data.toList.drop at')).a) := by
          intro he
          rw [← (unhide HF).2, toksL_no hne (by rw [hg0]; exact hbl) he]
        rw [List.length_drop, ← Lib.size_eq] at hfd
        generalize firstF (s.data.toList.drop at') = r at *
        obtain ⟨rk, rt, rc, rx, rn, re, ra⟩ := r
        simp only [frV] at FC EG EN hfd
        have C := hide (FC wr ((unhide HL).on (unhide HW)) ((unhide HS).on (unhide HW)))
        have F := hide (unhide HF).1
        rw [hbl] at IB
        clear FC HF hbl hg0 hne
        by_cases he : re = 0
        · subst he
          have E := hide (EG rfl)
          obtain ⟨hn1, hn2⟩ := hfd.1 rfl
          clear EG EN hfd
          have hnI : (rn : Int) ≤ 4000 := by omega
          go_wp2_with fail
          refine (unhide IB _).mono ?_
          rintro e w2 ⟨rfl, rfl⟩
          go_wp2_with fail
          refine (unhide C).mono ?_
          rintro e w2 ⟨rfl, hb2⟩
          have HT2 := hide ((unhide HT).below hb2)
          have HB2 := hide ((unhide HB).trans (hb2.mono (by omega)))
          clear HT HB HW t0 t1 f0 f1 C IB hb2
          have hzz : w.heap.size + 1 ≤ w2.heap.size := by have := (unhide HB2).size; simp at this; omega
          have E2 : Hid (w2.heap.size + 1 = (w2.alloc (.cells #[.int .i64 rk, .string ⟨rt.toArray⟩, .int .i64 rc, .int .i64 rx, .int .i64 (at' : Int)] 133)).heap.size) := hide (by simp)
          obtain ⟨i0, hi, hz0, hz1, hz2⟩ := info_parts info_tok
          have HI := hide (And.intro hi (And.intro hz0 (And.intro hz1 hz2)))
          clear hlt hz hi hz0 hz1 hz2 E2
          go_wp2_with (at_builtin; refine wpList_append_own _ rfl _ _ 127 rfl (w.heap.size + 1) 133 i0 (.agg #[.int .i64 0, .string ⟨#[]⟩, .int .i64 0, .int .i64 0, .int .i64 0]) 5 48 Tryz.underlying127 (unhide HI).1 (unhide HI).2.1 (unhide HI).2.2.1 (unhide HI).2.2.2 rfl (by decide) _ _ _ rfl (((World.ownsRow.alloc (unhide HT2) _).alloc _).alloc _) ⟨w2.heap.size + 1 + 1, 0, none⟩ 1 1 (tkC ⟨rk, rt, rc, rx, at'⟩) rfl rfl ?c1 ?c2 ?c3 ?c4 ?c5 ?_)
          case c1 =>
            have h := cell_five_new ((w2.alloc (.cells #[.int .i64 rk, .string ⟨rt.toArray⟩, .int .i64 rc, .int .i64 rx, .int .i64 (at' : Int)] 133)).alloc (.cells #[.int .i64 0, .int .i64 (ra : Int)] 129)) 133 (.int .i64 rk) (.string ⟨rt.toArray⟩) (.int .i64 rc) (.int .i64 rx) (.int .i64 (at' : Int))
            rw [show ((w2.alloc (.cells #[.int .i64 rk, .string ⟨rt.toArray⟩, .int .i64 rc, .int .i64 rx, .int .i64 (at' : Int)] 133)).alloc (.cells #[.int .i64 0, .int .i64 (ra : Int)] 129)).heap.size = w2.heap.size + 1 + 1 by simp] at h
            exact h
          case c2 => intro u hu; simp [tkC] at hu; rcases hu with rfl | rfl | rfl | rfl | rfl <;> rfl
          case c3 => unfold maxLen; omega
          case c4 => omega
          case c5 => simp; omega
          intro v' w3 hown hgrow hnil
          have HT3 : Hid (TM (w.heap.size + 1) w3 v' (acc ++ [⟨rk, rt, rc, rx, at'⟩])) := by
            refine hide ?_
            unfold TM
            rw [tkCs_app, List.length_append]
            exact hown
          have HB3 := hide ((((((unhide HB2).alloc (by omega) (.cells #[.int .i64 rk, .string ⟨rt.toArray⟩, .int .i64 rc, .int .i64 rx, .int .i64 (at' : Int)] 133)).alloc (by simp; omega) (.cells #[.int .i64 0, .int .i64 (ra : Int)] 129)).alloc (by simp; omega) (.cells #[.int .i64 rk, .string ⟨rt.toArray⟩, .int .i64 rc, .int .i64 rx, .int .i64 (at' : Int)] 133))).grown hgrow (by simp; omega) (fun k hk => (unhide HT2).own k hk))
          clear hown hgrow hnil HT2 HB2 HI
          go_wp2
          go_roundw
          case rel => exact ⟨at' + rn, f, acc ++ [⟨rk, rt, rc, rx, at'⟩], by omega, by go_num, by rw [List.length_append]; simp; omega, HT3, HB3, hide ⟨by have := unhide F; omega, unhide E⟩⟩
          case measure => simp [intOf]; omega
        · have he' : (re != 0) = true := by simpa using he
          have E := hide (EN he)
          clear EG EN
          go_wp2_with fail
          refine (unhide IB _).mono ?_
          rintro e w2 ⟨rfl, rfl⟩
          go_wp2_with fail
          refine (unhide C).mono ?_
          rintro e w2 ⟨rfl, hb2⟩
          have hb3 := (unhide HB).trans (hb2.mono (by omega))
          clear HT HB t0 t1 f0 f1 hz HW hb2 IB C he
          obtain ⟨t0, t1, f0, f1, hz, hw⟩ := flt_cell (w := w) (by simpa using hb3)
          have hlt2 : w.heap.size < w2.heap.size := by omega
          have hra : (ra : Int) ≤ 4000 := by omega
          clear hb3
          go_wp2
          go_region
          go_wp2
          exact bodyPost_ret (v := .tuple #[.slice none 0 0, .agg #[.int .i64 re, .int .i64 ((at' : Int) + (ra : Int))]]) (by simp [results, Tryz.results61, go_sem, t0, t1, hlt2]) rfl ⟨⟨.slice none 0 0, by rw [unhide E]; simp, by rw [unhide E]; exact TM.nil _ _⟩, (((((hw.setCell (by simp) _).setCell (by simp) _).alloc (by simp [World.setCell]; omega) _).alloc (by simp [World.setCell]; omega) _).drew)⟩
      · have E : Hid (toksL f (at' + 1) (s.data.toList.drop (at' + 1)) acc = toksL s.size 0 s.data.toList []) := by
          rw [← (unhide HF).2, toksL_bl hne (by rw [hg0]; exact hbl), List.drop_drop]
          exact hide rfl
        have F := hide (unhide HF).1
        rw [hbl] at IB
        clear HF hbl hg0
        go_wp2_with (go_at_call 74; refine (unhide IB _).mono ?_; rintro e w2 ⟨rfl, rfl⟩)
        go_roundw
        case rel => exact ⟨at' + 1, f, acc, by omega, by go_num, by omega, HT, HB, hide ⟨by have := unhide F; omega, unhide E⟩⟩
        case measure => simp [intOf]; omega
    · have E : Hid (toksL s.size 0 s.data.toList [] = (acc, 0, 0)) := by
        rw [← (unhide HF).2, List.drop_of_length_le (by rw [← Lib.size_eq]; omega), toksL_nil]
        exact hide rfl
      clear HF
      go_wp2
      refine bodyPost_ret (v := .tuple #[u5, .agg #[.int .i64 0, .int .i64 0]]) (by simp [results, Tryz.results61, go_sem, t0, t1]) rfl ⟨⟨u5, by rw [unhide E]; rfl, ?_⟩, ((unhide HW).setCell (by simp) _).setCell (by simp) _⟩
      rw [unhide E]
      exact ownsRow_setCell_below (ownsRow_setCell_below (unhide HT) (by show w.heap.size < _; omega) _) (by show w.heap.size < _; omega) _
end Go.Proofs.YtnegjbkbfgkkjaaGreatDoor

/- Walks: which texts are names. -/
namespace Go.Proofs.YtnegjbkbfgkkjaaGreatDoor
open Go.RowKit

/-- the words that mean something by themselves -/
def takB (s : ByteArray) : Bool := s.toList == [110, 117, 108, 108] || (s.toList == [116, 114, 117, 101] || (s.toList == [102, 97, 108, 115, 101] || (s.toList == [105, 102] || (s.toList == [116, 104, 101, 110] || (s.toList == [101, 108, 115, 101] || (s.toList == [102, 111, 114] || (s.toList == [105, 110] || (s.toList == [114, 101, 116, 117, 114, 110] || (s.toList == [115, 111, 109, 101] || (s.toList == [101, 118, 101, 114, 121] || (s.toList == [115, 97, 116, 105, 115, 102, 105, 101, 115] || (s.toList == [97, 110, 100] || s.toList == [111, 114]))))))))))))

set_option maxHeartbeats 4000000 in
theorem isTaken_any (s : ByteArray) (w : World) : Calls Tryz.prog 72 #[.string s] w fun e w' => e = .returned (.bool (takB s)) ∧ w' = w := by
  go_enter Tryz.func72, Tryz.ntmps72
  go_wp2
  all_goals
    go_ret
    refine ⟨?_, rfl⟩
    simp_all [takB]

set_option maxHeartbeats 2000000 in
theorem isName_any (s : ByteArray) (w : World) : Calls Tryz.prog 60 #[.string s] w fun e w' => e = .returned (.bool (decide ((s.size : Int) ≤ 40) && !takB s)) ∧ w' = w := by
  have C := hide (fun wx => isTaken_any s wx)
  generalize takB s = b at *
  by_cases h : (s.size : Int) ≤ 40
  · rw [decide_eq_true h]
    go_enter Tryz.func60, Tryz.ntmps60
    go_wp2_with (go_at_call 72; refine (unhide C _).mono ?_; rintro e w1 ⟨rfl, rfl⟩)
    all_goals
      go_ret
      simp
  · rw [decide_eq_false h]
    go_enter Tryz.func60, Tryz.ntmps60
    go_wp2
    go_ret
    simp

theorem tokens_of' (s : ByteArray) (w : World) (hL : LT w) (hS : SG w) :
    Calls Tryz.prog 61 #[.string s] w fun e w' => (∃ sv, e = .returned (.tuple #[sv, .agg #[.int .i64 (toksF s.data.toList).2.1, .int .i64 ((toksF s.data.toList).2.2 : Int)]]) ∧ TM (w.heap.size + 1) w' sv (toksF s.data.toList).1) ∧ Below w.heap.size w w' := by
  unfold toksF utfL
  rw [← Lib.size_eq]
  by_cases h : 4000 < s.size
  · rw [if_pos h]
    refine (tokens_much s w h).mono ?_
    rintro e w' ⟨rfl, hb⟩
    exact ⟨⟨_, rfl, TM.nil _ _⟩, hb⟩
  · rw [if_neg h]
    by_cases hu : leadL (gUtf s.data.toList) s.size 0 s.data.toList < s.size
    · rw [if_pos hu]
      refine (tokens_utf s w (by omega) _ rfl hu).mono ?_
      rintro e w' ⟨rfl, hb⟩
      exact ⟨⟨_, rfl, TM.nil _ _⟩, hb⟩
    · rw [if_neg hu]
      have := leadL_le (gUtf s.data.toList) s.size 0 s.data.toList
      rw [← Lib.size_eq] at this
      exact tokens_any s w (by omega) (by omega) hL hS
theorem tkCs_at' : ∀ (l : List Tk) (i : Nat) (t : Tk), l[i]? = some t → ∀ j v, (tkC t)[j]? = some v → (tkCs l)[i * 5 + j]? = some v
  | [], i, t, h, _, _, _ => by simp at h
  | a :: l, 0, t, h, j, v, hv => by
    simp only [List.getElem?_cons_zero, Option.some.injEq] at h
    subst h
    have hj : j < (tkC a).length := (List.getElem?_eq_some_iff.1 hv).1
    rw [show tkCs (a :: l) = tkC a ++ tkCs l by simp [tkCs], List.getElem?_append_left (by omega)]
    simpa using hv
  | a :: l, i + 1, t, h, j, v, hv => by
    rw [show tkCs (a :: l) = tkC a ++ tkCs l by simp [tkCs], List.getElem?_append_right (by show 5 ≤ _; omega)]
    rw [show (i + 1) * 5 + j - (tkC a).length = i * 5 + j by show (i + 1) * 5 + j - 5 = _; omega]
    exact tkCs_at' l i t (by simpa using h) j v hv
theorem TM.at' {B : Nat} {w : World} {sv : Value} {l : List Tk} (h : TM B w sv l) (hl : l ≠ []) : ∃ g cap, sv = .slice (some ⟨g, 0, none⟩) l.length cap ∧ g < w.heap.size ∧ ∀ i t, l[i]? = some t → ∀ j v, (tkC t)[j]? = some v → w.cell? ⟨g, i * 5 + j, none⟩ = some v := by
  rcases h.2 with ⟨_, h0⟩ | ⟨g, cap, cur, hv, hg, hh, h1, h2, h3, h4⟩
  · exact absurd (List.length_eq_zero_iff.1 h0) hl
  · refine ⟨g, cap, hv, lt_of_block hh, fun i t ht j v hv' => ?_⟩
    have hx := tkCs_at' l i t ht j v hv'
    rw [← h4, List.getElem?_take] at hx
    split at hx
    · simp [World.cell?, hh]
      simpa using hx
    · cases hx
theorem TM.len' {B : Nat} {w : World} {sv : Value} {l : List Tk} (h : TM B w sv l) : ∃ a cap, sv = .slice a l.length cap := by
  rcases h.2 with ⟨h, h0⟩ | ⟨g, cap, cur, hv, _⟩
  · exact ⟨none, 0, by rw [h, h0]⟩
  · exact ⟨_, _, hv⟩
/-- is what was read one word, the text itself? -/
def oneB (s : ByteArray) (r : List Tk × Int × Nat) : Bool := decide (r.2.1 = 0) && (decide (r.1.length = 1) && (decide ((r.1.getD 0 ⟨0, [], 0, 0, 0⟩).k = 1) && (r.1.getD 0 ⟨0, [], 0, 0, 0⟩).t == s.toList))
def nameB (s : ByteArray) : Bool := (decide ((s.size : Int) ≤ 40) && !takB s) && oneB s (toksF s.data.toList)

set_option maxRecDepth 100000 in
set_option maxHeartbeats 4000000 in
theorem named_any (s : ByteArray) (w : World) (hL : LT w) (hS : SG w) : Calls Tryz.prog 46 #[.string s] w fun e w' => e = .returned (.bool (nameB s)) ∧ Below w.heap.size w w' := by
  have C1 := hide (fun wx => isName_any s wx)
  have C2 := hide (tokens_of' s w hL hS)
  unfold nameB
  generalize (decide ((s.size : Int) ≤ 40) && !takB s) = p at *
  generalize toksF s.data.toList = r at *
  obtain ⟨l, e, at'⟩ := r
  simp only at C2
  clear hL hS
  cases p
  · go_enter Tryz.func46, Tryz.ntmps46
    go_wp2_with (go_at_call 60; refine (unhide C1 _).mono ?_; rintro e w1 ⟨rfl, rfl⟩)
    go_ret
    exact ⟨by simp, Below.refl _ _⟩
  go_enter Tryz.func46, Tryz.ntmps46
  go_wp2_with fail
  refine (unhide C1 _).mono ?_
  rintro e0 w1 ⟨rfl, rfl⟩
  go_wp2_with fail
  refine (unhide C2).mono ?_
  rintro e1 w2 ⟨⟨sv, rfl, hT⟩, hb⟩
  have HB := hide (hb.alloc hb.size (.cells #[.int .i64 e, .int .i64 (at' : Int)] 129))
  clear C1 C2
  by_cases he : e = 0
  · subst he
    by_cases hl : l.length = 1
    · obtain ⟨t, rfl⟩ : ∃ t, l = [t] := by
        match l, hl with
        | [t], _ => exact ⟨t, rfl⟩
      obtain ⟨g, cap, rfl, hg, hc⟩ := hT.at' (by simp)
      have c0 := hc 0 t rfl 0 _ rfl
      have c1 := hc 0 t rfl 1 _ rfl
      simp only [Nat.zero_mul, Nat.zero_add] at c0 c1
      clear hc hT hl hb
      by_cases hk : t.k = 1
      · rw [hk] at c0
        have E : oneB s ([t], 0, at') = (t.t == s.toList) := by simp [oneB, hk]
        have HE := hide E
        clear E hk
        go_wp2
        go_ret
        exact ⟨by rw [unhide HE]; rfl, unhide HB⟩
      · have hk' : (t.k == 1) = false := by simpa using hk
        have E : oneB s ([t], 0, at') = false := by simp [oneB, hk]
        have HE := hide E
        clear E hk c1
        go_wp2
        go_ret
        exact ⟨by rw [unhide HE]; rfl, unhide HB⟩
    · have hl' : ((l.length : Int) == 1) = false := by simp; omega
      have E : oneB s (l, 0, at') = false := by simp [oneB, hl]
      have HE := hide E
      obtain ⟨a, cap, rfl⟩ := hT.len'
      clear E hl hT hb
      go_wp2
      go_ret
      exact ⟨by rw [unhide HE]; rfl, unhide HB⟩
  · have he' : (e == 0) = false := by simpa using he
    have E : oneB s (l, e, at') = false := by simp [oneB, he]
    have HE := hide E
    obtain ⟨a, cap, rfl⟩ := hT.len'
    clear E he hT hb
    go_wp2
    go_ret
    exact ⟨by rw [unhide HE]; rfl, unhide HB⟩
end Go.Proofs.YtnegjbkbfgkkjaaGreatDoor

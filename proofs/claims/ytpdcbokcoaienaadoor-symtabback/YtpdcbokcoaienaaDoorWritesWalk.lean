/- The walk of SymtabWrites. -/
import Derived.Test.YtpdcbokcoaienaaDoorSRWrite
import Derived.Test.YtpdcbokcoaienaaDoorSSyms
namespace Go.Proofs.YtpdcbokcoaienaaDoor
open Go.ChangeShapes Go.WideShapes Go.ChangeAt Go.RowKit
set_option linter.unusedVariables false
set_option linter.unusedSimpArgs false

/-- A slice of symbols that came in. -/
structure IsSyms (w : World) (ao : Option Addr) (c : Nat) (l : List Sym) : Prop where
  syms : Syms w ao l
  nil : ao = none → l = [] ∧ c = 0
  size : SZ l

/-- Bytes that stay what they are: as a string, from here on. -/
def CV (w : World) (v : Value) (xs : List Int) : Prop :=
  ∀ W, Below w.heap.size w W → Sem.run Tryd.prog (convert 24 9 v) W = .ok (.string (strOfNums xs)) W

theorem CV.nil (w : World) : CV w (.slice none 0 0) [] := fun W _ =>
  conv_row W none 0 0 (fun _ => 0) (.inl rfl) (fun _ => rfl)

theorem Own.cv {w : World} {base : Nat} {v : Value} {xs : List Int} (h : Own w base v xs) : CV w v xs := by
  intro W hb
  have h' : Own W base v xs := (Turn.of_below hb (fun _ => False)).row h (fun _ _ h => h)
  by_cases h0 : 1 ≤ xs.length
  · obtain ⟨g, cap, rfl, _, _, hc⟩ := h'.lies h0
    have := conv_row W (some ⟨g, 0, none⟩) xs.length cap (gd xs) (.inr ⟨g, 0, rfl, fun i hi => by rw [Nat.zero_add]; exact hc i hi⟩) (by intro h; cases h)
    rwa [lst_gd] at this
  · have h0' : xs.length = 0 := by omega
    obtain rfl : xs = [] := List.eq_nil_of_length_eq_zero h0'
    rcases h'.2 with ⟨rfl, _⟩ | ⟨g, cap, cur, rfl, _⟩
    · exact conv_row W none 0 0 (fun _ => 0) (.inl rfl) (fun _ => rfl)
    · exact conv_row W (some ⟨g, 0, none⟩) 0 cap (fun _ => 0) (.inl rfl) (fun _ => rfl)

/-- How a Write ends. -/
def WEnds (Y B : List Int) (n x : Int) (w : World) (e : Ending) (w' : World) : Prop :=
  ∃ vy vs, e = .returned (.tuple #[vy, vs, .int .i64 n, .int .i64 x]) ∧ CV w' vy Y ∧ CV w' vs B ∧ Below w.heap.size w w'

theorem write_both (l : List Sym) (ss : List ByteArray) (hl : l.length ≤ 8796093022207) (hl2 : ss.length ≤ 8796093022208) (hsz : SZ l) (hz2 : ∀ s ∈ ss, s.size ≤ 9223372036854775807) :
    ∃ Y B n, (∀ a c a2 c2 w, Syms w a l → Strs w a2 ss → Fz w → Calls Tryd.prog 6 #[.slice a l.length c, .slice a2 ss.length c2] w fun e w' => WEnds Y B n (checkE l ss) w e w') ∧
      (∀ a c a2 c2 w, Syms w a l → Strs w a2 ss → Calls Tryd.prog 7 #[.slice a l.length c, .slice a2 ss.length c2] w fun e w' => WEnds Y B n (checkE l ss) w e w') := by
  cases hc : checkE l ss == 0
  · refine ⟨[], [], 0, fun a c a2 c2 w h1 h2 h3 => ?_, fun a c a2 c2 w h1 h2 => ?_⟩
    · refine (write_bad a a2 c c2 l ss w hl hl2 h1 h2 hsz hz2 hc).mono ?_
      rintro e w' ⟨rfl, hb⟩
      exact ⟨_, _, rfl, CV.nil _, CV.nil _, hb⟩
    · refine (rwrite_bad a a2 c c2 l ss w hl hl2 h1 h2 hsz hz2 hc).mono ?_
      rintro e w' ⟨rfl, hb⟩
      exact ⟨_, _, rfl, CV.nil _, CV.nil _, hb⟩
  · have hc0 : checkE l ss = 0 := by simpa using hc
    obtain ⟨n1, n2, n3, n4, m, hm, hu, hrg, hall⟩ := check_ok hc0
    obtain ⟨b, A, hst⟩ := strM_some (l := (ordL l).map Sym.nm) (by
      rw [List.any_eq_false]
      intro s hs
      obtain ⟨y, hy, rfl⟩ := List.mem_map.1 hs
      have := (hall y (ordL_mem hy)).2
      intro hz
      unfold rightB at this
      rw [hz] at this
      simp at this) (by
      intro s hs
      obtain ⟨y, hy, rfl⟩ := List.mem_map.1 hs
      exact n3 y (ordL_mem hy)) (by rw [List.length_map, ordL_len]; exact n1)
    rw [hc0]
    refine ⟨symsB (ordL l) A m, b, 1 + (locs l).length, fun a c a2 c2 w h1 h2 h3 => ?_, fun a c a2 c2 w h1 h2 => ?_⟩
    · refine (write_ok a a2 c c2 l ss w hl hl2 h1 h2 hsz hz2 h3 hc0 m hm b A hst).mono ?_
      rintro e w' ⟨vy, vs, rfl, o1, o2, _, hb⟩
      exact ⟨_, _, rfl, o1.cv, o2.cv, hb⟩
    · refine (rwrite_ok a a2 c c2 l ss w hl hl2 h1 h2 hsz hz2 hc0 m hm b A hst).mono ?_
      rintro e w' ⟨vy, vs, rfl, o1, o2, _, hb⟩
      exact ⟨_, _, rfl, o1.cv, o2.cv, hb⟩

theorem owny_empty (w : World) : OwnY (w.alloc (.cells #[] 43)) w.heap.size (.slice (some ⟨w.heap.size, 0, none⟩) 0 0) [] := by
  refine ⟨rfl, .inr ⟨w.heap.size, 0, #[], rfl, Nat.le_refl _, ?_, Nat.le_refl _, by unfold maxLen; omega, rfl, rfl⟩⟩
  show (w.heap.push _)[w.heap.size]? = _
  simp

set_option maxHeartbeats 4000000 in
set_option maxRecDepth 10000 in
theorem symtabWrites_walk (ao : Option Addr) (c : Nat) (l : List Sym) (a2 : Option Addr) (c2 : Nat) (ss : List ByteArray) (w : World) (hI : IsSyms w ao c l) (hl : l.length ≤ 2199023255552) (hS : IsStrs w a2 c2 ss) (hl2 : ss.length ≤ 8796093022208) (hf : Fz w) :
    Calls Tryd.prog 3 #[.slice ao l.length c, .slice a2 ss.length c2] w fun e w' => e = .returned (.bool true) ∧ Below w.heap.size w w' := by
  obtain ⟨Y, B, n, W1, W2⟩ := write_both l ss (by omega) hl2 hI.size hS.size
  have HW1 : Hid (∀ a c w', Syms w' a l → Below w.heap.size w w' → Calls Tryd.prog 6 #[.slice a l.length c, .slice a2 ss.length c2] w' fun e w'' => WEnds Y B n (checkE l ss) w' e w'') :=
    ⟨fun a c w' h hb => W1 a c a2 c2 w' h (hS.strs.below hb (Nat.le_refl _)) (hf.bel hb hf.z)⟩
  have HW2 : Hid (∀ w', Below w.heap.size w w' → Calls Tryd.prog 7 #[.slice ao l.length c, .slice a2 ss.length c2] w' fun e w'' => WEnds Y B n (checkE l ss) w' e w'') :=
    ⟨fun w' hb => W2 ao c a2 c2 w' (hI.syms.below hb (Nat.le_refl _)) (hS.strs.below hb (Nat.le_refl _))⟩
  have HC1 : Hid (∀ w', Below w.heap.size w w' → Calls Tryd.prog 9 #[.slice ao l.length c, .slice a2 ss.length c2] w' fun e w'' => e = .returned (.int .i64 (checkE l ss)) ∧ Below w'.heap.size w' w'') :=
    ⟨fun w' hb => check_any ao a2 c c2 l ss w' (by omega) hl2 (hI.syms.below hb (Nat.le_refl _)) (hS.strs.below hb (Nat.le_refl _)) hI.size hS.size⟩
  have HC2 : Hid (∀ w', Below w.heap.size w w' → Calls Tryd.prog 10 #[.slice ao l.length c, .slice a2 ss.length c2] w' fun e w'' => e = .returned (.int .i64 (checkE l ss)) ∧ Below w'.heap.size w' w'') :=
    ⟨fun w' hb => rcheck_any ao a2 c c2 l ss w' (by omega) hl2 (hI.syms.below hb (Nat.le_refl _)) (hS.strs.below hb (Nat.le_refl _)) hI.size hS.size⟩
  have HY : Hid (∀ a1 c1 w', Syms w' a1 l → Below w.heap.size w w' → Calls Tryd.prog 11 #[.slice a1 l.length c1, .slice ao l.length c] w' fun e w'' => e = .returned (.bool true) ∧ Below w'.heap.size w' w'') :=
    ⟨fun a1 c1 w' h hb => symbols_any a1 ao c1 c l w' (by omega) h (hI.syms.below hb (Nat.le_refl _))⟩
  generalize checkE l ss = x at *
  have hxx : (x == x) = true := by simp
  have hnn : (n == n) = true := by simp
  have hyy : ((strOfNums Y).toList == (strOfNums Y).toList) = true := by simp
  have hbb : ((strOfNums B).toList == (strOfNums B).toList) = true := by simp
  have B0 : Below w.heap.size w (w.alloc (.cells #[] 43)) := (Below.refl _ _).alloc (Nat.le_refl _) _
  have HST : Hid _ := ⟨hI.syms.below B0 (Nat.le_refl _)⟩
  have HN : Hid _ := ⟨hI.nil⟩
  have HB0 : Hid _ := ⟨B0⟩
  clear W1 W2 hI hS hf B0
  go_enter Tryd.func3, Tryd.ntmps3
  go_wp2_with (first
    | (at_builtin; refine append_syms _ rfl _ _ rfl w.heap.size _ [] rfl (owny_empty w) ao c l rfl HST.out HN.out (by simpa using hl) (by simp) ?_; intro vx w1 hx1 hb1; obtain ⟨ax, cx, hvx, _, _, hsx, _⟩ := OwnY.any (l := l) (by simpa using hx1); subst hvx; have B1 := HB0.out.trans hb1)
    | (go_at_call 6; (with_reducible refine (HW1.out _ _ _ hsx B1).mono ?_); rintro e w2 ⟨vy2, vs2, rfl, hy2, hs2, hb2⟩; have B2 := B1.trans (hb2.mono B1.size))
    | (go_at_call 7; (with_reducible refine (HW2.out _ B2).mono ?_); rintro e w3 ⟨vy3, vs3, rfl, hy3, hs3, hb3⟩; have B3 := B2.trans (hb3.mono B2.size))
    | (go_at_call 9; (with_reducible refine (HC1.out _ B3).mono ?_); rintro e w4 ⟨rfl, hb4⟩; have B4 := B3.trans (hb4.mono B3.size))
    | (go_at_call 10; (with_reducible refine (HC2.out _ B4).mono ?_); rintro e w5 ⟨rfl, hb5⟩; have B5 := B4.trans (hb5.mono B4.size); have b35 := hb4.trans (hb5.mono hb4.size); have b25 := hb3.trans (b35.mono hb3.size); have k1 := hy2 _ b25; have k2 := hs2 _ b25; have k3 := hy3 _ b35; have k4 := hs3 _ b35; have X5 := (hsx.below hb2 (Nat.le_refl _)).below b25 (Nat.le_refl _))
    | (go_at_call 8; refine (num_any _ _).mono ?_; rintro e w' ⟨rfl, hw'⟩; subst w')
    | (go_at_call 11; (with_reducible refine (HY.out _ _ _ X5 B5).mono ?_); rintro e w6 ⟨rfl, hb6⟩; have B6 := B5.trans (hb6.mono B5.size))
    | (go_at_call 12; refine (live_any _).mono ?_; rintro e w7 ⟨rfl, hb7⟩))
  go_ret
  exact ⟨rfl, B6.trans (hb7.mono B6.size)⟩
end Go.Proofs.YtpdcbokcoaienaaDoor

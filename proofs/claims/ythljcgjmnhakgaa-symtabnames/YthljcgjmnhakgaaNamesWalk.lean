/- The walk of SymtabNames. -/
import Derived.Test.YthljcgjmnhakgaaSRStr
import Derived.Test.YthljcgjmnhakgaaSRAt
namespace Go.Proofs.Ythljcgjmnhakgaa
open Go.ChangeShapes Go.WideShapes Go.ChangeAt Go.RowKit
set_option linter.unusedVariables false
set_option linter.unusedSimpArgs false

/-- The bytes of an answer, as a list; the places; the error. -/
def mB (m : Except Int (List Int × List Int)) : List Int := match m with | .error _ => [] | .ok p => p.1
def mA (m : Except Int (List Int × List Int)) : List Int := match m with | .error _ => [] | .ok p => p.2
def mE (m : Except Int (List Int × List Int)) : Int := match m with | .error x => x | .ok _ => 0

/-- A row of bytes of the call's own, or nil: where it lies. -/
structure BR (w : World) (base : Nat) (ab : Option Addr) (cb g : Nat) (xs : List Int) : Prop where
  row : Row w ab xs.length (gd xs)
  nil : ab = none → xs.length = 0
  soft : xs.length = 0 ∨ (ab = some ⟨g, 0, none⟩ ∧ Soft w g xs.length ∧ base ≤ g ∧ g < w.heap.size)

theorem SEnds.open {m : Except Int (List Int × List Int)} {w w' : World} {e : Ending} (h : SEnds m w e w') (hby : ∀ x ∈ mB m, 0 ≤ x ∧ x < 256) :
    ∃ ab cb aa ca g, e = .returned (.tuple #[.slice ab (mB m).length cb, .slice aa (mA m).length ca, .int .i64 (mE m)]) ∧ BR w' w.heap.size ab cb g (mB m) ∧ Ints w' aa (mA m) ∧ Below w.heap.size w w' := by
  cases m with
  | error x => exact ⟨none, 0, none, 0, 0, h.1, ⟨.inl rfl, fun _ => rfl, .inl rfl⟩, .inl rfl, h.2⟩
  | ok p =>
    obtain ⟨vb, va, he, ob, oa, hb⟩ := h
    obtain ⟨aa, ca, rfl, hI⟩ := oa.ints
    by_cases h0 : 1 ≤ p.1.length
    · obtain ⟨g, cb, rfl, hg1, hg2, hc⟩ := ob.lies h0
      exact ⟨_, cb, aa, ca, g, he, ⟨.inr ⟨g, 0, rfl, fun i hi => by rw [Nat.zero_add]; exact hc i hi⟩, (fun e => by cases e), .inr ⟨rfl, ob.soft hby, hg1, hg2⟩⟩, hI, hb⟩
    · have h0' : p.1.length = 0 := by omega
      have : ∃ ab cb, vb = .slice ab p.1.length cb := by
        rcases ob.2 with ⟨hv, hn⟩ | ⟨g, cap, cur, hv, _⟩
        · exact ⟨none, 0, by rw [hv, h0']⟩
        · exact ⟨_, cap, hv⟩
      obtain ⟨ab, cb, rfl⟩ := this
      exact ⟨ab, cb, aa, ca, 0, he, ⟨.inl h0', fun _ => h0', .inl h0'⟩, hI, hb⟩

theorem BR.below {w w' : World} {base cb g : Nat} {ab : Option Addr} {xs : List Int} (h : BR w base ab cb g xs) {S : Nat → Prop} (ht : Turn S w w') (hs : ∀ k, base ≤ k → ¬ S k) : BR w' base ab cb g xs := by
  have hblk : ∀ k, base ≤ k → k < w.heap.size → w'.heap[k]? = w.heap[k]? := fun k h1 h2 => ht.block k h2 (hs k h1)
  refine ⟨?_, h.nil, ?_⟩
  · rcases h.soft with h0 | ⟨rfl, _, h1, h2⟩
    · exact .inl h0
    · rcases h.row with h0 | ⟨b, off, e, hc⟩
      · exact .inl h0
      · cases e
        refine .inr ⟨g, 0, rfl, fun i hi => ?_⟩
        rw [← hc i hi]
        exact World.cell?_of_block (hblk g h1 h2)
  · rcases h.soft with h0 | ⟨rfl, ⟨cur, hc, hz⟩, h1, h2⟩
    · exact .inl h0
    · exact .inr ⟨rfl, ⟨cur, by rw [hblk g h1 h2]; exact hc, hz⟩, h1, Nat.lt_of_lt_of_le h2 ht.size⟩

theorem mB_byte (l : List ByteArray) : ∀ x ∈ mB (strM l), 0 ≤ x ∧ x < 256 := by
  cases h : strM l with
  | error x => intro y hy; cases hy
  | ok p =>
    obtain ⟨_, _, T, hT, g, _⟩ := strM_ok (b := p.1) (A := p.2) h
    intro y hy
    have : y ∈ p.1 := hy
    rw [← hT] at this
    exact g.byte y this
theorem mB_len (l : List ByteArray) : (mB (strM l)).length ≤ 1048576 := by
  cases h : strM l with
  | error x => exact Nat.zero_le _
  | ok p =>
    obtain ⟨_, _, T, hT, g, hm⟩ := strM_ok (b := p.1) (A := p.2) h
    rw [hT] at hm
    exact hm
theorem mA_len (l : List ByteArray) : (mA (strM l)).length ≤ l.length := by
  cases h : strM l with
  | error x => exact Nat.zero_le _
  | ok p =>
    obtain ⟨_, _, T, hT, g, hm⟩ := strM_ok (b := p.1) (A := p.2) h
    have := g.len
    show p.2.length ≤ _
    omega

/-- All blocks are as they were. -/
def Same (w w' : World) : Prop := Turn (fun _ => False) w w'
theorem Same.cell {w w' : World} (h : Same w w') {p : Addr} {v : Value} (hp : w.cell? p = some v) : w'.cell? p = some v :=
  (World.cell?_of_block (h.block p.block (World.block_lt_of_cell? w p hp) (fun h => h))).trans hp
theorem Same.drew {w w' : World} (h : Same w w') (n : Nat) : Same w (w'.drewN n) := Turn.trans h (Turn.of_below (below_drewN (Below.refl _ _) n) _)
theorem Same.bel {w w1 w2 : World} (h : Same w1 w2) {B : Nat} (hb : Below B w w1) (hB : B ≤ w1.heap.size) : Below B w w2 := hb.trans (h.below hB (fun _ e => e.elim))

theorem owns_empty (w : World) : OwnS (w.alloc (.cells #[] 9)) w.heap.size (.slice (some ⟨w.heap.size, 0, none⟩) 0 0) [] := by
  refine ⟨rfl, .inr ⟨w.heap.size, 0, #[], rfl, Nat.le_refl _, ?_, Nat.le_refl _, by unfold maxLen; omega, rfl, rfl⟩⟩
  show (w.heap.push _)[w.heap.size]? = _
  simp

theorem BR.conv {w : World} {base cb g : Nat} {ab : Option Addr} {xs : List Int} (h : BR w base ab cb g xs) : Sem.run Try.prog (convert 23 9 (.slice ab xs.length cb)) w = .ok (.string (strOfNums xs)) w := by
  have := conv_row w ab xs.length cb (gd xs) h.row h.nil
  rwa [lst_gd] at this

set_option maxHeartbeats 4000000 in
set_option maxRecDepth 10000 in
theorem symtabNames_walk (ao : Option Addr) (c : Nat) (l : List ByteArray) (ab : Option Addr) (len cap : Nat) (bs : Nat → Int) (t : Int) (w : World) (hI : IsStrs w ao c l) (hl : l.length ≤ 8796093022208) (hB : IsRow w ab len cap bs) (hlen : len ≤ 140737488351232) (ht : (Lit.int .i64 t).wf = true) :
    Calls Try.prog 3 #[.slice ao l.length c, .slice ab len cap, .int .i64 t] w fun e w' => e = .returned (.bool true) ∧ Below w.heap.size w w' := by
  obtain ⟨s0, g0, A1, A2⟩ := at_is len bs t hB.byte hlen
  have HA1 : Hid _ := ⟨A1⟩
  have HA2 : Hid _ := ⟨A2⟩
  have HB : Hid (IsRow w ab len cap bs) := ⟨hB⟩
  have HI : Hid (IsStrs w ao c l) := ⟨hI⟩
  have hby := mB_byte l
  have hbl := mB_len l
  have hal := mA_len l
  have HS1 : Hid (∀ a' c' w', Strs w' a' l → Calls Try.prog 6 #[.slice a' l.length c'] w' fun e w'' => ∃ ab cb aa ca g, e = .returned (.tuple #[.slice ab (mB (strM l)).length cb, .slice aa (mA (strM l)).length ca, .int .i64 (mE (strM l))]) ∧ BR w'' w'.heap.size ab cb g (mB (strM l)) ∧ Ints w'' aa (mA (strM l)) ∧ Below w'.heap.size w' w'') :=
    ⟨fun a' c' w' h => (strings_any a' c' l w' (by omega) h).mono fun e w'' h => h.open hby⟩
  have HS2 : Hid (∀ w', Strs w' ao l → Calls Try.prog 7 #[.slice ao l.length c] w' fun e w'' => ∃ ab cb aa ca g, e = .returned (.tuple #[.slice ab (mB (strM l)).length cb, .slice aa (mA (strM l)).length ca, .int .i64 (mE (strM l))]) ∧ BR w'' w'.heap.size ab cb g (mB (strM l)) ∧ Ints w'' aa (mA (strM l)) ∧ Below w'.heap.size w' w'') :=
    ⟨fun w' h => (rstrings_any ao c l w' hl h hI.size).mono fun e w'' h => h.open hby⟩
  generalize mB (strM l) = B at *
  generalize mA (strM l) = A at *
  generalize mE (strM l) = E at *
  have hee : (E == E) = true := by simp
  have hgg : (g0 == g0) = true := by simp
  have hss : (s0.toList == s0.toList) = true := by simp
  have hbb : ((strOfNums B).toList == (strOfNums B).toList) = true := by simp
  have B0 : Below w.heap.size w (w.alloc (.cells #[] 9)) := (Below.refl _ _).alloc (Nat.le_refl _) _
  have S0 := hI.strs.below B0 (Nat.le_refl _)
  have hnil := hI.nil
  have HN : Hid _ := ⟨hnil⟩
  have HST : Hid _ := ⟨S0⟩
  have tk : True := trivial
  clear A1 A2 hB hI hby ht hnil S0
  go_enter Try.func3, Try.ntmps3
  go_wp2_with (first
    | (at_builtin; refine append_names _ rfl _ _ rfl w.heap.size _ [] rfl (owns_empty w) ao c l rfl HST.out HN.out (by simpa using hl) (by simp) ?_; intro vx w1 hx1 hb1; obtain ⟨ax, cx, hvx, _, _, hsx, _⟩ := OwnS.any (l := l) (by simpa using hx1); subst hvx; have B1 := B0.trans hb1)
    | (go_at_call 6; have _t := tk; refine (HS1.out _ _ _ hsx).mono ?_; rintro e w2 ⟨a2, c2, p2, d2, g2, rfl, hr2, hi2, hb2⟩; have B2 := B1.trans (hb2.mono B1.size); have S2 := HI.out.strs.below B2 (Nat.le_refl _); clear tk _t)
    | (go_at_call 7; refine (HS2.out _ S2).mono ?_; rintro e w3 ⟨a3, c3, p3, d3, g3, rfl, hr3, hi3, hb3⟩; have B3 := B2.trans (hb3.mono B2.size); have k2 := (hr2.below (Turn.of_below hb3 (fun _ => False)) (fun _ _ h => h)).conv; have k3 := hr3.conv)
    | (go_at_call 8; refine (HA1.out _ _ _ (HB.out.row.below B3 (Nat.le_refl _)) HB.out.fit HB.out.top).mono ?_; rintro e w' ⟨rfl, hw'⟩; subst w')
    | (go_at_call 9; refine (HA2.out _ _ _ (HB.out.row.below B3 (Nat.le_refl _)) HB.out.fit HB.out.top).mono ?_; rintro e w' ⟨rfl, hw'⟩; subst w')
    | (go_at_call 10; refine (ints_any _ _ _ _ A _ (by omega) (hi2.below hb3 (Nat.le_refl _)) hi3).mono ?_; rintro e w4 ⟨rfl, hb4⟩; have B4 := B3.trans (hb4.mono B3.size))
    | (go_at_call 11; refine (num_any _ _).mono ?_; rintro e w' ⟨rfl, hw'⟩; subst w'))
  have X4 : Strs w4 ax l := ((hsx.below hb2 (Nat.le_refl _)).below hb3 (Nat.le_refl _)).below hb4 (Nat.le_refl _)
  have L4 : Strs w4 ao l := HI.out.strs.below B4 (Nat.le_refl _)
  have r2 := (hr2.below (Turn.of_below hb3 (fun _ => False)) (fun _ _ h => h)).below (Turn.of_below hb4 (fun _ => False)) (fun _ _ h => h)
  have r3 := hr3.below (Turn.of_below hb4 (fun _ => False)) (fun _ _ h => h)
  have hz2 : B.length = 0 ∨ g2 < w2.heap.size ∧ w1.heap.size ≤ g2 := by
    rcases hr2.soft with h | h
    · exact .inl h
    · exact .inr ⟨h.2.2.2, h.2.2.1⟩
  have hz3 : w2.heap.size ≤ w3.heap.size := hb3.size
  have hz1 : w.heap.size ≤ w1.heap.size := B1.size
  have HX4 : Hid _ := ⟨X4⟩
  have HL4 : Hid _ := ⟨L4⟩
  have R2 : Hid _ := ⟨r2⟩
  have R3 : Hid _ := ⟨r3⟩
  have HB4 : Hid _ := ⟨B4⟩
  clear X4 L4 r2 r3 B0 B1 B2 B3 B4 hb1 hb2 hb3 hb4 hr2 hr3 hi2 hi3 k2 k3 hsx hx1 S2 HA1 HA2 HS2 HST HN
  go_loopw [18] (fun i wr => ∃ k : Nat, k ≤ l.length ∧ i = .int .i64 k ∧ Hid (Same w4 wr)) (fun i _ => l.length - (intOf i).toNat)
  case atStart => exact ⟨0, by omega, rfl, ⟨Turn.refl _ _⟩⟩
  case round =>
    obtain ⟨k, hk, rfl, HW⟩ := hrel
    by_cases hlt : k < l.length
    · obtain ⟨bx, ox, rfl, hcx⟩ : ∃ b off, ax = some ⟨b, off, none⟩ ∧ ∀ i, i < l.length → w4.cell? ⟨b, off + i, none⟩ = some (.string (l.getD i ByteArray.empty)) := by
        rcases HX4.out with h | h
        · subst h; simp at hlt
        · exact h
      obtain ⟨bl, ol, rfl, hcl⟩ : ∃ b off, ao = some ⟨b, off, none⟩ ∧ ∀ i, i < l.length → w4.cell? ⟨b, off + i, none⟩ = some (.string (l.getD i ByteArray.empty)) := by
        rcases HL4.out with h | h
        · subst h; simp at hlt
        · exact h
      have hx := HW.out.cell (hcx k hlt)
      have hy := HW.out.cell (hcl k hlt)
      have hsz : (l.getD k ByteArray.empty).size ≤ 9223372036854775807 := by
        have hg : l.getD k ByteArray.empty = l[k] := by simp [hlt]
        rw [hg]; exact HI.out.size _ (List.getElem_mem hlt)
      generalize l.getD k ByteArray.empty = s at *
      have hs2 : (s.toList == s.toList) = true := by simp
      have hh : (hashB s == hashB s) = true := by simp
      have hg : (gnuB s == gnuB s) = true := by simp
      have i1 : (0 : Int) ≤ (k : Int) := by omega
      have i2 : (k : Int) < (l.length : Int) := by omega
      clear hcx hcl
      go_wp2
      go_quiet (first
        | (go_at_call 12; exact Calls.quiet_of_same (hash_any _ _ hsz))
        | (go_at_call 13; exact Calls.quiet_of_same (rhash_any _ _ hsz))
        | (go_at_call 14; exact Calls.quiet_of_same (gnu_any _ _ hsz))
        | (go_at_call 15; exact Calls.quiet_of_same (rgnu_any _ _ hsz)))
      go_wp2
      go_roundw
      case rel => exact ⟨k + 1, hlt, by go_num, ⟨HW.out.drew _⟩⟩
      case measure => simp [intOf]; omega
    · obtain rfl : k = l.length := by omega
      have q2 := R2.out.below HW.out (fun _ _ h => h)
      have q3 := R3.out.below HW.out (fun _ _ h => h)
      have bq := HW.out.bel HB4.out HB4.out.size
      have C5 := spoil_any a2 B.length c2 g2 wr (by omega) (by
        rcases q2.soft with h | h
        · exact .inl h
        · exact .inr ⟨h.1, h.2.1⟩)
      have HC5 : Hid _ := ⟨C5⟩
      have HQ3 : Hid _ := ⟨q3⟩
      have HBQ : Hid _ := ⟨bq⟩
      clear q2 q3 bq C5
      go_wp2_with (first
        | (go_at_call 16; refine HC5.out.mono ?_; rintro e w5 ⟨rfl, ht5⟩; have B5 : Below w.heap.size w w5 := HBQ.out.trans (ht5.below HBQ.out.size (fun k hk => by rcases hz2 with h | h; (exfalso; omega); omega)); have q5 := HQ3.out.below ht5 (fun k h1 h2 => by rcases hz2 with h | h; (omega); omega); have S5 := HI.out.strs.below B5 (Nat.le_refl _))
        | (go_at_call 6; refine (HS1.out _ _ _ S5).mono ?_; rintro e w6 ⟨a6, c6, p6, d6, g6, rfl, hr6, hi6, hb6⟩; have B6 := B5.trans (hb6.mono B5.size); have k6 := hr6.conv; have k5 := (q5.below (Turn.of_below hb6 (fun _ => False)) (fun _ _ h => h)).conv)
        | (go_at_call 17; refine (live_any _).mono ?_; rintro e w7 ⟨rfl, hb7⟩))
      go_ret
      exact ⟨rfl, B6.trans (hb7.mono B6.size)⟩
end Go.Proofs.Ythljcgjmnhakgaa

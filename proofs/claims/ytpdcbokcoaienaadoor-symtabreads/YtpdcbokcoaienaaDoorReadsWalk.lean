/- The walk of SymtabReads. -/
import Derived.Test.YtpdcbokcoaienaaDoorSReads
namespace Go.Proofs.YtpdcbokcoaienaaDoor
open Go.ChangeShapes Go.WideShapes Go.ChangeAt Go.RowKit
set_option linter.unusedVariables false
set_option linter.unusedSimpArgs false

theorem own_row' {w : World} {base g n cap : Nat} {f : Nat → Int} (h : Own w base (.slice (some ⟨g, 0, none⟩) n cap) (lst f n)) : Row w (some ⟨g, 0, none⟩) n f := by
  by_cases h0 : 1 ≤ n
  · obtain ⟨g', cap', hv, _, _, hc⟩ := h.lies (by rw [lst_len]; exact h0)
    simp only [Value.slice.injEq, Option.some.injEq, Addr.mk.injEq] at hv
    obtain ⟨⟨rfl, _⟩, _⟩ := hv
    refine .inr ⟨g, 0, rfl, fun i hi => ?_⟩
    rw [Nat.zero_add, hc i (by rw [lst_len]; exact hi)]
    have := lst_at f n i hi
    rw [this]
  · exact .inl (by omega)

/-- A row of bytes of the call's own, in block g. -/
structure Cp (w : World) (base g n cap : Nat) (f : Nat → Int) : Prop where
  own : Own w base (.slice (some ⟨g, 0, none⟩) n cap) (lst f n)
  lo : base ≤ g
  hi : g < w.heap.size

theorem Cp.of {w : World} {base g n cap : Nat} {f : Nat → Int} (h : Own w base (.slice (some ⟨g, 0, none⟩) n cap) ([] ++ lst f n)) : Cp w base g n cap f := by
  have h' : Own w base (.slice (some ⟨g, 0, none⟩) n cap) (lst f n) := h
  exact ⟨h', (h'.lt g rfl).1, (h'.lt g rfl).2⟩
theorem Cp.turn {w w' : World} {base g n cap : Nat} {f : Nat → Int} (h : Cp w base g n cap f) {S : Nat → Prop} (ht : Turn S w w') (hs : ¬ S g) : Cp w' base g n cap f :=
  ⟨ht.row h.own (fun k hk e => by cases hk; exact hs e), h.lo, Nat.lt_of_lt_of_le h.hi ht.size⟩
theorem Cp.bel {w w' : World} {base g n cap B : Nat} {f : Nat → Int} (h : Cp w base g n cap f) (hb : Below B w w') (hB : w.heap.size ≤ B) : Cp w' base g n cap f :=
  h.turn (Turn.of_below (hb.mono hB) (fun _ => False)) (fun e => e)
theorem Cp.row {w : World} {base g n cap : Nat} {f : Nat → Int} (h : Cp w base g n cap f) : Row w (some ⟨g, 0, none⟩) n f := own_row' h.own
theorem Cp.soft {w : World} {base g n cap : Nat} {f : Nat → Int} (h : Cp w base g n cap f) (hb : ∀ i, 0 ≤ f i ∧ f i < 256) : n = 0 ∨ ((some ⟨g, 0, none⟩ : Option Addr) = some ⟨g, 0, none⟩ ∧ Soft w g n) :=
  .inr ⟨rfl, h.own.soft (lst_byte _ hb _)⟩

theorem OwnY.syms {w : World} {base : Nat} {ao : Option Addr} {c : Nat} {l : List Sym} (h : OwnY w base (.slice ao l.length c) l) : Syms w ao l := by
  obtain ⟨ao', c', hv, _, _, hs, _⟩ := h.any
  simp only [Value.slice.injEq] at hv
  obtain ⟨rfl, _, rfl⟩ := hv
  exact hs
theorem OwnY.bel {w w' : World} {base B : Nat} {v : Value} {l : List Sym} (h : OwnY w base v l) (hb : Below B w w') (hB : w.heap.size ≤ B) : OwnY w' base v l :=
  (Turn.of_below (hb.mono hB) (fun _ => False)).row h (fun _ _ h => h)

set_option maxHeartbeats 4000000 in
set_option maxRecDepth 10000 in
theorem symtabReads_walk (a1 : Option Addr) (n1 c1 : Nat) (f1 : Nat → Int) (a2 : Option Addr) (n2 c2 : Nat) (f2 : Nat → Int) (first : Int) (a3 : Option Addr) (c3 : Nat) (ss : List ByteArray) (w : World)
    (h1 : IsRow w a1 n1 c1 f1) (hl1 : n1 ≤ 140737488351232) (h2 : IsRow w a2 n2 c2 f2) (hl2 : n2 ≤ 140737488351232) (ht : (Lit.int .i64 first).wf = true) (hS : IsStrs w a3 c3 ss) (hl3 : ss.length ≤ 8796093022208) (hf : Fz w) :
    Calls Tryd.prog 4 #[.slice a1 n1 c1, .slice a2 n2 c2, .int .i64 first, .slice a3 ss.length c3] w fun e w' => e = .returned (.bool true) ∧ Below w.heap.size w w' := by
  obtain ⟨L, E, hL, P1, P2⟩ := reads_any n1 n2 f1 f2 ss first h1.byte h2.byte hl3 hS.size
  have HP1 : Hid _ := ⟨P1⟩
  have HP2 : Hid _ := ⟨P2⟩
  have H1 : Hid _ := ⟨h1⟩
  have H2 : Hid _ := ⟨h2⟩
  have HS : Hid _ := ⟨hS⟩
  have HF : Hid _ := ⟨hf⟩
  have B0 : Below w.heap.size w (w.alloc (.cells #[] 5)) := (Below.refl _ _).alloc (Nat.le_refl _) _
  have hee : (E != E) = false := by simp
  have hs1 : ((strOfNums (lst f1 n1)).toList != (strOfNums (lst f1 n1)).toList) = false := by simp
  have hs2 : ((strOfNums (lst f2 n2)).toList != (strOfNums (lst f2 n2)).toList) = false := by simp
  have HY : Hid (∀ b1 d1 b2 d2 W, Syms W b1 L → Syms W b2 L → Calls Tryd.prog 11 #[.slice b1 L.length d1, .slice b2 L.length d2] W fun e w'' => e = .returned (.bool true) ∧ Below W.heap.size W w'') :=
    ⟨fun b1 d1 b2 d2 W x y => symbols_any b1 b2 d1 d2 L W (by omega) x y⟩
  have tk : True := trivial
  have tk2 : True := trivial
  have tk3 : True := trivial
  clear P1 P2 h1 h2 hS hf ht
  go_enter Tryd.func4, Tryd.ntmps4
  go_wp2_with (first
    | (at_builtin; have _t := tk; refine append_row _ rfl _ _ rfl w.heap.size w.heap.size 0 0 [] rfl (Own.empty w w.heap.size (Nat.le_refl _)) a1 n1 c1 f1 rfl (H1.out.row.below B0 (Nat.le_refl _)) H1.out.nil n1 (by omega) (by simp; omega) (by simp) ?_; intro g1 cx w1 o1 hc1 hd1 hb1; have B1 := B0.trans hb1; have C1 := Cp.of o1; clear tk _t o1 hb1)
    | (at_builtin; refine append_row _ rfl _ _ rfl w1.heap.size w1.heap.size 0 0 [] rfl (Own.empty w1 w1.heap.size (Nat.le_refl _)) a2 n2 c2 f2 rfl ((H2.out.row.below B1 (Nat.le_refl _)).alloc _) H2.out.nil n2 (by omega) (by simp; omega) (by simp) ?_; intro g2 cy w2 o2 hc2 hd2 hb2; have b2 : Below w1.heap.size w1 w2 := ((Below.refl _ _).alloc (Nat.le_refl _) _).trans hb2; have B2 := B1.trans (b2.mono B1.size); have C2 := Cp.of o2; have C12 := C1.bel b2 (Nat.le_refl _); clear o2 hb2)
    | (go_at_call 13; (with_reducible refine (HP1.out _ _ _ _ _ _ _ C12.row (fun e => by cases e) C2.row (fun e => by cases e) hc2 hd2 (HS.out.strs.below B2 (Nat.le_refl _)) (HF.out.bel B2 HF.out.z)).mono ?_); rintro e w3 ⟨ao, ca, rfl, oa, hb3⟩; have B3 := B2.trans (hb3.mono B2.size))
    | (go_at_call 14; (with_reducible refine (HP2.out _ _ _ _ _ _ _ (H1.out.row.below B3 (Nat.le_refl _)) (fun e => (H1.out.nil e).1) (H2.out.row.below B3 (Nat.le_refl _)) (fun e => (H2.out.nil e).1) H2.out.fit H2.out.top (HS.out.strs.below B3 (Nat.le_refl _))).mono ?_); rintro e w4 ⟨bo, cb, rfl, ob, hb4⟩; have B4 := B3.trans (hb4.mono B3.size))
    | (go_at_call 11; have _t := tk2; (with_reducible refine (HY.out _ _ _ _ _ (oa.bel hb4 (Nat.le_refl _)).syms ob.syms).mono ?_); rintro e w5 ⟨rfl, hb5⟩; have B5 := B4.trans (hb5.mono B4.size); have b25 := hb3.trans ((hb4.trans (hb5.mono hb4.size)).mono hb3.size); have X1 := C12.bel b25 (Nat.le_refl _); have X2 := C2.bel b25 (Nat.le_refl _); have k1 := conv_row _ _ _ cx _ X1.row (fun e => by cases e); have k2 := conv_row _ _ _ cy _ X2.row (fun e => by cases e); have k3 := conv_row _ _ _ c1 _ (H1.out.row.below B5 (Nat.le_refl _)) (fun e => (H1.out.nil e).1); have k4 := conv_row _ _ _ c2 _ (H2.out.row.below B5 (Nat.le_refl _)) (fun e => (H2.out.nil e).1); have A5 := (oa.bel hb4 (Nat.le_refl _)).bel hb5 (Nat.le_refl _); have D5 := ob.bel hb5 (Nat.le_refl _); clear tk2 _t)
    | (go_at_call 8; refine (num_any _ _).mono ?_; rintro e w' ⟨rfl, hw'⟩; subst w')
    | (go_at_call 15; have _t := tk3; (with_reducible refine (spoil_any _ _ _ g1 _ (by omega) (X1.soft H1.out.byte)).mono ?_); rintro e w6 ⟨rfl, ht6⟩; have n12 : ¬ (g2 = g1 ∧ 0 < n1) := (by have := C1.hi; have := C2.lo; omega); have Y2 := X2.turn ht6 n12; have B6 : Below w.heap.size w w6 := B5.trans (ht6.below B5.size (fun k hk => by have := C1.lo; omega)); have A6 := ht6.row A5 (fun k hk e => by have := (A5.lt k hk).1; have := C1.hi; have := b2.size; omega); have D6 := ht6.row D5 (fun k hk e => by have := (D5.lt k hk).1; have := C1.hi; have := b2.size; have := hb3.size; omega); clear tk3 _t)
    | (go_at_call 15; (with_reducible refine (spoil_any _ _ _ g2 _ (by omega) (Y2.soft H2.out.byte)).mono ?_); rintro e w7 ⟨rfl, ht7⟩; have B7 : Below w.heap.size w w7 := B6.trans (ht7.below B6.size (fun k hk => by have := C2.lo; have := B1.size; omega)); have A7 : OwnY w7 w2.heap.size (.slice ao L.length ca) L := ht7.row A6 (fun k hk e => by have := (A5.lt k hk).1; have := C2.hi; omega); have D7 : OwnY w7 w3.heap.size (.slice bo L.length cb) L := ht7.row D6 (fun k hk e => by have := (D5.lt k hk).1; have := C2.hi; have := hb3.size; omega))
    | (go_at_call 11; (with_reducible refine (HY.out _ _ _ _ _ A7.syms D7.syms).mono ?_); rintro e w8 ⟨rfl, hb8⟩; have B8 := B7.trans (hb8.mono B7.size))
    | (go_at_call 12; refine (live_any _).mono ?_; rintro e w9 ⟨rfl, hb9⟩))
  go_ret
  exact ⟨rfl, B8.trans (hb9.mono B8.size)⟩
end Go.Proofs.YtpdcbokcoaienaaDoor

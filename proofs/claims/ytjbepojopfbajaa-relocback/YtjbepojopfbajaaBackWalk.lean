/- RelocBack: the law's walk. -/
import Derived.Test.YtjbepojopfbajaaVRow
import Derived.Test.YtjbepojopfbajaaVLive
import Derived.Test.YtjbepojopfbajaaVOpen
namespace Go.Proofs.Ytjbepojopfbajaa
open Go.ChangeShapes Go.WideShapes Go.ChangeAt Go.RowKit
set_option linter.unusedVariables false
set_option linter.unusedSimpArgs false

theorem bal7 {a w : World} (h : Below a.heap.size a w) (o : Obj) : Below a.heap.size a (w.alloc o) := h.alloc h.size o
theorem btr7 {a w w' : World} (h : Below a.heap.size a w) (h' : Below w.heap.size w w') : Below a.heap.size a w' := h.trans (h'.mono h.size)
theorem Own.drew {w : World} {b : Nat} {v : Value} {xs : List Int} (h : Own w b v xs) : Own w.drew b v xs := h
theorem low7 {w3 W : World} (h : Below w3.heap.size w3 W) : w3.heap.size ≤ W.heap.size := h.size
/-- A copy of bytes, in a region that draws. -/
theorem step_append_new {w : World} {ops : Array Oper} {o : Oper} {a : Act} {K : Act → World → Prop} {Q : Exit → Act → World → Prop} {E : Prop} (hgd : o.guard = none) (s x : Operand) (t : TypeId)
    (ho : o.op = .call { callee := .builtin .append, args := #[s, x], argTypes := #[t, t] }) (ht : Try.prog.underlying t = some (.slice 5)) (base : Nat) (v : Value) (hs : a.eval s = v) (hown : Own w base v [])
    (ao : Option Addr) (m c : Nat) (bs : Nat → Int) (hx : a.eval x = .slice ao m c) (hr : Row w ao m bs) (hz : ao = none → m = 0) (hn : m ≤ 140737488355328) (hbase : base ≤ w.heap.size)
    (h : ∀ va vc w', Own w' base (.slice va m vc) (lst bs m) → Below base w w' → K (a.put o.dst (.slice va m vc)) w') :
    if Region.wanted o (yielded ops a.tmps) = true then Oper.wp Try.prog o a w K Q else E := by
  refine step_append_row hgd s x t ho ht base v [] hs hown ao m c bs hx hr hz (by simpa using hn) hbase ?_
  intro va vc w' h1 h2
  simp only [List.length_nil, Nat.zero_add, List.nil_append] at h1 ⊢
  exact h va vc w' h1 h2
/-- What is known behind Apply. -/
def ApV (bs : Nat → Int) (n : Nat) (at' t : Int) (p : Pl) (wx : World) (ra : Option Addr) (rn rc : Nat) (E : Int) : Prop :=
  (E ≠ 0 ∧ rn = 0) ∨ (E = 0 ∧ rn = n ∧ ∃ a s base : Nat, at' = a ∧ (wkM t).sz = s ∧ wkE t = 0 ∧ valE t p = 0 ∧ a + s ≤ n ∧ n ≤ 1048576 ∧ (s = 8 ∨ s = 4) ∧ gval (putB bs (valM t p) a s) a s (t != 10) = valM t p ∧ Own wx base (.slice ra n rc) (lst (putB bs (valM t p) a s) n))
set_option maxHeartbeats 1000000 in
set_option maxRecDepth 20000 in
theorem relocBack_walk (ao : Option Addr) (n cap : Nat) (bs : Nat → Int) (at' t : Int) (p : Pl) (w : World) (hI : IsRow w ao n cap bs) (hl : n ≤ 140737488351232) (wa : (Lit.int .i64 at').wf = true) (wt : (Lit.int .i64 t).wf = true) (wp : PlW p) :
    Calls Try.prog 6 #[.slice ao n cap, .int .i64 at', .int .i64 t, p.val] w fun e w' => e = .returned (.bool true) ∧ Below w.heap.size w w' := by
  have hat := i64_bounds wa
  have HI : Hid _ := ⟨hI⟩
  have hz := hI.nil
  have HZ : Hid (ao = none → n = 0) := ⟨fun e => (hz e).1⟩
  have HAP : Hid (∀ va vc W, IsRow W va n vc bs → Calls Try.prog 23 #[.slice va n vc, .int .i64 at', .int .i64 t, p.val] W fun e w' => ∃ ra rn rc E, e = .returned (.tuple #[.slice ra rn rc, .int .i64 E]) ∧ ApV bs n at' t p w' ra rn rc E ∧ Below W.heap.size W w') := ⟨fun va vc W h => by
    refine (apply_any va n vc bs at' t p W h (by omega) hat).mono ?_
    rintro e w' (⟨h1, rfl, h2⟩ | ⟨h1, a, s, h2, h3, h4, h5, h6, h7, h8, h9, g, c, rfl, h10, h11⟩)
    · exact ⟨none, 0, 0, _, rfl, .inl ⟨h1, rfl⟩, h2⟩
    · exact ⟨_, n, c, 0, rfl, .inr ⟨rfl, rfl, a, s, _, h2, h3, h4, h5, h6, h7, h8, h9, h10⟩, h11⟩⟩
  have HV : Hid (∀ W, _) := ⟨fun W => value_any t p W⟩
  have HS : Hid (∀ W, _) := ⟨fun W => size_any t W⟩
  have HL : Hid (∀ W, _) := ⟨fun W => liveV_any W⟩
  have HN : Hid (∀ n W, _) := ⟨fun n W => numV_any n W⟩
  have HY : Hid (∀ i, 0 ≤ bs i ∧ bs i < 256) := ⟨hI.byte⟩
  clear hI wa wt wp hz
  obtain ⟨s, a, pp, g, tt⟩ := p
  obtain ⟨w0, hw0⟩ : ∃ w0, w.alloc (.cells #[.int .i64 s, .int .i64 a, .int .i64 pp, .int .i64 g, .int .i64 tt] 23) = w0 := ⟨_, rfl⟩
  have HB0 : Hid (Below w.heap.size w w0) := ⟨by rw [← hw0]; exact vb_alloc (Below.refl _ _) _⟩
  have HP0 : Hid (VB w0 w.heap.size 23 #[.int .i64 s, .int .i64 a, .int .i64 pp, .int .i64 g, .int .i64 tt]) := ⟨by rw [← hw0]; exact VB.new _ _ _⟩
  dsimp only [Pl.val] at *
  go_enter Try.func6, Try.ntmps6
  go_upto_region 1 with (fail)
  clear hw0
  obtain ⟨P, hP⟩ : ∃ P, w.heap.size = P := ⟨_, rfl⟩
  rw [hP] at HP0 ⊢
  have HPP : Hid _ := ⟨hP⟩
  clear hP
  have p0 : w0.drew.cell? ⟨P, 0, none⟩ = some (.int .i64 s) := HP0.out.cell 0 rfl
  have p1 : w0.drew.cell? ⟨P, 1, none⟩ = some (.int .i64 a) := HP0.out.cell 1 rfl
  have p2 : w0.drew.cell? ⟨P, 2, none⟩ = some (.int .i64 pp) := HP0.out.cell 2 rfl
  have p3 : w0.drew.cell? ⟨P, 3, none⟩ = some (.int .i64 g) := HP0.out.cell 3 rfl
  have p4 : w0.drew.cell? ⟨P, 4, none⟩ = some (.int .i64 tt) := HP0.out.cell 4 rfl
  have HSK : Hid (∀ W, Below w0.heap.size w0 W → W.cell? ⟨P, 0, none⟩ = some (.int .i64 s) ∧ W.cell? ⟨P, 1, none⟩ = some (.int .i64 a) ∧ W.cell? ⟨P, 2, none⟩ = some (.int .i64 pp) ∧ W.cell? ⟨P, 3, none⟩ = some (.int .i64 g) ∧ W.cell? ⟨P, 4, none⟩ = some (.int .i64 tt)) := ⟨fun W h => by
    have h2 := HP0.out.bel h HP0.out.lt
    exact ⟨h2.cell 0 rfl, h2.cell 1 rfl, h2.cell 2 rfl, h2.cell 3 rfl, h2.cell 4 rfl⟩⟩
  have HRO : Hid (∀ W, Below w0.heap.size w0 W → Row W ao n bs) := ⟨fun W h => HI.out.row.below (HB0.out.trans (h.mono HB0.out.size)) (Nat.le_refl _)⟩
  go_cut [9, 10] from 18 to 27 (fun s9 s10 wx => ∃ (ra : Option Addr) (rn rc : Nat) (E : Int), s9 = .slice ra rn rc ∧ s10 = .int .i64 E ∧ Hid (ApV bs n at' t ⟨s, a, pp, g, tt⟩ wx ra rn rc E ∧ Below w0.heap.size w0 wx))
  case first =>
    go_region_held3 (fun x => x.cell? ⟨P, 0, none⟩ = some (.int .i64 s) ∧ x.cell? ⟨P, 1, none⟩ = some (.int .i64 a) ∧ x.cell? ⟨P, 2, none⟩ = some (.int .i64 pp) ∧ x.cell? ⟨P, 3, none⟩ = some (.int .i64 g) ∧ x.cell? ⟨P, 4, none⟩ = some (.int .i64 tt))
      (first | (with_reducible assumption) | (refine HSK.out _ ?_; (focus ((repeat (first | exact HB7.out | exact HB6.out | exact Below.refl _ _ | refine Below.drew ?_ | refine bal7 ?_ _)); done))))
      (first
        | (refine step_append_new (by rfl) _ _ _ (by rfl) (by kernel_rfl) w0.heap.size _ (by rfl) ?_ ao n cap bs (by rfl) (HRO.out _ ?_) HZ.out ?_ ?_ ?_; (focus (first | exact Own.empty _ _ (by simp [World.drew]) | exact (Own.empty _ _ (by simp)).drew | exact Own.empty _ _ (low7 (by repeat (first | exact Below.refl _ _ | refine Below.drew ?_ | refine bal7 ?_ _))) | exact (Own.empty _ _ (low7 (by repeat (first | exact Below.refl _ _ | refine Below.drew ?_ | refine bal7 ?_ _)))).drew)); (focus ((repeat (first | exact Below.refl _ _ | refine Below.drew ?_ | refine bal7 ?_ _)); done)); (focus (omega)); (focus (refine low7 ?_; (repeat (first | exact Below.refl _ _ | refine Below.drew ?_ | refine bal7 ?_ _)); done)); intro va6 vc6 w6 ho6 hb6; have HB6 : Hid (Below w0.heap.size w0 w6) := (by refine ⟨Below.trans ?_ hb6⟩; (repeat (first | exact Below.refl _ _ | refine Below.drew ?_ | refine bal7 ?_ _)); done); have HR6 : Hid (∀ W, Below w6.heap.size w6 W → IsRow W va6 n vc6 bs) := ⟨fun W hW => by have h8 := own_isRow ho6 HY.out; exact ⟨h8.row.below hW (Nat.le_refl _), h8.byte, h8.fit, h8.top, h8.nil⟩⟩; clear ho6 hb6)
        | (go_at_call 23; (with_reducible refine (HAP.out _ _ _ (HR6.out _ ?_)).mono ?_); (focus ((repeat (first | exact Below.refl _ _ | refine Below.drew ?_ | refine bal7 ?_ _)); done)); rintro e w7 ⟨ra, rn, rc, E, rfl, hv7, hb7⟩; have HB7 : Hid (Below w0.heap.size w0 w7) := (by refine ⟨btr7 ?_ hb7⟩; (repeat (first | exact HB6.out | exact Below.refl _ _ | refine Below.drew ?_ | refine bal7 ?_ _)); done); have HV7 : Hid _ := ⟨hv7⟩; clear hv7 hb7))
    all_goals first
      | (go_wp2; go_meet; exact ⟨_, _, _, _, rfl, rfl, ⟨HV7.out, HB7.out⟩⟩)
      | trace_state
  case rest =>
    obtain ⟨ra, rn, rc, E, hs9, hs10, HC⟩ := hcut
    subst hs9 hs10
    have HBC : Hid (Below w.heap.size w wc) := ⟨HB0.out.trans (HC.out.2.mono HB0.out.size)⟩
    rcases HC.out.1 with ⟨hE, rfl⟩ | ⟨rfl, rfl, a0, sz, base, rfl, hsz, hwe, hve, has, hn, hs84, hgv, hown⟩
    · have d1 : (E != 0) = true := by simpa using hE
      clear HC
      go_wp2_with (first
        | (go_at_call 17; refine (HN.out _ _).mono ?_; rintro e wq ⟨rfl, hwq⟩; subst wq)
        | (go_at_call 22; refine (HL.out _).mono ?_; rintro e w8 ⟨rfl, hb8⟩; have HB8 : Hid _ := ⟨hb8⟩; clear hb8))
      go_ret
      exact ⟨rfl, HBC.out.trans (HB8.out.mono HBC.out.size)⟩
    · rw [hsz, hwe] at HS
      rw [hve] at HV
      have HSK2 : Hid (∀ W, Below wc.heap.size wc W → _) := ⟨fun W h => HSK.out W (btr7 HC.out.2 h)⟩
      have HRO2 : Hid (∀ W, Below wc.heap.size wc W → Row W ao rn bs) := ⟨fun W h => HRO.out W (btr7 HC.out.2 h)⟩
      have HPB : Hid (∀ i, 0 ≤ putB bs (valM t ⟨s, a, pp, g, tt⟩) a0 sz i ∧ putB bs (valM t ⟨s, a, pp, g, tt⟩) a0 sz i < 256) := ⟨putB_byte HY.out _ _ _⟩
      have HRA : Hid (∀ W, Below wc.heap.size wc W → Row W ra rn (putB bs (valM t ⟨s, a, pp, g, tt⟩) a0 sz)) := ⟨fun W h => (own_isRow hown HPB.out).row.below h (Nat.le_refl _)⟩
      have HEQ : Hid (∀ i, ¬ (a0 ≤ i ∧ i < a0 + sz) → putB bs (valM t ⟨s, a, pp, g, tt⟩) a0 sz i = bs i) := ⟨fun i h => if_neg h⟩
      obtain ⟨sg, hsg⟩ : ∃ sg, (t != 10) = sg := ⟨_, rfl⟩
      rw [hsg] at hgv
      have HGT : Hid (∀ W, Below wc.heap.size wc W → Calls Try.prog 27 #[.slice ra rn rc, .int .i64 a0, .int .i64 sz, .bool sg] W fun e w' => e = .returned (.tuple #[.int .i64 (valM t ⟨s, a, pp, g, tt⟩), .int .i64 0]) ∧ Below W.heap.size W w') := ⟨fun W h => by
        have := get_ok ra rn rc a0 sz sg _ W (HRA.out W h) HPB.out (by omega) (by omega) has
        rw [hgv] at this
        exact this⟩
      clear hown hgv HC HSK HRO hsz hwe hve p0 p1 p2 p3 p4 HP0 HI HB0 hat
      generalize putB bs (valM t ⟨s, a, pp, g, tt⟩) a0 sz = bs2 at *
      generalize valM t ⟨s, a, pp, g, tt⟩ = v at *
      go_upto_region 5 with (first
        | (go_at_call 17; refine (HN.out _ _).mono ?_; rintro e wq ⟨rfl, hwq⟩; subst wq)
        | (go_at_call 8; refine (HS.out _).mono ?_; rintro e w4 ⟨rfl, hb4⟩; have HB4 : Hid (Below wc.heap.size wc w4) := ⟨hb4⟩; clear hb4))
      obtain ⟨p0, p1, p2, p3, p4⟩ := HSK2.out w4 HB4.out
      go_upto_region 12 with (first
        | (go_at_call 17; refine (HN.out _ _).mono ?_; rintro e wq ⟨rfl, hwq⟩; subst wq)
        | (go_at_call 10; refine (HV.out _).mono ?_; rintro e w5 ⟨rfl, hb5⟩; have HB5 : Hid (Below wc.heap.size wc w5) := ⟨btr7 HB4.out hb5⟩; clear hb5)
        | (go_at_call 27; refine (HGT.out _ HB5.out).mono ?_; rintro e w6 ⟨rfl, hb6⟩; have HB6 : Hid (Below wc.heap.size wc w6) := ⟨btr7 HB5.out hb6⟩; clear hb6))
      clear p0 p1 p2 p3 p4 HB4 HB5 HGT HV HS
      go_loopw [17] (fun x wr => ∃ i : Nat, i ≤ rn ∧ x = .int .i64 i ∧ Hid (Below wc.heap.size wc wr)) (fun x _ => rn - (intOf x).toNat)
      case atStart => exact ⟨0, by omega, rfl, HB6⟩
      case round =>
        clear HB6
        obtain ⟨i, hi, rfl, HW⟩ := hrel
        by_cases hlt : i < rn
        · obtain ⟨b1, o1, rfl, h1⟩ : ∃ b off, ra = some ⟨b, off, none⟩ ∧ ∀ i, i < rn → wr.cell? ⟨b, off + i, none⟩ = some (.int .u8 (bs2 i)) := by
            rcases HRA.out wr HW.out with h | h
            · omega
            · exact h
          obtain ⟨b2, o2, rfl, h2⟩ : ∃ b off, ao = some ⟨b, off, none⟩ ∧ ∀ i, i < rn → wr.cell? ⟨b, off + i, none⟩ = some (.int .u8 (bs i)) := by
            rcases HRO2.out wr HW.out with h | h
            · omega
            · exact h
          have x1 := h1 i hlt
          have x2 := h2 i hlt
          have HE2 : Hid _ := ⟨HEQ.out i⟩
          clear h1 h2
          generalize bs2 i = y1 at *
          generalize bs i = y2 at *
          by_cases hl1 : i < a0
          · obtain rfl := HE2.out (by omega)
            have d3 : (y1 != y1) = false := by simp
            go_upto_region 14 with (fail)
            go_quiet (fail)
            go_wp2
            go_roundw
            case rel => exact ⟨i + 1, hlt, by go_num, ⟨Below.trans HW.out ⟨rfl, rfl, rfl, Nat.le_refl _, fun _ _ => rfl⟩⟩⟩
            case measure => simp [intOf]; omega
          · by_cases hl2 : i < a0 + sz
            · have d2 : decide (((a0 : Int) + sz) ≤ i) = false := decide_eq_false (by omega)
              go_upto_region 14 with (fail)
              go_quiet (fail)
              go_wp2
              go_roundw
              case rel => exact ⟨i + 1, hlt, by go_num, ⟨Below.trans HW.out ⟨rfl, rfl, rfl, Nat.le_refl _, fun _ _ => rfl⟩⟩⟩
              case measure => simp [intOf]; omega
            · obtain rfl := HE2.out (by omega)
              have d2 : decide (((a0 : Int) + sz) ≤ i) = true := decide_eq_true (by omega)
              have d3 : (y1 != y1) = false := by simp
              go_upto_region 14 with (fail)
              go_quiet (fail)
              go_wp2
              go_roundw
              case rel => exact ⟨i + 1, hlt, by go_num, ⟨Below.trans HW.out ⟨rfl, rfl, rfl, Nat.le_refl _, fun _ _ => rfl⟩⟩⟩
              case measure => simp [intOf]; omega
        · have hie : i = rn := by omega
          subst hie
          go_wp2_with (go_at_call 22; refine (HL.out _).mono ?_; rintro e w8 ⟨rfl, hb8⟩; have HB8 : Hid _ := ⟨hb8⟩; clear hb8)
          go_ret
          have h9 : Below w.heap.size w wr := HBC.out.trans (HW.out.mono HBC.out.size)
          exact ⟨rfl, h9.trans (HB8.out.mono h9.size)⟩
end Go.Proofs.Ytjbepojopfbajaa

/- alone. -/
import Derived.Test.YtojiomkinhnodaaYApart
namespace Go.Proofs.Ytojiomkinhnodaa
open Go.ChangeShapes Go.WideShapes Go.ChangeAt Go.RowKit Go.Maps
set_option linter.unusedVariables false
set_option linter.unusedSimpArgs false

def secLn (l : List Fl) (i : Nat) : Nat := (l.getD i Fl.zero).secs.length
theorem at_fl {w : World} {ao : Option Addr} {l : List Fl} {i : Nat} (h : Fls w ao l) (hi : i < l.length) : ∃ b off sa sc, ao = some ⟨b, off, none⟩ ∧ w.cell? ⟨b, off + i * 2, none⟩ = some (.slice sa (secLn l i) sc) ∧ (∀ k, k < secLn l i → ∃ b' o', sa = some ⟨b', o', none⟩ ∧ SecAt w b' (o' + k * 7) (secAt l i k)) := by
  rcases h with h | ⟨b, off, rfl, h⟩
  · subst h; simp at hi
  · obtain ⟨c0, c1, hin⟩ := h i hi
    refine ⟨b, off, _, _, rfl, c0, fun k hk => ?_⟩
    rcases hin.se with h | ⟨b', o', e, h⟩
    · unfold secLn at hk; rw [h] at hk; simp at hk
    · exact ⟨b', o', e, h k hk⟩
theorem at_at {w : World} {B : Nat} {va : Option Addr} {vn vc : Nat} {bs : Nat → Nat} {l : List Fl} {f : Nat → Nat → Int} (h : AT w B (.slice va vn vc) bs (l.map (·.secs.length)) f) {i : Nat} (hi : i < l.length) : ∃ g, va = some ⟨g, 0, none⟩ ∧ w.cell? ⟨g, i, none⟩ = some (.slice (some ⟨bs i, 0, none⟩) (secLn l i) (secLn l i)) ∧ ∀ k, k < secLn l i → w.cell? ⟨bs i, k, none⟩ = some (.int .i64 (f i k)) := by
  have hlen : (l.map (·.secs.length)).length = l.length := by simp
  have hg : (l.map (·.secs.length)).getD i 0 = secLn l i := by unfold secLn; simp [hi]
  obtain ⟨ar, cr, hv, _, _, _, hc⟩ := h.row.any encV_len
  injection hv with e1 e2 e3
  subst e1
  rcases hc with hc | ⟨g, rfl, _, _, hcc⟩
  · have := congrArg List.length hc
    simp [rowV] at this
    first | omega | (subst this; simp at hi)
  · refine ⟨g, rfl, ?_, fun k hk => ?_⟩
    · have := hcc i (by simp [rowV]; exact hi) 0 (by decide)
      simpa [rowV, encV, secLn, hi] using this
    · have h2 := (h.bk i (by rw [hlen]; exact hi)).2
      rw [hg] at h2
      exact h2.cell k (ints_at _ _ k hk)
set_option maxHeartbeats 1000000 in
set_option maxRecDepth 20000 in
theorem alone_any (ao : Option Addr) (c : Nat) (l : List Fl) (oa aa sa : Option Addr) (on oc ac sn sc : Nat) (i1 i2 i3 i4 i5 : Int) (bs : Nat → Nat) (st : St) (i k B : Nat) (w : World)
    (hfl : Fls w ao l) (hat : AT w B (.slice aa l.length ac) bs (l.map (·.secs.length)) st.at') (hi : i < l.length) (hk : k < secLn l i) (hn : l.length ≤ 1048577) (hs : ∀ p, p < l.length → secLn l p ≤ 1048577)
    (hap : ∀ p q, p < l.length → q < secLn l p → ApF l st p q) (h0 : 0 ≤ st.at' i k) :
    Calls Try.prog 15 #[.slice ao l.length c, .agg #[.slice oa on oc, .slice aa l.length ac, .slice sa sn sc, .int .i64 i1, .int .i64 i2, .int .i64 i3, .int .i64 i4, .int .i64 i5], .int .i64 i, .int .i64 k] w fun e w' => e = .returned (.bool true) ∧ Below w.heap.size w w' := by
  have HAP : Hid _ := ⟨hap⟩
  have HS : Hid _ := ⟨hs⟩
  obtain ⟨w1, hw1⟩ : ∃ w1, w.alloc (.cells #[.slice oa on oc, .slice aa l.length ac, .slice sa sn sc, .int .i64 i1, .int .i64 i2, .int .i64 i3, .int .i64 i4, .int .i64 i5] 28) = w1 := ⟨_, rfl⟩
  have HB : Hid (Below w.heap.size w w1) := ⟨by rw [← hw1]; exact (Below.refl _ _).alloc (Nat.le_refl _) _⟩
  have HM : Bk w1 w.heap.size 28 #[.slice oa on oc, .slice aa l.length ac, .slice sa sn sc, .int .i64 i1, .int .i64 i2, .int .i64 i3, .int .i64 i4, .int .i64 i5] := by rw [← hw1]; exact Bk.new w _ _
  have HFL : Hid _ := ⟨hfl.below HB.out (Nat.le_refl _)⟩
  have HAT : Hid _ := ⟨hat.bel HB.out⟩
  obtain ⟨b, off, xa, xc, rfl, c0, hsec⟩ := at_fl HFL.out hi
  obtain ⟨b1, o1, rfl, s1⟩ := hsec k hk
  obtain ⟨g, rfl, a0, ha⟩ := at_at HAT.out hi
  have a1 := ha k hk
  have s5 := s1.sz
  have hap1 := hap i k hi hk
  have bsz := hap1.sz
  have bat := hap1.at'
  have HFAR : Hid _ := ⟨hap1.far h0⟩
  have hns := hs i hi
  have m1 : w1.cell? ⟨w.heap.size, 1, none⟩ = some (.slice (some ⟨g, 0, none⟩) l.length ac) := HM.cell 1 rfl
  clear hap hs hsec ha s1 hfl hat hap1 HM
  generalize secLn l i = n at *
  generalize st.at' i k = A at *
  generalize (secAt l i k).sz = S at *
  go_enter Try.func15, Try.ntmps15
  go_upto_region 4 with (fail)
  clear c0 a0 a1 s5 hw1
  go_loopw [11] (fun v wr => ∃ p : Nat, p ≤ i + 1 ∧ v = .int .i64 p ∧ w1 = wr) (fun v _ => i + 1 - (intOf v).toNat)
  case atStart => exact ⟨0, by omega, rfl, rfl⟩
  case round =>
    obtain ⟨p, hp, rfl, rfl⟩ := hrel
    by_cases hlt : p ≤ i
    · have hpl : p < l.length := by omega
      obtain ⟨b2, off2, xa2, xc2, e2, c2, hsec2⟩ := at_fl HFL.out hpl
      injection e2 with e2
      injection e2 with e2 e3
      subst e2 e3
      obtain ⟨g2, e4, a2, ha2⟩ := at_at HAT.out hpl
      injection e4 with e4
      injection e4 with e4
      subst e4
      have hN := HS.out p hpl
      have HPQ : Hid (∀ q, q < secLn l p → _) := ⟨fun q hq => HAP.out p q hpl hq⟩
      have HFP : Hid (∀ q, q < secLn l p → _) := ⟨fun q hq => HFAR.out p q hpl hq⟩
      have HSE : Hid _ := ⟨hsec2⟩
      have HAA : Hid _ := ⟨ha2⟩
      clear hsec2 ha2
      generalize secLn l p = N at *
      go_upto_region 7 with (fail)
      go_loopw [12] (fun v wr => ∃ q : Nat, q ≤ N ∧ v = .int .i64 q ∧ w1 = wr) (fun v _ => N - (intOf v).toNat)
      case atStart => exact ⟨0, by omega, rfl, rfl⟩
      case round =>
        obtain ⟨q, hq, rfl, rfl⟩ := hrel
        by_cases hlq : q < N
        · obtain ⟨b3, o3, rfl, s3⟩ := HSE.out q hlq
          have s5 := s3.sz
          have a5 := HAA.out q hlq
          have hap2 := HPQ.out q hlq
          have csz := hap2.sz
          have cat := hap2.at'
          have hfar := HFP.out q hlq
          clear hap2 s3
          generalize st.at' p q = C at *
          generalize (secAt l p q).sz = T at *
          by_cases hskip : (p = i ∧ k ≤ q) ∨ C < 0
          · rcases hskip with ⟨rfl, h2⟩ | h2
            · have d1 : decide ((k : Int) ≤ q) = true := decide_eq_true (by omega)
              clear hfar
              go_wp2
              go_roundw
              case rel => exact ⟨q + 1, hlq, by go_num, trivial⟩
              case measure => simp [intOf]; omega
            · have d1 : decide (C < 0) = true := decide_eq_true h2
              clear hfar
              by_cases e : p = i
              · subst e
                obtain ⟨z, d2⟩ : ∃ z, decide ((k : Int) ≤ q) = z := ⟨_, rfl⟩
                cases z
                · go_wp2
                  all_goals
                    go_roundw
                    case rel => exact ⟨q + 1, hlq, by go_num, trivial⟩
                    case measure => simp [intOf]; omega
                · go_wp2
                  all_goals
                    go_roundw
                    case rel => exact ⟨q + 1, hlq, by go_num, trivial⟩
                    case measure => simp [intOf]; omega
              · have d2 : ((p : Int) == (i : Int)) = false := by simp; omega
                go_wp2
                go_roundw
                case rel => exact ⟨q + 1, hlq, by go_num, trivial⟩
                case measure => simp [intOf]; omega
          · have d0 : ¬ C < 0 := fun e => hskip (.inr e)
            have hq2 : p < i ∨ p = i ∧ q < k := by omega
            have hf2 := hfar hq2 (by omega)
            have d1 : decide (C < 0) = false := decide_eq_false d0
            clear hfar
            rcases hq2 with h2 | ⟨rfl, h2⟩
            · have d2 : ((p : Int) == (i : Int)) = false := by simp; omega
              rcases hf2 with h3 | h3
              · have d3 : decide (A < C + T) = false := decide_eq_false (by omega)
                go_wp2
                all_goals
                  go_roundw
                  case rel => exact ⟨q + 1, hlq, by go_num, trivial⟩
                  case measure => simp [intOf]; omega
              · have d3 : decide (C < A + S) = false := decide_eq_false (by omega)
                go_wp2
                all_goals
                  go_roundw
                  case rel => exact ⟨q + 1, hlq, by go_num, trivial⟩
                  case measure => simp [intOf]; omega
            · have d2 : decide ((k : Int) ≤ q) = false := decide_eq_false (by omega)
              rcases hf2 with h3 | h3
              · have d3 : decide (A < C + T) = false := decide_eq_false (by omega)
                go_wp2
                all_goals
                  go_roundw
                  case rel => exact ⟨q + 1, hlq, by go_num, trivial⟩
                  case measure => simp [intOf]; omega
              · have d3 : decide (C < A + S) = false := decide_eq_false (by omega)
                go_wp2
                all_goals
                  go_roundw
                  case rel => exact ⟨q + 1, hlq, by go_num, trivial⟩
                  case measure => simp [intOf]; omega
        · have hqN : q = N := by omega
          subst hqN
          go_wp2
          go_roundw
          case rel => exact ⟨p + 1, by omega, by go_num, trivial⟩
          case measure => simp [intOf]; omega
    · have hpe : p = i + 1 := by omega
      subst hpe
      go_wp2
      go_ret
      exact ⟨rfl, HB.out⟩
end Go.Proofs.Ytojiomkinhnodaa

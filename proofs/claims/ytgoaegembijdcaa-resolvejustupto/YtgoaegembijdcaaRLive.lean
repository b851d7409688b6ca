/- The law's num and live. -/
import Derived.Test.YtgoaegembijdcaaRLiveP
namespace Go.Proofs.Ytgoaegembijdcaa
open Go.ChangeShapes Go.WideShapes Go.ChangeAt Go.RowKit Go.Maps
set_option linter.unusedVariables false
set_option linter.unusedSimpArgs false

theorem num18_any (e : Int) (w : World) : Calls Try.prog 11 #[.int .i64 e] w fun x w' => x = .returned (.int .i64 e) ∧ w' = w := by
  go_enter Try.func11, Try.ntmps11
  go_wp2
  go_ret
  exact ⟨rfl, rfl⟩
theorem Fls.one {w : World} {ao : Option Addr} {f g : Fl} (h : Fls w ao [f, g]) : Fls w ao [f] := by
  rcases h with h | ⟨b, off, e, h⟩
  · cases h
  · exact .inr ⟨b, off, e, fun i hi => by
      have : i = 0 := by simp at hi; exact hi
      subst this
      exact h 0 (by simp)⟩

theorem two2_any (w : World) : Calls Try.prog 27 #[] w fun e w' => ∃ B b, e = .returned (.slice (some ⟨b, 0, none⟩) 2 2) ∧ Fls w' (some ⟨b, 0, none⟩) [fl1 B, fl2 B] ∧ Below w.heap.size w w' := (two_any w).mono fun e w' h => ⟨_, _, h⟩
set_option maxHeartbeats 4000000 in
set_option maxRecDepth 20000 in
theorem live18_any (w : World) : Calls Try.prog 12 #[] w fun e w' => e = .returned (.bool true) ∧ Below w.heap.size w w' := by
  have HT : Hid (∀ W, _) := ⟨two2_any⟩
  have HA2 : Hid (∀ W B b, Fls W (some ⟨b, 0, none⟩) [fl1 B, fl2 B] → Calls Try.prog 16 #[.slice (some ⟨b, 0, none⟩) 2 2] W fun e w' => ∃ v, e = .returned (.tuple #[v, .agg #[.int .i64 0, .string ⟨#[]⟩]]) ∧ OwnR 27 5 encE w' W.heap.size v [⟨nF, 1, 0, 1, 2⟩] ∧ Below W.heap.size W w') := ⟨fun W B b h => (pall_any (some ⟨b, 0, none⟩) 2 [fl1 B, fl2 B] W (flsB2 B) h).mono fun e w' ⟨v, h1, _, h2, h3⟩ => ⟨v, by rw [h1, allF2]; rfl, by rw [← allT2 B]; exact h2, h3⟩⟩
  have HA1 : Hid (∀ W B b c, Fls W (some ⟨b, 0, none⟩) [fl1 B] → Calls Try.prog 16 #[.slice (some ⟨b, 0, none⟩) 1 c] W fun e w' => ∃ v, e = .returned (.tuple #[v, .agg #[.int .i64 181, .string ⟨#[102]⟩]]) ∧ Below W.heap.size W w') := ⟨fun W B b c h => (pall_any (some ⟨b, 0, none⟩) c [fl1 B] W (flsB1 B) h).mono fun e w' ⟨v, h1, _, _, h3⟩ => ⟨v, by rw [h1, allF1]; rfl, h3⟩⟩
  go_enter Try.func12, Try.ntmps12
  go_upto_region 1 with (fail)
  go_upto_region 2 with (first
    | (go_at_call 27; refine (HT.out _).mono ?_; rintro e w1 ⟨B1, b1, rfl, hF1, hb1⟩; have HF1 : Hid _ := ⟨hF1⟩; clear hF1)
    | (go_at_call 16; (with_reducible refine (HA2.out _ _ _ HF1.out).mono ?_); rintro e w2 ⟨v2, rfl, ho2, hb2⟩))
  obtain ⟨ag, cg, hv2, _, _, _, hcg⟩ := ho2.any encE_len
  subst hv2
  rcases hcg with hcg | ⟨g, rfl, hg1, hg2, hcg⟩
  · cases hcg
  · have g1 : w2.cell? ⟨g, 1, none⟩ = some (.int .i64 1) := hcg 0 (by simp) 1 (by decide)
    have KP := Bk.new w2 #[.int .i64 0, .string ⟨#[]⟩] 45
    have hb3 : Below w2.heap.size w2 (w2.alloc (.cells #[.int .i64 0, .string ⟨#[]⟩] 45)) := (Below.refl _ _).alloc (Nat.le_refl _) _
    have HB3 : Hid (Below w.heap.size w (w2.alloc (.cells #[.int .i64 0, .string ⟨#[]⟩] 45))) := ⟨hb1.trans ((hb2.trans (hb3.mono hb2.size)).mono hb1.size)⟩
    have HG3 : Hid _ := ⟨up_c g1 hb3⟩
    have HP3 : Hid _ := ⟨KP⟩
    obtain ⟨P, hP⟩ : ∃ P, w2.heap.size = P := ⟨_, rfl⟩
    rw [hP] at HP3 ⊢
    clear ho2 hb1 hb2 hb3 hcg g1 KP HF1 hg1 hg2 hP
    generalize w2.alloc (.cells #[.int .i64 0, .string ⟨#[]⟩] 45) = w3 at *
    go_upto_region 3 with (first
      | (go_at_call 27; refine (HT.out _).mono ?_; rintro e w4 ⟨B4, b4, rfl, hF4, hb4⟩; have HF4 : Hid _ := ⟨hF4.one⟩; clear hF4)
      | (go_at_call 16; (with_reducible refine (HA1.out _ _ _ _ HF4.out).mono ?_); rintro e w5 ⟨v5, rfl, hb5⟩))
    have HG5 : Hid _ := ⟨up_c (up_c HG3.out hb4) hb5⟩
    have HP5 : Hid _ := ⟨(HP3.out.bel hb4 HP3.out.lt).bel hb5 (HP3.out.bel hb4 HP3.out.lt).lt⟩
    have HB5 : Hid (Below w.heap.size w w5) := ⟨HB3.out.trans ((hb4.trans (hb5.mono hb4.size)).mono HB3.out.size)⟩
    have hb6 : Below w5.heap.size w5 (w5.alloc (.cells #[.int .i64 181, .string ⟨#[102]⟩] 45)) := (Below.refl _ _).alloc (Nat.le_refl _) _
    have gg : (w5.alloc (.cells #[.int .i64 181, .string ⟨#[102]⟩] 45)).cell? ⟨g, 1, none⟩ = some (.int .i64 1) := up_c HG5.out hb6
    have KP6 := HP5.out.bel hb6 HP5.out.lt
    have p0 : (w5.alloc (.cells #[.int .i64 181, .string ⟨#[102]⟩] 45)).cell? ⟨P, 0, none⟩ = some (.int .i64 0) := KP6.cell 0 rfl
    have HB6 : Hid (Below w.heap.size w (w5.alloc (.cells #[.int .i64 181, .string ⟨#[102]⟩] 45))) := ⟨HB5.out.trans (hb6.mono HB5.out.size)⟩
    have KQ := Bk.new w5 #[.int .i64 181, .string ⟨#[102]⟩] 45
    obtain ⟨Q, hQ⟩ : ∃ Q, w5.heap.size = Q := ⟨_, rfl⟩
    rw [hQ] at KQ ⊢
    clear hb4 hb5 hb6 HF4 KP6 HP5 HG5 HG3 HP3 HB3 HB5 hQ
    have q0 : (w5.alloc (.cells #[.int .i64 181, .string ⟨#[102]⟩] 45)).cell? ⟨Q, 0, none⟩ = some (.int .i64 181) := KQ.cell 0 rfl
    have q1 : (w5.alloc (.cells #[.int .i64 181, .string ⟨#[102]⟩] 45)).cell? ⟨Q, 1, none⟩ = some (.string ⟨#[102]⟩) := KQ.cell 1 rfl
    clear KQ
    generalize w5.alloc (.cells #[.int .i64 181, .string ⟨#[102]⟩] 45) = w6 at *
    have HN : Hid (∀ x W, _) := ⟨num18_any⟩
    go_wp2_with (go_at_call 11; refine (HN.out _ _).mono ?_; rintro e w' ⟨rfl, hw'⟩; subst w')
    go_ret
    exact ⟨rfl, HB6.out⟩
end Go.Proofs.Ytgoaegembijdcaa

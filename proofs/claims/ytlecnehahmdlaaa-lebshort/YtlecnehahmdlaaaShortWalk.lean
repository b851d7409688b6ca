/- The walk of the law on shortest groups. -/
import Derived.Test.YtlecnehahmdlaaaLaw
namespace Go.Proofs.Ytlecnehahmdlaaa
open Go.ChangeShapes Go.WideShapes Go.ChangeAt Go.RowKit
set_option linter.unusedVariables false

/-- A number that is read from c bytes takes no more bytes than those. -/
theorem u_short (n : Int) (hn : -9223372036854775808 ≤ n ∧ n ≤ 9223372036854775807) (bs : Nat → Int) (a c : Nat) (h1 : 1 ≤ c) (h2 : c ≤ 10) (h : wrap64 (uacc bs a c) = n) :
    (ul (n % 18446744073709551616).toNat).length ≤ c := by
  have hu := uacc_in bs a c
  have e : n % 18446744073709551616 = uacc bs a c % 18446744073709551616 := by rw [← h, wrap64_mod]
  by_cases h10 : c = 10
  · subst h10; exact ul_len10 _ (by omega)
  · have h2 : (2 : Int) ^ (7 * c) ≤ 2 ^ 63 := pow_le_i (by omega)
    have e2 : (n % 18446744073709551616).toNat = (uacc bs a c).toNat := by rw [e]; omega
    rw [e2]
    obtain ⟨d, rfl⟩ : ∃ d, c = d + 1 := ⟨c - 1, by omega⟩
    apply ul_len
    have e3 : (2 : Int) ^ (7 * (d + 1)) = ((128 ^ (d + 1) : Nat) : Int) := by rw [Int.pow_mul]; simp
    omega

theorem s_short (n : Int) (hn : -9223372036854775808 ≤ n ∧ n ≤ 9223372036854775807) (bs : Nat → Int) (a c : Nat) (h1 : 1 ≤ c) (h2 : c ≤ 10) (h : sval bs a c = n) : (sl n).length ≤ c := by
  by_cases h10 : c = 10
  · subst h10; exact sl_len10 _ hn
  · have hb := sx_in (7 * c) (by omega) (uacc bs a c)
    unfold sval at h
    rw [show min (7 * c) 64 = 7 * c from by omega] at h
    rw [h] at hb
    obtain ⟨d, rfl⟩ : ∃ d, c = d + 1 := ⟨c - 1, by omega⟩
    have e : (2 : Int) ^ (7 * (d + 1) - 1) = 64 * 128 ^ d := by
      rw [show 7 * (d + 1) - 1 = 6 + 7 * d from by omega, Int.pow_add, Int.pow_mul]; rfl
    rw [e] at hb
    exact sl_len d n hb.1 hb.2

theorem u_fin (n : Nat) : Fin ((ul n).length - 1) (fun i => (ul n).getD i 0) 0 ∨ 11 < (ul n).length := by
  by_cases h : (ul n).length ≤ 11
  · left
    obtain ⟨_, h2, _⟩ := ul_read n (fun i => (ul n).getD i 0) 0 (fun i hi => by simp)
    exact .inr ⟨0, rfl, by omega, fun j hj => h2 j (by omega)⟩
  · right; omega

theorem s_fin (n : Int) : Fin ((sl n).length - 1) (fun i => (sl n).getD i 0) 0 ∨ 11 < (sl n).length := by
  by_cases h : (sl n).length ≤ 11
  · left
    obtain ⟨_, h2, _⟩ := sl_read n.natAbs n (Nat.le_refl _) (fun i => (sl n).getD i 0) 0 (fun i hi => by simp)
    exact .inr ⟨0, rfl, by omega, fun j hj => h2 j (by omega)⟩
  · right; omega

theorem short_tests (n L x i g : Int) (h : g = 0 → x = n → L ≤ i) : ((g != 0) = true) ∨ ((g != 0) = false ∧ (x != n) = true) ∨ ((g != 0) = false ∧ (x != n) = false ∧ L ≤ i) := by
  by_cases h1 : g = 0
  · by_cases h2 : x = n
    · exact .inr (.inr ⟨by simp [h1], by simp [h2], h h1 h2⟩)
    · exact .inr (.inl ⟨by simp [h1], by simpa using h2⟩)
  · exact .inl (by simpa using h1)

set_option maxHeartbeats 3200000 in
theorem lebShort_walk (n : Int) (ao : Option Addr) (len cap : Nat) (bs : Nat → Int) (w : World) (hn : (Lit.int .i64 n).wf = true) (hr : IsRow w ao len cap bs) (hl : len ≤ 140737488351232) :
    Calls Try.prog 8 #[.int .i64 n, .slice ao len cap] w fun e w' => e = .returned (.bool true) ∧ Below w.heap.size w w' := by
  have bn := i64_bounds hn
  obtain ⟨x, i, g, RU, hU⟩ := readU_is ao len cap bs 0 hr.byte (by omega) (by omega)
  obtain ⟨y, k, f, RS, hS⟩ := readS_is ao len cap bs 0 hr.byte (by omega) (by omega)
  obtain ⟨Lu, hLu⟩ : ∃ L, (ul (n % 18446744073709551616).toNat).length = L := ⟨_, rfl⟩
  obtain ⟨Ls, hLs⟩ : ∃ L, (sl n).length = L := ⟨_, rfl⟩
  have lu1 := ul_len_pos (n % 18446744073709551616).toNat
  have lu2 := ul_len10 (n % 18446744073709551616).toNat (by omega)
  have ls1 := sl_len_pos n
  have ls2 := sl_len10 n bn
  have fu := (u_fin (n % 18446744073709551616).toNat).resolve_right (by omega)
  have fs := (s_fin n).resolve_right (by omega)
  have tu : g = 0 → x = n → (Lu : Int) ≤ i := by
    intro h1 h2
    rcases hU with h | h | ⟨a, c, ea, hc, _, ex, ei, _⟩
    · omega
    · omega
    · have := u_short n bn bs a c hc.1 hc.2.1 (by rw [← ex, h2]); omega
  have ts : f = 0 → y = n → (Ls : Int) ≤ k := by
    intro h1 h2
    rcases hS with h | h | ⟨a, c, ea, hc, _, ex, ei, _⟩
    · omega
    · omega
    · have := s_short n bn bs a c hc.1 hc.2.1 (by rw [← ex, h2]); omega
  have UR := fun w => uleb_row n w Lu hLu
  have SR := fun w => sleb_row n w bn Ls hLs
  rw [hLu] at lu1 lu2 fu
  rw [hLs] at ls1 ls2 fs
  have QU := fun g cap (w : World) (h : Row w (some ⟨g, 0, none⟩) Lu (fun i => (ul (n % 18446744073709551616).toNat).getD i 0)) => readU_fin (some ⟨g, 0, none⟩) (Lu - 1) cap _ 0 w (h.front (by omega)) (by omega) (by omega) fu
  have QS := fun g cap (w : World) (h : Row w (some ⟨g, 0, none⟩) Ls (fun i => (sl n).getD i 0)) => readS_fin (some ⟨g, 0, none⟩) (Ls - 1) cap _ 0 w (h.front (by omega)) (by omega) (by omega) fs
  have HR := hr.row
  clear hU hS hLu hLs fu fs bn hn hr
  rcases short_tests n Lu x i g tu with a1 | ⟨a1, a2⟩ | ⟨a1, a2, a3⟩
  all_goals rcases short_tests n Ls y k f ts with b1 | ⟨b1, b2⟩ | ⟨b1, b2, b3⟩
  all_goals
    clear tu ts
    have tk1 : True := trivial
    have tk2 : True := trivial
    go_enter Try.func8, Try.ntmps8
    go_wp2_with (first
      | (go_at_call 17; refine (UR _).mono ?_; rintro e w1 ⟨g1, cap1, rfl, p1, q1, F1, hb1⟩)
      | (go_at_call 19; refine (SR _).mono ?_; rintro e w2 ⟨g2, cap2, rfl, p2, q2, F2, hb2⟩)
      | (go_at_call 16; refine (knows_any _).mono ?_; rintro e w3 ⟨rfl, hb3⟩)
      | (go_at_call 21; have _t := tk1; refine (QU _ _ _ (F1 _ (hb2.trans (hb3.mono hb2.size)))).mono ?_; rintro e w4 ⟨rfl, hb4⟩; clear tk1 _t)
      | (go_at_call 22; have _t := tk2; refine (QS _ _ _ (F2 _ (hb3.trans (hb4.mono hb3.size)))).mono ?_; rintro e w5 ⟨rfl, hb5⟩; have c3 := hb1.trans ((hb2.trans ((hb3.trans ((hb4.trans (hb5.mono hb4.size)).mono hb3.size)).mono hb2.size)).mono hb1.size); clear tk2 _t)
      | (go_at_call 21; refine (RU _ (HR.below c3 (Nat.le_refl _))).mono ?_; rintro e w6 ⟨rfl, hb6⟩; have c6 := c3.trans (hb6.mono c3.size))
      | (go_at_call 22; refine (RS _ (HR.below c6 (Nat.le_refl _))).mono ?_; rintro e w7 ⟨rfl, hb7⟩; have c7 := c6.trans (hb7.mono c6.size))
      | (go_at_call 14; refine (num_any _ _).mono ?_; rintro e' w' ⟨rfl, rfl⟩))
    go_ret
    exact ⟨rfl, c7⟩
end Go.Proofs.Ytlecnehahmdlaaa

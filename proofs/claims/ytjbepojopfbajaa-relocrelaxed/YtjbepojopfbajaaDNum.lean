/- The contracts of extend, number and long. -/
import Derived.Test.YtjbepojopfbajaaDPre
import Derived.Test.YtjbepojopfbajaaGetPlain
namespace Go.Proofs.Ytjbepojopfbajaa
open Go.ChangeShapes Go.WideShapes Go.ChangeAt Go.RowKit
set_option linter.unusedVariables false
set_option linter.unusedSimpArgs false

theorem extend_any (n : Int) (s : Nat) (h1 : 1 ≤ s) (h8 : s ≤ 8) (w : World) :
    Calls Try.prog 105 #[.int .i64 n, .int .i64 s] w fun e w' => e = .returned (.int .i64 (sx (8 * s) n)) ∧ w' = w := by
  have HR : Hid (wrap64 (n * 2 ^ (64 - 8 * s)) / 2 ^ (64 - 8 * s) = sx (8 * s) n) := ⟨low_i n (8 * s) (by omega) (by omega)⟩
  generalize sx (8 * s) n = m at *
  go_enter Try.func105, Try.ntmps105
  go_wp2
  go_ret
  refine ⟨ret_int ?_, rfl⟩
  rw [← HR.out]

/-- A number of so many bytes. -/
def num (L : Ln) (a s : Nat) : Except Int (Int × Nat) := if a + s ≤ L.len then .ok (sx (8 * s) (bacc L.bs a s), a + s) else .error 20

theorem number_any {w : World} {rb : Nat} {L : Ln} {a : Nat} {fs : Bool} {rex opc sz md rg rm : Int} (s : Nat) (h1 : 1 ≤ s) (h8 : s ≤ 8) (ha : a ≤ L.len) (h : RS w rb L a fs rex opc sz md rg rm) :
    Calls Try.prog 102 #[.pointer (some ⟨rb, 0, none⟩), .int .i64 s] w fun e w' => Ends2 (num L a s) (Value.int .i64) (fun a' => RS w' rb L a' fs rex opc sz md rg rm) e ∧ Fr rb rb w w' := by
  have HB : Hid (∀ i, 0 ≤ L.bs i ∧ L.bs i < 256) := ⟨h.lies.byte⟩
  by_cases hin : a + s ≤ L.len
  · have HR : Hid (num L a s = .ok (sx (8 * s) (bacc L.bs a s), a + s)) := ⟨by rw [num, if_pos hin]⟩
    have HS : Hid (sx (8 * s) (wrap64 (bacc L.bs a s)) = sx (8 * s) (bacc L.bs a s)) := ⟨by have := bfin_i64 L.bs h.lies.byte a s h8; rwa [show (8 * (s : Int)).toNat = 8 * s from by omega] at this⟩
    generalize num L a s = m at *
    have H : Hid (RS w rb L a fs rex opc sz md rg rm) := ⟨h⟩
    clear h
    go_enter Try.func102, Try.ntmps102
    go_wp2
    go_loopw [5, 8] (fun n i wr => ∃ k : Nat, k ≤ s ∧ i = .int .i64 k ∧ n = .int .i64 (wrap64 (bacc L.bs a k)) ∧ Hid (RS wr rb L (a + k) fs rex opc sz md rg rm ∧ Fr rb rb w wr)) (fun _ i _ => 10 - (intOf i).toNat)
    case atStart => exact ⟨0, by omega, rfl, (by simp only [bacc]; unfold wrap64; rfl), ⟨H.out, Fr.refl _ _ _⟩⟩
    case round =>
      obtain ⟨k, hk, rfl, rfl, HX⟩ := hrel
      by_cases hlt : k < s
      · have hlt' : (k : Int) < (s : Int) := by omega
        go_wp2_with (go_at_call 65; (with_reducible refine (next_ok HX.out.1 (by omega)).mono ?_); rintro e w1 ⟨rfl, hrs, hfr⟩; (have hrs' : Hid _ := ⟨hrs⟩); clear hrs)
        go_roundw
        case rel =>
          refine ⟨k + 1, by omega, by go_num, ?_, ⟨hrs'.out, HX.out.2.then hfr⟩⟩
          have e := bacc_step_i64 L.bs HB.out a k (by omega)
          rw [show wrap64 (L.bs (a + k)) = L.bs (a + k) from by have := HB.out (a + k); unfold wrap64; omega] at e
          rw [← e]
        case measure => simp [intOf]; omega
      · obtain rfl : k = s := by omega
        go_wp2_with (go_at_call 105; (with_reducible refine (extend_any _ k h1 h8 _).mono ?_); rintro e w1 ⟨rfl, hw1⟩; subst w1)
        go_ret
        refine ⟨?_, HX.out.2⟩
        rw [HR.out, HS.out]
        exact ⟨rfl, HX.out.1⟩
  · have HR : Hid (num L a s = .error 20) := ⟨by rw [num, if_neg hin]⟩
    have HT : Hid (a ≤ L.len) := ⟨ha⟩
    generalize num L a s = m at *
    have H : Hid (RS w rb L a fs rex opc sz md rg rm) := ⟨h⟩
    clear h ha
    go_enter Try.func102, Try.ntmps102
    go_wp2
    go_loopw [5, 8] (fun n i wr => ∃ k : Nat, k < s ∧ i = .int .i64 k ∧ n = .int .i64 (wrap64 (bacc L.bs a k)) ∧ Hid (a + k ≤ L.len ∧ RS wr rb L (a + k) fs rex opc sz md rg rm ∧ Fr rb rb w wr)) (fun _ i _ => 10 - (intOf i).toNat)
    case atStart => exact ⟨0, by omega, rfl, (by simp only [bacc]; unfold wrap64; rfl), ⟨HT.out, H.out, Fr.refl _ _ _⟩⟩
    case round =>
      obtain ⟨k, hk, rfl, rfl, HX⟩ := hrel
      have hlt' : (k : Int) < (s : Int) := by omega
      by_cases hlt : a + k < L.len
      · go_wp2_with (go_at_call 65; (with_reducible refine (next_ok HX.out.2.1 hlt).mono ?_); rintro e w1 ⟨rfl, hrs, hfr⟩; (have hrs' : Hid _ := ⟨hrs⟩); clear hrs)
        go_roundw
        case rel =>
          refine ⟨k + 1, by omega, by go_num, ?_, ⟨by omega, hrs'.out, HX.out.2.2.then hfr⟩⟩
          have e := bacc_step_i64 L.bs HB.out a k (by omega)
          rw [show wrap64 (L.bs (a + k)) = L.bs (a + k) from by have := HB.out (a + k); unfold wrap64; omega] at e
          rw [← e]
        case measure => simp [intOf]; omega
      · have := HX.out.1
        have he : a + k = L.len := by omega
        clear this
        go_wp2_with (go_at_call 65; (with_reducible refine (next_end HX.out.2.1 he).mono ?_); rintro e w1 ⟨rfl, hfr⟩)
        refine ⟨rfl, ?_, HX.out.2.2.then hfr⟩
        rw [HR.out]; rfl

/-- A number that fewer bytes can't tell. -/
def lng (L : Ln) (a s f : Nat) : Except Int (Int × Nat) := num L a s >>= fun p => must (p.1 != sx (8 * f) p.1) (.ok p)

theorem long_any {w : World} {rb : Nat} {L : Ln} {a : Nat} {fs : Bool} {rex opc sz md rg rm : Int} (s f : Nat) (h1 : 1 ≤ s) (h8 : s ≤ 8) (f1 : 1 ≤ f) (f8 : f ≤ 8) (ha : a ≤ L.len) (h : RS w rb L a fs rex opc sz md rg rm) :
    Calls Try.prog 101 #[.pointer (some ⟨rb, 0, none⟩), .int .i64 s, .int .i64 f] w fun e w' => Ends2 (lng L a s f) (Value.int .i64) (fun a' => RS w' rb L a' fs rex opc sz md rg rm) e ∧ Fr rb rb w w' := by
  have HN := number_any s h1 h8 ha h
  rcases hm : num L a s with n | ⟨x, a'⟩
  · have HR : Hid (lng L a s f = .error n) := ⟨by rw [lng, hm]; rfl⟩
    generalize lng L a s f = m at *
    rw [hm] at HN
    clear h hm
    go_enter Try.func101, Try.ntmps101
    go_wp2_with (go_at_call 102; refine HN.mono ?_; rintro e w1 ⟨he, hfr⟩; (have he' : _ = _ := he); subst he')
    refine ⟨rfl, ?_, hfr⟩
    rw [HR.out]; rfl
  · have HR : Hid (lng L a s f = must (x != sx (8 * f) x) (.ok (x, a'))) := ⟨by rw [lng, hm]; rfl⟩
    have HE := extend_any x f f1 f8
    generalize lng L a s f = m at *
    rw [hm] at HN
    cases hx : (x != sx (8 * f) x)
    all_goals
      rw [hx] at HR
      clear h hm
      go_enter Try.func101, Try.ntmps101
      go_wp2_with (first
        | (go_at_call 102; refine HN.mono ?_; rintro e w1 ⟨he, hfr⟩; obtain ⟨he', hrs⟩ := he; subst he'; (have hrs' : Hid _ := ⟨hrs⟩); clear hrs)
        | (go_at_call 105; (with_reducible refine (HE _).mono ?_); rintro e w1 ⟨rfl, hw1⟩; subst w1)
        | (go_at_call 66; (with_reducible refine (insist_yes _).mono ?_); rintro e w1 ⟨rfl, hw1⟩; subst w1)
        | (go_at_call 66; (with_reducible refine (insist_no _).mono ?_); rintro e w1 ⟨rfl, hw1⟩; subst w1))
    · refine ⟨rfl, ?_, hfr⟩
      rw [HR.out]; rfl
    · go_ret
      refine ⟨?_, hfr⟩
      rw [HR.out]
      exact ⟨rfl, hrs'.out⟩

theorem number1 {w : World} {rb : Nat} {L : Ln} {a : Nat} {fs : Bool} {rex opc sz md rg rm : Int} (ha : a ≤ L.len) (h : RS w rb L a fs rex opc sz md rg rm) :
    Calls Try.prog 102 #[.pointer (some ⟨rb, 0, none⟩), .int .i64 1] w fun e w' => Ends2 (num L a 1) (Value.int .i64) (fun a' => RS w' rb L a' fs rex opc sz md rg rm) e ∧ Fr rb rb w w' := number_any 1 (by omega) (by omega) ha h

theorem number4 {w : World} {rb : Nat} {L : Ln} {a : Nat} {fs : Bool} {rex opc sz md rg rm : Int} (ha : a ≤ L.len) (h : RS w rb L a fs rex opc sz md rg rm) :
    Calls Try.prog 102 #[.pointer (some ⟨rb, 0, none⟩), .int .i64 4] w fun e w' => Ends2 (num L a 4) (Value.int .i64) (fun a' => RS w' rb L a' fs rex opc sz md rg rm) e ∧ Fr rb rb w w' := number_any 4 (by omega) (by omega) ha h

theorem number8 {w : World} {rb : Nat} {L : Ln} {a : Nat} {fs : Bool} {rex opc sz md rg rm : Int} (ha : a ≤ L.len) (h : RS w rb L a fs rex opc sz md rg rm) :
    Calls Try.prog 102 #[.pointer (some ⟨rb, 0, none⟩), .int .i64 8] w fun e w' => Ends2 (num L a 8) (Value.int .i64) (fun a' => RS w' rb L a' fs rex opc sz md rg rm) e ∧ Fr rb rb w w' := number_any 8 (by omega) (by omega) ha h

theorem long41 {w : World} {rb : Nat} {L : Ln} {a : Nat} {fs : Bool} {rex opc sz md rg rm : Int} (ha : a ≤ L.len) (h : RS w rb L a fs rex opc sz md rg rm) :
    Calls Try.prog 101 #[.pointer (some ⟨rb, 0, none⟩), .int .i64 4, .int .i64 1] w fun e w' => Ends2 (lng L a 4 1) (Value.int .i64) (fun a' => RS w' rb L a' fs rex opc sz md rg rm) e ∧ Fr rb rb w w' := long_any 4 1 (by omega) (by omega) (by omega) (by omega) ha h

theorem long84 {w : World} {rb : Nat} {L : Ln} {a : Nat} {fs : Bool} {rex opc sz md rg rm : Int} (ha : a ≤ L.len) (h : RS w rb L a fs rex opc sz md rg rm) :
    Calls Try.prog 101 #[.pointer (some ⟨rb, 0, none⟩), .int .i64 8, .int .i64 4] w fun e w' => Ends2 (lng L a 8 4) (Value.int .i64) (fun a' => RS w' rb L a' fs rex opc sz md rg rm) e ∧ Fr rb rb w w' := long_any 8 4 (by omega) (by omega) (by omega) (by omega) ha h
end Go.Proofs.Ytjbepojopfbajaa
